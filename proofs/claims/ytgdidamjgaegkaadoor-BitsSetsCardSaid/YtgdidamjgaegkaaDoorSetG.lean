/- bits.Show: what it returns. -/
import Derived.Test.YtgdidamjgaegkaaDoorTailIn
import Derived.Test.YtgdidamjgaegkaaDoorSetF
import Derived.RangeFuncNested
import Derived.RangeFuncBound
import Derived.RangeFuncCalls
import Derived.RangeFuncLeaves
import Derived.RangeFuncBox
import Derived.Shelf.Abstract
import Derived.Shelf.RegionOpen
import Derived.OwnWalkIn
import Derived.TacticsInMore
import Derived.LoopNIn
import Derived.LoopIn
namespace Go.Proofs.YtgdidamjgaegkaaDoor
set_option linter.unusedVariables false
open Go Go.RowKit Go.Shelf BitM MskM
attribute [local go_sem] Oper.semAt_some

set_option maxRecDepth 100000 in
set_option maxHeartbeats 1000000 in
theorem each1b_in (n : Nat) (hn : 1 ≤ n) (l Bn : Nat) (x : BitVec 32) (J Jx : List Int → World → Prop) 
    (hY : ∀ pre y W, 0 ≤ y → y < 32 → J pre W → pre.length < 32 → YieldAt Fence.wide (n - 1) Tryd.prog l #[.int .i64 y] W fun e W' =>
      (e = .returned (.bool true) ∧ J (pre ++ [y]) W' ∧ W'.cell? ⟨Bn, 0, none⟩ = W.cell? ⟨Bn, 0, none⟩) ∨ (e = .returned (.bool false) ∧ Jx (pre ++ [y]) W'))
    (W : World) (hBn : W.cell? ⟨Bn, 0, none⟩ = some (.int .u32 (x.toNat : Int))) (h0 : J [] W) :
    CallsIn Fence.wide n Tryd.prog 71 #[.func (.yield l) #[] #[], .pointer (some ⟨Bn, 0, none⟩)] W fun e W' => (∃ v, e = .returned v) ∧
      ((∃ ys, ys = lst x 32 ∧ J ys W') ∨ (∃ pre, pre <+: lst x 32 ∧ Jx pre W')) := by
  refine callsIn_of_wp Tryd.func71 rfl trivial ?_ rfl
  simp only [Tryd.ntmps71, List.size_toArray, List.length_cons, List.length_nil, Nat.reduceAdd, Nat.reduceSub, Array.replicate_succ, Array.replicate_zero, List.push_toArray, List.append_toArray, List.nil_append, List.cons_append]
  gi_wp2
  gi_loopw [4] (fun i wr => ∃ k : Nat, k ≤ 32 ∧ i = .int .i64 k ∧ J (lst x k) wr ∧ wr.cell? ⟨Bn, 0, none⟩ = some (.int .u32 (x.toNat : Int)))
    (fun i wr => 32 - (intOf i).toNat)
  case atStart => exact ⟨0, by omega, rfl, h0, hBn⟩
  case round =>
    obtain ⟨k, hk, rfl, hJ, hc⟩ := hrel
    by_cases hlt : k < 32
    · have d1 : decide ((k : Int) < 32) = true := by simp; omega
      cases hb : has x (k : Int) with
      | true =>
        have HS := Lib.hid (show lst x (k + 1) = lst x k ++ [(k : Int)] from by rw [lst_succ, hb]; rfl)
        have hlen := lst_len x k
        obtain ⟨fn, tmps, assign, body, hy, hR⟩ := hY (lst x k) (k : Int) wr (by omega) (by omega) hJ (by omega)
        have HH := Lib.hid (has_any x (k : Int) wr)
        rw [hb] at HH
        clear hb
        gi_wp2_with fail
        refine ⟨trivial, (callsIn_wide.2 HH.out).mono ?_⟩
        rintro e w' ⟨rfl, rfl⟩
        gi_wp2
        refine hR.mono ?_
        rintro e W3 (⟨rfl, hJ3, hk3⟩ | ⟨rfl, hJx3⟩)
        · have hc3 := hk3.trans hc
          gi_wp2
          go_roundw
          case rel => exact ⟨k + 1, by omega, by go_num, by rw [HS.out]; exact hJ3, hc3⟩
          case measure => simp [intOf]; omega
        · gi_wp2
          refine bodyPost_ret (results_none rfl _ _ _) rfl ?_
          exact ⟨⟨_, rfl⟩, .inr ⟨lst x k ++ [(k : Int)], by rw [← HS.out]; exact lst_pre x (by omega), hJx3⟩⟩
      | false =>
        have HS := Lib.hid (show lst x (k + 1) = lst x k from by rw [lst_succ, hb]; simp)
        have HH := Lib.hid (has_any x (k : Int) wr)
        rw [hb] at HH
        clear hb
        gi_wp2_with fail
        refine ⟨trivial, (callsIn_wide.2 HH.out).mono ?_⟩
        rintro e w' ⟨rfl, rfl⟩
        gi_wp2
        refine ⟨fun _ h => (by cases h), ?_⟩
        gi_wp2
        go_roundw
        case rel => exact ⟨k + 1, by omega, by go_num, by rw [HS.out]; exact hJ, hc⟩
        case measure => simp [intOf]; omega
    · obtain rfl : k = 32 := by omega
      gi_wp2
      go_end0
      exact ⟨⟨_, rfl⟩, .inl ⟨_, rfl, hJ⟩⟩


/-- A small number. -/
abbrev Sm := { y : Int // 0 ≤ y ∧ y < 32 }
def smv (l : List Sm) : List Int := l.map (·.1)
theorem smv_snoc (l : List Sm) (y : Sm) : smv (l ++ [y]) = smv l ++ [y.1] := by simp [smv]
theorem each_small (n : Nat) (hn : 1 ≤ n) (Bn : Nat) (x : BitVec 32) (w : World) (hBn : Bn < w.heap.size) (hc : w.cell? ⟨Bn, 0, none⟩ = some (.int .u32 (x.toNat : Int))) :
    SeqStopsK Fence.wide n Tryd.prog 71 #[.pointer (some ⟨Bn, 0, none⟩)] (fun y : Sm => #[Value.int .i64 y.1]) (fun A B => B.cell? ⟨Bn, 0, none⟩ = A.cell? ⟨Bn, 0, none⟩) (fun ys => smv ys = lst x 32) (fun pre => smv pre <+: lst x 32) 32 w := by
  intro l J Jx W hW _ _ hY h0
  refine (each1b_in n hn l Bn x (fun ys W => ∃ zs, smv zs = ys ∧ J zs W) (fun ys W => ∃ zs, smv zs = ys ∧ Jx zs W) (fun pre y W1 y0 y32 hp hlen => ?_) W ((hW.cell (p := ⟨Bn, 0, none⟩) hBn).trans hc) ⟨[], rfl, h0⟩).mono ?_
  · obtain ⟨zs, rfl, hJ⟩ := hp
    refine (hY zs ⟨y, y0, y32⟩ W1 hJ (by simpa [smv] using hlen)).mono fun e W' h => ?_
    rcases h with ⟨h1, h2, h3⟩ | ⟨h1, h2⟩
    · exact .inl ⟨h1, ⟨zs ++ [⟨y, y0, y32⟩], smv_snoc _ _, h2⟩, h3⟩
    · exact .inr ⟨h1, ⟨zs ++ [⟨y, y0, y32⟩], smv_snoc _ _, h2⟩⟩
  · rintro e W' ⟨hv, h⟩
    refine ⟨hv, ?_⟩
    rcases h with ⟨ys, hy, zs, hz, hJ⟩ | ⟨pre, hp, zs, hz, hJ⟩
    · exact .inl ⟨zs, hz.trans hy, hJ⟩
    · subst hz; exact .inr ⟨zs, hp, hJ⟩

/-- A slot that holds a new row of one text. -/
def relOne (p : ByteArray) : Rel where
  rel x w := ∃ g, x = .slice (some ⟨g, 0, none⟩) 1 1 ∧ Blk w g [.string p]
  mono := fun x w w' h ⟨g, e, hr⟩ => ⟨g, e, hr.later h⟩
  real := fun w ⟨g, e, _⟩ => by cases e
theorem run_one (p : ByteArray) (w : World) : (Instr.buildSlice 66 1 #[(0, .string p)]).run Tryd.prog w = .ok (.slice (some ⟨w.heap.size, 0, none⟩) 1 1) (w.alloc (.cells #[.string p] 9)) := by kernel_rfl
theorem one_gives {a : Act} {op : Oper} (y : Operand) (p : ByteArray) (ho : op.op = .buildSlice 66 1 #[(0, y)]) (hy : a.eval y = .string p) (w : World) : gives Tryd.prog op a (relOne p).rel w := by
  unfold gives execOp
  simp only [ho, List.map_toArray, List.map_cons, List.map_nil, hy, Sem.run_bind, run_one, Result.andThen_ok, Sem.run_pure]
  exact ⟨(Below.refl _ _).alloc (Nat.le_refl _) _, _, rfl, Blk.new w [.string p] _⟩

/-- What an append into a row behind a box leaves, with later worlds between. -/
theorem appended_le {W w1 w2 : World} {n₀ B : Nat} {t e : TypeId} {v v' : Value} {xs ys : List Value} (hv : Boxed W B t v) (hte : t ≠ e) (hrow : Own W n₀ e v xs) (hn₀ : n₀ ≤ W.heap.size) (hB : n₀ ≤ B) (hl : Le W w1)
    (hown' : Own w2 n₀ e v' ys) (hgrow : w1.grownBy w2 v.ownBlock) :
    Boxed w2 B t v ∧ Boxed (w2.setCell ⟨B, 0, none⟩ v') B t v' ∧ Own (w2.setCell ⟨B, 0, none⟩ v') n₀ e v' ys ∧ KeepsOthers W (w2.setCell ⟨B, 0, none⟩ v') ∧ Below n₀ W (w2.setCell ⟨B, 0, none⟩ v') := by
  have hv0 : Boxed w1 B t v := (hl.block B hv.lt).trans hv
  have hrow1 : Own w1 n₀ e v xs := hrow.later hl
  have hv1 : Boxed w2 B t v := hv0.kept hgrow (hv0.not_row hte hrow1)
  have hk1 : KeepsOthers W w1 := ⟨hl.size, fun k o hk _ => (hl.block k (Array.getElem?_eq_some_iff.1 hk).1).trans hk⟩
  refine ⟨hv1, hv1.set v', World.ownsRow.kept hown' (grownBy_setCell' w2 B v') (.inr (hv1.not_row hte hown').symm), ?_, ?_⟩
  · refine (hk1.trans (KeepsOthers.of_grownBy hgrow fun j o ej hj => ?_)).trans (KeepsOthers.setCell _ _ _)
    rcases hrow1.2 with ⟨rfl, _⟩ | ⟨g, cap, cur, rfl, _, hgb, _⟩
    · simp [Value.ownBlock] at ej
    · obtain rfl : g = j := by simpa [Value.ownBlock] using ej
      rw [hgb] at hj; cases hj; rfl
  · refine ((((Below.refl n₀ W).trans (Below.mono hl hn₀)).grown hgrow (Nat.le_trans hn₀ hl.size) fun j ej => ?_)).setCell (p := ⟨B, 0, none⟩) hB v'
    exact (hrow1.lt j ej).1

theorem lens_small : ∀ (l : List Int), (∀ n ∈ l, 0 ≤ n ∧ n < 32) → Lib.lens (l.map Lib.itoa) ≤ 2 * l.length
  | [], _ => by simp [Lib.lens]
  | n :: l, h => by
    have ih := lens_small l (fun m hm => h m (List.mem_cons_of_mem _ hm))
    obtain ⟨h0, h1⟩ := h n (by simp)
    obtain ⟨k, rfl⟩ := Int.eq_ofNat_of_zero_le h0
    have hk : (Lib.itoa (k : Int)).length ≤ 2 := by
      have : ∀ k : Fin 32, (Lib.itoa ((k.val : Nat) : Int)).length ≤ 2 := by decide +kernel
      exact this ⟨k, by omega⟩
    simp only [List.map_cons, Lib.lens, List.sum_cons, List.length_cons] at *
    omega
theorem join_small (l : List Int) (h : ∀ n ∈ l, 0 ≤ n ∧ n < 32) : (Lib.join (l.map Lib.itoa) [44]).length ≤ 3 * l.length := by
  cases l with
  | nil => simp [Lib.join_nil]
  | cons n l =>
    have := lens_small (n :: l) h
    rw [List.map_cons] at this ⊢
    rw [Lib.join_length]
    simp at *
    omega

theorem smv_range (l : List Sm) : ∀ n ∈ smv l, 0 ≤ n ∧ n < 32 := by
  intro n hn
  simp only [smv, List.mem_map] at hn
  obtain ⟨y, _, rfl⟩ := hn
  exact y.2
theorem lst_ne {x : BitVec 32} (h : x ≠ 0#32) : lst x 32 ≠ [] := by
  intro e
  apply h
  rw [← ofl_lst x, e]; rfl

set_option maxRecDepth 100000 in
set_option maxHeartbeats 4000000 in
theorem show_any (x : BitVec 32) (w : World) : Calls Tryd.prog 32 #[.int .u32 (x.toNat : Int)] w fun e w' => e = .returned (.string (str (bsh x))) ∧ Below w.heap.size w w' := by
  by_cases hx : x = 0#32
  · subst hx
    have HB : Hid (bsh 0#32 = [45]) := Lib.hid (by decide +kernel)
    generalize bsh 0#32 = u at HB ⊢
    go_enter Tryd.func32, Tryd.ntmps32
    go_wp2_with fail
    go_ret
    exact ⟨by rw [HB.out]; rfl, Below.refl _ _⟩
  · obtain ⟨i0, hi, hz0, hz1, hz2⟩ := info_parts info_str
    have b0 : ((x.toNat : Int) == 0) = false := by
      rw [beq_eq_false_iff_ne]
      intro e
      exact hx (BitVec.eq_of_toNat_eq (by simpa using e))
    have HNE : Hid (lst x 32 ≠ []) := Lib.hid (lst_ne hx)
    have HU : Hid (bsh x = Lib.join ((lst x 32).map Lib.itoa) [44]) := Lib.hid (by unfold bsh; rw [if_neg HNE.out])
    obtain ⟨u, hu⟩ : ∃ u, u = bsh x := ⟨_, rfl⟩
    rw [← hu] at HU ⊢
    obtain ⟨L, hL⟩ : ∃ L, L = lst x 32 := ⟨_, rfl⟩
    rw [← hL] at HU HNE
    have HL := Lib.hid hL
    clear hx hu hL
    refine (callsIn_wide (n := 5)).1 ?_
    refine callsIn_of_wp_marks Tryd.func32 rfl trivial ?_ rfl
    simp only [Tryd.ntmps32, List.size_toArray, List.length_cons, List.length_nil, Nat.reduceAdd, Nat.reduceSub, Array.replicate_succ, Array.replicate_zero, List.push_toArray, List.append_toArray, List.nil_append, List.cons_append]
    gi_wp2_with fail
    refine ⟨trivial, (callsIn_wide.2 (each_any x _)).mono ?_⟩
    rintro e w1 ⟨rfl, rfl⟩
    gi_wp2
    have hB0 : Below w.heap.size w ((w.alloc (.cells #[.slice none 0 0] 66)).alloc (.cells #[.int .u32 (x.toNat : Int)] 22)) := ((Below.refl _ w).alloc (Nat.le_refl _) _).alloc (by simp) _
    have bO : Boxed ((w.alloc (.cells #[.slice none 0 0] 66)).alloc (.cells #[.int .u32 (x.toNat : Int)] 22)) w.heap.size 66 (.slice none 0 0) := (Boxed.new w 66 (.slice none 0 0)).alloc _
    have bE := Boxed.new (w.alloc (.cells #[.slice none 0 0] 66)) 22 (.int .u32 (x.toNat : Int))
    have hsz : ((w.alloc (.cells #[.slice none 0 0] 66)).alloc (.cells #[.int .u32 (x.toNat : Int)] 22)).heap.size = w.heap.size + 2 := by simp
    obtain ⟨W0, hW0⟩ : ∃ W0, (w.alloc (.cells #[.slice none 0 0] 66)).alloc (.cells #[.int .u32 (x.toNat : Int)] 22) = W0 := ⟨_, rfl⟩
    rw [hW0] at hB0 bO bE hsz ⊢
    have hsz1 : (w.alloc (.cells #[.slice none 0 0] 66)).heap.size = w.heap.size + 1 := by simp
    rw [hsz1] at bE
    clear hW0 hsz1
    refine wpIn_rangeFunc_ownG (F := Fence.wide) rfl (by omega) (gf := 71) (lb := #[.pointer (some ⟨w.heap.size + 1, 0, none⟩)]) rfl trivial (enters_of Tryd.func71 (by kernel_rfl) rfl)
      (each_small (5 - 1) (by omega) (w.heap.size + 1) x W0 (by omega) bE.cell) (fun h k => k.trans h) (fun W l o o' hl h h1 h2 => (belowK_b (w := W0) (n₀ := w.heap.size + 2) (by omega) W l o o' hl h h1 h2).cell (p := ⟨w.heap.size + 1, 0, none⟩) (by show w.heap.size + 1 < w.heap.size + 2; omega)) (Below.refl _ _) (fun _ => rfl)
      (fun pre W => ((∃ v, Boxed W w.heap.size 66 v ∧ W.ownsRow w.heap.size 9 1 v (svs ((smv pre).map Lib.itoa)).length (svs ((smv pre).map Lib.itoa)) ∧ True) ∧ Boxed W (w.heap.size + 1) 22 (.int .u32 (x.toNat : Int))) ∧ Below w.heap.size w W)
      (fun _ _ _ => False)
      (OwnFrom.and (OwnFrom.and (Own.from (holdsRow_own w.heap.size w.heap.size 66 9 1 (fun pre : List Sm => (svs ((smv pre).map Lib.itoa)).length) (fun pre => svs ((smv pre).map Lib.itoa)) (fun _ _ => True)) _) (Own.from (boxed_own (w.heap.size + 1) 22 (fun _ => .int .u32 (x.toNat : Int))) _)) (ownFrom_below (Nat.le_refl _) (by omega)))
      (fun _ _ _ _ _ hs _ _ => hs)
      ⟨⟨⟨_, bO, World.ownsRow_nil _ _ _ _, trivial⟩, bE⟩, hB0⟩
      (fun y => { tmps := #[.int .u32 (x.toNat : Int), undef, .string { data := #[] }, .pointer (some ⟨w.heap.size, 0, none⟩), .int .i64 y.1, .int .u32 (x.toNat : Int), .bool false, .int .u32 (x.toNat : Int), .func (.func 71) #[] #[.pointer (some ⟨w.heap.size + 1, 0, none⟩)], .int .i64 y.1, undef, undef, undef, undef, undef, undef, undef], defers := [] }) ?assign ?body ?done ?stop
    case assign =>
      intro l y W K hK
      gi_wp2
      exact hK
    case body =>
      rintro l pre y W ⟨⟨⟨v, hv, hrow, _⟩, hX⟩, hB⟩ hlt
      have hP : ∀ kk : LW W, kk.val.cell? ⟨w.heap.size, 0, none⟩ = some v := fun kk => (kk.le.cell (p := ⟨w.heap.size, 0, none⟩) hv.lt).trans hv.cell
      obtain ⟨acc, hacc⟩ : ∃ acc, acc = (smv pre).map Lib.itoa := ⟨_, rfl⟩
      have HACC : Hid ((smv (pre ++ [y])).map Lib.itoa = acc ++ [Lib.itoa y.1]) := Lib.hid (by rw [smv_snoc, List.map_append, hacc]; rfl)
      have hlen : acc.length ≤ 31 := by rw [hacc, List.length_map, smv, List.length_map]; omega
      rw [← hacc] at hrow
      have HO : Own W w.heap.size 9 v (svs acc) := hrow
      have HT := Lib.hid (fun wx : World => (tens_small y.1 wx y.2.1 (by omega)).mono fun e w' (h : e = .returned (.string (str (Lib.itoa y.1))) ∧ wx = w') => (show e = .returned (.string (str (Lib.itoa y.1))) ∧ Below wx.heap.size wx w' from ⟨h.1, h.2 ▸ Below.refl _ _⟩))
      have HSV : Hid (svs acc ++ [.string (str (Lib.itoa y.1))] = svs (acc ++ [Lib.itoa y.1])) := Lib.hid (by rw [svs_append]; rfl)
      obtain ⟨q, hq⟩ : ∃ q, q = str (Lib.itoa y.1) := ⟨_, rfl⟩
      rw [← hq] at HT HSV
      have hle : w.heap.size ≤ W.heap.size := hB.size
      clear hacc hq hrow
      gi_wp2
      refine wpIn_region_tail (free_round l _ _) (by kernel_rfl) [(13, relOne q)] 17 4 (by kernel_rfl) (by kernel_rfl) (by kernel_rfl) (by rfl) ?_
      simp only [List.take_succ_cons, List.take_zero, List.drop_succ_cons, List.drop_zero]
      iterate 2 (refine wpG_quiet (by rfl) (by rfl) (by rfl) (fun K hK => ?_); go_big_quiet_op; refine hK _ ?_; clear hK K)
      refine wpG_call (by rfl) (by rfl) 30 #[.int .i64 y.1] (.string q) (by intro _; simp [go_sem]) (by kernel_rfl) (fun w1 hl => HT.out w1) ?_
      simp only [Act.put, List.setIfInBounds_toArray, List.set_cons_zero, List.set_cons_succ]
      refine wpG_open (relOne q) (by rfl) (by rfl) (fun w1 hl => one_gives (.tmp 12) q rfl rfl w1) ?_
      rintro _ ⟨_, _, _, ⟨g, rfl, _⟩⟩
      simp only [Act.put, List.setIfInBounds_toArray, List.set_cons_zero, List.set_cons_succ]
      refine wpG_nil fun w1 hl hs1 => ?_
      obtain ⟨_, g', eg, hBk⟩ := hs1
      obtain rfl : g = g' := by injection eg with eg; injection eg with eg; injection eg
      have hrow1 : Own w1 w.heap.size 9 v (svs acc) := HO.later hl
      refine wpListIn_append_own _ rfl (.tmp 10) (.tmp 13) _ rfl w.heap.size 9 i0 (.string ⟨#[]⟩) 1 16 Tryd.underlying66 hi hz0 hz1 hz2 rfl (by decide) v (svs acc).length (svs acc) rfl hrow1 ⟨g, 0, none⟩ 1 1 [.string q] rfl rfl (fun j u hj => ?_) (by simp [Value.oneCell']) (by rw [svs_length]; simp [maxLen]; omega) (by rw [svs_length]; omega) (Nat.le_trans hle hl.size) ?_
      · match j, hj with
        | 0, hj =>
          obtain rfl : Value.string q = u := by simpa using hj
          exact hBk.cell (j := 0) rfl
      intro v' w2 hown' hgrow _
      obtain ⟨g', cap', rfl⟩ := ownsRow_succ hown'
      have hown2 : Own w2 w.heap.size 9 (.slice (some ⟨g', 0, none⟩) ((svs acc).length + 1) cap') (svs acc ++ [.string q]) := by
        unfold Own; rw [List.length_append]; exact hown'
      obtain ⟨k1, k2, k3, k4, k5⟩ := appended_le hv (by decide) HO hle (Nat.le_refl _) hl hown2 hgrow
      have k1c := k1.cell
      have k1f := k1.frozen
      have x1 : Boxed w1 (w.heap.size + 1) 22 (.int .u32 (x.toNat : Int)) := (hl.block _ hX.lt).trans hX
      have x3 := (x1.kept hgrow (x1.not_row (by decide) hrow1)).other (B' := w.heap.size) (by omega) (.slice (some ⟨g', 0, none⟩) ((svs acc).length + 1) cap')
      rw [HSV.out] at k3
      simp only [Act.put, List.setIfInBounds_toArray, List.set_cons_zero, List.set_cons_succ]
      clear hl hrow1 hown' hown2 hgrow hBk HO hP k1 x1 HT hlen
      gi_wp2_with fail
      refine ⟨k4.from _, x3.cell.trans hX.cell.symm, ⟨⟨_, k2, ?_, trivial⟩, x3⟩, hB.trans k5⟩
      rw [HACC.out]
      exact k3
    case done =>
      rintro D ys W hD hys ⟨⟨⟨v, hv, hrow, _⟩, hX⟩, hB⟩ hK
      have hys' : smv ys = lst x 32 := hys
      rw [hys', ← HL.out] at hrow
      have HO : Own W w.heap.size 9 v (svs (L.map Lib.itoa)) := hrow
      have hc := hv.cell
      have hDs : D < W.heap.size := (Array.getElem?_eq_some_iff.1 hK).1
      have hrg : ∀ n ∈ L, 0 ≤ n ∧ n < 32 := by rw [HL.out, ← hys']; exact smv_range ys
      have hlen : L.length ≤ 32 := by rw [HL.out]; exact lst_len x 32
      have hjl := join_small L hrg
      obtain ⟨n, hn⟩ : ∃ n, n = (L.map Lib.itoa).length := ⟨_, rfl⟩
      have hpos : 0 < n := by rw [hn, List.length_map]; exact List.length_pos_iff.2 HNE.out
      have hn32 : n ≤ 32 := by rw [hn, List.length_map]; exact hlen
      obtain ⟨A, c, hvf⟩ := HO.form
      rw [svs_length, ← hn] at hvf
      subst hvf
      obtain ⟨g, rfl, hg2, hg3⟩ := HO.block hpos
      have HJ := Lib.hid (join_any g c n w.heap.size (L.map Lib.itoa) W hn.symm HO hpos (by omega) (by omega))
      rw [← HU.out] at HJ
      clear hrow hys hys' hX hv HO hjl hrg hlen hn
      gi_wp2_with fail
      refine ⟨trivial, (callsIn_wide.2 HJ.out).mono ?_⟩
      rintro e w3 ⟨rfl, hb3⟩
      have hK3 : w3.heap[D]? = some (.deferred (some [])) := (hb3.block D hDs).trans hK
      have hBW : Below w.heap.size w w3 := hB.trans (hb3.mono hB.size)
      gi_wp2_with fail
      refine ⟨by simp, .inl ⟨_, _, rfl, run_takeDeferred hK3, ?_⟩⟩
      exact ⟨_, results_tmp rfl _ _ _, rfl, hBW.trans (belowK_b (w := w) (Nat.le_refl _) w3 D _ _ (by omega) hK3 rfl rfl)⟩
    case stop =>
      rintro D c pre W _ _ h _
      exact h.elim
end Go.Proofs.YtgdidamjgaegkaaDoor
