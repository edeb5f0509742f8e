/- Groups: all of them with other members (by any function); the document's Leave. -/
import Derived.Test.YtglhgdkghddcaaaGrD
import Derived.Test.YtglhgdkghddcaaaTail
import Derived.Test.YtglhgdkghddcaaaRowK
namespace Go.Proofs.Ytglhgdkghddcaaa
set_option linter.unusedVariables false
set_option linter.unusedSimpArgs false
open Go Go.RowKit IdsM

/-- Groups as an answer. -/
def GivesG (w : World) (l' : List (Int × List Int)) (e : Ending) (w' : World) : Prop := ∃ A n c gs, e = .returned (.slice A n c) ∧ SeesG w' A n c gs ∧ gabs gs = l' ∧ Below w.heap.size w w'
theorem info_grp : ∃ i0, Try.prog.info? 41 = some i0 ∧ i0.zero = some (.agg (gpc zg).toArray) ∧ i0.size = 2 ∧ i0.bytes = 32 := by
  have h : (Try.prog.info? 41).map (fun i => (i.zero, i.size, i.bytes)) = some (some (.agg (gpc zg).toArray), 2, 32) := by kernel_rfl
  cases hi : Try.prog.info? 41 with
  | none => rw [hi] at h; cases h
  | some i0 =>
    rw [hi] at h
    simp only [Option.map_some, Option.some.injEq, Prod.mk.injEq] at h
    exact ⟨i0, rfl, h.1, h.2.1, h.2.2⟩
def relL (B : Nat) (m : List Int) : Rel where
  rel v w := ∃ A c, v = .slice A m.length c ∧ Own w B 3 (.slice A m.length c) (ivs m)
  mono := fun v w w' h ⟨A, c, e, ho⟩ => ⟨A, c, e, row_later ho h⟩
  real := fun w ⟨_, _, e, _⟩ => by cases e
def relAg (B : Nat) (q : Int) (m : List Int) : Rel where
  rel v w := ∃ A c, v = .agg #[.int .i64 q, .slice A m.length c] ∧ Own w B 3 (.slice A m.length c) (ivs m)
  mono := fun v w w' h ⟨A, c, e, ho⟩ => ⟨A, c, e, row_later ho h⟩
  real := fun w ⟨_, _, e, _⟩ => by cases e
def relG1 (B : Nat) (q : Int) (m : List Int) : Rel where
  rel v w := ∃ g A c, v = .slice (some ⟨g, 0, none⟩) 1 1 ∧ Blk w g [.int .i64 q, .slice A m.length c] ∧ Own w B 3 (.slice A m.length c) (ivs m)
  mono := fun v w w' h ⟨g, A, c, e, hb, ho⟩ => ⟨g, A, c, e, hb.later h, row_later ho h⟩
  real := fun w ⟨_, _, _, e, _⟩ => by cases e
theorem run_gag (q : Int) (A : Option Addr) (n c : Nat) (w : World) : (Instr.build 41 #[(0, .int .i64 q), (1, .slice A n c)]).run Try.prog w = .ok (.agg #[.int .i64 q, .slice A n c]) w := by kernel_rfl
theorem ag_gives {a : Act} {op : Oper} (B : Nat) (y0 y1 : Operand) (q : Int) (m : List Int) (ho : op.op = .build 41 #[(0, y0), (1, y1)]) (h0 : a.eval y0 = .int .i64 q) (w : World) (h1 : (relL B m).rel (a.eval y1) w) : gives Try.prog op a (relAg B q m).rel w := by
  obtain ⟨A, c, e, hm⟩ := h1
  unfold gives execOp
  simp only [ho, List.map_toArray, List.map_cons, List.map_nil, h0, e, Sem.run_bind, run_gag q A m.length c, Result.andThen_ok, Sem.run_pure]
  exact ⟨Le.refl _, A, c, rfl, hm⟩
theorem run_g1 (q : Int) (A : Option Addr) (n c : Nat) (w : World) : (Instr.buildSlice 22 1 #[(0, .agg #[.int .i64 q, .slice A n c])]).run Try.prog w = .ok (.slice (some ⟨w.heap.size, 0, none⟩) 1 1) (w.alloc (.cells #[.int .i64 q, .slice A n c] 41)) := by kernel_rfl
theorem g1_gives {a : Act} {op : Oper} (B : Nat) (y : Operand) (q : Int) (m : List Int) (ho : op.op = .buildSlice 22 1 #[(0, y)]) (w : World) (h1 : (relAg B q m).rel (a.eval y) w) : gives Try.prog op a (relG1 B q m).rel w := by
  obtain ⟨A, c, e, hm⟩ := h1
  unfold gives execOp
  simp only [ho, List.map_toArray, List.map_cons, List.map_nil, e, Sem.run_bind, run_g1 q A m.length c, Result.andThen_ok, Sem.run_pure]
  have hb := (Below.refl w.heap.size w).alloc (Nat.le_refl _) (.cells #[.int .i64 q, .slice A m.length c] 41)
  exact ⟨hb, _, A, c, rfl, Blk.new w [.int .i64 q, .slice A m.length c] _, row_later hm hb⟩
/-- A group of the call's own, its members apart from a row. -/
structure OkO (w : World) (base : Nat) (r : Value) (g : Gp) : Prop where
  len : g.m.length = g.n
  own : Own w base 3 (.slice g.A g.n g.c) (ivs g.m)
  apart : ∀ b, (Value.slice g.A g.n g.c).ownBlock = some b → r.ownBlock ≠ some b
theorem OkO.later {w w' : World} {base : Nat} {r : Value} {g : Gp} (h : OkO w base r g) (hl : Below w.heap.size w w') : OkO w' base r g := ⟨h.len, row_later h.own hl, h.apart⟩
theorem OkO.grown {w w' : World} {base : Nat} {r r' : Value} {g : Gp} (h : OkO w base r g) (hg : w.grownBy w' r.ownBlock) (hr : r'.ownBlock = r.ownBlock ∨ r'.ownBlock = some w.heap.size) : OkO w' base r' g := by
  refine ⟨h.len, h.own.kept hg ?_, fun b hb => ?_⟩
  · cases e : (Value.slice g.A g.n g.c).ownBlock with
    | none => exact Or.inl rfl
    | some b => exact Or.inr (fun e2 => h.apart b e e2.symm)
  · rcases hr with e | e
    · rw [e]; exact h.apart b hb
    · rw [e]
      intro e2
      injection e2 with e2
      have := (h.own.lt b hb).2
      omega
theorem OkO.okGp {w : World} {base : Nat} {r : Value} {g : Gp} (h : OkO w base r g) : okGp w g := ⟨h.len, (Own.cap h.own).1, (Own.cap h.own).2, Own.sees h.own⟩
theorem row_cap {w : World} {base : Nat} {e : TypeId} {size n c : Nat} {A : Option Addr} {xs : List Value} (h : w.ownsRow base e size (.slice A n c) n xs) : n ≤ c ∧ c ≤ maxLen := by
  rcases h.2 with ⟨e, h0⟩ | ⟨g, cap, cur, e, hx⟩
  · cases e; exact ⟨by omega, by simp [maxLen]⟩
  · cases e; exact ⟨hx.2.2.1, hx.2.2.2.1⟩
theorem gpc_one (g : Gp) : ∀ v ∈ gpc g, v.oneCell' = true := by
  intro v hv
  simp [gpc] at hv
  rcases hv with rfl | rfl <;> rfl
theorem chg_next (l : List Gp) (ch : Gp → List Int) (k : Nat) (hk : k < l.length) (gs : List Gp) (h : gabs gs = (l.take k).map (fun g => (g.no, ch g))) (x : Gp) (h1 : x.no = l[k].no) (h2 : x.m = ch l[k]) :
    gabs (gs ++ [x]) = (l.take (k + 1)).map (fun g => (g.no, ch g)) := by
  rw [List.take_succ_eq_append_getElem hk, List.map_append, ← h]
  unfold gabs
  rw [List.map_append]
  simp [gab, h1, h2]
/-- Groups as an answer, in a row of the call's own. -/
def GivesO (w : World) (l' : List (Int × List Int)) (e : Ending) (w' : World) : Prop := ∃ A n c gs, e = .returned (.slice A n c) ∧ w'.ownsRow w.heap.size 41 2 (.slice A n c) n (rws gpc gs) ∧ gs.length = n ∧ (∀ g ∈ gs, OkO w' w.heap.size (.slice A n c) g) ∧ gabs gs = l' ∧ Below w.heap.size w w'
theorem GivesO.gives {w w' : World} {l' : List (Int × List Int)} {e : Ending} (h : GivesO w l' e w') : GivesG w l' e w' := by
  obtain ⟨A, n, c, gs, rfl, hr, hl, ho, hg, hb⟩ := h
  have hc := row_cap hr
  exact ⟨A, n, c, gs, rfl, ⟨hl, hc.1, hc.2, row_sees hr, fun g hg => (ho g hg).okGp⟩, hg, hb⟩

set_option maxRecDepth 100000 in
set_option maxHeartbeats 1600000 in
theorem allo_any (A : Option Addr) (n c : Nat) (l : List Gp) (w : World) (h : SeesG w A n c l) (hz : n ≤ 65536) (fid : FuncId) (cap : Array Value) (ch : Gp → List Int) (hen : ∀ args wx, (callFunc fid args).run Try.prog wx = .ok (.enter fid args) wx) (hch : ∀ g ∈ l, ∀ W, Below w.heap.size w W → okGp W g → Calls Try.prog fid (#[.agg #[.int .i64 g.no, .slice g.A g.n g.c]] ++ cap) W (GivesInts W (ch g))) :
    Calls Try.prog 35 #[.slice A n c, .func (.func fid) #[] cap] w (GivesO w (l.map (fun g => (g.no, ch g)))) := by
  have hu := Try.underlying41
  obtain ⟨i1, ji, jz0, jz1, jz2⟩ := info_grp
  have HS := Lib.hid h
  have HN := Lib.hid h.len
  have HCH := Lib.hid hch
  have HROW0 := Lib.hid (World.ownsRow_nil w w.heap.size 41 2)
  have HB0 := Lib.hid (Below.refl w.heap.size w)
  have HNX := Lib.hid (fun k (hk : k < l.length) gs e x => chg_next l ch k hk gs e x)
  have HALL : Hid ((l.take n).map (fun g => (g.no, ch g)) = l.map (fun g => (g.no, ch g))) := Lib.hid (by rw [List.take_of_length_le (by rw [h.len]; exact Nat.le_refl _)])
  clear h hch
  go_enter Try.func35, Try.ntmps35
  go_wp2_with fail
  go_loopw [10, 5] (fun i v wr => ∃ k : Nat, k ≤ n ∧ i = .int .i64 (k : Int) ∧ (∃ A1 c1 gs, v = .slice A1 k c1 ∧ Hid (wr.ownsRow w.heap.size 41 2 v k (rws gpc gs)) ∧ Hid (gabs gs = (l.take k).map (fun g => (g.no, ch g))) ∧ Hid (∀ g ∈ gs, OkO wr w.heap.size v g)) ∧ Hid (Below w.heap.size w wr)) (fun i _ _ => n - (intOf i).toNat)
  case atStart => exact ⟨0, by omega, rfl, ⟨_, _, [], rfl, HROW0, Lib.hid rfl, Lib.hid (by simp)⟩, HB0⟩
  case round =>
    clear HROW0 HB0
    obtain ⟨k, hk, rfl, ⟨A1, c1, gs, rfl, HR, HGS, HOKS⟩, HB⟩ := hrel
    by_cases hlt : k < n
    · have d0 : decide ((k : Int) < (n : Int)) = true := decide_eq_true (by omega)
      have hkl : k < l.length := by rw [HN.out]; exact hlt
      obtain ⟨b, o, rfl, _, hg⟩ := HS.out.get k hkl
      have HK : Hid (∀ W, Below w.heap.size w W → Calls Try.prog fid (#[.agg #[.int .i64 l[k].no, .slice l[k].A l[k].n l[k].c]] ++ cap) W (GivesInts W (ch l[k]))) := Lib.hid (fun W hW => HCH.out _ (List.getElem_mem hkl) W hW (hg W hW).2.2.2)
      have HX := Lib.hid (fun x (h1 : x.no = l[k].no) (h2 : x.m = ch l[k]) => HNX.out k hkl gs HGS.out x h1 h2)
      have HC : Hid (∀ W, Below w.heap.size w W → W.cell? ⟨b, o + k * 2, none⟩ = some (.int .i64 l[k].no) ∧ W.cell? ⟨b, o + k * 2 + 1, none⟩ = some (.slice l[k].A l[k].n l[k].c) ∧ W.rangeAt b (o + k * 2) [.int .i64 l[k].no, .slice l[k].A l[k].n l[k].c]) := Lib.hid (fun W hW => ⟨(hg W hW).2.1, (hg W hW).2.2.1, (hg W hW).1⟩)
      clear hg
      generalize hm : ch l[k] = m at HK HX
      generalize hq : l[k].no = q at HC HK HX
      generalize hqA : l[k].A = qA at HC HK
      generalize hqn : l[k].n = qn at HC HK
      generalize hqc : l[k].c = qc at HC HK
      clear hm hq hqA hqn hqc HCH HNX
      have hrg := (HC.out wr HB.out).2.2
      have FIN : Blk (wr.alloc (.cells #[.int .i64 q, .slice qA qn qc] 41)) wr.heap.size [.int .i64 q, .slice qA qn qc] := Blk.new wr [.int .i64 q, .slice qA qn qc] 41
      have HLW := Lib.hid (HB.out.alloc HB.out.size (.cells #[.int .i64 q, .slice qA qn qc] 41))
      have hlw := (Below.refl wr.heap.size wr).alloc (Nat.le_refl _) (.cells #[.int .i64 q, .slice qA qn qc] 41)
      have HR5 := Lib.hid (row_later HR.out hlw)
      have HOKS5 := Lib.hid (fun g hg => (HOKS.out g hg).later hlw)
      obtain ⟨W5, HW5⟩ : ∃ W5, Hid (W5 = wr.alloc (.cells #[.int .i64 q, .slice qA qn qc] 41)) := ⟨_, Lib.hid rfl⟩
      rw [← HW5.out] at FIN HLW HR5 HOKS5
      have HBB := Lib.hid HLW.out.size
      obtain ⟨args, hargs⟩ : ∃ args, args = #[Value.agg #[.int .i64 q, .slice qA qn qc]] ++ cap := ⟨_, rfl⟩
      rw [← hargs] at HK
      have HBW : Hid (∀ W, Le W5 W → Below w.heap.size w W) := Lib.hid (fun W hl => HLW.out.trans (hl.mono HLW.out.size))
      have HFIN := Lib.hid FIN
      have ca : ∀ kk : LW W5, kk.val.cell? ⟨wr.heap.size, 0, none⟩ = some (.int .i64 q) := fun kk => (HFIN.out.later kk.le).cell (j := 0) rfl
      clear FIN hlw
      go_wp2_with (first
        | (refine wpList_load_mid rfl 41 (.tmp 12) rfl b (o + k * 2) rfl [.int .i64 q, .slice qA qn qc] _ hrg hu rfl info_gp ?_
           simp only [Act.put, List.setIfInBounds_toArray, List.set_cons_zero, List.set_cons_succ])
        | fail)
      rw [← HW5.out]
      clear hrg
      refine wp_region_tail [(19, relL W5.heap.size m), (20, relAg W5.heap.size q m), (21, relG1 W5.heap.size q m)] 25 8 (by kernel_rfl) (by kernel_rfl) (by kernel_rfl) (by rfl) ?_
      simp only [List.take_succ_cons, List.take_zero, List.drop_succ_cons, List.drop_zero]
      repeat (refine wpG_quiet (by rfl) (by rfl) (by rfl) (fun K hK => ?_); go_big_quiet_op; refine hK _ ?_; clear hK K)
      refine wpG_run (by rfl) (by rfl) (.agg #[.int .i64 q, .slice qA qn qc]) (fun wx hl => exec_load 41 (.tmp 7) rfl wr.heap.size 0 rfl [.int .i64 q, .slice qA qn qc] _ ((HFIN.out.later hl.1).range 0 _ rfl) hu rfl info_gp) ?_
      simp only [Act.put, List.setIfInBounds_toArray, List.set_cons_zero, List.set_cons_succ]
      refine wpG_calls (relL W5.heap.size m) (by rfl) (by rfl) fid args (by intro _; rw [hargs]; simp [go_sem, hen]) (fun wx hl => (HK.out wx (HBW.out wx hl.1)).mono ?_) ?_
      · rintro e w2 ⟨A2, c2, rfl, ho, hb⟩
        exact ⟨_, rfl, hb, A2, c2, rfl, Own.lower ho hl.1.size⟩
      rintro _ ⟨_, _, _, ⟨A2, c2, rfl, _⟩⟩
      simp only [Act.put, List.setIfInBounds_toArray, List.set_cons_zero, List.set_cons_succ]
      refine wpG_open (relAg W5.heap.size q m) (by rfl) (by rfl) (fun wx hl => ag_gives W5.heap.size _ (.tmp 19) q m rfl rfl wx (hl.2 19 _ (by simp [Op.operands]) rfl (by intro h; cases h))) ?_
      rintro _ ⟨_, _, _, ⟨A3, c3, rfl, _⟩⟩
      simp only [Act.put, List.setIfInBounds_toArray, List.set_cons_zero, List.set_cons_succ]
      refine wpG_open (relG1 W5.heap.size q m) (by rfl) (by rfl) (fun wx hl => g1_gives W5.heap.size (.tmp 20) q m rfl wx (hl.2 20 _ (by simp [Op.operands]) rfl (by intro h; cases h))) ?_
      rintro _ ⟨_, _, _, ⟨g4, A4, c4, rfl, _⟩⟩
      simp only [Act.put, List.setIfInBounds_toArray, List.set_cons_zero, List.set_cons_succ]
      refine wpG_nil fun w5 hl hS => ?_
      obtain ⟨_, g', A', c', eg, hB5, ho5⟩ := hS
      cases eg
      have hb5 := HBW.out w5 hl
      have hsee : Sees w5 w5.heap.size (some ⟨g4, 0, none⟩) [.int .i64 q, .slice A' m.length c'] := fun _ => ⟨g4, 0, rfl, hB5.lt, fun j hj => by rw [Nat.zero_add]; exact hB5.cell (List.getElem?_eq_getElem hj)⟩
      have hrw : Hid (w5.ownsRow w.heap.size 41 2 (.slice A1 k c1) k (rws gpc gs)) := Lib.hid (row_later HR5.out hl)
      refine wpList_appk _ rfl (.tmp 14) (.tmp 21) 22 rfl w.heap.size 41 i1 _ 2 32 Try.underlying22 ji jz0 jz1 jz2 (by rfl) (by decide) (.slice A1 k c1) k (rws gpc gs) (by rfl) hrw.out w5.heap.size (some ⟨g4, 0, none⟩) 1 [.int .i64 q, .slice A' m.length c'] 1 (by rfl) (by rfl) hsee (gpc_one ⟨q, A', m.length, c', m⟩) (by unfold maxLen; omega) (by omega) hb5.size ?_
      intro A6 c6 w6 hr6 hb6 hg6 hat6
      have e6 : rws gpc gs ++ [.int .i64 q, .slice A' m.length c'] = rws gpc (gs ++ [⟨q, A', m.length, c', m⟩]) := by rw [rws_append, rws_one]; rfl
      rw [e6] at hr6
      have HR6 := Lib.hid hr6
      have HB6 := Lib.hid (hb5.trans hb6)
      have HGS6 := Lib.hid (HX.out ⟨q, A', m.length, c', m⟩ rfl rfl)
      have HO6 : Hid (∀ g ∈ gs ++ [⟨q, A', m.length, c', m⟩], OkO w6 w.heap.size (.slice A6 (k + 1) c6) g) := Lib.hid (fun g hg => by
        rw [List.mem_append, List.mem_singleton] at hg
        rcases hg with hg | rfl
        · exact ((HOKS5.out g hg).later hl).grown hg6 hat6
        · have h5 : OkO w5 w.heap.size (.slice A1 k c1) ⟨q, A', m.length, c', m⟩ := ⟨rfl, Own.lower ho5 HBB.out, fun b hb e => by
            have h1 := (ho5.lt b hb).1
            have h2 := (World.ownsRow.lt HR5.out b e).2
            omega⟩
          exact h5.grown hg6 hat6)
      clear hr6 hb6 hg6 hat6 hrw hsee hb5 e6 hB5 ho5 hl
      go_wp2_with fail
      go_roundw
      case rel => exact ⟨k + 1, by omega, by go_num, ⟨A6, c6, gs ++ [⟨q, A', m.length, c', m⟩], rfl, HR6, HGS6, HO6⟩, HB6⟩
      case measure => simp [intOf]; omega
    · obtain rfl : k = n := by omega
      rw [HALL.out] at HGS
      go_wp2_with fail
      go_ret
      exact ⟨A1, k, c1, gs, rfl, HR.out, (by
        have hl := congrArg List.length HGS.out
        rw [gabs_len, List.length_map, HN.out] at hl
        exact hl), HOKS.out, HGS.out, HB.out⟩

theorem all_any (A : Option Addr) (n c : Nat) (l : List Gp) (w : World) (h : SeesG w A n c l) (hz : n ≤ 65536) (fid : FuncId) (cap : Array Value) (ch : Gp → List Int) (hen : ∀ args wx, (callFunc fid args).run Try.prog wx = .ok (.enter fid args) wx) (hch : ∀ g ∈ l, ∀ W, Below w.heap.size w W → okGp W g → Calls Try.prog fid (#[.agg #[.int .i64 g.no, .slice g.A g.n g.c]] ++ cap) W (GivesInts W (ch g))) :
    Calls Try.prog 35 #[.slice A n c, .func (.func fid) #[] cap] w (GivesG w (l.map (fun g => (g.no, ch g)))) :=
  (allo_any A n c l w h hz fid cap ch hen hch).mono fun _ _ h => h.gives

set_option maxRecDepth 100000 in
set_option maxHeartbeats 1600000 in
theorem rgleave_any (A : Option Addr) (n c : Nat) (l : List Gp) (w : World) (h : SeesG w A n c l) (hz : n ≤ 65536) (id : Int) (hz2 : ∀ g ∈ l, g.n ≤ 65000) :
    Calls Try.prog 26 #[.slice A n c, .int .i64 id] w (GivesG w (l.map (fun g => (g.no, (fun g => without g.m id) g)))) := by
  have hu := Try.underlying41
  obtain ⟨i1, ji, jz0, jz1, jz2⟩ := info_grp
  have HS := Lib.hid h
  have HN := Lib.hid h.len
  have HZ2 := Lib.hid hz2
  have HROW0 := Lib.hid (row_lit w w.heap.size 41 2 0 #[] (Nat.le_refl _) (by simp [maxLen]) rfl)
  have HB0 := Lib.hid ((Below.refl w.heap.size w).alloc (Nat.le_refl _) (.cells #[] 41))
  have HNX := Lib.hid (fun k (hk : k < l.length) gs e x => chg_next l (fun g => without g.m id) k hk gs e x)
  have HALL : Hid ((l.take n).map (fun g => (g.no, (fun g => without g.m id) g)) = l.map (fun g => (g.no, (fun g => without g.m id) g))) := Lib.hid (by rw [List.take_of_length_le (by rw [h.len]; exact Nat.le_refl _)])
  clear h hz2
  go_enter Try.func26, Try.ntmps26
  go_wp2_with fail
  go_loopw [6, 5] (fun i v wr => ∃ k : Nat, k ≤ n ∧ i = .int .i64 (k : Int) ∧ (∃ A1 c1 gs, v = .slice A1 k c1 ∧ Hid (wr.ownsRow w.heap.size 41 2 v k (rws gpc gs)) ∧ Hid (gabs gs = (l.take k).map (fun g => (g.no, (fun g => without g.m id) g))) ∧ Hid (∀ g ∈ gs, OkO wr w.heap.size v g)) ∧ Hid (Below w.heap.size w wr)) (fun i _ _ => n - (intOf i).toNat)
  case atStart => exact ⟨0, by omega, rfl, ⟨_, _, [], rfl, HROW0, Lib.hid rfl, Lib.hid (by simp)⟩, HB0⟩
  case round =>
    clear HROW0 HB0
    obtain ⟨k, hk, rfl, ⟨A1, c1, gs, rfl, HR, HGS, HOKS⟩, HB⟩ := hrel
    by_cases hlt : k < n
    · have d0 : decide ((k : Int) < (n : Int)) = true := decide_eq_true (by omega)
      have hkl : k < l.length := by rw [HN.out]; exact hlt
      obtain ⟨b, o, rfl, _, hg⟩ := HS.out.get k hkl
      have HK : Hid (∀ W, Below w.heap.size w W → Calls Try.prog 48 #[.slice l[k].A l[k].n l[k].c, .int .i64 id] W (GivesInts W (without l[k].m id))) := Lib.hid (fun W hW => by
        have ho := (hg W hW).2.2.2
        exact (ref_drop _ _ _ _ id W ho.len ho.see (HZ2.out _ (List.getElem_mem hkl))))
      have HX := Lib.hid (fun x (h1 : x.no = l[k].no) (h2 : x.m = without l[k].m id) => HNX.out k hkl gs HGS.out x h1 h2)
      have HC : Hid (∀ W, Below w.heap.size w W → W.cell? ⟨b, o + k * 2, none⟩ = some (.int .i64 l[k].no) ∧ W.cell? ⟨b, o + k * 2 + 1, none⟩ = some (.slice l[k].A l[k].n l[k].c) ∧ W.rangeAt b (o + k * 2) [.int .i64 l[k].no, .slice l[k].A l[k].n l[k].c]) := Lib.hid (fun W hW => ⟨(hg W hW).2.1, (hg W hW).2.2.1, (hg W hW).1⟩)
      clear hg
      generalize hm : without l[k].m id = m at HK HX
      generalize hq : l[k].no = q at HC HK HX
      generalize hqA : l[k].A = qA at HC HK
      generalize hqn : l[k].n = qn at HC HK
      generalize hqc : l[k].c = qc at HC HK
      clear hm hq hqA hqn hqc HZ2 HNX
      have HBW : Hid (∀ W, Le wr W → Below w.heap.size w W) := Lib.hid (fun W hl => HB.out.trans (hl.mono HB.out.size))
      have HR5 := HR
      have HOKS5 := HOKS
      have HBB := Lib.hid HB.out.size
      have ca : ∀ kk : LW wr, kk.val.cell? ⟨b, o + k * 2, none⟩ = some (.int .i64 q) := fun kk => (HC.out _ (HBW.out _ kk.le)).1
      have cb : ∀ kk : LW wr, kk.val.cell? ⟨b, o + k * 2 + 1, none⟩ = some (.slice qA qn qc) := fun kk => (HC.out _ (HBW.out _ kk.le)).2.1
      go_wp2_with fail
      refine wp_region_tail [(26, relL wr.heap.size m), (27, relAg wr.heap.size q m), (28, relG1 wr.heap.size q m)] 31 15 (by kernel_rfl) (by kernel_rfl) (by kernel_rfl) (by rfl) ?_
      simp only [List.take_succ_cons, List.take_zero, List.drop_succ_cons, List.drop_zero]
      repeat (refine wpG_quiet (by rfl) (by rfl) (by rfl) (fun K hK => ?_); go_big_quiet_op; refine hK _ ?_; clear hK K)
      refine wpG_calls (relL wr.heap.size m) (by rfl) (by rfl) 48 #[.slice qA qn qc, .int .i64 id] (by intro _; simp [go_sem]) (fun wx hl => (HK.out wx (HBW.out wx hl.1)).mono ?_) ?_
      · rintro e w2 ⟨A2, c2, rfl, ho, hb⟩
        exact ⟨_, rfl, hb, A2, c2, rfl, Own.lower ho hl.1.size⟩
      rintro _ ⟨_, _, _, ⟨A2, c2, rfl, _⟩⟩
      simp only [Act.put, List.setIfInBounds_toArray, List.set_cons_zero, List.set_cons_succ]
      refine wpG_open (relAg wr.heap.size q m) (by rfl) (by rfl) (fun wx hl => ag_gives wr.heap.size _ (.tmp 26) q m rfl rfl wx (hl.2 26 _ (by simp [Op.operands]) rfl (by intro h; cases h))) ?_
      rintro _ ⟨_, _, _, ⟨A3, c3, rfl, _⟩⟩
      simp only [Act.put, List.setIfInBounds_toArray, List.set_cons_zero, List.set_cons_succ]
      refine wpG_open (relG1 wr.heap.size q m) (by rfl) (by rfl) (fun wx hl => g1_gives wr.heap.size (.tmp 27) q m rfl wx (hl.2 27 _ (by simp [Op.operands]) rfl (by intro h; cases h))) ?_
      rintro _ ⟨_, _, _, ⟨g4, A4, c4, rfl, _⟩⟩
      simp only [Act.put, List.setIfInBounds_toArray, List.set_cons_zero, List.set_cons_succ]
      refine wpG_nil fun w5 hl hS => ?_
      obtain ⟨_, g', A', c', eg, hB5, ho5⟩ := hS
      cases eg
      have hb5 := HBW.out w5 hl
      have hsee : Sees w5 w5.heap.size (some ⟨g4, 0, none⟩) [.int .i64 q, .slice A' m.length c'] := fun _ => ⟨g4, 0, rfl, hB5.lt, fun j hj => by rw [Nat.zero_add]; exact hB5.cell (List.getElem?_eq_getElem hj)⟩
      have hrw : Hid (w5.ownsRow w.heap.size 41 2 (.slice A1 k c1) k (rws gpc gs)) := Lib.hid (row_later HR5.out hl)
      refine wpList_appk _ rfl (.tmp 14) (.tmp 28) 22 rfl w.heap.size 41 i1 _ 2 32 Try.underlying22 ji jz0 jz1 jz2 (by rfl) (by decide) (.slice A1 k c1) k (rws gpc gs) (by rfl) hrw.out w5.heap.size (some ⟨g4, 0, none⟩) 1 [.int .i64 q, .slice A' m.length c'] 1 (by rfl) (by rfl) hsee (gpc_one ⟨q, A', m.length, c', m⟩) (by unfold maxLen; omega) (by omega) hb5.size ?_
      intro A6 c6 w6 hr6 hb6 hg6 hat6
      have e6 : rws gpc gs ++ [.int .i64 q, .slice A' m.length c'] = rws gpc (gs ++ [⟨q, A', m.length, c', m⟩]) := by rw [rws_append, rws_one]; rfl
      rw [e6] at hr6
      have HR6 := Lib.hid hr6
      have HB6 := Lib.hid (hb5.trans hb6)
      have HGS6 := Lib.hid (HX.out ⟨q, A', m.length, c', m⟩ rfl rfl)
      have HO6 : Hid (∀ g ∈ gs ++ [⟨q, A', m.length, c', m⟩], OkO w6 w.heap.size (.slice A6 (k + 1) c6) g) := Lib.hid (fun g hg => by
        rw [List.mem_append, List.mem_singleton] at hg
        rcases hg with hg | rfl
        · exact ((HOKS5.out g hg).later hl).grown hg6 hat6
        · have h5 : OkO w5 w.heap.size (.slice A1 k c1) ⟨q, A', m.length, c', m⟩ := ⟨rfl, Own.lower ho5 HBB.out, fun b hb e => by
            have h1 := (ho5.lt b hb).1
            have h2 := (World.ownsRow.lt HR5.out b e).2
            omega⟩
          exact h5.grown hg6 hat6)
      clear hr6 hb6 hg6 hat6 hrw hsee hb5 e6 hB5 ho5 hl
      go_wp2_with fail
      go_roundw
      case rel => exact ⟨k + 1, by omega, by go_num, ⟨A6, c6, gs ++ [⟨q, A', m.length, c', m⟩], rfl, HR6, HGS6, HO6⟩, HB6⟩
      case measure => simp [intOf]; omega
    · obtain rfl : k = n := by omega
      rw [HALL.out] at HGS
      go_wp2_with fail
      go_ret
      exact ⟨A1, k, c1, gs, rfl, (by
        have hl := congrArg List.length HGS.out
        rw [gabs_len, List.length_map, HN.out] at hl
        have hc := row_cap HR.out
        exact ⟨hl, hc.1, hc.2, row_sees HR.out, fun g hg => (HOKS.out g hg).okGp⟩), HGS.out, HB.out⟩
end Go.Proofs.Ytglhgdkghddcaaa
