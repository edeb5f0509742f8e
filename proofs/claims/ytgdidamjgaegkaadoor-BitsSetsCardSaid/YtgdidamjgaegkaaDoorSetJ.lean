/- bits.Read: what any text is read as. -/
import Derived.Test.YtgdidamjgaegkaaDoorSetI
namespace Go.Proofs.YtgdidamjgaegkaaDoor
set_option linter.unusedVariables false
open Go Go.RowKit Go.Shelf BitM MskM
attribute [local go_sem] Oper.semAt_some

theorem stp_none : ∀ (ps : List (List UInt8)), ps.foldl stp none = none
  | [] => rfl
  | p :: ps => by rw [List.foldl_cons]; exact stp_none ps
theorem stp_pre {ps qs : List (List UInt8)} (h : ps <+: qs) (e : ps.foldl stp (some 0#32) = none) : qs.foldl stp (some 0#32) = none := by
  obtain ⟨r, rfl⟩ := h
  rw [List.foldl_append, e, stp_none]

theorem boxed_from {B B0 : Nat} {t : TypeId} {v : Value} {W W' : World} {row : Option Nat} (h : Boxed W B t v) (hg : W.grownBy W' row) (hr : ∀ r, row = some r → B0 ≤ r ∧ ∃ o : Obj, W.heap[r]? = some o ∧ o.isCells = false) : Boxed W' B t v :=
  boxed_own B t (fun _ : Unit => v) () W W' row h hg (fun r e => (hr r e).2)
theorem boxed_put {W : World} {B D : Nat} {t : TypeId} {v : Value} (h : Boxed W B t v) (hK : W.heap[D]? = some (.deferred (some []))) : Boxed (W.putObj D (.deferred none)) B t v :=
  boxed_from (B0 := 0) h (grownBy_putObj' W D _) (fun r e => by cases e; exact ⟨Nat.zero_le _, _, hK, rfl⟩)
def seen (z : Option (BitVec 32)) : BitVec 32 × Bool := match z with
  | some s => (s, true)
  | none => (0#32, false)

set_option maxRecDepth 100000 in
set_option maxHeartbeats 4000000 in
theorem sread_any (t : ByteArray) (w : World) (hx : t.size ≤ 1000) : Calls Tryd.prog 28 #[.string t] w fun e w' =>
    e = .returned (.tuple #[.int .u32 ((prd t.data.toList).1.toNat : Int), .bool (prd t.data.toList).2]) ∧ Below w.heap.size w w' := by
  by_cases h45 : t = ⟨#[45]⟩
  · subst h45
    go_enter Tryd.func28, Tryd.ntmps28
    go_wp2_with fail
    rw [show prd [45] = (0#32, true) from rfl]
    refine bodyPost_ret (v := .tuple #[.int .u32 0, .bool true]) (by simp [results, go_sem]) rfl ⟨rfl, ?_⟩
    exact ((Below.refl _ w).alloc (Nat.le_refl _) _).alloc (by simp) _
  · have hne : (t.toList == [45]) = false := by
      rw [beq_eq_false_iff_ne, ByteArray.toList_eq]
      intro e
      exact h45 (ByteArray.ext (Array.ext' e))
    have hsz : t.data.toList.length = t.size := by simp
    have HP : Hid (prd t.data.toList = seen ((parts 44 t.data.toList).foldl stp (some 0#32))) := Lib.hid (by
        unfold prd
        rw [if_neg (fun e => h45 (ByteArray.ext (Array.ext' e)))]
        cases (parts 44 t.data.toList).foldl stp (some 0#32) <;> rfl)
    obtain ⟨R, hR⟩ : ∃ R, R = prd t.data.toList := ⟨_, rfl⟩
    rw [← hR] at HP ⊢
    have HST : Hid (t = str t.data.toList) := Lib.hid rfl
    have HPL := Lib.hid (parts_len 44 t.data.toList)
    have HL : Hid (t.data.toList.length ≤ 1000) := Lib.hid (by omega)
    have b0 : (t.toList == [45]) = false := hne
    have HSS := Lib.hid (fun wx : World => splitseq_any t wx)
    clear hR h45 hsz
    refine (callsIn_wide (n := 5)).1 ?_
    refine callsIn_of_wp_marks Tryd.func28 rfl trivial ?_ rfl
    simp only [Tryd.ntmps28, List.size_toArray, List.length_cons, List.length_nil, Nat.reduceAdd, Nat.reduceSub, Array.replicate_succ, Array.replicate_zero, List.push_toArray, List.append_toArray, List.nil_append, List.cons_append]
    gi_wp2_with fail
    refine ⟨trivial, (callsIn_wide.2 (HSS.out _)).mono ?_⟩
    rintro e w1 ⟨rfl, rfl⟩
    gi_wp2
    have B1 := Boxed.new w 22 (.int .u32 0)
    have B2 := Boxed.new (w.alloc (.cells #[.int .u32 0] 22)) 4 (.bool false)
    have B3 := Boxed.new ((w.alloc (.cells #[.int .u32 0] 22)).alloc (.cells #[.bool false] 4)) 22 (.int .u32 0)
    have B4 := Boxed.new (((w.alloc (.cells #[.int .u32 0] 22)).alloc (.cells #[.bool false] 4)).alloc (.cells #[.int .u32 0] 22)) 9 (.string t)
    have B5 := Boxed.new ((((w.alloc (.cells #[.int .u32 0] 22)).alloc (.cells #[.bool false] 4)).alloc (.cells #[.int .u32 0] 22)).alloc (.cells #[.string t] 9)) 9 (.string ⟨#[44]⟩)
    have B6 := Boxed.new (((((w.alloc (.cells #[.int .u32 0] 22)).alloc (.cells #[.bool false] 4)).alloc (.cells #[.int .u32 0] 22)).alloc (.cells #[.string t] 9)).alloc (.cells #[.string ⟨#[44]⟩] 9)) 3 (.int .i64 0)
    replace B1 := ((((B1.alloc (.cells #[.bool false] 4)).alloc (.cells #[.int .u32 0] 22)).alloc (.cells #[.string t] 9)).alloc (.cells #[.string ⟨#[44]⟩] 9)).alloc (.cells #[.int .i64 0] 3)
    replace B2 := (((B2.alloc (.cells #[.int .u32 0] 22)).alloc (.cells #[.string t] 9)).alloc (.cells #[.string ⟨#[44]⟩] 9)).alloc (.cells #[.int .i64 0] 3)
    replace B3 := ((B3.alloc (.cells #[.string t] 9)).alloc (.cells #[.string ⟨#[44]⟩] 9)).alloc (.cells #[.int .i64 0] 3)
    replace B4 := (B4.alloc (.cells #[.string ⟨#[44]⟩] 9)).alloc (.cells #[.int .i64 0] 3)
    replace B5 := B5.alloc (.cells #[.int .i64 0] 3)
    simp only [World.size_alloc] at B1 B2 B3 B4 B5 B6
    have hB0 : Below w.heap.size w ((((((w.alloc (.cells #[.int .u32 0] 22)).alloc (.cells #[.bool false] 4)).alloc (.cells #[.int .u32 0] 22)).alloc (.cells #[.string t] 9)).alloc (.cells #[.string ⟨#[44]⟩] 9)).alloc (.cells #[.int .i64 0] 3)) := ((((((Below.refl _ w).alloc (Nat.le_refl _) _).alloc (by simp) _).alloc (by simp; omega) _).alloc (by simp; omega) _).alloc (by simp; omega) _).alloc (by simp; omega) _
    have hsz : ((((((w.alloc (.cells #[.int .u32 0] 22)).alloc (.cells #[.bool false] 4)).alloc (.cells #[.int .u32 0] 22)).alloc (.cells #[.string t] 9)).alloc (.cells #[.string ⟨#[44]⟩] 9)).alloc (.cells #[.int .i64 0] 3)).heap.size = w.heap.size + 6 := by simp
    obtain ⟨W0, hW0⟩ : ∃ W0, ((((((w.alloc (.cells #[.int .u32 0] 22)).alloc (.cells #[.bool false] 4)).alloc (.cells #[.int .u32 0] 22)).alloc (.cells #[.string t] 9)).alloc (.cells #[.string ⟨#[44]⟩] 9)).alloc (.cells #[.int .i64 0] 3)) = W0 := ⟨_, rfl⟩
    rw [hW0] at B1 B2 B3 B4 B5 B6 hB0 hsz ⊢
    clear hW0
    refine wpIn_rangeFunc_turn (F := Fence.wide) rfl (by omega) (gf := 101) (lb := #[.pointer (some ⟨w.heap.size + 1 + 1 + 1 + 1, 0, none⟩), .pointer (some ⟨w.heap.size + 1 + 1 + 1, 0, none⟩), .pointer (some ⟨w.heap.size + 1 + 1 + 1 + 2, 0, none⟩)]) rfl trivial (enters_of Tryd.func101 (by kernel_rfl) rfl)
      (split_turns (5 - 1) (by omega) (w.heap.size + 1 + 1 + 1) (w.heap.size + 1 + 1 + 1 + 1) (w.heap.size + 1 + 1 + 1 + 2) 1001 t.data.toList W0 (by omega) (by omega) (by omega) (by omega) (by omega) HL.out B4.cell B4.frozen B5.cell B6.cell (Nat.le_trans HPL.out (by have := HL.out; omega)))
      (fun h k => h.trans k)
      (fun W l o o' hl h h1 h2 b hb => ⟨(belowK_b (w := W0) (n₀ := W0.heap.size) (Nat.le_refl _) W l o o' hl h h1 h2).cell (p := ⟨b, 0, none⟩) (by show b < W0.heap.size; omega), (belowK_b (w := W0) (n₀ := W0.heap.size) (Nat.le_refl _) W l o o' hl h h1 h2).frozen (p := ⟨b, 0, none⟩) (by show b < W0.heap.size; omega)⟩)
      (Below.refl _ _) (fun _ => rfl)
      (fun pre W => (((∃ z : BitVec 32, pre.foldl stp (some 0#32) = some z ∧ Boxed W (w.heap.size + 1 + 1) 22 (.int .u32 (z.toNat : Int))) ∧ Boxed W w.heap.size 22 (.int .u32 0)) ∧ Boxed W (w.heap.size + 1) 4 (.bool false)) ∧ Below w.heap.size w W)
      (fun c pre W => ((c = .ret ∧ pre.foldl stp (some 0#32) = none) ∧ Boxed W w.heap.size 22 (.int .u32 0) ∧ Boxed W (w.heap.size + 1) 4 (.bool false)) ∧ Below w.heap.size w W)
      (OwnFrom.and (fun s W W' row hs hg hr => by
        obtain ⟨⟨⟨z, hz, b1⟩, b2⟩, b3⟩ := hs
        exact ⟨⟨⟨z, hz, boxed_from b1 hg hr⟩, boxed_from b2 hg hr⟩, boxed_from b3 hg hr⟩) (ownFrom_below (Nat.le_refl _) (by omega)))
      (fun c => OwnFrom.and (fun s W W' row hs hg hr => ⟨hs.1, boxed_from hs.2.1 hg hr, boxed_from hs.2.2 hg hr⟩) (ownFrom_below (Nat.le_refl _) (by omega)))
      (fun s A B hs hT => by
        obtain ⟨v, rfl⟩ := hT
        obtain ⟨⟨⟨⟨z, hz, b1⟩, b2⟩, b3⟩, hb⟩ := hs
        exact ⟨⟨⟨⟨z, hz, b1.other (by omega) v⟩, b2.other (by omega) v⟩, b3.other (by omega) v⟩, hb.setCell (by show w.heap.size ≤ w.heap.size + 1 + 1 + 1; omega) v⟩)
      (fun A B hT k hk => by
        obtain ⟨v, rfl⟩ := hT
        exact Below.heap_setCell A ⟨w.heap.size + 1 + 1 + 1, 0, none⟩ v k (by show k ≠ w.heap.size + 1 + 1 + 1; omega))
      ⟨⟨⟨⟨0#32, rfl, B3⟩, B1⟩, B2⟩, hB0⟩
      (fun y => { tmps := #[.string t, undef, .pointer (some ⟨w.heap.size, 0, none⟩), .pointer (some ⟨w.heap.size + 1, 0, none⟩), .pointer (some ⟨w.heap.size + 1 + 1, 0, none⟩), .string (str y), undef, undef, .string t, .bool false, .string t, .func (.func 101) #[] #[.pointer (some ⟨w.heap.size + 1 + 1 + 1 + 1, 0, none⟩), .pointer (some ⟨w.heap.size + 1 + 1 + 1, 0, none⟩), .pointer (some ⟨w.heap.size + 1 + 1 + 1 + 2, 0, none⟩)], .string (str y), undef, undef, undef, undef, undef, undef, undef, undef, undef, undef, undef, undef, undef, undef, undef, undef, undef], defers := [] }) ?assign ?body ?done ?stop
    case assign =>
      intro l y W K hK
      gi_wp2
      exact hK
    case body =>
      rintro l pre p W ⟨⟨⟨⟨z, hz, bz⟩, b1⟩, b2⟩, hB⟩ hlt
      have HI := Lib.hid (fun wx : World => (show Calls Tryd.prog 26 #[.string (str p), .int .i64 31] wx fun e w' => e = .returned (.tuple #[.int .i64 (pint p 31).1, .bool (pint p 31).2]) ∧ wx = w' from int_any (str p) 31 wx))
      have HPR := Lib.hid (pint_range p)
      have HZ : Hid ((pre ++ [p]).foldl stp (some 0#32) = if (pint p 31).2 = true ∧ z >>> (pint p 31).1.toNat = 0#32 then some (put z (pint p 31).1) else none) := Lib.hid (by rw [List.foldl_append, hz]; rfl)
      have cz := bz.cell
      have fz := bz.frozen
      have c1 := b1.cell
      have f1 := b1.frozen
      have c2 := b2.cell
      have f2 := b2.frozen
      obtain ⟨q, hq⟩ : ∃ q, q = pint p 31 := ⟨_, rfl⟩
      rw [← hq] at HI HZ HPR
      obtain ⟨sp, hsp⟩ : ∃ sp, sp = str p := ⟨_, rfl⟩
      rw [← hsp] at HI ⊢
      clear hz hq hsp hlt HSS B1 B2 B3 B4 B5 B6
      have hd : w.heap.size + 1 ≠ w.heap.size := by omega
      obtain ⟨v, ok⟩ := q
      simp only at HI HZ HPR
      cases ok
      · have HZ2 : Hid ((pre ++ [p]).foldl stp (some 0#32) = none) := Lib.hid (by rw [HZ.out, if_neg (by rintro ⟨h, _⟩; cases h)])
        clear HZ HPR
        gi_wp2_with fail
        refine ⟨trivial, (CallsIn.inRound l (callsIn_wide.2 (HI.out _))).mono ?_⟩
        rintro e w1 ⟨rfl, rfl⟩
        gi_wp2_with fail
        have k1 := ((KeepsOthers.setCell W ⟨w.heap.size, 0, none⟩ (.int .u32 0)).trans (KeepsOthers.setCell _ ⟨w.heap.size + 1, 0, none⟩ (.bool false)))
        exact ⟨k1.from _, ⟨⟨rfl, HZ2.out⟩, (b1.set _).other (by omega) _, (b2.other (by omega) _).set _⟩, (hB.setCell (p := ⟨w.heap.size, 0, none⟩) (Nat.le_refl _) _).setCell (p := ⟨w.heap.size + 1, 0, none⟩) (Nat.le_succ _) _⟩
      · obtain ⟨j, hj, hv⟩ := HPR.out rfl
        simp only at hv HI HZ
        subst hv
        clear HPR
        have hsh : z >>> j = 0#32 ↔ (z.toNat : Int) / 2 ^ j = 0 := by
          rw [← BitVec.toNat_inj, BitVec.toNat_ushiftRight, Nat.shiftRight_eq_div_pow]
          have : ((z.toNat / 2 ^ j : Nat) : Int) = (z.toNat : Int) / 2 ^ j := by simp
          rw [← this]
          simp only [BitVec.toNat_ofNat, Nat.zero_mod]
          omega
        by_cases hs0 : (z.toNat : Int) / 2 ^ j = 0
        · have HZ2 : Hid ((pre ++ [p]).foldl stp (some 0#32) = some (put z (j : Int))) := Lib.hid (by rw [HZ.out, if_pos ⟨trivial, hsh.2 hs0⟩])
          have hs1 : ((z.toNat : Int) / 2 ^ j != 0) = false := by simp [hs0]
          have HW := Lib.hid (fun wx : World => with_any z (j : Int) wx)
          obtain ⟨z2, hz2⟩ : ∃ z2, z2 = put z (j : Int) := ⟨_, rfl⟩
          rw [← hz2] at HZ2 HW
          clear HZ hz2 hsh hs0
          gi_wp2_with fail
          refine ⟨trivial, (CallsIn.inRound l (callsIn_wide.2 (HI.out _))).mono ?_⟩
          rintro e w1 ⟨rfl, rfl⟩
          gi_wp2_with fail
          refine ⟨trivial, (CallsIn.inRound l (callsIn_wide.2 (HW.out _))).mono ?_⟩
          rintro e w1 ⟨rfl, rfl⟩
          gi_wp2_with fail
          have k1 := KeepsOthers.setCell W ⟨w.heap.size + 1 + 1, 0, none⟩ (.int .u32 (z2.toNat : Int))
          have hkp : Keeps3 (w.heap.size + 1 + 1 + 1) (w.heap.size + 1 + 1 + 1 + 1) (w.heap.size + 1 + 1 + 1 + 2) W (W.setCell ⟨w.heap.size + 1 + 1, 0, none⟩ (.int .u32 (z2.toNat : Int))) := fun b hb => ⟨World.cell?_setCell_other _ _ _ _ (by intro e; injection e with e; omega), by rw [World.frozen?_setCell]⟩
          exact ⟨k1.from _, hkp, ⟨⟨⟨z2, HZ2.out, bz.set _⟩, b1.other (by omega) _⟩, b2.other (by omega) _⟩, hB.setCell (p := ⟨w.heap.size + 1 + 1, 0, none⟩) (by show w.heap.size ≤ w.heap.size + 1 + 1; omega) _⟩
        · have HZ2 : Hid ((pre ++ [p]).foldl stp (some 0#32) = none) := Lib.hid (by rw [HZ.out, if_neg (by rintro ⟨_, h⟩; exact hs0 (hsh.1 h))])
          have hs1 : ((z.toNat : Int) / 2 ^ j != 0) = true := by simp [hs0]
          clear HZ hsh hs0
          gi_wp2_with fail
          refine ⟨trivial, (CallsIn.inRound l (callsIn_wide.2 (HI.out _))).mono ?_⟩
          rintro e w1 ⟨rfl, rfl⟩
          gi_wp2_with fail
          have k1 := ((KeepsOthers.setCell W ⟨w.heap.size, 0, none⟩ (.int .u32 0)).trans (KeepsOthers.setCell _ ⟨w.heap.size + 1, 0, none⟩ (.bool false)))
          exact ⟨k1.from _, ⟨⟨rfl, HZ2.out⟩, (b1.set _).other (by omega) _, (b2.other (by omega) _).set _⟩, (hB.setCell (p := ⟨w.heap.size, 0, none⟩) (Nat.le_refl _) _).setCell (p := ⟨w.heap.size + 1, 0, none⟩) (Nat.le_succ _) _⟩
    case done =>
      rintro D ys W hD hys ⟨⟨⟨⟨z, hz, bz⟩, b1⟩, b2⟩, hB⟩ hK
      have HR : Hid (R = (z, true)) := Lib.hid (by rw [HP.out, ← hys, hz]; rfl)
      have cz := bz.cell
      have c1 := b1.cell
      have f1 := b1.frozen
      have c2 := b2.cell
      have f2 := b2.frozen
      clear hz hys HP HPL HL HST HSS B1 B2 B3 B4 B5 B6
      gi_wp2_with fail
      have n1 := (b1.set (.int .u32 (z.toNat : Int))).other (B' := w.heap.size + 1) (by omega) (.bool true)
      have n2 := (b2.other (B' := w.heap.size) (by omega) (.int .u32 (z.toNat : Int))).set (.bool true)
      have hK' := ((KeepsOthers.setCell W ⟨w.heap.size, 0, none⟩ (.int .u32 (z.toNat : Int))).trans (KeepsOthers.setCell _ ⟨w.heap.size + 1, 0, none⟩ (.bool true))).same D _ hK rfl
      have hBW := (hB.setCell (p := ⟨w.heap.size, 0, none⟩) (Nat.le_refl _) (.int .u32 (z.toNat : Int))).setCell (p := ⟨w.heap.size + 1, 0, none⟩) (Nat.le_succ _) (.bool true)
      refine ⟨by simp, .inl ⟨_, _, rfl, run_takeDeferred hK', ?_⟩⟩
      have r1 := (boxed_put n1 hK').cell
      have r2 := (boxed_put n2 hK').cell
      exact ⟨.tuple #[.int .u32 (z.toNat : Int), .bool true], (by simp [results, go_sem, r1, r2]), by rw [HR.out], hBW.trans (belowK_b (w := w) (Nat.le_refl _) _ D _ _ (by omega) hK' rfl rfl)⟩
    case stop =>
      rintro D c pre W hD hpre ⟨⟨⟨rfl, hn⟩, b1, b2⟩, hB⟩ hK
      have HR : Hid (R = (0#32, false)) := Lib.hid (by rw [HP.out, stp_pre hpre hn]; rfl)
      have c1 := b1.cell
      have c2 := b2.cell
      clear hn hpre HP HPL HL HST HSS B1 B2 B3 B4 B5 B6
      gi_wp2_with fail
      refine ⟨by simp, .inl ⟨_, _, rfl, run_takeDeferred hK, ?_⟩⟩
      have r1 := (boxed_put b1 hK).cell
      have r2 := (boxed_put b2 hK).cell
      exact ⟨.tuple #[.int .u32 0, .bool false], (by simp [results, go_sem, r1, r2]), by rw [HR.out]; rfl, hB.trans (belowK_b (w := w) (Nat.le_refl _) _ D _ _ (by omega) hK rfl rfl)⟩
end Go.Proofs.YtgdidamjgaegkaaDoor
