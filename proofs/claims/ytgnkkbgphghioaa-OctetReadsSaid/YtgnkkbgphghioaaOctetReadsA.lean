/- OctetReads: the walk where the bytes are within bounds. -/
import Derived.Test.YtgnkkbgphghioaaOctX
import Derived.Deep.RegionHeld3
import Derived.Deep.DrawnRows
namespace Go.Proofs.Ytgnkkbgphghioaa
set_option linter.unusedVariables false
attribute [local go_sem ↓] Go.wp_at_zero Go.wp_at_succ
open Go.ChangeShapes Go.WideShapes Go.ChangeAt Go.RowKit OctM
open Go.ChangeMaps (open_string shut_string)

theorem str_conv (w : World) (B : Nat) (A : Option Addr) (n c : Nat) (l : List UInt8) (s : ByteArray) (hn : l.length = n) (hs : Sees w B A (bvs l)) (h : s = str l) : (convert 22 9 (.slice A n c)).run Try.prog w = .ok (.string s) w := by
  subst h
  exact run_str (P := Try.prog) w B 22 5 9 Try.underlying22 Try.underlying5 Try.underlying9 A n c l hn hs
theorem below_drew {B : Nat} {a w : World} (h : Below B a w) : Below B a w.drew := ⟨h.os, h.tape, h.output, h.size, h.block⟩

set_option maxRecDepth 100000 in
set_option maxHeartbeats 6400000 in
theorem walk_reads_main (A : Option Addr) (n c : Nat) (l : List UInt8) (B : Option Addr) (d : Nat) (p : List (Int × Int)) (w : World) (hn : l.length = n) (hnc : n ≤ c) (hcm : c ≤ maxLen) (hs : Sees w w.heap.size A (bvs l))
    (hpc : p.length ≤ d) (hdm : d ≤ maxLen) (ht : SeesP w w.heap.size B p) (h2 : n ≤ 2000) :
    Calls Try.prog 4 #[.slice A n c, .slice B p.length d] w fun e w' => e = .returned (.bool true) ∧ Below w.heap.size w w' := by
  have d3 : decide ((2000 : Int) < (n : Int)) = false := by simp; omega
  have HN := Lib.hid (rd_new A n c l w hn hs (by omega))
  have hpl : p.length ≤ 9223372036854775807 := by unfold maxLen at hdm; omega
  obtain ⟨np, hnp⟩ : ∃ np, np = p.length := ⟨_, rfl⟩
  rw [← hnp] at hpl hpc ⊢
  have HNP := Lib.hid hnp
  have HNL := Lib.hid hn
  clear hnp
  go_enter Try.func4, Try.ntmps4
  go_wp2_with fail
  refine HN.out.mono ?_
  rintro e w1 ⟨gr, rfl, r1, b1⟩
  obtain ⟨sl, hsl⟩ : ∃ sl, sl = str l := ⟨_, rfl⟩
  have hc1 := str_conv w1 w1.heap.size A n c l sl HNL.out (sees_on hs b1) hsl
  have hgr := r1.block
  have HSL := Lib.hid hsl
  clear hn hsl
  go_wp2_with fail
  have T0 : Same2 w (w1.alloc (.cells #[.string sl, .int .i64 0] 37)) gr w1.heap.size l 0 0 := by
    refine ⟨⟨r1.later ((Below.refl _ _).alloc (Nat.le_refl _) _), ?_, hgr.2, b1.alloc b1.size _⟩, Nat.zero_le _, by rw [HNL.out]; omega⟩
    have h := own_lit w1 w.heap.size 37 #[.string sl, .int .i64 0] b1.size (by simp [maxLen])
    rw [HSL.out] at h ⊢
    exact h
  generalize hgm : w1.heap.size = gm at T0 ⊢
  clear hc1 r1 b1 hgr hgm HSL
  go_loopw [7] (fun i wr => ∃ (k a : Nat) (e : Int), k ≤ 100 ∧ k ≤ np ∧ i = .int .i64 k ∧ Same2 w wr gr gm l a e) (fun i _ => 100 - (intOf i).toNat)
  case atStart => exact ⟨0, 0, 0, by omega, by omega, rfl, T0⟩
  case round =>
    obtain ⟨k, a, e, hk1, hk2, rfl, T, ha, hm⟩ := hrel
    have HT := Lib.hid T
    clear T0
    by_cases hlt : k < np ∧ k < 100
    · obtain ⟨hl1, hl2⟩ := hlt
      have q1 : decide ((k : Int) < (np : Int)) = true := by simp; omega
      have q2 : decide ((k : Int) < 100) = true := by simp; omega
      have hkp : k < p.length := by rw [← HNP.out]; exact hl1
      obtain ⟨b, o, rfl, hb, hcell⟩ := (ht.below T.2.2.2) (by omega)
      obtain ⟨hx, hy⟩ := hcell k hkp
      clear hcell
      obtain ⟨x, hxe⟩ : ∃ x, x = p[k].1 := ⟨_, rfl⟩
      obtain ⟨y, hye⟩ : ∃ y, y = p[k].2 := ⟨_, rfl⟩
      rw [← hxe] at hx
      rw [← hye] at hy
      have later : ∀ {wx : World} {l' a' e' l2 e2}, Two w wx gr gm l' a' e' l2 e2 → wx.cell? ⟨b, o + k * 2, none⟩ = some (.int .i64 x) ∧ wx.cell? ⟨b, o + k * 2 + 1, none⟩ = some (.int .i64 y) := by
        intro wx l' a' e' l2 e2 h
        have h1 := (ht.below h.2.2.2) (by omega)
        obtain ⟨b', o', e', hb', hc⟩ := h1
        injection e' with e'
        injection e' with e1 e2
        subst e1 e2
        rw [hxe, hye]
        exact hc k hkp
      have HL : Hid (∀ (wx : World) (l' : List UInt8) (a' : Nat) (e' : Int) (l2 : List UInt8) (e2 : Int), Two w wx gr gm l' a' e' l2 e2 → wx.cell? ⟨b, o + k * 2, none⟩ = some (.int .i64 x) ∧ wx.cell? ⟨b, o + k * 2 + 1, none⟩ = some (.int .i64 y)) := Lib.hid (fun _ _ _ _ _ _ h => later h)
      clear hxe hye T later
      by_cases h0 : x = 0
      · subst h0
        obtain ⟨⟨v, a2, e2⟩, hq⟩ : ∃ q, q = numOut l a e y := ⟨_, rfl⟩
        have ha2 := numOut_at l a e y ha
        have H1 := Lib.hid (fun wx (T : Two w wx gr gm l a e (l.drop a) e) => two_num1 y T ha hm)
        have H2 := Lib.hid (fun wx (T : Two w wx gr gm l a2 e2 (l.drop a) e) => two_num2 y T hm)
        rw [← hq] at H1 H2 ha2
        simp only at H1 H2 ha2
        clear hq
        go_wp2_with fail
        go_region_held3 (fun w' => w'.cell? ⟨b, o + k * 2, none⟩ = some (.int .i64 0) ∧ w'.cell? ⟨b, o + k * 2 + 1, none⟩ = some (.int .i64 y)) (go_keep)
          (first
            | (go_at_call 21
               refine (H1.out _ ?_).mono ?_
               · exact HT.out.later ⟨rfl, rfl, rfl, Nat.le_refl _, fun _ _ => rfl⟩
               rintro e' w3 ⟨rfl, T3⟩
               have hx3 := (HL.out _ _ _ _ _ _ T3).1
               have hy3 := (HL.out _ _ _ _ _ _ T3).2)
            | (go_at_call 22
               refine (H2.out _ T3).mono ?_
               rintro e' w4 ⟨rfl, T4⟩
               have hx3 := (HL.out _ _ _ _ _ _ T4).1
               have hy3 := (HL.out _ _ _ _ _ _ T4).2))
        go_wp2_with fail
        go_quiet (fail)
        replace T4 := T4.drewN nq
        obtain ⟨rest, hrest⟩ : ∃ r, r = l.length - a2 := ⟨_, rfl⟩
        obtain ⟨sr, hsr⟩ : ∃ sr, sr = str (l.drop a2) := ⟨_, rfl⟩
        have zr : sr.size = rest := by rw [hsr, str_size, List.length_drop, hrest]
        have hr2 : rest ≤ 2000 := by omega
        obtain ⟨en, hen⟩ : ∃ en, en = endOut l.length a2 e2 := ⟨_, rfl⟩
        have HLE := Lib.hid (fun wx (T : Two w wx gr gm l a2 e2 (l.drop a2) e2) => two_left T ha2 hm rest hrest)
        have HER := Lib.hid (fun wx (T : Two w wx gr gm l a2 e2 (l.drop a2) e2) => two_err T)
        have HE1 := Lib.hid (fun wx (T : Two w wx gr gm l a2 e2 (l.drop a2) e2) => two_end1 T ha2 hm)
        have HE2 := Lib.hid (fun wx (T : Two w wx gr gm l a2 e2 (l.drop a2) e2) => two_end2 T ha2)
        rw [← hen] at HE1 HE2
        have hm0 : ∀ k : LW (w4.drewN nq), k.val.cell? ⟨gm, 0, none⟩ = some (.string sr) := fun k => by rw [hsr]; exact (two_cells (T4.later k.le)).1
        have hm1 : ∀ k : LW (w4.drewN nq), k.val.cell? ⟨gm, 1, none⟩ = some (.int .i64 e2) := fun k => (two_cells (T4.later k.le)).2
        clear hrest hsr hen
        go_wp2_with fail
        refine wp_region_steady [] 173 (by kernel_rfl) (by kernel_rfl) (by kernel_rfl) (by rfl) ?_
        repeat (refine wpG_quiet (by rfl) (by rfl) (by rfl) (fun K hK => ?_); go_big_quiet_op; refine hK _ ?_; clear hK K)
        refine wpG_call (by rfl) (by rfl) 29 #[.pointer (some ⟨gr, 0, none⟩)] (.int .i64 rest) (by intro _; simp [go_sem]) (by kernel_rfl) (fun w1 hl => HLE.out w1 (T4.later hl.1)) ?_
        simp only [Act.put, List.setIfInBounds_toArray, List.set_cons_zero, List.set_cons_succ]
        repeat (refine wpG_quiet (by rfl) (by rfl) (by rfl) (fun K hK => ?_); go_big_quiet_op; refine hK _ ?_; clear hK K)
        refine wpG_call (by rfl) (by rfl) 30 #[.pointer (some ⟨gr, 0, none⟩)] (.int .i64 e2) (by intro _; simp [go_sem]) (by kernel_rfl) (fun w1 hl => HER.out w1 (T4.later hl.1)) ?_
        simp only [Act.put, List.setIfInBounds_toArray, List.set_cons_zero, List.set_cons_succ]
        repeat (refine wpG_quiet (by rfl) (by rfl) (by rfl) (fun K hK => ?_); go_big_quiet_op; refine hK _ ?_; clear hK K)
        refine wpG_call (by rfl) (by rfl) 31 #[.pointer (some ⟨gr, 0, none⟩)] (.int .i64 en) (by intro _; simp [go_sem]) (by kernel_rfl) (fun w1 hl => HE1.out w1 (T4.later hl.1)) ?_
        simp only [Act.put, List.setIfInBounds_toArray, List.set_cons_zero, List.set_cons_succ]
        repeat (refine wpG_quiet (by rfl) (by rfl) (by rfl) (fun K hK => ?_); go_big_quiet_op; refine hK _ ?_; clear hK K)
        refine wpG_call (by rfl) (by rfl) 32 #[.pointer (some ⟨gm, 0, none⟩)] (.int .i64 en) (by intro _; simp [go_sem]) (by kernel_rfl) (fun w1 hl => HE2.out w1 (T4.later hl.1)) ?_
        simp only [Act.put, List.setIfInBounds_toArray, List.set_cons_zero, List.set_cons_succ]
        repeat (refine wpG_quiet (by rfl) (by rfl) (by rfl) (fun K hK => ?_); go_big_quiet_op; refine hK _ ?_; clear hK K)
        refine wpG_nil (fun w5 hl5 _ => ?_)
        have T5 := T4.later hl5
        go_wp2_with fail
        go_roundw
        case rel => exact ⟨k + 1, a2, e2, by omega, by omega, by go_num, T5, ha2, hm⟩
        case measure => simp [intOf]; omega
      by_cases h1 : x = 1
      · subst h1
        obtain ⟨⟨v, a2, e2⟩, hq⟩ : ∃ q, q = strOut l a e y := ⟨_, rfl⟩
        have ha2 := strOut_at l a e y ha
        have H1 := Lib.hid (fun wx (T : Two w wx gr gm l a e (l.drop a) e) => two_str1 y T ha hm)
        have H2 := Lib.hid (fun wx (T : Two w wx gr gm l a2 e2 (l.drop a) e) => two_str2 y T ha hm)
        rw [← hq] at H1 H2 ha2
        simp only at H1 H2 ha2
        obtain ⟨sv, hsv⟩ : ∃ sv, sv = str v := ⟨_, rfl⟩
        rw [← hsv] at H1 H2
        clear hsv
        clear hq
        have b0 : ((1 : Int) == 0) = false := rfl
        go_wp2_with fail
        go_quiet (fail)
        go_wp2_with fail
        go_region_held3 (fun w' => w'.cell? ⟨b, o + k * 2, none⟩ = some (.int .i64 1) ∧ w'.cell? ⟨b, o + k * 2 + 1, none⟩ = some (.int .i64 y)) (go_keep)
          (first
            | (go_at_call 23
               refine (H1.out _ ?_).mono ?_
               · exact HT.out.later ⟨rfl, rfl, rfl, Nat.le_refl _, fun _ _ => rfl⟩
               rintro e' w3 ⟨rfl, T3⟩
               have hx3 := (HL.out _ _ _ _ _ _ T3).1
               have hy3 := (HL.out _ _ _ _ _ _ T3).2)
            | (go_at_call 24
               refine (H2.out _ T3).mono ?_
               rintro e' w4 ⟨rfl, T4⟩
               have hx3 := (HL.out _ _ _ _ _ _ T4).1
               have hy3 := (HL.out _ _ _ _ _ _ T4).2))
        obtain ⟨rest, hrest⟩ : ∃ r, r = l.length - a2 := ⟨_, rfl⟩
        obtain ⟨sr, hsr⟩ : ∃ sr, sr = str (l.drop a2) := ⟨_, rfl⟩
        have zr : sr.size = rest := by rw [hsr, str_size, List.length_drop, hrest]
        have hr2 : rest ≤ 2000 := by omega
        obtain ⟨en, hen⟩ : ∃ en, en = endOut l.length a2 e2 := ⟨_, rfl⟩
        have HLE := Lib.hid (fun wx (T : Two w wx gr gm l a2 e2 (l.drop a2) e2) => two_left T ha2 hm rest hrest)
        have HER := Lib.hid (fun wx (T : Two w wx gr gm l a2 e2 (l.drop a2) e2) => two_err T)
        have HE1 := Lib.hid (fun wx (T : Two w wx gr gm l a2 e2 (l.drop a2) e2) => two_end1 T ha2 hm)
        have HE2 := Lib.hid (fun wx (T : Two w wx gr gm l a2 e2 (l.drop a2) e2) => two_end2 T ha2)
        rw [← hen] at HE1 HE2
        have hm0 : ∀ k : LW w4, k.val.cell? ⟨gm, 0, none⟩ = some (.string sr) := fun k => by rw [hsr]; exact (two_cells (T4.later k.le)).1
        have hm1 : ∀ k : LW w4, k.val.cell? ⟨gm, 1, none⟩ = some (.int .i64 e2) := fun k => (two_cells (T4.later k.le)).2
        clear hrest hsr hen
        go_wp2_with fail
        refine wp_region_steady [] 173 (by kernel_rfl) (by kernel_rfl) (by kernel_rfl) (by rfl) ?_
        repeat (refine wpG_quiet (by rfl) (by rfl) (by rfl) (fun K hK => ?_); go_big_quiet_op; refine hK _ ?_; clear hK K)
        refine wpG_call (by rfl) (by rfl) 29 #[.pointer (some ⟨gr, 0, none⟩)] (.int .i64 rest) (by intro _; simp [go_sem]) (by kernel_rfl) (fun w1 hl => HLE.out w1 (T4.later hl.1)) ?_
        simp only [Act.put, List.setIfInBounds_toArray, List.set_cons_zero, List.set_cons_succ]
        repeat (refine wpG_quiet (by rfl) (by rfl) (by rfl) (fun K hK => ?_); go_big_quiet_op; refine hK _ ?_; clear hK K)
        refine wpG_call (by rfl) (by rfl) 30 #[.pointer (some ⟨gr, 0, none⟩)] (.int .i64 e2) (by intro _; simp [go_sem]) (by kernel_rfl) (fun w1 hl => HER.out w1 (T4.later hl.1)) ?_
        simp only [Act.put, List.setIfInBounds_toArray, List.set_cons_zero, List.set_cons_succ]
        repeat (refine wpG_quiet (by rfl) (by rfl) (by rfl) (fun K hK => ?_); go_big_quiet_op; refine hK _ ?_; clear hK K)
        refine wpG_call (by rfl) (by rfl) 31 #[.pointer (some ⟨gr, 0, none⟩)] (.int .i64 en) (by intro _; simp [go_sem]) (by kernel_rfl) (fun w1 hl => HE1.out w1 (T4.later hl.1)) ?_
        simp only [Act.put, List.setIfInBounds_toArray, List.set_cons_zero, List.set_cons_succ]
        repeat (refine wpG_quiet (by rfl) (by rfl) (by rfl) (fun K hK => ?_); go_big_quiet_op; refine hK _ ?_; clear hK K)
        refine wpG_call (by rfl) (by rfl) 32 #[.pointer (some ⟨gm, 0, none⟩)] (.int .i64 en) (by intro _; simp [go_sem]) (by kernel_rfl) (fun w1 hl => HE2.out w1 (T4.later hl.1)) ?_
        simp only [Act.put, List.setIfInBounds_toArray, List.set_cons_zero, List.set_cons_succ]
        repeat (refine wpG_quiet (by rfl) (by rfl) (by rfl) (fun K hK => ?_); go_big_quiet_op; refine hK _ ?_; clear hK K)
        refine wpG_nil (fun w5 hl5 _ => ?_)
        have T5 := T4.later hl5
        go_wp2_with fail
        go_roundw
        case rel => exact ⟨k + 1, a2, e2, by omega, by omega, by go_num, T5, ha2, hm⟩
        case measure => simp [intOf]; omega
      have b0 : (x == 0) = false := by simpa using h0
      have b1 : (x == 1) = false := by simpa using h1
      by_cases h2' : x = 2
      · have h2x := h2'
        subst h2'
        obtain ⟨⟨v, a2, e2⟩, hq⟩ : ∃ q, q = flagOut l a e := ⟨_, rfl⟩
        have ha2 := flagOut_at l a e ha
        have H1 := Lib.hid (fun wx (T : Two w wx gr gm l a e (l.drop a) e) => two_flag1 T ha hm)
        have H2 := Lib.hid (fun wx (T : Two w wx gr gm l a2 e2 (l.drop a) e) => two_flag2 T hm)
        rw [← hq] at H1 H2 ha2
        simp only at H1 H2 ha2
        clear hq
        clear h2x h0 h1
        go_wp2_with fail
        go_quiet (fail)
        go_wp2_with fail
        go_quiet (fail)
        go_wp2_with fail
        refine (H1.out _ ?_).mono ?_
        · exact HT.out.later ⟨rfl, rfl, rfl, Nat.le_refl _, fun _ _ => rfl⟩
        rintro e' w3 ⟨rfl, T3⟩
        go_wp2_with fail
        refine (H2.out _ T3).mono ?_
        rintro e' w4 ⟨rfl, T4⟩
        have hx3 := (HL.out _ _ _ _ _ _ T4).1
        have hy3 := (HL.out _ _ _ _ _ _ T4).2
        obtain ⟨rest, hrest⟩ : ∃ r, r = l.length - a2 := ⟨_, rfl⟩
        obtain ⟨sr, hsr⟩ : ∃ sr, sr = str (l.drop a2) := ⟨_, rfl⟩
        have zr : sr.size = rest := by rw [hsr, str_size, List.length_drop, hrest]
        have hr2 : rest ≤ 2000 := by omega
        obtain ⟨en, hen⟩ : ∃ en, en = endOut l.length a2 e2 := ⟨_, rfl⟩
        have HLE := Lib.hid (fun wx (T : Two w wx gr gm l a2 e2 (l.drop a2) e2) => two_left T ha2 hm rest hrest)
        have HER := Lib.hid (fun wx (T : Two w wx gr gm l a2 e2 (l.drop a2) e2) => two_err T)
        have HE1 := Lib.hid (fun wx (T : Two w wx gr gm l a2 e2 (l.drop a2) e2) => two_end1 T ha2 hm)
        have HE2 := Lib.hid (fun wx (T : Two w wx gr gm l a2 e2 (l.drop a2) e2) => two_end2 T ha2)
        rw [← hen] at HE1 HE2
        have hm0 : ∀ k : LW w4, k.val.cell? ⟨gm, 0, none⟩ = some (.string sr) := fun k => by rw [hsr]; exact (two_cells (T4.later k.le)).1
        have hm1 : ∀ k : LW w4, k.val.cell? ⟨gm, 1, none⟩ = some (.int .i64 e2) := fun k => (two_cells (T4.later k.le)).2
        clear hrest hsr hen
        go_wp2_with fail
        refine wp_region_steady [] 173 (by kernel_rfl) (by kernel_rfl) (by kernel_rfl) (by rfl) ?_
        repeat (refine wpG_quiet (by rfl) (by rfl) (by rfl) (fun K hK => ?_); go_big_quiet_op; refine hK _ ?_; clear hK K)
        refine wpG_call (by rfl) (by rfl) 29 #[.pointer (some ⟨gr, 0, none⟩)] (.int .i64 rest) (by intro _; simp [go_sem]) (by kernel_rfl) (fun w1 hl => HLE.out w1 (T4.later hl.1)) ?_
        simp only [Act.put, List.setIfInBounds_toArray, List.set_cons_zero, List.set_cons_succ]
        repeat (refine wpG_quiet (by rfl) (by rfl) (by rfl) (fun K hK => ?_); go_big_quiet_op; refine hK _ ?_; clear hK K)
        refine wpG_call (by rfl) (by rfl) 30 #[.pointer (some ⟨gr, 0, none⟩)] (.int .i64 e2) (by intro _; simp [go_sem]) (by kernel_rfl) (fun w1 hl => HER.out w1 (T4.later hl.1)) ?_
        simp only [Act.put, List.setIfInBounds_toArray, List.set_cons_zero, List.set_cons_succ]
        repeat (refine wpG_quiet (by rfl) (by rfl) (by rfl) (fun K hK => ?_); go_big_quiet_op; refine hK _ ?_; clear hK K)
        refine wpG_call (by rfl) (by rfl) 31 #[.pointer (some ⟨gr, 0, none⟩)] (.int .i64 en) (by intro _; simp [go_sem]) (by kernel_rfl) (fun w1 hl => HE1.out w1 (T4.later hl.1)) ?_
        simp only [Act.put, List.setIfInBounds_toArray, List.set_cons_zero, List.set_cons_succ]
        repeat (refine wpG_quiet (by rfl) (by rfl) (by rfl) (fun K hK => ?_); go_big_quiet_op; refine hK _ ?_; clear hK K)
        refine wpG_call (by rfl) (by rfl) 32 #[.pointer (some ⟨gm, 0, none⟩)] (.int .i64 en) (by intro _; simp [go_sem]) (by kernel_rfl) (fun w1 hl => HE2.out w1 (T4.later hl.1)) ?_
        simp only [Act.put, List.setIfInBounds_toArray, List.set_cons_zero, List.set_cons_succ]
        repeat (refine wpG_quiet (by rfl) (by rfl) (by rfl) (fun K hK => ?_); go_big_quiet_op; refine hK _ ?_; clear hK K)
        refine wpG_nil (fun w5 hl5 _ => ?_)
        have T5 := T4.later hl5
        go_wp2_with fail
        go_roundw
        case rel => exact ⟨k + 1, a2, e2, by omega, by omega, by go_num, T5, ha2, hm⟩
        case measure => simp [intOf]; omega
      · have b2 : (x == 2) = false := by simpa using h2'
        obtain ⟨a2, hea⟩ : ∃ a2, a2 = a := ⟨_, rfl⟩
        obtain ⟨e2, hee⟩ : ∃ e2, e2 = failOut e 5 := ⟨_, rfl⟩
        have ha2 : a2 ≤ l.length := by rw [hea]; exact ha
        have H1 := Lib.hid (fun wx (T : Two w wx gr gm l a e (l.drop a) e) => two_fail1 5 T)
        have H2 := Lib.hid (fun wx (T : Two w wx gr gm l a2 e2 (l.drop a2) e) => two_fail2 5 T)
        rw [← hee, ← hea] at H1
        rw [← hee] at H2
        have HT2 : Hid (Two w wr gr gm l a2 e (l.drop a2) e) := by rw [hea]; exact HT
        clear hea hee
        by_cases hlo : x < 0
        · have c1 : decide (x < 0) = true := by simpa using hlo
          clear h0 h1 h2' hlo
          go_wp2_with fail
          go_quiet (fail)
          go_wp2_with fail
          go_quiet (fail)
          go_wp2_with fail
          refine (H1.out _ ?_).mono ?_
          · exact HT2.out.later ⟨rfl, rfl, rfl, Nat.le_refl _, fun _ _ => rfl⟩
          rintro e' w3 ⟨rfl, T3⟩
          go_wp2_with fail
          refine (H2.out _ T3).mono ?_
          rintro e' w4 ⟨rfl, T4⟩
          have hx3 := (HL.out _ _ _ _ _ _ T4).1
          have hy3 := (HL.out _ _ _ _ _ _ T4).2
          obtain ⟨rest, hrest⟩ : ∃ r, r = l.length - a2 := ⟨_, rfl⟩
          obtain ⟨sr, hsr⟩ : ∃ sr, sr = str (l.drop a2) := ⟨_, rfl⟩
          have zr : sr.size = rest := by rw [hsr, str_size, List.length_drop, hrest]
          have hr2 : rest ≤ 2000 := by omega
          obtain ⟨en, hen⟩ : ∃ en, en = endOut l.length a2 e2 := ⟨_, rfl⟩
          have HLE := Lib.hid (fun wx (T : Two w wx gr gm l a2 e2 (l.drop a2) e2) => two_left T ha2 hm rest hrest)
          have HER := Lib.hid (fun wx (T : Two w wx gr gm l a2 e2 (l.drop a2) e2) => two_err T)
          have HE1 := Lib.hid (fun wx (T : Two w wx gr gm l a2 e2 (l.drop a2) e2) => two_end1 T ha2 hm)
          have HE2 := Lib.hid (fun wx (T : Two w wx gr gm l a2 e2 (l.drop a2) e2) => two_end2 T ha2)
          rw [← hen] at HE1 HE2
          have hm0 : ∀ k : LW w4, k.val.cell? ⟨gm, 0, none⟩ = some (.string sr) := fun k => by rw [hsr]; exact (two_cells (T4.later k.le)).1
          have hm1 : ∀ k : LW w4, k.val.cell? ⟨gm, 1, none⟩ = some (.int .i64 e2) := fun k => (two_cells (T4.later k.le)).2
          clear hrest hsr hen
          go_wp2_with fail
          refine wp_region_steady [] 173 (by kernel_rfl) (by kernel_rfl) (by kernel_rfl) (by rfl) ?_
          repeat (refine wpG_quiet (by rfl) (by rfl) (by rfl) (fun K hK => ?_); go_big_quiet_op; refine hK _ ?_; clear hK K)
          refine wpG_call (by rfl) (by rfl) 29 #[.pointer (some ⟨gr, 0, none⟩)] (.int .i64 rest) (by intro _; simp [go_sem]) (by kernel_rfl) (fun w1 hl => HLE.out w1 (T4.later hl.1)) ?_
          simp only [Act.put, List.setIfInBounds_toArray, List.set_cons_zero, List.set_cons_succ]
          repeat (refine wpG_quiet (by rfl) (by rfl) (by rfl) (fun K hK => ?_); go_big_quiet_op; refine hK _ ?_; clear hK K)
          refine wpG_call (by rfl) (by rfl) 30 #[.pointer (some ⟨gr, 0, none⟩)] (.int .i64 e2) (by intro _; simp [go_sem]) (by kernel_rfl) (fun w1 hl => HER.out w1 (T4.later hl.1)) ?_
          simp only [Act.put, List.setIfInBounds_toArray, List.set_cons_zero, List.set_cons_succ]
          repeat (refine wpG_quiet (by rfl) (by rfl) (by rfl) (fun K hK => ?_); go_big_quiet_op; refine hK _ ?_; clear hK K)
          refine wpG_call (by rfl) (by rfl) 31 #[.pointer (some ⟨gr, 0, none⟩)] (.int .i64 en) (by intro _; simp [go_sem]) (by kernel_rfl) (fun w1 hl => HE1.out w1 (T4.later hl.1)) ?_
          simp only [Act.put, List.setIfInBounds_toArray, List.set_cons_zero, List.set_cons_succ]
          repeat (refine wpG_quiet (by rfl) (by rfl) (by rfl) (fun K hK => ?_); go_big_quiet_op; refine hK _ ?_; clear hK K)
          refine wpG_call (by rfl) (by rfl) 32 #[.pointer (some ⟨gm, 0, none⟩)] (.int .i64 en) (by intro _; simp [go_sem]) (by kernel_rfl) (fun w1 hl => HE2.out w1 (T4.later hl.1)) ?_
          simp only [Act.put, List.setIfInBounds_toArray, List.set_cons_zero, List.set_cons_succ]
          repeat (refine wpG_quiet (by rfl) (by rfl) (by rfl) (fun K hK => ?_); go_big_quiet_op; refine hK _ ?_; clear hK K)
          refine wpG_nil (fun w5 hl5 _ => ?_)
          have T5 := T4.later hl5
          go_wp2_with fail
          go_roundw
          case rel => exact ⟨k + 1, a2, e2, by omega, by omega, by go_num, T5, ha2, hm⟩
          case measure => simp [intOf]; omega
        · have c1 : decide (x < 0) = false := by simpa using hlo
          have c2 : decide (2 < x) = true := by simp; omega
          clear h0 h1 h2' hlo
          go_wp2_with fail
          go_quiet (fail)
          go_wp2_with fail
          go_quiet (fail)
          go_wp2_with fail
          refine (H1.out _ ?_).mono ?_
          · exact HT2.out.later ⟨rfl, rfl, rfl, Nat.le_refl _, fun _ _ => rfl⟩
          rintro e' w3 ⟨rfl, T3⟩
          go_wp2_with fail
          refine (H2.out _ T3).mono ?_
          rintro e' w4 ⟨rfl, T4⟩
          have hx3 := (HL.out _ _ _ _ _ _ T4).1
          have hy3 := (HL.out _ _ _ _ _ _ T4).2
          obtain ⟨rest, hrest⟩ : ∃ r, r = l.length - a2 := ⟨_, rfl⟩
          obtain ⟨sr, hsr⟩ : ∃ sr, sr = str (l.drop a2) := ⟨_, rfl⟩
          have zr : sr.size = rest := by rw [hsr, str_size, List.length_drop, hrest]
          have hr2 : rest ≤ 2000 := by omega
          obtain ⟨en, hen⟩ : ∃ en, en = endOut l.length a2 e2 := ⟨_, rfl⟩
          have HLE := Lib.hid (fun wx (T : Two w wx gr gm l a2 e2 (l.drop a2) e2) => two_left T ha2 hm rest hrest)
          have HER := Lib.hid (fun wx (T : Two w wx gr gm l a2 e2 (l.drop a2) e2) => two_err T)
          have HE1 := Lib.hid (fun wx (T : Two w wx gr gm l a2 e2 (l.drop a2) e2) => two_end1 T ha2 hm)
          have HE2 := Lib.hid (fun wx (T : Two w wx gr gm l a2 e2 (l.drop a2) e2) => two_end2 T ha2)
          rw [← hen] at HE1 HE2
          have hm0 : ∀ k : LW w4, k.val.cell? ⟨gm, 0, none⟩ = some (.string sr) := fun k => by rw [hsr]; exact (two_cells (T4.later k.le)).1
          have hm1 : ∀ k : LW w4, k.val.cell? ⟨gm, 1, none⟩ = some (.int .i64 e2) := fun k => (two_cells (T4.later k.le)).2
          clear hrest hsr hen
          go_wp2_with fail
          refine wp_region_steady [] 173 (by kernel_rfl) (by kernel_rfl) (by kernel_rfl) (by rfl) ?_
          repeat (refine wpG_quiet (by rfl) (by rfl) (by rfl) (fun K hK => ?_); go_big_quiet_op; refine hK _ ?_; clear hK K)
          refine wpG_call (by rfl) (by rfl) 29 #[.pointer (some ⟨gr, 0, none⟩)] (.int .i64 rest) (by intro _; simp [go_sem]) (by kernel_rfl) (fun w1 hl => HLE.out w1 (T4.later hl.1)) ?_
          simp only [Act.put, List.setIfInBounds_toArray, List.set_cons_zero, List.set_cons_succ]
          repeat (refine wpG_quiet (by rfl) (by rfl) (by rfl) (fun K hK => ?_); go_big_quiet_op; refine hK _ ?_; clear hK K)
          refine wpG_call (by rfl) (by rfl) 30 #[.pointer (some ⟨gr, 0, none⟩)] (.int .i64 e2) (by intro _; simp [go_sem]) (by kernel_rfl) (fun w1 hl => HER.out w1 (T4.later hl.1)) ?_
          simp only [Act.put, List.setIfInBounds_toArray, List.set_cons_zero, List.set_cons_succ]
          repeat (refine wpG_quiet (by rfl) (by rfl) (by rfl) (fun K hK => ?_); go_big_quiet_op; refine hK _ ?_; clear hK K)
          refine wpG_call (by rfl) (by rfl) 31 #[.pointer (some ⟨gr, 0, none⟩)] (.int .i64 en) (by intro _; simp [go_sem]) (by kernel_rfl) (fun w1 hl => HE1.out w1 (T4.later hl.1)) ?_
          simp only [Act.put, List.setIfInBounds_toArray, List.set_cons_zero, List.set_cons_succ]
          repeat (refine wpG_quiet (by rfl) (by rfl) (by rfl) (fun K hK => ?_); go_big_quiet_op; refine hK _ ?_; clear hK K)
          refine wpG_call (by rfl) (by rfl) 32 #[.pointer (some ⟨gm, 0, none⟩)] (.int .i64 en) (by intro _; simp [go_sem]) (by kernel_rfl) (fun w1 hl => HE2.out w1 (T4.later hl.1)) ?_
          simp only [Act.put, List.setIfInBounds_toArray, List.set_cons_zero, List.set_cons_succ]
          repeat (refine wpG_quiet (by rfl) (by rfl) (by rfl) (fun K hK => ?_); go_big_quiet_op; refine hK _ ?_; clear hK K)
          refine wpG_nil (fun w5 hl5 _ => ?_)
          have T5 := T4.later hl5
          go_wp2_with fail
          go_roundw
          case rel => exact ⟨k + 1, a2, e2, by omega, by omega, by go_num, T5, ha2, hm⟩
          case measure => simp [intOf]; omega
    · by_cases hl1 : k < np
      · have q1 : decide ((k : Int) < (np : Int)) = true := by simp; omega
        have q2 : decide ((k : Int) < 100) = false := by simp; omega
        obtain ⟨rest, hrest⟩ : ∃ r, r = l.length - a := ⟨_, rfl⟩
        obtain ⟨sr, hsr⟩ : ∃ sr, sr = str (l.drop a) := ⟨_, rfl⟩
        have zr : sr.size = rest := by rw [hsr, str_size, List.length_drop, hrest]
        have hr2 : rest ≤ 2000 := by omega
        have HLE := Lib.hid (fun wx (T : Two w wx gr gm l a e (l.drop a) e) => two_left T ha hm rest hrest)
        have hm0 : ∀ k : LW wr, k.val.cell? ⟨gm, 0, none⟩ = some (.string sr) := fun k => by rw [hsr]; exact (two_cells (T.later k.le)).1
        have hem : (str []) = { data := #[] } := rfl
        clear hrest hsr T
        go_wp2_with fail
        refine (nil_fail _ _).mono ?_
        rintro e' w3 ⟨rfl, rfl⟩
        go_wp2_with fail
        refine wp_region_steady [] 173 (by kernel_rfl) (by kernel_rfl) (by kernel_rfl) (by rfl) ?_
        repeat (refine wpG_quiet (by rfl) (by rfl) (by rfl) (fun K hK => ?_); go_big_quiet_op; refine hK _ ?_; clear hK K)
        refine wpG_call (by rfl) (by rfl) 21 #[.pointer none, .int .i64 9] (.int .i64 0) (by intro _; simp [go_sem]) (by kernel_rfl) (fun w1 hl => (nil_num w1 9).mono fun _ _ h => ⟨h.1, h.2 ▸ Below.refl _ _⟩) ?_
        simp only [Act.put, List.setIfInBounds_toArray, List.set_cons_zero, List.set_cons_succ]
        repeat (refine wpG_quiet (by rfl) (by rfl) (by rfl) (fun K hK => ?_); go_big_quiet_op; refine hK _ ?_; clear hK K)
        refine wpG_call (by rfl) (by rfl) 23 #[.pointer none, .int .i64 9] (.string (str [])) (by intro _; simp [go_sem]) (by kernel_rfl) (fun w1 hl => (nil_str w1 9).mono fun _ _ h => ⟨h.1, h.2 ▸ Below.refl _ _⟩) ?_
        simp only [Act.put, List.setIfInBounds_toArray, List.set_cons_zero, List.set_cons_succ]
        repeat (refine wpG_quiet (by rfl) (by rfl) (by rfl) (fun K hK => ?_); go_big_quiet_op; refine hK _ ?_; clear hK K)
        refine wpG_call (by rfl) (by rfl) 25 #[.pointer none] (.bool false) (by intro _; simp [go_sem]) (by kernel_rfl) (fun w1 hl => (nil_flag w1).mono fun _ _ h => ⟨h.1, h.2 ▸ Below.refl _ _⟩) ?_
        simp only [Act.put, List.setIfInBounds_toArray, List.set_cons_zero, List.set_cons_succ]
        repeat (refine wpG_quiet (by rfl) (by rfl) (by rfl) (fun K hK => ?_); go_big_quiet_op; refine hK _ ?_; clear hK K)
        refine wpG_call (by rfl) (by rfl) 29 #[.pointer none] (.int .i64 0) (by intro _; simp [go_sem]) (by kernel_rfl) (fun w1 hl => (nil_left w1).mono fun _ _ h => ⟨h.1, h.2 ▸ Below.refl _ _⟩) ?_
        simp only [Act.put, List.setIfInBounds_toArray, List.set_cons_zero, List.set_cons_succ]
        repeat (refine wpG_quiet (by rfl) (by rfl) (by rfl) (fun K hK => ?_); go_big_quiet_op; refine hK _ ?_; clear hK K)
        refine wpG_call (by rfl) (by rfl) 30 #[.pointer none] (.int .i64 1) (by intro _; simp [go_sem]) (by kernel_rfl) (fun w1 hl => (nil_err w1).mono fun _ _ h => ⟨h.1, h.2 ▸ Below.refl _ _⟩) ?_
        simp only [Act.put, List.setIfInBounds_toArray, List.set_cons_zero, List.set_cons_succ]
        repeat (refine wpG_quiet (by rfl) (by rfl) (by rfl) (fun K hK => ?_); go_big_quiet_op; refine hK _ ?_; clear hK K)
        refine wpG_call (by rfl) (by rfl) 31 #[.pointer none] (.int .i64 1) (by intro _; simp [go_sem]) (by kernel_rfl) (fun w1 hl => (nil_end w1).mono fun _ _ h => ⟨h.1, h.2 ▸ Below.refl _ _⟩) ?_
        simp only [Act.put, List.setIfInBounds_toArray, List.set_cons_zero, List.set_cons_succ]
        repeat (refine wpG_quiet (by rfl) (by rfl) (by rfl) (fun K hK => ?_); go_big_quiet_op; refine hK _ ?_; clear hK K)
        refine wpG_call (by rfl) (by rfl) 29 #[.pointer (some ⟨gr, 0, none⟩)] (.int .i64 rest) (by intro _; simp [go_sem]) (by kernel_rfl) (fun w1 hl => HLE.out w1 (HT.out.later hl.1)) ?_
        simp only [Act.put, List.setIfInBounds_toArray, List.set_cons_zero, List.set_cons_succ]
        repeat (refine wpG_quiet (by rfl) (by rfl) (by rfl) (fun K hK => ?_); go_big_quiet_op; refine hK _ ?_; clear hK K)
        refine wpG_call (by rfl) (by rfl) 13 #[] (.bool true) (by intro _; simp [go_sem]) (by kernel_rfl) (fun w1 hl => oct_awake w1) ?_
        simp only [Act.put, List.setIfInBounds_toArray, List.set_cons_zero, List.set_cons_succ]
        repeat (refine wpG_quiet (by rfl) (by rfl) (by rfl) (fun K hK => ?_); go_big_quiet_op; refine hK _ ?_; clear hK K)
        refine wpG_nil (fun w5 hl5 _ => ?_)
        have T5 := HT.out.later hl5
        go_wp2_with fail
        go_ret
        exact ⟨rfl, T5.2.2.2⟩
      · have q1 : decide ((k : Int) < (np : Int)) = false := by simp; omega
        obtain ⟨rest, hrest⟩ : ∃ r, r = l.length - a := ⟨_, rfl⟩
        obtain ⟨sr, hsr⟩ : ∃ sr, sr = str (l.drop a) := ⟨_, rfl⟩
        have zr : sr.size = rest := by rw [hsr, str_size, List.length_drop, hrest]
        have hr2 : rest ≤ 2000 := by omega
        have HLE := Lib.hid (fun wx (T : Two w wx gr gm l a e (l.drop a) e) => two_left T ha hm rest hrest)
        have hm0 : ∀ k : LW wr, k.val.cell? ⟨gm, 0, none⟩ = some (.string sr) := fun k => by rw [hsr]; exact (two_cells (T.later k.le)).1
        have hem : (str []) = { data := #[] } := rfl
        clear hrest hsr T
        go_wp2_with fail
        refine (nil_fail _ _).mono ?_
        rintro e' w3 ⟨rfl, rfl⟩
        go_wp2_with fail
        refine wp_region_steady [] 173 (by kernel_rfl) (by kernel_rfl) (by kernel_rfl) (by rfl) ?_
        repeat (refine wpG_quiet (by rfl) (by rfl) (by rfl) (fun K hK => ?_); go_big_quiet_op; refine hK _ ?_; clear hK K)
        refine wpG_call (by rfl) (by rfl) 21 #[.pointer none, .int .i64 9] (.int .i64 0) (by intro _; simp [go_sem]) (by kernel_rfl) (fun w1 hl => (nil_num w1 9).mono fun _ _ h => ⟨h.1, h.2 ▸ Below.refl _ _⟩) ?_
        simp only [Act.put, List.setIfInBounds_toArray, List.set_cons_zero, List.set_cons_succ]
        repeat (refine wpG_quiet (by rfl) (by rfl) (by rfl) (fun K hK => ?_); go_big_quiet_op; refine hK _ ?_; clear hK K)
        refine wpG_call (by rfl) (by rfl) 23 #[.pointer none, .int .i64 9] (.string (str [])) (by intro _; simp [go_sem]) (by kernel_rfl) (fun w1 hl => (nil_str w1 9).mono fun _ _ h => ⟨h.1, h.2 ▸ Below.refl _ _⟩) ?_
        simp only [Act.put, List.setIfInBounds_toArray, List.set_cons_zero, List.set_cons_succ]
        repeat (refine wpG_quiet (by rfl) (by rfl) (by rfl) (fun K hK => ?_); go_big_quiet_op; refine hK _ ?_; clear hK K)
        refine wpG_call (by rfl) (by rfl) 25 #[.pointer none] (.bool false) (by intro _; simp [go_sem]) (by kernel_rfl) (fun w1 hl => (nil_flag w1).mono fun _ _ h => ⟨h.1, h.2 ▸ Below.refl _ _⟩) ?_
        simp only [Act.put, List.setIfInBounds_toArray, List.set_cons_zero, List.set_cons_succ]
        repeat (refine wpG_quiet (by rfl) (by rfl) (by rfl) (fun K hK => ?_); go_big_quiet_op; refine hK _ ?_; clear hK K)
        refine wpG_call (by rfl) (by rfl) 29 #[.pointer none] (.int .i64 0) (by intro _; simp [go_sem]) (by kernel_rfl) (fun w1 hl => (nil_left w1).mono fun _ _ h => ⟨h.1, h.2 ▸ Below.refl _ _⟩) ?_
        simp only [Act.put, List.setIfInBounds_toArray, List.set_cons_zero, List.set_cons_succ]
        repeat (refine wpG_quiet (by rfl) (by rfl) (by rfl) (fun K hK => ?_); go_big_quiet_op; refine hK _ ?_; clear hK K)
        refine wpG_call (by rfl) (by rfl) 30 #[.pointer none] (.int .i64 1) (by intro _; simp [go_sem]) (by kernel_rfl) (fun w1 hl => (nil_err w1).mono fun _ _ h => ⟨h.1, h.2 ▸ Below.refl _ _⟩) ?_
        simp only [Act.put, List.setIfInBounds_toArray, List.set_cons_zero, List.set_cons_succ]
        repeat (refine wpG_quiet (by rfl) (by rfl) (by rfl) (fun K hK => ?_); go_big_quiet_op; refine hK _ ?_; clear hK K)
        refine wpG_call (by rfl) (by rfl) 31 #[.pointer none] (.int .i64 1) (by intro _; simp [go_sem]) (by kernel_rfl) (fun w1 hl => (nil_end w1).mono fun _ _ h => ⟨h.1, h.2 ▸ Below.refl _ _⟩) ?_
        simp only [Act.put, List.setIfInBounds_toArray, List.set_cons_zero, List.set_cons_succ]
        repeat (refine wpG_quiet (by rfl) (by rfl) (by rfl) (fun K hK => ?_); go_big_quiet_op; refine hK _ ?_; clear hK K)
        refine wpG_call (by rfl) (by rfl) 29 #[.pointer (some ⟨gr, 0, none⟩)] (.int .i64 rest) (by intro _; simp [go_sem]) (by kernel_rfl) (fun w1 hl => HLE.out w1 (HT.out.later hl.1)) ?_
        simp only [Act.put, List.setIfInBounds_toArray, List.set_cons_zero, List.set_cons_succ]
        repeat (refine wpG_quiet (by rfl) (by rfl) (by rfl) (fun K hK => ?_); go_big_quiet_op; refine hK _ ?_; clear hK K)
        refine wpG_call (by rfl) (by rfl) 13 #[] (.bool true) (by intro _; simp [go_sem]) (by kernel_rfl) (fun w1 hl => oct_awake w1) ?_
        simp only [Act.put, List.setIfInBounds_toArray, List.set_cons_zero, List.set_cons_succ]
        repeat (refine wpG_quiet (by rfl) (by rfl) (by rfl) (fun K hK => ?_); go_big_quiet_op; refine hK _ ?_; clear hK K)
        refine wpG_nil (fun w5 hl5 _ => ?_)
        have T5 := HT.out.later hl5
        go_wp2_with fail
        go_ret
        exact ⟨rfl, T5.2.2.2⟩
end Go.Proofs.Ytgnkkbgphghioaa
