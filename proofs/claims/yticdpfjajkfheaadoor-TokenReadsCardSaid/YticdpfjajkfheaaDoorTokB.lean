/- A token as it is read of bytes: the document's. -/
import Derived.Test.YticdpfjajkfheaaDoorTokA
namespace Go.Proofs.YticdpfjajkfheaaDoor
set_option linter.unusedVariables false
open Go Go.RowKit OctM

theorem Rr.off {w w' : World} {base g m : Nat} {l : List UInt8} {e : Int} (h : Rr w base g l e) (hg : w.grownBy w' (some m)) (hm : m ≠ g) : Rr w' base g l e :=
  Own.kept h hg (.inr (by simp [Value.ownBlock]; omega))
theorem rr_numd (base g : Nat) (l : List UInt8) (a : Nat) (e y : Int) (w : World) (h : Rr w base g (l.drop a) e) (hm : l.length ≤ 2000) :
    Calls Tryd.prog 52 #[.pointer (some ⟨g, 0, none⟩), .int .i64 y] w fun x w' => x = .returned (.int .i64 ((numOut l a e y).1 : Nat)) ∧ Rr w' base g (l.drop (numOut l a e y).2.1) (numOut l a e y).2.2 ∧ w.grownBy w' (some g) :=
  (rr_num base g (l.drop a) e y w h (by simp; omega)).mono fun x w' h => by
    rw [same_num] at h
    exact h

set_option maxRecDepth 100000 in
set_option maxHeartbeats 3200000 in
theorem rr_above (base g : Nat) (l : List UInt8) (a : Nat) (e y : Int) (w : World) (h : Rr w base g (l.drop a) e) (hm : l.length ≤ 2000) :
    Calls Tryd.prog 53 #[.pointer (some ⟨g, 0, none⟩), .int .i64 y] w fun x w' => x = .returned (.int .i64 ((numOut l a e y).1 : Nat)) ∧ Rr w' base g (l.drop (numOut l a e y).2.1) (if (numOut l a e y).1 = 0 then failOut (numOut l a e y).2.2 3 else (numOut l a e y).2.2) ∧ w.grownBy w' (some g) := by
  have H1 := Lib.hid (rr_numd base g l a e y w h hm)
  obtain ⟨r1, hr1⟩ : ∃ r, r = numOut l a e y := ⟨_, rfl⟩
  rw [← hr1] at H1 ⊢
  clear hr1 h hm
  obtain ⟨v1, a1, e1⟩ := r1
  simp only at H1 ⊢
  have HF : Hid (∀ wx, Rr wx base g (l.drop a1) e1 → Calls Tryd.prog 73 #[.pointer (some ⟨g, 0, none⟩), .int .i64 3] wx fun x w' => x = .returned (.tuple #[]) ∧ Rr w' base g (l.drop a1) (failOut e1 3) ∧ wx.grownBy w' (some g)) := Lib.hid fun wx hx => rr_fail base g (l.drop a1) e1 3 wx hx
  obtain ⟨E, hE⟩ : ∃ z, z = (if v1 = 0 then failOut e1 3 else e1) := ⟨_, rfl⟩
  rw [← hE]
  obtain ⟨bz, hbz⟩ : ∃ b, b = (((v1 : Nat) : Int) == 0) := ⟨_, rfl⟩
  obtain ⟨be, hbe⟩ : ∃ b, b = (e1 == 0) := ⟨_, rfl⟩
  have ke : (e1 == 0) = be := hbe.symm
  have kz : (((v1 : Nat) : Int) == 0) = bz := hbz.symm
  cases be
  · have HE : Hid (E = e1) := Lib.hid (by rw [hE]; have : e1 ≠ 0 := by simpa using hbe.symm
                                          unfold failOut; rw [if_neg this]; split <;> rfl)
    clear hE hbz hbe kz
    go_enter Tryd.func53, Tryd.ntmps53
    go_wp2_with fail
    refine H1.out.mono ?_
    rintro x w1 ⟨rfl, R1, G1⟩
    obtain ⟨q0, q1, f0, f1⟩ := R1.facts
    go_wp2_with fail
    go_ret
    exact ⟨rfl, by rw [HE.out]; exact R1, G1⟩
  · cases bz
    · have HE : Hid (E = e1) := Lib.hid (by rw [hE]; exact if_neg (by simpa using hbz))
      clear hE hbz hbe
      go_enter Tryd.func53, Tryd.ntmps53
      go_wp2_with fail
      refine H1.out.mono ?_
      rintro x w1 ⟨rfl, R1, G1⟩
      obtain ⟨q0, q1, f0, f1⟩ := R1.facts
      go_wp2_with fail
      go_ret
      exact ⟨rfl, by rw [HE.out]; exact R1, G1⟩
    · have HE : Hid (E = failOut e1 3) := Lib.hid (by rw [hE]; exact if_pos (by simpa using hbz))
      clear hE hbz hbe
      go_enter Tryd.func53, Tryd.ntmps53
      go_wp2_with fail
      refine H1.out.mono ?_
      rintro x w1 ⟨rfl, R1, G1⟩
      obtain ⟨q0, q1, f0, f1⟩ := R1.facts
      go_wp2_with fail
      refine (HF.out _ R1).mono ?_
      rintro x w2 ⟨rfl, R2, G2⟩
      clear q0 q1 f0 f1
      go_wp2_with fail
      go_ret
      exact ⟨rfl, by rw [HE.out]; exact R2, G1.trans G2⟩

set_option maxRecDepth 100000 in
set_option maxHeartbeats 3200000 in
theorem rr_tok (base g : Nat) (l : List UInt8) (a : Nat) (e : Int) (w : World) (h : Rr w base g (l.drop a) e) (hm : l.length ≤ 2000) :
    Calls Tryd.prog 29 #[.pointer (some ⟨g, 0, none⟩)] w fun x w' => x = .returned (.agg (tk4 (tokOut l a e).1).toArray) ∧ Rr w' base g (l.drop (tokOut l a e).2.1) (tokOut l a e).2.2 ∧ w.grownBy w' (some g) := by
  have hg := h.block.2
  obtain ⟨T, hT⟩ : ∃ T, T = tokOut l a e := ⟨_, rfl⟩
  rw [← hT]
  unfold tokOut at hT
  have H1 : Hid (∀ wx, Rr wx base g (l.drop a) e → Calls Tryd.prog 52 #[.pointer (some ⟨g, 0, none⟩), .int .i64 5] wx fun x w' => x = .returned (.int .i64 ((numOut l a e 5).1 : Nat)) ∧ Rr w' base g (l.drop (numOut l a e 5).2.1) (numOut l a e 5).2.2 ∧ wx.grownBy w' (some g)) := Lib.hid fun wx hx => rr_numd base g l a e 5 wx hx hm
  obtain ⟨r1, hr1⟩ : ∃ r, r = numOut l a e 5 := ⟨_, rfl⟩
  rw [← hr1] at H1 hT
  obtain ⟨v1, a1, e1⟩ := r1
  simp only at H1 hT
  have H2 : Hid (∀ wx, Rr wx base g (l.drop a1) e1 → Calls Tryd.prog 53 #[.pointer (some ⟨g, 0, none⟩), .int .i64 1099511627776] wx fun x w' => x = .returned (.int .i64 ((numOut l a1 e1 1099511627776).1 : Nat)) ∧ Rr w' base g (l.drop (numOut l a1 e1 1099511627776).2.1) (if (numOut l a1 e1 1099511627776).1 = 0 then failOut (numOut l a1 e1 1099511627776).2.2 3 else (numOut l a1 e1 1099511627776).2.2) ∧ wx.grownBy w' (some g)) := Lib.hid fun wx hx => rr_above base g l a1 e1 1099511627776 wx hx hm
  obtain ⟨r2, hr2⟩ : ∃ r, r = numOut l a1 e1 1099511627776 := ⟨_, rfl⟩
  rw [← hr2] at H2 hT
  obtain ⟨v2, a2, e2⟩ := r2
  simp only at H2 hT
  obtain ⟨e5, he5⟩ : ∃ z, z = (if v2 = 0 then failOut e2 3 else e2) := ⟨_, rfl⟩
  rw [← he5] at hT H2
  have H3 : Hid (∀ wx, Rr wx base g (l.drop a2) e5 → Calls Tryd.prog 52 #[.pointer (some ⟨g, 0, none⟩), .int .i64 1099511627776] wx fun x w' => x = .returned (.int .i64 ((numOut l a2 e5 1099511627776).1 : Nat)) ∧ Rr w' base g (l.drop (numOut l a2 e5 1099511627776).2.1) (numOut l a2 e5 1099511627776).2.2 ∧ wx.grownBy w' (some g)) := Lib.hid fun wx hx => rr_numd base g l a2 e5 1099511627776 wx hx hm
  obtain ⟨r3, hr3⟩ : ∃ r, r = numOut l a2 e5 1099511627776 := ⟨_, rfl⟩
  rw [← hr3] at H3 hT
  obtain ⟨v3, a3, e3⟩ := r3
  simp only at H3 hT
  have H4 : Hid (∀ wx, Rr wx base g (l.drop a3) e3 → Calls Tryd.prog 52 #[.pointer (some ⟨g, 0, none⟩), .int .i64 1073741824] wx fun x w' => x = .returned (.int .i64 ((numOut l a3 e3 1073741824).1 : Nat)) ∧ Rr w' base g (l.drop (numOut l a3 e3 1073741824).2.1) (numOut l a3 e3 1073741824).2.2 ∧ wx.grownBy w' (some g)) := Lib.hid fun wx hx => rr_numd base g l a3 e3 1073741824 wx hx hm
  obtain ⟨r4, hr4⟩ : ∃ r, r = numOut l a3 e3 1073741824 := ⟨_, rfl⟩
  rw [← hr4] at H4 hT
  obtain ⟨v4, a4, e4⟩ := r4
  simp only at H4 hT
  have HT := Lib.hid hT
  clear hr1 hr2 hr3 hr4 hT he5 hm
  have B2 := Blk.new w (tks 0 0 0 0) 42
  have R0 := h.later ((Below.refl w.heap.size w).alloc (Nat.le_refl _) (.cells (tks 0 0 0 0).toArray 42))
  have G0 := World.grownBy_alloc w (.cells (tks 0 0 0 0).toArray 42) (some g)
  have hu := Tryd.underlying42
  clear h
  have hne : (some g : Option Nat) ≠ some w.heap.size := by simp; omega
  obtain ⟨be, hbe⟩ : ∃ b, b = (e4 != 0) := ⟨_, rfl⟩
  have ke : (e4 != 0) = be := hbe.symm
  have HTO : Hid ((be = true → tk4 T.1 = (tks 0 0 0 0)) ∧ (be = false → tk4 T.1 = (tks (v1 : Int) (v2 : Int) (v3 : Int) (v4 : Int))) ∧ T.2.1 = a4 ∧ T.2.2 = e4) := Lib.hid ⟨fun h => by rw [HT.out, if_neg (by rw [h] at hbe; simpa using hbe.symm)]; rfl, fun h => by rw [HT.out, if_pos (by rw [h] at hbe; simpa using hbe.symm)]; rfl, by rw [HT.out], by rw [HT.out]⟩
  clear hbe HT
  go_enter Tryd.func29, Tryd.ntmps29
  go_wp2_with fail
  refine (H1.out _ R0).mono ?_
  rintro x w2 ⟨rfl, R2, G2⟩
  replace B2 := B2.kept G2 hne
  have GG := G0.trans G2
  have B3 := Blk.new w2 (tks 0 0 0 0) 42
  have T3 := B3.there 0 4 (Nat.le_refl _)
  have S3 := B3.wholeT (ds := tks (v1 : Int) 0 0 0) rfl
  have LE3 : Le w2 (World.setCells (w2.alloc (.cells (tks 0 0 0 0).toArray 42)) w2.heap.size 0 (tks (v1 : Int) 0 0 0)) := below_sets (Nat.le_refl _) _ 0 ((Below.refl w2.heap.size w2).alloc (Nat.le_refl _) _)
  have O3 := tks_one (v1 : Int) 0 0 0
  have hsz := GG.size
  clear B3 G0 G2 R0
  obtain ⟨g3, hg3⟩ : ∃ z, z = w2.heap.size := ⟨_, rfl⟩
  have hb2 := B2.lt
  rw [← hg3] at T3 S3 LE3 hsz hb2
  have HG3 := Lib.hid hg3
  clear hg3
  go_wp2_with (first
    | (rw [← HG3.out]
       refine wpList_store_mid rfl 42 (.tmp 3) (.tmp 6) rfl g3 0 (tks (v1 : Int) 0 0 0).toArray rfl rfl T3 info_tok O3 ?_
       simp only [Act.put]
       generalize hw3 : World.setCells _ g3 0 (tks (v1 : Int) 0 0 0).toArray.toList = w3
       have S4 : Blk w3 g3 (tks (v1 : Int) 0 0 0) := hw3 ▸ S3
       have LE3' : Le w2 w3 := hw3 ▸ LE3
       clear hw3 T3 S3 LE3 O3)
    | fail)
  have hne3 : (some g : Option Nat) ≠ some g3 := by simp; omega
  have R3 := R2.later LE3'
  replace B2 := B2.later LE3'
  replace GG := GG.trans (grown_none LE3' _)
  clear R2 LE3'
  refine (H2.out _ R3).mono ?_
  rintro x wA2 ⟨rfl, R4, G4⟩
  replace B2 := B2.kept G4 hne
  replace S4 := S4.kept G4 hne3
  replace GG := GG.trans G4
  clear R3 G4
  have f1 := S4.frozen 1
  have q1 : wA2.cell? ⟨g3, 1, none⟩ = some (.int .i64 0) := S4.cell rfl
  have G8 := grown_set1 wA2 g3 1 (.int .i64 (v2 : Int))
  obtain ⟨wB2, hwB2⟩ : ∃ z, z = wA2.setCell ⟨g3, 1, none⟩ (.int .i64 (v2 : Int)) := ⟨_, rfl⟩
  replace S4 := S4.set 1 (.int .i64 (v2 : Int))
  replace B2 := B2.setOther (b := g3) 1 (.int .i64 (v2 : Int)) (by omega)
  rw [← hwB2] at G8 S4 B2
  replace R4 := R4.off G8 (by omega)
  replace GG := grown_new GG G8 hsz
  have HN := Lib.hid hwB2
  clear hwB2 G8
  go_wp2_with fail
  rw [← HN.out]
  clear HN f1 q1
  have P3 := R4
  clear R4
  refine (H3.out _ P3).mono ?_
  rintro x wA3 ⟨rfl, R4, G4⟩
  replace B2 := B2.kept G4 hne
  replace S4 := S4.kept G4 hne3
  replace GG := GG.trans G4
  clear P3 G4
  have f2 := S4.frozen 2
  have q2 : wA3.cell? ⟨g3, 2, none⟩ = some (.int .i64 0) := S4.cell rfl
  have G8 := grown_set1 wA3 g3 2 (.int .i64 (v3 : Int))
  obtain ⟨wB3, hwB3⟩ : ∃ z, z = wA3.setCell ⟨g3, 2, none⟩ (.int .i64 (v3 : Int)) := ⟨_, rfl⟩
  replace S4 := S4.set 2 (.int .i64 (v3 : Int))
  replace B2 := B2.setOther (b := g3) 2 (.int .i64 (v3 : Int)) (by omega)
  rw [← hwB3] at G8 S4 B2
  replace R4 := R4.off G8 (by omega)
  replace GG := grown_new GG G8 hsz
  have HN := Lib.hid hwB3
  clear hwB3 G8
  go_wp2_with fail
  rw [← HN.out]
  clear HN f2 q2
  have P4 := R4
  clear R4
  refine (H4.out _ P4).mono ?_
  rintro x wA ⟨rfl, R4, G4⟩
  replace B2 := B2.kept G4 hne
  replace S4 := S4.kept G4 hne3
  replace GG := GG.trans G4
  clear P4 G4
  have f3 := S4.frozen 3
  have q3 : wA.cell? ⟨g3, 3, none⟩ = some (.int .i64 0) := S4.cell rfl
  have G8 := grown_set1 wA g3 3 (.int .i64 (v4 : Int))
  have S8 : Blk (wA.setCell ⟨g3, 3, none⟩ (.int .i64 (v4 : Int))) g3 (tks (v1 : Int) (v2 : Int) (v3 : Int) (v4 : Int)) := S4.set 3 (.int .i64 (v4 : Int))
  have B8 := B2.setOther (b := g3) 3 (.int .i64 (v4 : Int)) (by omega)
  have R8 := R4.off G8 (by omega)
  have GG8 := grown_new GG G8 hsz
  have T8 := B8.there 0 4 (Nat.le_refl _)
  have RG := S8.range 0 (tks (v1 : Int) (v2 : Int) (v3 : Int) (v4 : Int)) rfl
  obtain ⟨p0, p1, p2, p3⟩ := R8.facts
  clear S4 B2 R4 GG G8 S8
  cases be
  · have FIN := B8.wholeT (ds := (tks (v1 : Int) (v2 : Int) (v3 : Int) (v4 : Int))) rfl
    have O8 := tks_one (v1 : Int) (v2 : Int) (v3 : Int) (v4 : Int)
    have R9 := R8.off (grown_sets4 w.heap.size (tks (v1 : Int) (v2 : Int) (v3 : Int) (v4 : Int)) 0 _) (by omega)
    have G9 := grown_new GG8 (grown_sets4 w.heap.size (tks (v1 : Int) (v2 : Int) (v3 : Int) (v4 : Int)) 0 _) (Nat.le_refl _)
    clear B8 R8 GG8
    go_wp2_with (first
      | (refine wpList_load_mid rfl 42 (.tmp 3) rfl g3 0 rfl (tks (v1 : Int) (v2 : Int) (v3 : Int) (v4 : Int)) _ RG hu rfl info_tok ?_)
      | (refine wpList_store_mid rfl 42 (.tmp 2) (.tmp 22) rfl w.heap.size 0 (tks (v1 : Int) (v2 : Int) (v3 : Int) (v4 : Int)).toArray rfl rfl T8 info_tok O8 ?_)
      | fail)
    exact bodyPost_ret (v := .agg (tks (v1 : Int) (v2 : Int) (v3 : Int) (v4 : Int)).toArray) (tok_results (q := 2) rfl _ _ w.heap.size _ _ rfl FIN hu rfl info_tok) rfl ⟨by rw [HTO.out.2.1 trivial], by rw [HTO.out.2.2.1, HTO.out.2.2.2]; exact R9, G9⟩
  · have FIN := B8.wholeT (ds := (tks 0 0 0 0)) rfl
    have O8 := tks_one 0 0 0 0
    have R9 := R8.off (grown_sets4 w.heap.size (tks 0 0 0 0) 0 _) (by omega)
    have G9 := grown_new GG8 (grown_sets4 w.heap.size (tks 0 0 0 0) 0 _) (Nat.le_refl _)
    clear B8 R8 GG8
    go_wp2_with (first
      | (refine wpList_store_mid rfl 42 (.tmp 2) (.tmp 21) rfl w.heap.size 0 (tks 0 0 0 0).toArray rfl rfl T8 info_tok O8 ?_)
      | fail)
    exact bodyPost_ret (v := .agg (tks 0 0 0 0).toArray) (tok_results (q := 2) rfl _ _ w.heap.size _ _ rfl FIN hu rfl info_tok) rfl ⟨by rw [HTO.out.1 trivial], by rw [HTO.out.2.2.1, HTO.out.2.2.2]; exact R9, G9⟩
end Go.Proofs.YticdpfjajkfheaaDoor
