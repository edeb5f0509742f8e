/- Values as they are read of bytes: the document's; a number above 0. -/
import Derived.Test.YtgpbglmlakildaaG13
import Derived.Test.YtgpbglmlakildaaG14
import Derived.Test.YtgpbglmlakildaaG11
namespace Go.Proofs.Ytgpbglmlakildaa
set_option linter.unusedVariables false
open Go Go.RowKit OctM

set_option maxRecDepth 100000 in
set_option maxHeartbeats 3200000 in
theorem rr_value0 (base g : Nat) (l : List UInt8) (a : Nat) (e : Int) (w : World) (h : Rr w base g (l.drop a) e) (ha : a ≤ l.length) (hm : l.length ≤ 2000) (hc : (numOut l a e 2).1 ≠ 1 ∧ (numOut l a e 2).1 ≠ 2) (T : V3 × Nat × Int) (hT : T = valEnd ((numOut l a e 2).1 : Nat) 0 [] (numOut l a e 2).2.1 (numOut l a e 2).2.2) :
    Calls Try.prog 100 #[.pointer (some ⟨g, 0, none⟩)] w fun x w' => x = .returned (.agg (vcells T.1).toArray) ∧ Rr w' base g (l.drop T.2.1) T.2.2 ∧ w.grownBy w' (some g) := by
  have hg := h.block.2
  have A1 := numOut_at l a e 2 ha
  have H1 : Hid (∀ wx, Rr wx base g (l.drop a) e → Calls Try.prog 72 #[.pointer (some ⟨g, 0, none⟩), .int .i64 2] wx fun x w' => x = .returned (.int .i64 ((numOut l a e 2).1 : Nat)) ∧ Rr w' base g (l.drop (numOut l a e 2).2.1) (numOut l a e 2).2.2 ∧ wx.grownBy w' (some g)) := Lib.hid fun wx hx => rr_numd base g l a e 2 wx hx hm
  obtain ⟨r1, hr1⟩ : ∃ r, r = numOut l a e 2 := ⟨_, rfl⟩
  rw [← hr1] at H1 A1 hT hc
  obtain ⟨v1, a1, e1⟩ := r1
  simp only at H1 A1 hT hc
  obtain ⟨k, hk⟩ : ∃ k : Int, k = (v1 : Int) := ⟨_, rfl⟩
  rw [← hk] at H1 hT
  have t1 : (k == 1) = false := by rw [hk]; simp; omega
  have t2 : (k == 2) = false := by rw [hk]; simp; omega
  have HK : Hid (k = k) := Lib.hid rfl
  clear hk
  have HT := Lib.hid hT
  clear hr1 hT hc A1 ha hm
  have B2 := Blk.new w (vcells zv) 27
  have R0 := h.later ((Below.refl w.heap.size w).alloc (Nat.le_refl _) (.cells (vcells zv).toArray 27))
  have G0 := World.grownBy_alloc w (.cells (vcells zv).toArray 27) (some g)
  have hu := Try.underlying27
  clear h
  have hne : (some g : Option Nat) ≠ some w.heap.size := by simp; omega
  obtain ⟨be, hbe⟩ : ∃ b, b = (e1 != 0) := ⟨_, rfl⟩
  have ke : (e1 != 0) = be := hbe.symm
  clear hbe
  cases be
  · go_enter Try.func100, Try.ntmps100
    go_wp2_with fail
    refine (H1.out _ R0).mono ?_
    rintro x w2 ⟨rfl, R2, G2⟩
    replace B2 := B2.kept G2 hne
    have GG := G0.trans G2
    clear R0 G0 G2
    have B3 := Blk.new w2 (vcells zv) 27
    have T3 := B3.there 0 3 (Nat.le_refl _)
    have S3 := B3.wholeT (ds := (vcells (k, 0, ⟨#[]⟩))) rfl
    have LE3 : Le w2 (World.setCells (w2.alloc (.cells (vcells zv).toArray 27)) w2.heap.size 0 (vcells (k, 0, ⟨#[]⟩))) := below_sets (Nat.le_refl _) _ 0 ((Below.refl w2.heap.size w2).alloc (Nat.le_refl _) _)
    have O3 : ((vcells (k, 0, ⟨#[]⟩))).toArray.all (·.oneCell') = true := vcells_all _
    have hsz := GG.size
    clear B3
    obtain ⟨g3, hg3⟩ : ∃ z, z = w2.heap.size := ⟨_, rfl⟩
    have hb2 := B2.lt
    rw [← hg3] at T3 S3 LE3 hsz hb2
    have HG3 := Lib.hid hg3
    clear hg3
    go_wp2_with (first
      | (rw [← HG3.out]
         refine wpList_store_mid rfl 27 (.tmp 3) (.tmp 6) rfl g3 0 ((vcells (k, 0, ⟨#[]⟩))).toArray rfl rfl T3 info_val O3 ?_
         simp only [Act.put]
         generalize hw3 : World.setCells _ g3 0 ((vcells (k, 0, ⟨#[]⟩))).toArray.toList = w3
         have S3' : Blk w3 g3 (vcells (k, 0, ⟨#[]⟩)) := hw3 ▸ S3
         have LE3' : Le w2 w3 := hw3 ▸ LE3
         have R3 := R2.later LE3'
         have q1 : w3.cell? ⟨g3, 0, none⟩ = some (.int .i64 k) := S3'.cell rfl
         obtain ⟨y0, y1, y2, y3⟩ := R3.facts
         have B8 := B2.later LE3'
         have G8 := GG.trans (grown_none LE3' _)
         have T8 := B8.there 0 3 (Nat.le_refl _)
         have FIN := B8.wholeT (ds := (vcells (k, 0, ⟨#[]⟩))) rfl
         have O8 : ((vcells (k, 0, ⟨#[]⟩))).toArray.all (·.oneCell') = true := vcells_all _
         have RG := S3'.range 0 (vcells (k, 0, ⟨#[]⟩)) rfl
         have R9 := R3.off (grown_sets4 w.heap.size (vcells (k, 0, ⟨#[]⟩)) 0 w3) (by omega)
         have G9 := grown_new G8 (grown_sets4 w.heap.size (vcells (k, 0, ⟨#[]⟩)) 0 w3) (by omega)
         clear hw3 T3 S3 LE3 O3 B8 G8 R3 R2 S3')
      | (refine wpList_load_mid rfl 27 (.tmp 3) rfl g3 0 rfl (vcells (k, 0, ⟨#[]⟩)) _ RG hu rfl info_val ?_)
      | (refine wpList_store_mid rfl 27 (.tmp 2) (.tmp 25) rfl w.heap.size 0 ((vcells (k, 0, ⟨#[]⟩))).toArray rfl rfl T8 info_val O8 ?_)
      | fail)
    exact bodyPost_ret (v := .agg ((vcells (k, 0, ⟨#[]⟩))).toArray) (tok_results (q := 2) rfl _ _ w.heap.size _ _ rfl FIN hu rfl info_val) rfl ⟨by rw [HT.out, valEnd_yes ke]; rfl, by rw [HT.out, valEnd_yes ke]; exact R9, G9⟩
  · go_enter Try.func100, Try.ntmps100
    go_wp2_with fail
    refine (H1.out _ R0).mono ?_
    rintro x w2 ⟨rfl, R2, G2⟩
    replace B2 := B2.kept G2 hne
    have GG := G0.trans G2
    clear R0 G0 G2
    have B3 := Blk.new w2 (vcells zv) 27
    have T3 := B3.there 0 3 (Nat.le_refl _)
    have S3 := B3.wholeT (ds := (vcells (k, 0, ⟨#[]⟩))) rfl
    have LE3 : Le w2 (World.setCells (w2.alloc (.cells (vcells zv).toArray 27)) w2.heap.size 0 (vcells (k, 0, ⟨#[]⟩))) := below_sets (Nat.le_refl _) _ 0 ((Below.refl w2.heap.size w2).alloc (Nat.le_refl _) _)
    have O3 : ((vcells (k, 0, ⟨#[]⟩))).toArray.all (·.oneCell') = true := vcells_all _
    have hsz := GG.size
    clear B3
    obtain ⟨g3, hg3⟩ : ∃ z, z = w2.heap.size := ⟨_, rfl⟩
    have hb2 := B2.lt
    rw [← hg3] at T3 S3 LE3 hsz hb2
    have HG3 := Lib.hid hg3
    clear hg3
    go_wp2_with (first
      | (rw [← HG3.out]
         refine wpList_store_mid rfl 27 (.tmp 3) (.tmp 6) rfl g3 0 ((vcells (k, 0, ⟨#[]⟩))).toArray rfl rfl T3 info_val O3 ?_
         simp only [Act.put]
         generalize hw3 : World.setCells _ g3 0 ((vcells (k, 0, ⟨#[]⟩))).toArray.toList = w3
         have S3' : Blk w3 g3 (vcells (k, 0, ⟨#[]⟩)) := hw3 ▸ S3
         have LE3' : Le w2 w3 := hw3 ▸ LE3
         have R3 := R2.later LE3'
         have q1 : w3.cell? ⟨g3, 0, none⟩ = some (.int .i64 k) := S3'.cell rfl
         obtain ⟨y0, y1, y2, y3⟩ := R3.facts
         have B8 := B2.later LE3'
         have G8 := GG.trans (grown_none LE3' _)
         have T8 := B8.there 0 3 (Nat.le_refl _)
         have FIN := B8.wholeT (ds := (vcells zv)) rfl
         have O8 : ((vcells zv)).toArray.all (·.oneCell') = true := vcells_all _
         have RG := S3'.range 0 (vcells (k, 0, ⟨#[]⟩)) rfl
         have R9 := R3.off (grown_sets4 w.heap.size (vcells zv) 0 w3) (by omega)
         have G9 := grown_new G8 (grown_sets4 w.heap.size (vcells zv) 0 w3) (by omega)
         clear hw3 T3 S3 LE3 O3 B8 G8 R3 R2 S3')
      | (refine wpList_load_mid rfl 27 (.tmp 3) rfl g3 0 rfl (vcells (k, 0, ⟨#[]⟩)) _ RG hu rfl info_val ?_)
      | (refine wpList_store_mid rfl 27 (.tmp 2) (.tmp 24) rfl w.heap.size 0 ((vcells zv)).toArray rfl rfl T8 info_val O8 ?_)
      | fail)
    exact bodyPost_ret (v := .agg ((vcells zv)).toArray) (tok_results (q := 2) rfl _ _ w.heap.size _ _ rfl FIN hu rfl info_val) rfl ⟨by rw [HT.out, valEnd_no ke], by rw [HT.out, valEnd_no ke]; exact R9, G9⟩
set_option maxRecDepth 100000 in
set_option maxHeartbeats 3200000 in
theorem rr_value1 (base g : Nat) (l : List UInt8) (a : Nat) (e : Int) (w : World) (h : Rr w base g (l.drop a) e) (ha : a ≤ l.length) (hm : l.length ≤ 2000) (hc : (numOut l a e 2).1 = 1) (T : V3 × Nat × Int) (hT : T = valEnd 1 ((numOut l (numOut l a e 2).2.1 (numOut l a e 2).2.2 1099511627776).1 : Nat) [] (numOut l (numOut l a e 2).2.1 (numOut l a e 2).2.2 1099511627776).2.1 (numOut l (numOut l a e 2).2.1 (numOut l a e 2).2.2 1099511627776).2.2) :
    Calls Try.prog 100 #[.pointer (some ⟨g, 0, none⟩)] w fun x w' => x = .returned (.agg (vcells T.1).toArray) ∧ Rr w' base g (l.drop T.2.1) T.2.2 ∧ w.grownBy w' (some g) := by
  have hg := h.block.2
  have A1 := numOut_at l a e 2 ha
  have H1 : Hid (∀ wx, Rr wx base g (l.drop a) e → Calls Try.prog 72 #[.pointer (some ⟨g, 0, none⟩), .int .i64 2] wx fun x w' => x = .returned (.int .i64 ((numOut l a e 2).1 : Nat)) ∧ Rr w' base g (l.drop (numOut l a e 2).2.1) (numOut l a e 2).2.2 ∧ wx.grownBy w' (some g)) := Lib.hid fun wx hx => rr_numd base g l a e 2 wx hx hm
  obtain ⟨r1, hr1⟩ : ∃ r, r = numOut l a e 2 := ⟨_, rfl⟩
  rw [← hr1] at H1 A1 hT hc
  obtain ⟨v1, a1, e1⟩ := r1
  simp only at H1 A1 hT hc
  have H2 : Hid (∀ wx, Rr wx base g (l.drop a1) e1 → Calls Try.prog 72 #[.pointer (some ⟨g, 0, none⟩), .int .i64 1099511627776] wx fun x w' => x = .returned (.int .i64 ((numOut l a1 e1 1099511627776).1 : Nat)) ∧ Rr w' base g (l.drop (numOut l a1 e1 1099511627776).2.1) (numOut l a1 e1 1099511627776).2.2 ∧ wx.grownBy w' (some g)) := Lib.hid fun wx hx => rr_numd base g l a1 e1 1099511627776 wx hx hm
  obtain ⟨r2, hr2⟩ : ∃ r, r = numOut l a1 e1 1099511627776 := ⟨_, rfl⟩
  rw [← hr2] at H2 hT
  obtain ⟨v2, a5, e5⟩ := r2
  simp only at H2 hT
  obtain ⟨k, hk⟩ : ∃ k : Int, k = (v1 : Int) := ⟨_, rfl⟩
  rw [← hk] at H1
  obtain ⟨n, hn⟩ : ∃ n : Int, n = (v2 : Int) := ⟨_, rfl⟩
  rw [← hn] at H2 hT
  have t1 : (k == 1) = true := by rw [hk, hc]; rfl
  have t2 : (k == 2) = false := by rw [hk, hc]; rfl
  have HK : Hid (k = 1) := Lib.hid (by rw [hk, hc]; rfl)
  clear hk hn hr2
  have HT := Lib.hid hT
  clear hr1 hT hc A1 ha hm
  have B2 := Blk.new w (vcells zv) 27
  have R0 := h.later ((Below.refl w.heap.size w).alloc (Nat.le_refl _) (.cells (vcells zv).toArray 27))
  have G0 := World.grownBy_alloc w (.cells (vcells zv).toArray 27) (some g)
  have hu := Try.underlying27
  clear h
  have hne : (some g : Option Nat) ≠ some w.heap.size := by simp; omega
  obtain ⟨be, hbe⟩ : ∃ b, b = (e5 != 0) := ⟨_, rfl⟩
  have ke : (e5 != 0) = be := hbe.symm
  clear hbe
  cases be
  · go_enter Try.func100, Try.ntmps100
    go_wp2_with fail
    refine (H1.out _ R0).mono ?_
    rintro x w2 ⟨rfl, R2, G2⟩
    replace B2 := B2.kept G2 hne
    have GG := G0.trans G2
    clear R0 G0 G2
    have B3 := Blk.new w2 (vcells zv) 27
    have T3 := B3.there 0 3 (Nat.le_refl _)
    have S3 := B3.wholeT (ds := (vcells (k, 0, ⟨#[]⟩))) rfl
    have LE3 : Le w2 (World.setCells (w2.alloc (.cells (vcells zv).toArray 27)) w2.heap.size 0 (vcells (k, 0, ⟨#[]⟩))) := below_sets (Nat.le_refl _) _ 0 ((Below.refl w2.heap.size w2).alloc (Nat.le_refl _) _)
    have O3 : ((vcells (k, 0, ⟨#[]⟩))).toArray.all (·.oneCell') = true := vcells_all _
    have hsz := GG.size
    clear B3
    obtain ⟨g3, hg3⟩ : ∃ z, z = w2.heap.size := ⟨_, rfl⟩
    have hb2 := B2.lt
    rw [← hg3] at T3 S3 LE3 hsz hb2
    have HG3 := Lib.hid hg3
    clear hg3
    go_wp2_with (first
      | (rw [← HG3.out]
         refine wpList_store_mid rfl 27 (.tmp 3) (.tmp 6) rfl g3 0 ((vcells (k, 0, ⟨#[]⟩))).toArray rfl rfl T3 info_val O3 ?_
         simp only [Act.put]
         generalize hw3 : World.setCells _ g3 0 ((vcells (k, 0, ⟨#[]⟩))).toArray.toList = w3
         have S3' : Blk w3 g3 (vcells (k, 0, ⟨#[]⟩)) := hw3 ▸ S3
         have LE3' : Le w2 w3 := hw3 ▸ LE3
         have R3 := R2.later LE3'
         have q1 : w3.cell? ⟨g3, 0, none⟩ = some (.int .i64 k) := S3'.cell rfl
         obtain ⟨y0, y1, y2, y3⟩ := R3.facts
         clear hw3 T3 S3 LE3 O3)
      | fail)
    have hne3 : (some g : Option Nat) ≠ some g3 := by simp; omega
    replace B2 := B2.later LE3'
    replace GG := GG.trans (grown_none LE3' _)
    clear R2 LE3' q1 y0 y1 y2 y3
    refine (H2.out _ R3).mono ?_
    rintro x w5 ⟨rfl, R5, G5⟩
    replace B2 := B2.kept G5 hne
    have S5 := S3'.kept G5 hne3
    replace GG := GG.trans G5
    have f1 := S5.frozen 1
    have q1 : w5.cell? ⟨g3, 1, none⟩ = some (.int .i64 0) := S5.cell rfl
    have S8 : Blk (w5.setCell ⟨g3, 1, none⟩ (.int .i64 n)) g3 (vcells (k, n, ⟨#[]⟩)) := S5.set 1 _
    have R8 := R5.off (grown_set1 w5 g3 1 (.int .i64 n)) (by omega)
    have B8 := B2.setOther (b := g3) 1 (.int .i64 n) (by omega)
    have G8 := grown_new GG (grown_set1 w5 g3 1 (.int .i64 n)) hsz
    have q3 : (w5.setCell ⟨g3, 1, none⟩ (.int .i64 n)).cell? ⟨g3, 0, none⟩ = some (.int .i64 k) := S8.cell rfl
    obtain ⟨y0, y1, y2, y3⟩ := R8.facts
    clear R3 R5 G5 B2 S3' S5 GG
    have T8 := B8.there 0 3 (Nat.le_refl _)
    have FIN := B8.wholeT (ds := (vcells (k, n, ⟨#[]⟩))) rfl
    have O8 : ((vcells (k, n, ⟨#[]⟩))).toArray.all (·.oneCell') = true := vcells_all _
    have RG := S8.range 0 (vcells (k, n, ⟨#[]⟩)) rfl
    have R9 := R8.off (grown_sets4 w.heap.size (vcells (k, n, ⟨#[]⟩)) 0 (w5.setCell ⟨g3, 1, none⟩ (.int .i64 n))) (by omega)
    have G9 := grown_new G8 (grown_sets4 w.heap.size (vcells (k, n, ⟨#[]⟩)) 0 (w5.setCell ⟨g3, 1, none⟩ (.int .i64 n))) (by omega)
    clear S8 R8 B8 G8
    go_wp2_with (first
      | (refine wpList_load_mid rfl 27 (.tmp 3) rfl g3 0 rfl (vcells (k, n, ⟨#[]⟩)) _ RG hu rfl info_val ?_)
      | (refine wpList_store_mid rfl 27 (.tmp 2) (.tmp 25) rfl w.heap.size 0 ((vcells (k, n, ⟨#[]⟩))).toArray rfl rfl T8 info_val O8 ?_)
      | fail)
    exact bodyPost_ret (v := .agg ((vcells (k, n, ⟨#[]⟩))).toArray) (tok_results (q := 2) rfl _ _ w.heap.size _ _ rfl FIN hu rfl info_val) rfl ⟨by rw [HT.out, valEnd_yes ke]; rw [HK.out]; rfl, by rw [HT.out, valEnd_yes ke]; exact R9, G9⟩
  · go_enter Try.func100, Try.ntmps100
    go_wp2_with fail
    refine (H1.out _ R0).mono ?_
    rintro x w2 ⟨rfl, R2, G2⟩
    replace B2 := B2.kept G2 hne
    have GG := G0.trans G2
    clear R0 G0 G2
    have B3 := Blk.new w2 (vcells zv) 27
    have T3 := B3.there 0 3 (Nat.le_refl _)
    have S3 := B3.wholeT (ds := (vcells (k, 0, ⟨#[]⟩))) rfl
    have LE3 : Le w2 (World.setCells (w2.alloc (.cells (vcells zv).toArray 27)) w2.heap.size 0 (vcells (k, 0, ⟨#[]⟩))) := below_sets (Nat.le_refl _) _ 0 ((Below.refl w2.heap.size w2).alloc (Nat.le_refl _) _)
    have O3 : ((vcells (k, 0, ⟨#[]⟩))).toArray.all (·.oneCell') = true := vcells_all _
    have hsz := GG.size
    clear B3
    obtain ⟨g3, hg3⟩ : ∃ z, z = w2.heap.size := ⟨_, rfl⟩
    have hb2 := B2.lt
    rw [← hg3] at T3 S3 LE3 hsz hb2
    have HG3 := Lib.hid hg3
    clear hg3
    go_wp2_with (first
      | (rw [← HG3.out]
         refine wpList_store_mid rfl 27 (.tmp 3) (.tmp 6) rfl g3 0 ((vcells (k, 0, ⟨#[]⟩))).toArray rfl rfl T3 info_val O3 ?_
         simp only [Act.put]
         generalize hw3 : World.setCells _ g3 0 ((vcells (k, 0, ⟨#[]⟩))).toArray.toList = w3
         have S3' : Blk w3 g3 (vcells (k, 0, ⟨#[]⟩)) := hw3 ▸ S3
         have LE3' : Le w2 w3 := hw3 ▸ LE3
         have R3 := R2.later LE3'
         have q1 : w3.cell? ⟨g3, 0, none⟩ = some (.int .i64 k) := S3'.cell rfl
         obtain ⟨y0, y1, y2, y3⟩ := R3.facts
         clear hw3 T3 S3 LE3 O3)
      | fail)
    have hne3 : (some g : Option Nat) ≠ some g3 := by simp; omega
    replace B2 := B2.later LE3'
    replace GG := GG.trans (grown_none LE3' _)
    clear R2 LE3' q1 y0 y1 y2 y3
    refine (H2.out _ R3).mono ?_
    rintro x w5 ⟨rfl, R5, G5⟩
    replace B2 := B2.kept G5 hne
    have S5 := S3'.kept G5 hne3
    replace GG := GG.trans G5
    have f1 := S5.frozen 1
    have q1 : w5.cell? ⟨g3, 1, none⟩ = some (.int .i64 0) := S5.cell rfl
    have S8 : Blk (w5.setCell ⟨g3, 1, none⟩ (.int .i64 n)) g3 (vcells (k, n, ⟨#[]⟩)) := S5.set 1 _
    have R8 := R5.off (grown_set1 w5 g3 1 (.int .i64 n)) (by omega)
    have B8 := B2.setOther (b := g3) 1 (.int .i64 n) (by omega)
    have G8 := grown_new GG (grown_set1 w5 g3 1 (.int .i64 n)) hsz
    have q3 : (w5.setCell ⟨g3, 1, none⟩ (.int .i64 n)).cell? ⟨g3, 0, none⟩ = some (.int .i64 k) := S8.cell rfl
    obtain ⟨y0, y1, y2, y3⟩ := R8.facts
    clear R3 R5 G5 B2 S3' S5 GG
    have T8 := B8.there 0 3 (Nat.le_refl _)
    have FIN := B8.wholeT (ds := (vcells zv)) rfl
    have O8 : ((vcells zv)).toArray.all (·.oneCell') = true := vcells_all _
    have RG := S8.range 0 (vcells (k, n, ⟨#[]⟩)) rfl
    have R9 := R8.off (grown_sets4 w.heap.size (vcells zv) 0 (w5.setCell ⟨g3, 1, none⟩ (.int .i64 n))) (by omega)
    have G9 := grown_new G8 (grown_sets4 w.heap.size (vcells zv) 0 (w5.setCell ⟨g3, 1, none⟩ (.int .i64 n))) (by omega)
    clear S8 R8 B8 G8
    go_wp2_with (first
      | (refine wpList_load_mid rfl 27 (.tmp 3) rfl g3 0 rfl (vcells (k, n, ⟨#[]⟩)) _ RG hu rfl info_val ?_)
      | (refine wpList_store_mid rfl 27 (.tmp 2) (.tmp 24) rfl w.heap.size 0 ((vcells zv)).toArray rfl rfl T8 info_val O8 ?_)
      | fail)
    exact bodyPost_ret (v := .agg ((vcells zv)).toArray) (tok_results (q := 2) rfl _ _ w.heap.size _ _ rfl FIN hu rfl info_val) rfl ⟨by rw [HT.out, valEnd_no ke], by rw [HT.out, valEnd_no ke]; exact R9, G9⟩
set_option maxRecDepth 100000 in
set_option maxHeartbeats 3200000 in
theorem rr_value2 (base g : Nat) (l : List UInt8) (a : Nat) (e : Int) (w : World) (h : Rr w base g (l.drop a) e) (ha : a ≤ l.length) (hm : l.length ≤ 2000) (hc : (numOut l a e 2).1 = 2) (T : V3 × Nat × Int) (hT : T = valEnd 2 0 (strOut l (numOut l a e 2).2.1 (numOut l a e 2).2.2 24).1 (strOut l (numOut l a e 2).2.1 (numOut l a e 2).2.2 24).2.1 (strOut l (numOut l a e 2).2.1 (numOut l a e 2).2.2 24).2.2) :
    Calls Try.prog 100 #[.pointer (some ⟨g, 0, none⟩)] w fun x w' => x = .returned (.agg (vcells T.1).toArray) ∧ Rr w' base g (l.drop T.2.1) T.2.2 ∧ w.grownBy w' (some g) := by
  have hg := h.block.2
  have A1 := numOut_at l a e 2 ha
  have H1 : Hid (∀ wx, Rr wx base g (l.drop a) e → Calls Try.prog 72 #[.pointer (some ⟨g, 0, none⟩), .int .i64 2] wx fun x w' => x = .returned (.int .i64 ((numOut l a e 2).1 : Nat)) ∧ Rr w' base g (l.drop (numOut l a e 2).2.1) (numOut l a e 2).2.2 ∧ wx.grownBy w' (some g)) := Lib.hid fun wx hx => rr_numd base g l a e 2 wx hx hm
  obtain ⟨r1, hr1⟩ : ∃ r, r = numOut l a e 2 := ⟨_, rfl⟩
  rw [← hr1] at H1 A1 hT hc
  obtain ⟨v1, a1, e1⟩ := r1
  simp only at H1 A1 hT hc
  have H2 : Hid (∀ wx, Rr wx base g (l.drop a1) e1 → Calls Try.prog 116 #[.pointer (some ⟨g, 0, none⟩), .int .i64 24] wx fun x w' => x = .returned (.string (str (strOut l a1 e1 24).1)) ∧ Rr w' base g (l.drop (strOut l a1 e1 24).2.1) (strOut l a1 e1 24).2.2 ∧ wx.grownBy w' (some g)) := Lib.hid fun wx hx => rr_strd base g l a1 e1 24 wx hx A1 hm
  obtain ⟨r2, hr2⟩ : ∃ r, r = strOut l a1 e1 24 := ⟨_, rfl⟩
  rw [← hr2] at H2 hT
  obtain ⟨v2, a5, e5⟩ := r2
  simp only at H2 hT
  obtain ⟨k, hk⟩ : ∃ k : Int, k = (v1 : Int) := ⟨_, rfl⟩
  rw [← hk] at H1
  have t1 : (k == 1) = false := by rw [hk, hc]; rfl
  have t2 : (k == 2) = true := by rw [hk, hc]; rfl
  have HK : Hid (k = 2) := Lib.hid (by rw [hk, hc]; rfl)
  obtain ⟨sv, hsv⟩ : ∃ sv, sv = str v2 := ⟨_, rfl⟩
  rw [← hsv] at H2
  have HSV := Lib.hid hsv
  clear hk hr2 hsv
  have HT := Lib.hid hT
  clear hr1 hT hc A1 ha hm
  have B2 := Blk.new w (vcells zv) 27
  have R0 := h.later ((Below.refl w.heap.size w).alloc (Nat.le_refl _) (.cells (vcells zv).toArray 27))
  have G0 := World.grownBy_alloc w (.cells (vcells zv).toArray 27) (some g)
  have hu := Try.underlying27
  clear h
  have hne : (some g : Option Nat) ≠ some w.heap.size := by simp; omega
  obtain ⟨be, hbe⟩ : ∃ b, b = (e5 != 0) := ⟨_, rfl⟩
  have ke : (e5 != 0) = be := hbe.symm
  clear hbe
  cases be
  · go_enter Try.func100, Try.ntmps100
    go_wp2_with fail
    refine (H1.out _ R0).mono ?_
    rintro x w2 ⟨rfl, R2, G2⟩
    replace B2 := B2.kept G2 hne
    have GG := G0.trans G2
    clear R0 G0 G2
    have B3 := Blk.new w2 (vcells zv) 27
    have T3 := B3.there 0 3 (Nat.le_refl _)
    have S3 := B3.wholeT (ds := (vcells (k, 0, ⟨#[]⟩))) rfl
    have LE3 : Le w2 (World.setCells (w2.alloc (.cells (vcells zv).toArray 27)) w2.heap.size 0 (vcells (k, 0, ⟨#[]⟩))) := below_sets (Nat.le_refl _) _ 0 ((Below.refl w2.heap.size w2).alloc (Nat.le_refl _) _)
    have O3 : ((vcells (k, 0, ⟨#[]⟩))).toArray.all (·.oneCell') = true := vcells_all _
    have hsz := GG.size
    clear B3
    obtain ⟨g3, hg3⟩ : ∃ z, z = w2.heap.size := ⟨_, rfl⟩
    have hb2 := B2.lt
    rw [← hg3] at T3 S3 LE3 hsz hb2
    have HG3 := Lib.hid hg3
    clear hg3
    go_wp2_with (first
      | (rw [← HG3.out]
         refine wpList_store_mid rfl 27 (.tmp 3) (.tmp 6) rfl g3 0 ((vcells (k, 0, ⟨#[]⟩))).toArray rfl rfl T3 info_val O3 ?_
         simp only [Act.put]
         generalize hw3 : World.setCells _ g3 0 ((vcells (k, 0, ⟨#[]⟩))).toArray.toList = w3
         have S3' : Blk w3 g3 (vcells (k, 0, ⟨#[]⟩)) := hw3 ▸ S3
         have LE3' : Le w2 w3 := hw3 ▸ LE3
         have R3 := R2.later LE3'
         have q1 : w3.cell? ⟨g3, 0, none⟩ = some (.int .i64 k) := S3'.cell rfl
         obtain ⟨y0, y1, y2, y3⟩ := R3.facts
         clear hw3 T3 S3 LE3 O3)
      | fail)
    have hne3 : (some g : Option Nat) ≠ some g3 := by simp; omega
    replace B2 := B2.later LE3'
    replace GG := GG.trans (grown_none LE3' _)
    clear R2 LE3' q1 y0 y1 y2 y3
    refine (H2.out _ R3).mono ?_
    rintro x w5 ⟨rfl, R5, G5⟩
    replace B2 := B2.kept G5 hne
    have S5 := S3'.kept G5 hne3
    replace GG := GG.trans G5
    have f1 := S5.frozen 2
    have q1 : w5.cell? ⟨g3, 2, none⟩ = some (.string ⟨#[]⟩) := S5.cell rfl
    have S8 : Blk (w5.setCell ⟨g3, 2, none⟩ (.string sv)) g3 (vcells (k, 0, sv)) := S5.set 2 _
    have R8 := R5.off (grown_set1 w5 g3 2 (.string sv)) (by omega)
    have B8 := B2.setOther (b := g3) 2 (.string sv) (by omega)
    have G8 := grown_new GG (grown_set1 w5 g3 2 (.string sv)) hsz
    have q3 : (w5.setCell ⟨g3, 2, none⟩ (.string sv)).cell? ⟨g3, 0, none⟩ = some (.int .i64 k) := S8.cell rfl
    obtain ⟨y0, y1, y2, y3⟩ := R8.facts
    clear R3 R5 G5 B2 S3' S5 GG
    have T8 := B8.there 0 3 (Nat.le_refl _)
    have FIN := B8.wholeT (ds := (vcells (k, 0, sv))) rfl
    have O8 : ((vcells (k, 0, sv))).toArray.all (·.oneCell') = true := vcells_all _
    have RG := S8.range 0 (vcells (k, 0, sv)) rfl
    have R9 := R8.off (grown_sets4 w.heap.size (vcells (k, 0, sv)) 0 (w5.setCell ⟨g3, 2, none⟩ (.string sv))) (by omega)
    have G9 := grown_new G8 (grown_sets4 w.heap.size (vcells (k, 0, sv)) 0 (w5.setCell ⟨g3, 2, none⟩ (.string sv))) (by omega)
    clear S8 R8 B8 G8
    go_wp2_with (first
      | (refine wpList_load_mid rfl 27 (.tmp 3) rfl g3 0 rfl (vcells (k, 0, sv)) _ RG hu rfl info_val ?_)
      | (refine wpList_store_mid rfl 27 (.tmp 2) (.tmp 25) rfl w.heap.size 0 ((vcells (k, 0, sv))).toArray rfl rfl T8 info_val O8 ?_)
      | fail)
    exact bodyPost_ret (v := .agg ((vcells (k, 0, sv))).toArray) (tok_results (q := 2) rfl _ _ w.heap.size _ _ rfl FIN hu rfl info_val) rfl ⟨by rw [HT.out, valEnd_yes ke]; rw [HK.out, HSV.out], by rw [HT.out, valEnd_yes ke]; exact R9, G9⟩
  · go_enter Try.func100, Try.ntmps100
    go_wp2_with fail
    refine (H1.out _ R0).mono ?_
    rintro x w2 ⟨rfl, R2, G2⟩
    replace B2 := B2.kept G2 hne
    have GG := G0.trans G2
    clear R0 G0 G2
    have B3 := Blk.new w2 (vcells zv) 27
    have T3 := B3.there 0 3 (Nat.le_refl _)
    have S3 := B3.wholeT (ds := (vcells (k, 0, ⟨#[]⟩))) rfl
    have LE3 : Le w2 (World.setCells (w2.alloc (.cells (vcells zv).toArray 27)) w2.heap.size 0 (vcells (k, 0, ⟨#[]⟩))) := below_sets (Nat.le_refl _) _ 0 ((Below.refl w2.heap.size w2).alloc (Nat.le_refl _) _)
    have O3 : ((vcells (k, 0, ⟨#[]⟩))).toArray.all (·.oneCell') = true := vcells_all _
    have hsz := GG.size
    clear B3
    obtain ⟨g3, hg3⟩ : ∃ z, z = w2.heap.size := ⟨_, rfl⟩
    have hb2 := B2.lt
    rw [← hg3] at T3 S3 LE3 hsz hb2
    have HG3 := Lib.hid hg3
    clear hg3
    go_wp2_with (first
      | (rw [← HG3.out]
         refine wpList_store_mid rfl 27 (.tmp 3) (.tmp 6) rfl g3 0 ((vcells (k, 0, ⟨#[]⟩))).toArray rfl rfl T3 info_val O3 ?_
         simp only [Act.put]
         generalize hw3 : World.setCells _ g3 0 ((vcells (k, 0, ⟨#[]⟩))).toArray.toList = w3
         have S3' : Blk w3 g3 (vcells (k, 0, ⟨#[]⟩)) := hw3 ▸ S3
         have LE3' : Le w2 w3 := hw3 ▸ LE3
         have R3 := R2.later LE3'
         have q1 : w3.cell? ⟨g3, 0, none⟩ = some (.int .i64 k) := S3'.cell rfl
         obtain ⟨y0, y1, y2, y3⟩ := R3.facts
         clear hw3 T3 S3 LE3 O3)
      | fail)
    have hne3 : (some g : Option Nat) ≠ some g3 := by simp; omega
    replace B2 := B2.later LE3'
    replace GG := GG.trans (grown_none LE3' _)
    clear R2 LE3' q1 y0 y1 y2 y3
    refine (H2.out _ R3).mono ?_
    rintro x w5 ⟨rfl, R5, G5⟩
    replace B2 := B2.kept G5 hne
    have S5 := S3'.kept G5 hne3
    replace GG := GG.trans G5
    have f1 := S5.frozen 2
    have q1 : w5.cell? ⟨g3, 2, none⟩ = some (.string ⟨#[]⟩) := S5.cell rfl
    have S8 : Blk (w5.setCell ⟨g3, 2, none⟩ (.string sv)) g3 (vcells (k, 0, sv)) := S5.set 2 _
    have R8 := R5.off (grown_set1 w5 g3 2 (.string sv)) (by omega)
    have B8 := B2.setOther (b := g3) 2 (.string sv) (by omega)
    have G8 := grown_new GG (grown_set1 w5 g3 2 (.string sv)) hsz
    have q3 : (w5.setCell ⟨g3, 2, none⟩ (.string sv)).cell? ⟨g3, 0, none⟩ = some (.int .i64 k) := S8.cell rfl
    obtain ⟨y0, y1, y2, y3⟩ := R8.facts
    clear R3 R5 G5 B2 S3' S5 GG
    have T8 := B8.there 0 3 (Nat.le_refl _)
    have FIN := B8.wholeT (ds := (vcells zv)) rfl
    have O8 : ((vcells zv)).toArray.all (·.oneCell') = true := vcells_all _
    have RG := S8.range 0 (vcells (k, 0, sv)) rfl
    have R9 := R8.off (grown_sets4 w.heap.size (vcells zv) 0 (w5.setCell ⟨g3, 2, none⟩ (.string sv))) (by omega)
    have G9 := grown_new G8 (grown_sets4 w.heap.size (vcells zv) 0 (w5.setCell ⟨g3, 2, none⟩ (.string sv))) (by omega)
    clear S8 R8 B8 G8
    go_wp2_with (first
      | (refine wpList_load_mid rfl 27 (.tmp 3) rfl g3 0 rfl (vcells (k, 0, sv)) _ RG hu rfl info_val ?_)
      | (refine wpList_store_mid rfl 27 (.tmp 2) (.tmp 24) rfl w.heap.size 0 ((vcells zv)).toArray rfl rfl T8 info_val O8 ?_)
      | fail)
    exact bodyPost_ret (v := .agg ((vcells zv)).toArray) (tok_results (q := 2) rfl _ _ w.heap.size _ _ rfl FIN hu rfl info_val) rfl ⟨by rw [HT.out, valEnd_no ke], by rw [HT.out, valEnd_no ke]; exact R9, G9⟩
theorem rr_value (base g : Nat) (l : List UInt8) (a : Nat) (e : Int) (w : World) (h : Rr w base g (l.drop a) e) (ha : a ≤ l.length) (hm : l.length ≤ 2000) :
    Calls Try.prog 100 #[.pointer (some ⟨g, 0, none⟩)] w fun x w' => x = .returned (.agg (vcells (valOut l a e).1).toArray) ∧ Rr w' base g (l.drop (valOut l a e).2.1) (valOut l a e).2.2 ∧ w.grownBy w' (some g) := by
  by_cases c1 : (numOut l a e 2).1 = 1
  · exact rr_value1 base g l a e w h ha hm c1 _ (by unfold valOut; rw [if_pos c1])
  · by_cases c2 : (numOut l a e 2).1 = 2
    · exact rr_value2 base g l a e w h ha hm c2 _ (by unfold valOut; rw [if_neg c1, if_pos c2])
    · exact rr_value0 base g l a e w h ha hm ⟨c1, c2⟩ _ (by unfold valOut; rw [if_neg c1, if_neg c2])
set_option maxRecDepth 100000 in
set_option maxHeartbeats 3200000 in
theorem rr_aboved (base g : Nat) (l : List UInt8) (a : Nat) (e y : Int) (w : World) (h : Rr w base g (l.drop a) e) (hm : l.length ≤ 2000) :
    Calls Try.prog 120 #[.pointer (some ⟨g, 0, none⟩), .int .i64 y] w fun x w' => x = .returned (.int .i64 ((abvOut l a e y).1 : Nat)) ∧ Rr w' base g (l.drop (abvOut l a e y).2.1) (abvOut l a e y).2.2 ∧ w.grownBy w' (some g) := by
  unfold abvOut
  simp only
  have H1 := Lib.hid (rr_numd base g l a e y w h hm)
  obtain ⟨r1, hr1⟩ : ∃ r, r = numOut l a e y := ⟨_, rfl⟩
  rw [← hr1] at H1 ⊢
  clear hr1 h hm
  obtain ⟨v1, a1, e1⟩ := r1
  simp only at H1 ⊢
  have HF : Hid (∀ wx, Rr wx base g (l.drop a1) e1 → Calls Try.prog 73 #[.pointer (some ⟨g, 0, none⟩), .int .i64 3] wx fun x w' => x = .returned (.tuple #[]) ∧ Rr w' base g (l.drop a1) (failOut e1 3) ∧ wx.grownBy w' (some g)) := Lib.hid fun wx hx => rr_fail base g (l.drop a1) e1 3 wx hx
  obtain ⟨E, hE⟩ : ∃ z, z = (if v1 = 0 then failOut e1 3 else e1) := ⟨_, rfl⟩
  rw [← hE]
  obtain ⟨bz, hbz⟩ : ∃ b, b = (((v1 : Nat) : Int) == 0) := ⟨_, rfl⟩
  obtain ⟨be, hbe⟩ : ∃ b, b = (e1 == 0) := ⟨_, rfl⟩
  have ke : (e1 == 0) = be := hbe.symm
  have kz : (((v1 : Nat) : Int) == 0) = bz := hbz.symm
  cases be
  · have HE : Hid (E = e1) := Lib.hid (by rw [hE]; have : e1 ≠ 0 := by simpa using hbe.symm
                                          unfold failOut; rw [if_neg this]; split <;> rfl)
    clear hE hbz hbe kz
    go_enter Try.func120, Try.ntmps120
    go_wp2_with fail
    refine H1.out.mono ?_
    rintro x w1 ⟨rfl, R1, G1⟩
    obtain ⟨q0, q1, f0, f1⟩ := R1.facts
    go_wp2_with fail
    go_ret
    exact ⟨rfl, by rw [HE.out]; exact R1, G1⟩
  · cases bz
    · have HE : Hid (E = e1) := Lib.hid (by rw [hE]; exact if_neg (by simpa using hbz))
      clear hE hbz hbe
      go_enter Try.func120, Try.ntmps120
      go_wp2_with fail
      refine H1.out.mono ?_
      rintro x w1 ⟨rfl, R1, G1⟩
      obtain ⟨q0, q1, f0, f1⟩ := R1.facts
      go_wp2_with fail
      go_ret
      exact ⟨rfl, by rw [HE.out]; exact R1, G1⟩
    · have HE : Hid (E = failOut e1 3) := Lib.hid (by rw [hE]; exact if_pos (by simpa using hbz))
      clear hE hbz hbe
      go_enter Try.func120, Try.ntmps120
      go_wp2_with fail
      refine H1.out.mono ?_
      rintro x w1 ⟨rfl, R1, G1⟩
      obtain ⟨q0, q1, f0, f1⟩ := R1.facts
      go_wp2_with fail
      refine (HF.out _ R1).mono ?_
      rintro x w2 ⟨rfl, R2, G2⟩
      clear q0 q1 f0 f1
      go_wp2_with fail
      go_ret
      exact ⟨rfl, by rw [HE.out]; exact R2, G1.trans G2⟩

end Go.Proofs.Ytgpbglmlakildaa

/- Cards as they are read of bytes: the document's: the walk. -/
namespace Go.Proofs.Ytgpbglmlakildaa
set_option linter.unusedVariables false
open Go Go.RowKit OctM BitM

/-- The numbers from k on that are in a set, n of them looked at. -/
def fromL (x : BitVec 32) : Nat → Nat → List Int
  | 0, _ => []
  | n + 1, k => (if has x (k : Int) = true then [(k : Int)] else []) ++ fromL x n (k + 1)
theorem from_lst (x : BitVec 32) : ∀ (n k : Nat), lst x (k + n) = lst x k ++ fromL x n k
  | 0, k => by simp [fromL]
  | n + 1, k => by
    have h := from_lst x n (k + 1)
    rw [show k + (n + 1) = k + 1 + n by omega, h, lst_succ, fromL, List.append_assoc]
theorem from_and (x : BitVec 32) : ∀ (n k : Nat), k + n ≤ 8 → fromL (x &&& 255#32) n k = fromL x n k
  | 0, _, _ => rfl
  | n + 1, k, h => by
    rw [fromL, fromL, from_and x n (k + 1) (by omega), has_and_255, decide_eq_true (show (k : Int) < 8 by omega), Bool.and_true]
theorem flds_from (x : BitVec 32) : flds x = fromL x 8 0 := by
  unfold flds
  rw [lst_end (j := 8) (fun i hi => by rw [has_and_255, decide_eq_false (by omega), Bool.and_false]) 32 (by omega)]
  have h := from_lst (x &&& 255#32) 8 0
  rw [Nat.zero_add] at h
  rw [h, from_and x 8 0 (by omega)]
  rfl
theorem numOut_err (l : List UInt8) (a : Nat) (e m : Int) (h : (numOut l a e m).2.2 ≠ 0) : (numOut l a e m).1 = 0 := by
  unfold numOut at *
  split at h
  · rename_i h1; rw [if_pos h1]
  · rename_i h1
    split at h
    · rename_i h2; rw [if_neg h1, if_pos h2]
    · rename_i h2
      split at h
      · rename_i h3; rw [if_neg h1, if_neg h2, if_pos h3]
      · exact absurd rfl h

end Go.Proofs.Ytgpbglmlakildaa

/- Patches as they are read of bytes: the program's: the walk. -/
namespace Go.Proofs.Ytgpbglmlakildaa
set_option linter.unusedVariables false
open Go Go.RowKit OctM BitM

def patA (l : List UInt8) (a : Nat) (e : Int) : Nat × Nat × Int := abvOut l a e 511
def patX (l : List UInt8) (a : Nat) (e : Int) : BitVec 32 := BitVec.ofNat 32 (patA l a e).1
def patB (l : List UInt8) (a : Nat) (e : Int) : Nat × Nat × Int := if has (patX l a e) 8 = true then numOut l (patA l a e).2.1 (patA l a e).2.2 65535 else (0, (patA l a e).2)
def patE (l : List UInt8) (a : Nat) (e : Int) : List V3 × Nat × Int := fldsOut false l (flds (patX l a e)) zeros (patB l a e).2.1 (patB l a e).2.2
/-- What is read of bytes: the patch, how far, the error. -/
def patOut (l : List UInt8) (a : Nat) (e : Int) : (Int × Int × List V3) × Nat × Int :=
  (if (patE l a e).2.2 = 0 then (((patX l a e).toNat : Int), ((patB l a e).1 : Int), (patE l a e).1) else (0, 0, zeros), (patE l a e).2)
theorem patB_at (l : List UInt8) (a : Nat) (e : Int) (h : a ≤ l.length) : (patB l a e).2.1 ≤ l.length := by
  unfold patB
  split
  · exact numOut_at _ _ _ _ (abvOut_at _ _ _ _ h)
  · exact abvOut_at _ _ _ _ h
theorem patOut_at (l : List UInt8) (a : Nat) (e : Int) (h : a ≤ l.length) : (patOut l a e).2.1 ≤ l.length :=
  fldsOut_at _ _ _ _ _ _ (patB_at _ _ _ h)
theorem patOut_len (l : List UInt8) (a : Nat) (e : Int) : (patOut l a e).1.2.2.length = 8 := by
  unfold patOut
  simp only
  split
  · simp only [patE, fldsOut_len, zeros_len]
  · exact zeros_len
def pc3 (t : Int × Int × List V3) : List Value := pcells t.1 t.2.1 t.2.2
theorem run_newP (w : World) : (Instr.alloc 61 true (.tuple #[])).run Try.prog w = .ok (.pointer (some ⟨w.heap.size, 0, none⟩)) (w.alloc (.cells (pcells 0 0 zeros).toArray 61)) := by kernel_rfl
theorem fld_natP {x : BitVec 32} {k : Nat} {L : List Int} (hL : L = flds x) (hk : k < L.length) : ∃ j : Nat, L[k] = (j : Int) ∧ j < 8 := by
  obtain ⟨h0, h8, _⟩ := (mem_flds x L[k]).1 (by rw [← hL]; exact List.getElem_mem hk)
  obtain ⟨j, hj⟩ := Int.eq_ofNat_of_zero_le h0
  exact ⟨j, hj, by omega⟩

set_option maxRecDepth 100000 in
set_option maxHeartbeats 6400000 in
theorem rd_patch (base g : Nat) (l : List UInt8) (a : Nat) (e : Int) (w : World) (h : Rd w base g l a e) (ha : a ≤ l.length) (hm : l.length ≤ 2000) :
    Calls Try.prog 84 #[.pointer (some ⟨g, 0, none⟩)] w fun x w' => x = .returned (.agg (pc3 (patOut l a e).1).toArray) ∧ Rd w' base g l (patOut l a e).2.1 (patOut l a e).2.2 ∧ w.grownBy w' (some g) := by
  have hg := h.block.2
  obtain ⟨T, hT⟩ : ∃ T, T = patOut l a e := ⟨_, rfl⟩
  rw [← hT]
  have HA := Lib.hid (fun wx (hx : Rd wx base g l a e) => rd_above base g l a e 511 wx hx ha hm)
  have A1 := abvOut_at l a e 511 ha
  have BA := numOut_le l a e 511 (by omega)
  obtain ⟨rA, hA⟩ : ∃ r, r = abvOut l a e 511 := ⟨_, rfl⟩
  have BA2 : (rA.1 : Int) ≤ 511 := by rw [hA]; exact BA
  rw [← hA] at HA A1
  obtain ⟨vA, aA, eA⟩ := rA
  simp only at HA A1 BA2
  obtain ⟨x, hx⟩ : ∃ x : BitVec 32, vA = x.toNat := ⟨BitVec.ofNat 32 vA, by rw [BitVec.toNat_ofNat]; omega⟩
  subst hx
  have HC := Lib.hid (fun wx (hx : Rd wx base g l aA eA) => rd_num base g l aA eA 65535 wx hx A1 (by omega))
  have A2 := numOut_at l aA eA 65535 A1
  have BC := numOut_le l aA eA 65535 (by omega)
  have kA : patA l a e = (x.toNat, aA, eA) := hA.symm
  have kX : patX l a e = x := by unfold patX; rw [kA, BitVec.ofNat_toNat, BitVec.setWidth_eq]
  have kB : patB l a e = if has x 8 = true then numOut l aA eA 65535 else (0, aA, eA) := by unfold patB; rw [kX, kA]
  obtain ⟨rC, hC⟩ : ∃ r, r = numOut l aA eA 65535 := ⟨_, rfl⟩
  rw [← hC] at HC A2 BC kB
  obtain ⟨vC, aC, eC⟩ := rC
  simp only at HC A2 BC
  obtain ⟨labC, hlabC⟩ : ∃ z : Int, z = (vC : Int) := ⟨_, rfl⟩
  rw [← hlabC] at HC
  obtain ⟨rB, hB⟩ : ∃ r : Nat × Nat × Int, r = if has x 8 = true then (vC, aC, eC) else (0, aA, eA) := ⟨_, rfl⟩
  rw [← hB] at kB
  obtain ⟨vB, aB, eB⟩ := rB
  obtain ⟨lab, hlab⟩ : ∃ z : Int, z = (vB : Int) := ⟨_, rfl⟩
  obtain ⟨L, hL⟩ : ∃ L, L = flds x := ⟨_, rfl⟩
  have kE : patE l a e = fldsOut false l L zeros aB eB := by
    unfold patE
    rw [kB, kX, hL]
  unfold patOut at hT
  rw [kX, kB, kE] at hT
  obtain ⟨FR, hFR⟩ : ∃ FR, FR = fldsOut false l L zeros aB eB := ⟨_, rfl⟩
  rw [← hFR] at hT
  simp only at hT
  rw [← hlab] at hT
  have A4 : aB ≤ l.length := by
    have : aB = if has x 8 = true then aC else aA := by
      have := congrArg (fun r : Nat × Nat × Int => r.2.1) hB
      simp only at this
      rw [this]
      split <;> rfl
    rw [this]
    split
    · exact A2
    · exact A1
  have HT := Lib.hid hT
  have HFR := Lib.hid hFR
  have HFI := Lib.hid (fun wx : World => fields_any x wx)
  have HLB := Lib.hid (fun wx : World => labels_any x wx)
  have hfl := flds_len x
  have HJ := Lib.hid (fun k (hk : k < L.length) => fld_natP hL hk)
  rw [← hL] at HFI hfl
  obtain ⟨m, hm2⟩ : ∃ m, m = L.length := ⟨_, rfl⟩
  rw [← hm2] at HFI hfl
  have HLM := Lib.hid hm2
  have HA4 := Lib.hid A4
  have HM := Lib.hid hm
  have hwc : IntKind.u32.wrap labC = labC := by
    have h2 := wrap_nat (BitVec.ofNat 32 vC)
    rwa [BitVec.toNat_ofNat, Nat.mod_eq_of_lt (by omega), ← hlabC] at h2
  have hwx : IntKind.u32.wrap (x.toNat : Int) = (x.toNat : Int) := wrap_nat x
  have HBV : Hid ((has x 8 = true → lab = labC ∧ aB = aC ∧ eB = eC) ∧ (has x 8 = false → lab = 0 ∧ aB = aA ∧ eB = eA)) := Lib.hid (by
    constructor
    · intro hh
      rw [if_pos hh] at hB
      injection hB with h1 h2
      injection h2 with h2 h3
      exact ⟨by rw [hlab, h1, hlabC], h2, h3⟩
    · intro hh
      rw [if_neg (by rw [hh]; exact Bool.false_ne_true)] at hB
      injection hB with h1 h2
      injection h2 with h2 h3
      exact ⟨by rw [hlab, h1]; rfl, h2, h3⟩)
  clear hlab hlabC hB BC BA BA2
  clear hT hFR kA kX kB kE hA hC hL hm2 ha hm A1 A2 A4
  have B1 : Blk (w.alloc (.cells #[.pointer (some ⟨g, 0, none⟩)] 48)) w.heap.size [.pointer (some ⟨g, 0, none⟩)] := Blk.new w [.pointer (some ⟨g, 0, none⟩)] 48
  have B2 := Blk.new (w.alloc (.cells #[.pointer (some ⟨g, 0, none⟩)] 48)) (pcells 0 0 zeros) 61
  replace B1 := B1.alloc (.cells (pcells 0 0 zeros).toArray 61)
  have hs1 : (w.alloc (.cells #[.pointer (some ⟨g, 0, none⟩)] 48)).heap.size = w.heap.size + 1 := by simp
  rw [hs1] at B2
  have hw0 : Below w.heap.size w ((w.alloc (.cells #[.pointer (some ⟨g, 0, none⟩)] 48)).alloc (.cells (pcells 0 0 zeros).toArray 61)) := ((Below.refl w.heap.size w).alloc (Nat.le_refl _) _).alloc (by simp) _
  have R0 := h.later hw0
  have G0 : w.grownBy ((w.alloc (.cells #[.pointer (some ⟨g, 0, none⟩)] 48)).alloc (.cells (pcells 0 0 zeros).toArray 61)) (some g) := grown_none hw0 _
  have hsz : w.heap.size + 2 ≤ ((w.alloc (.cells #[.pointer (some ⟨g, 0, none⟩)] 48)).alloc (.cells (pcells 0 0 zeros).toArray 61)).heap.size := by simp
  generalize hW : (w.alloc (.cells #[.pointer (some ⟨g, 0, none⟩)] 48)).alloc (.cells (pcells 0 0 zeros).toArray 61) = W at *
  have hu := Try.underlying61
  have HZ := Lib.hid zp26
  have ne1 : (some g : Option Nat) ≠ some w.heap.size := by simp; omega
  have ne2 : (some g : Option Nat) ≠ some (w.heap.size + 1) := by simp; omega
  have x0 : W.cell? ⟨w.heap.size, 0, none⟩ = some (.pointer (some ⟨g, 0, none⟩)) := B1.cell rfl
  obtain ⟨zs, hzs⟩ : ∃ zs, zs = pcells 0 0 zeros := ⟨_, rfl⟩
  obtain ⟨xs, hxs⟩ : ∃ xs, xs = pcells (x.toNat : Int) 0 zeros := ⟨_, rfl⟩
  have HZL := Lib.hid (show zs.length = 26 by rw [hzs]; exact pcells_len 0 0 zeros_len)
  have HXL := Lib.hid (show xs.length = 26 by rw [hxs]; exact pcells_len _ 0 zeros_len)
  have hone : xs.toArray.all (·.oneCell') = true := all_oneCell_toArray (by rw [hxs]; exact pcells_one _ _ _)
  rw [← hzs] at B2 HZ
  rw [← hzs] at hW
  have HW := Lib.hid hW
  have HZS := Lib.hid hzs
  have HXS := Lib.hid hxs
  clear hW hw0 hs1 h hzs hxs
  obtain ⟨r, hr⟩ : ∃ r, r = w.heap.size := ⟨_, rfl⟩
  obtain ⟨b8, hb8⟩ : ∃ b, b = has x 8 := ⟨_, rfl⟩
  rw [← hb8] at HLB HBV
  clear hb8
  cases b8
  all_goals
    go_enter Try.func84, Try.ntmps84
    go_wp2_with fail
    rw [← HZ.out, HW.out]
    rw [← hr] at B1 B2 x0 hsz ne1 ne2 hg
    have HRS := Lib.hid hr
    rw [← hr]
    clear hr HW
    refine (HA.out _ R0).mono ?_
    rintro e' w1 ⟨rfl, R1, G1⟩
    replace B1 := B1.kept G1 ne1
    replace B2 := B2.kept G1 ne2
    have hs2 := G1.size
    replace G1 := G0.trans G1
    have B3 := Blk.new w1 zs 61
    have T3 := B3.there 0 26 (by rw [HZL.out]; omega)
    have S3 := B3.wholeT (ds := xs) (by rw [HXL.out, HZL.out])
    have LE3 : Le w1 (World.setCells (w1.alloc (.cells zs.toArray 61)) w1.heap.size 0 xs) := below_sets (Nat.le_refl _) _ 0 ((Below.refl w1.heap.size w1).alloc (Nat.le_refl _) _)
    obtain ⟨gC, hgC⟩ : ∃ z, z = w1.heap.size := ⟨_, rfl⟩
    rw [← hgC] at T3 S3 LE3 hs2
    have HG3 := Lib.hid hgC
    clear hgC B3 x0 R0 G0
    go_wp2_with (first
      | (rw [← HZ.out, ← HG3.out]
         refine wpList_store_mid rfl 61 (.tmp 3) (.tmp 10) rfl gC 0 xs.toArray rfl (by rw [HXS.out]; rfl) (by simpa [HXL.out] using T3) (by simpa [HXL.out] using info_patch) hone ?_
         simp only [Act.put]
         generalize hw3 : World.setCells _ gC 0 xs.toArray.toList = w3
         have S3' : Blk w3 gC (pcells (x.toNat : Int) 0 zeros) := by rw [← HXS.out]; exact hw3 ▸ S3
         have LE3' : Le w1 w3 := hw3 ▸ LE3
         have q3 : w3.cell? ⟨gC, 0, none⟩ = some (.int .u32 (x.toNat : Int)) := S3'.cell rfl
         clear hw3 T3 S3 LE3)
      | fail)
    refine (HLB.out _).mono ?_
    rintro e' w3' ⟨rfl, rfl⟩
    have R3 := R1.later LE3'
    have X3 := B1.later LE3'
    have B3 := B2.later LE3'
    have G3 := G1.trans (grown_none LE3' _)
    have x3 : w3.cell? ⟨r, 0, none⟩ = some (.pointer (some ⟨g, 0, none⟩)) := X3.cell rfl
    have hgC2 : r + 2 ≤ gC := by omega
    have ne3 : (some g : Option Nat) ≠ some gC := by simp; omega
    clear R1 B1 B2 G1 LE3' hs2 hsz
  · -- no labels
    obtain ⟨p1, p2, p3⟩ := HBV.out.2 trivial
    have R4 : Rd w3 base g l aB eB := by rw [p2, p3]; exact R3
    have S4 : Blk w3 gC (pcells (x.toNat : Int) lab zeros) := by rw [p1]; exact S3'
    have X4 := X3
    have B4 := B3
    have G4 := G3
    have q4 := q3
    have x4 := x3
    clear p1 p2 p3 R3 S3' X3 B3 G3 q3 x3
    obtain ⟨w4, hw4⟩ : ∃ w4, w4 = w3 := ⟨_, rfl⟩
    rw [← hw4] at R4 S4 X4 B4 G4 q4 x4 ⊢
    clear hw4
    go_wp2_with fail
    refine (HFI.out _).mono ?_
    rintro e' w5 ⟨A, c, rfl, O5, hb5⟩
    have R5 := R4.later hb5
    have hC4 := S4.lt
    have S5 := S4.later hb5
    have X5 := X4.later hb5
    have B5 := B4.later hb5
    have G5 := G4.trans (grown_none hb5 _)
    obtain ⟨b5, hbe⟩ : ∃ z, z = w4.heap.size := ⟨_, rfl⟩
    rw [← hbe] at O5 hC4
    clear hbe R4 S4 X4 B4 G4 hb5 q4 x4
    go_wp2_with fail
    go_loopw [23] (fun i wr => ∃ (k a' : Nat) (e' : Int) (f : List V3), k ≤ m ∧ i = .int .i64 k ∧ Rd wr base g l a' e' ∧ Hid (a' ≤ l.length) ∧ Blk wr gC (pcells (x.toNat : Int) lab f) ∧ Hid (f.length = 8) ∧ Blk wr r [.pointer (some ⟨g, 0, none⟩)] ∧ Blk wr (r + 1) zs ∧ Own wr b5 3 (.slice A m c) (ivs L) ∧ Hid (fldsOut false l (L.drop k) f a' e' = FR) ∧ w.grownBy wr (some g)) (fun i _ => m - (intOf i).toNat)
    case atStart => exact ⟨0, aB, eB, zeros, Nat.zero_le _, rfl, R5, HA4, S5, Lib.hid zeros_len, X5, B5, O5, Lib.hid (by rw [List.drop_zero]; exact HFR.out.symm), G5⟩
    case round =>
      obtain ⟨k, a', e', f, hk, rfl, R, HAt, S, HFL, X, B, O, HQ, G⟩ := hrel
      have hrr : r = w.heap.size := HRS.out
      by_cases hlt : k < m
      · have hkl : k < L.length := by rw [← HLM.out]; exact hlt
        obtain ⟨j, hj, hj8⟩ := HJ.out k hkl
        obtain ⟨b, rfl, hbb, _⟩ := Own.block O (by omega)
        have ck : wr.cell? ⟨b, k, none⟩ = some (.int .i64 (j : Int)) := by
          have h2 := Own.cell O k (by rw [ivs_length]; exact hkl)
          rw [h2]
          simp [ivs, hj]
        have H1 := Lib.hid (rd_patchfield base g r gC j hj8 l a' e' (x.toNat : Int) lab f HFL.out wr R HAt.out HM.out S X (by omega) (by omega) (by omega))
        have GO := fun h => fldsOut_go (must := false) (l := l) (f := f) (a := a') (e := e') k hkl h
        have ST := fun h => fldsOut_stop (must := false) (l := l) (f := f) (a := a') (e := e') k hkl h
        rw [hj, Int.toNat_natCast] at GO ST
        have A2 := Lib.hid (fldOut_at false l a' e' HAt.out)
        obtain ⟨⟨v, a2, e2⟩, hq⟩ : ∃ q, q = fldOut false l a' e' := ⟨_, rfl⟩
        rw [← hq] at H1 GO ST A2
        simp only at H1 GO ST A2
        have ki : (k : Int) < (m : Int) := by omega
        have hF2 : Hid ((f.set j v).length = 8) := Lib.hid (by rw [List.length_set]; exact HFL.out)
        clear hq hj
        by_cases e0 : (e2 == 0) = true
        · have HN : Hid (fldsOut false l (L.drop (k + 1)) (f.set j v) a2 e2 = FR) := Lib.hid ((GO e0).symm.trans HQ.out)
          rw [e0] at H1
          clear GO ST e0 hrr hkl
          go_wp2_with fail
          refine H1.out.mono ?_
          rintro x' wn ⟨rfl, Rn, Sn, Tn⟩
          have hrr : r = w.heap.size := HRS.out
          have Xn := Tn.blk X (by omega) (by omega)
          have Bn := Tn.blk B (by omega) (by omega)
          have On := Tn.own O (by omega) (by omega)
          have Gn := Tn.new G (by omega)
          clear R S X B O G Tn hrr
          go_wp2_with fail
          go_roundw
          case rel => exact ⟨k + 1, a2, e2, f.set j v, by omega, by go_num, Rn, A2, Sn, hF2, Xn, Bn, On, HN, Gn⟩
          case measure => simp [intOf]; omega
        · have e1 : (e2 == 0) = false := by simpa using e0
          have ke : (e2 != 0) = true := by simpa using e0
          have HTE : Hid (T = ((0, 0, zeros), a2, e2)) := Lib.hid (by
            have h2 := (ST e1).symm.trans HQ.out
            rw [HT.out, ← h2]
            simp only
            rw [if_neg (by simpa using e0)])
          rw [e1] at H1
          clear GO ST e0 e1 hrr hkl
          go_wp2_with fail
          refine H1.out.mono ?_
          rintro x' wn ⟨rfl, Rn, Sn, Tn⟩
          have hrr : r = w.heap.size := HRS.out
          have Xn := Tn.blk X (by omega) (by omega)
          have Bn := Tn.blk B (by omega) (by omega)
          have Gn := Tn.new G (by omega)
          have xn : wn.cell? ⟨r, 0, none⟩ = some (.pointer (some ⟨g, 0, none⟩)) := Xn.cell rfl
          clear R S X B O G Tn hrr
          go_wp2_with fail
          have hrr : r = w.heap.size := HRS.out
          refine (rd_err base g l a2 e2 wn Rn).mono ?_
          rintro x' w9 ⟨rfl, rfl⟩
          obtain ⟨cs, hcs⟩ : ∃ cs, cs = (pcells 0 0 zeros) := ⟨_, rfl⟩
          have HCL := Lib.hid (show cs.length = 26 by rw [hcs]; exact (pcells_len 0 0 zeros_len))
          have hone : ∀ u ∈ cs, u.oneCell' = true := by rw [hcs]; exact pcells_one _ _ _
          have T8 := Bn.there 0 26 (by rw [HZL.out]; omega)
          have FIN := Bn.wholeT (ds := cs) (by rw [HCL.out, HZL.out])
          have O8 : cs.toArray.all (·.oneCell') = true := all_oneCell_toArray hone
          have R9 := Rn.other (grown_sets4 (r + 1) cs 0 wn) (by omega)
          have G9 := grown_new Gn (grown_sets4 (r + 1) cs 0 wn) (by omega)
          have HCS := Lib.hid hcs
          clear Sn Rn Bn Gn hrr hcs hone
          go_wp2_with (first
            | (refine wpList_store_mid rfl 61 (.tmp 2) (.tmp 35) rfl (r + 1) 0 cs.toArray rfl (by rw [HCS.out]; rfl) (by simpa [HCL.out] using T8) (by simpa [HCL.out] using info_patch) O8 ?_)
            | fail)
          exact bodyPost_ret (v := .agg cs.toArray) (tok_results (q := 2) rfl _ _ (r + 1) cs _ rfl FIN hu rfl (by rw [HCL.out]; exact info_patch)) rfl ⟨by rw [HTE.out, HCS.out]; rfl, by rw [HTE.out]; exact R9, G9⟩
      · obtain rfl : k = m := by omega
        have hq2 : FR = (f, a', e') := by
          have h2 := HQ.out
          rw [HLM.out, List.drop_length] at h2
          exact h2.symm
        have xn : wr.cell? ⟨r, 0, none⟩ = some (.pointer (some ⟨g, 0, none⟩)) := X.cell rfl
        have HFE := HFL
        by_cases e0 : e' = 0
        · have ke : (e' != 0) = false := by simpa using e0
          have HTE : Hid (T = (((x.toNat : Int), lab, f), a', e')) := Lib.hid (by
            rw [HT.out, hq2]
            simp only
            rw [if_pos e0])
          clear hq2 e0 hrr
          go_wp2_with fail
          have hrr : r = w.heap.size := HRS.out
          refine (rd_err base g l a' e' wr R).mono ?_
          rintro x' w9 ⟨rfl, rfl⟩
          obtain ⟨cs, hcs⟩ : ∃ cs, cs = (pcells (x.toNat : Int) lab f) := ⟨_, rfl⟩
          have HCL := Lib.hid (show cs.length = 26 by rw [hcs]; exact (pcells_len (x.toNat : Int) lab HFE.out))
          have hone : ∀ u ∈ cs, u.oneCell' = true := by rw [hcs]; exact pcells_one _ _ _
          have T8 := B.there 0 26 (by rw [HZL.out]; omega)
          have FIN := B.wholeT (ds := cs) (by rw [HCL.out, HZL.out])
          have O8 : cs.toArray.all (·.oneCell') = true := all_oneCell_toArray hone
          rw [← hcs] at S
          have RG := S.range 0 cs (by rw [List.drop_zero, List.take_length])
          have R9 := R.other (grown_sets4 (r + 1) cs 0 wr) (by omega)
          have G9 := grown_new G (grown_sets4 (r + 1) cs 0 wr) (by omega)
          have HCS := Lib.hid hcs
          clear S R B G hrr hcs hone
          go_wp2_with (first
            | (refine wpList_load_mid rfl 61 (.tmp 3) rfl gC 0 rfl cs _ RG hu rfl (by rw [HCL.out]; exact info_patch) ?_)
            | (refine wpList_store_mid rfl 61 (.tmp 2) (.tmp 36) rfl (r + 1) 0 cs.toArray rfl rfl (by simpa [HCL.out] using T8) (by simpa [HCL.out] using info_patch) O8 ?_)
            | fail)
          exact bodyPost_ret (v := .agg cs.toArray) (tok_results (q := 2) rfl _ _ (r + 1) cs _ rfl FIN hu rfl (by rw [HCL.out]; exact info_patch)) rfl ⟨by rw [HTE.out, HCS.out]; rfl, by rw [HTE.out]; exact R9, G9⟩
        · have ke : (e' != 0) = true := by simpa using e0
          have HTE : Hid (T = ((0, 0, zeros), a', e')) := Lib.hid (by
            rw [HT.out, hq2]
            simp only
            rw [if_neg e0])
          clear hq2 e0 hrr
          go_wp2_with fail
          have hrr : r = w.heap.size := HRS.out
          refine (rd_err base g l a' e' wr R).mono ?_
          rintro x' w9 ⟨rfl, rfl⟩
          obtain ⟨cs, hcs⟩ : ∃ cs, cs = (pcells 0 0 zeros) := ⟨_, rfl⟩
          have HCL := Lib.hid (show cs.length = 26 by rw [hcs]; exact (pcells_len 0 0 zeros_len))
          have hone : ∀ u ∈ cs, u.oneCell' = true := by rw [hcs]; exact pcells_one _ _ _
          have T8 := B.there 0 26 (by rw [HZL.out]; omega)
          have FIN := B.wholeT (ds := cs) (by rw [HCL.out, HZL.out])
          have O8 : cs.toArray.all (·.oneCell') = true := all_oneCell_toArray hone
          have R9 := R.other (grown_sets4 (r + 1) cs 0 wr) (by omega)
          have G9 := grown_new G (grown_sets4 (r + 1) cs 0 wr) (by omega)
          have HCS := Lib.hid hcs
          clear S R B G hrr hcs hone
          go_wp2_with (first
            | (refine wpList_store_mid rfl 61 (.tmp 2) (.tmp 35) rfl (r + 1) 0 cs.toArray rfl (by rw [HCS.out]; rfl) (by simpa [HCL.out] using T8) (by simpa [HCL.out] using info_patch) O8 ?_)
            | fail)
          exact bodyPost_ret (v := .agg cs.toArray) (tok_results (q := 2) rfl _ _ (r + 1) cs _ rfl FIN hu rfl (by rw [HCL.out]; exact info_patch)) rfl ⟨by rw [HTE.out, HCS.out]; rfl, by rw [HTE.out]; exact R9, G9⟩
  · obtain ⟨p1, p2, p3⟩ := HBV.out.1 trivial
    have HP := Lib.hid (And.intro p1 (And.intro p2 p3))
    clear p1 p2 p3
    go_wp2_with fail
    refine (HC.out _ R3).mono ?_
    rintro e' wy ⟨rfl, Ry, Gy⟩
    have Sy := S3'.kept Gy ne3
    have Xy := (X3.kept Gy ne1).setOther (b := gC) 1 (.int .u32 labC) (by omega)
    have By := (B3.kept Gy ne2).setOther (b := gC) 1 (.int .u32 labC) (by omega)
    have fy := Sy.frozen 1
    have qy : wy.cell? ⟨gC, 1, none⟩ = some (.int .u32 0) := Sy.cell rfl
    have S4 : Blk (wy.setCell ⟨gC, 1, none⟩ (.int .u32 labC)) gC (pcells (x.toNat : Int) labC zeros) := Sy.set 1 _
    have R4 := Ry.other (grown_set1 wy gC 1 (.int .u32 labC)) (by omega)
    have hrr : r = w.heap.size := HRS.out
    have G4 := grown_new (G3.trans Gy) (grown_set1 wy gC 1 (.int .u32 labC)) (by omega)
    clear R3 S3' X3 B3 G3 q3 x3 Ry Gy Sy hrr
    have q4 : (wy.setCell ⟨gC, 1, none⟩ (.int .u32 labC)).cell? ⟨gC, 0, none⟩ = some (.int .u32 (x.toNat : Int)) := S4.cell rfl
    have x4 : (wy.setCell ⟨gC, 1, none⟩ (.int .u32 labC)).cell? ⟨r, 0, none⟩ = some (.pointer (some ⟨g, 0, none⟩)) := Xy.cell rfl
    go_wp2_with fail
    obtain ⟨w4, hw4⟩ : ∃ w4, w4 = wy.setCell ⟨gC, 1, none⟩ (.int .u32 labC) := ⟨_, rfl⟩
    rw [← hw4] at S4 R4 Xy By G4 q4 x4 ⊢
    clear hw4 fy qy
    have X4 := Xy
    have B4 := By
    rw [← HP.out.2.1, ← HP.out.2.2] at R4
    rw [← HP.out.1] at S4
    clear Xy By
    refine (HFI.out _).mono ?_
    rintro e' w5 ⟨A, c, rfl, O5, hb5⟩
    have R5 := R4.later hb5
    have hC4 := S4.lt
    have S5 := S4.later hb5
    have X5 := X4.later hb5
    have B5 := B4.later hb5
    have G5 := G4.trans (grown_none hb5 _)
    obtain ⟨b5, hbe⟩ : ∃ z, z = w4.heap.size := ⟨_, rfl⟩
    rw [← hbe] at O5 hC4
    clear hbe R4 S4 X4 B4 G4 hb5 q4 x4
    go_wp2_with fail
    go_loopw [23] (fun i wr => ∃ (k a' : Nat) (e' : Int) (f : List V3), k ≤ m ∧ i = .int .i64 k ∧ Rd wr base g l a' e' ∧ Hid (a' ≤ l.length) ∧ Blk wr gC (pcells (x.toNat : Int) lab f) ∧ Hid (f.length = 8) ∧ Blk wr r [.pointer (some ⟨g, 0, none⟩)] ∧ Blk wr (r + 1) zs ∧ Own wr b5 3 (.slice A m c) (ivs L) ∧ Hid (fldsOut false l (L.drop k) f a' e' = FR) ∧ w.grownBy wr (some g)) (fun i _ => m - (intOf i).toNat)
    case atStart => exact ⟨0, aB, eB, zeros, Nat.zero_le _, rfl, R5, HA4, S5, Lib.hid zeros_len, X5, B5, O5, Lib.hid (by rw [List.drop_zero]; exact HFR.out.symm), G5⟩
    case round =>
      obtain ⟨k, a', e', f, hk, rfl, R, HAt, S, HFL, X, B, O, HQ, G⟩ := hrel
      have hrr : r = w.heap.size := HRS.out
      by_cases hlt : k < m
      · have hkl : k < L.length := by rw [← HLM.out]; exact hlt
        obtain ⟨j, hj, hj8⟩ := HJ.out k hkl
        obtain ⟨b, rfl, hbb, _⟩ := Own.block O (by omega)
        have ck : wr.cell? ⟨b, k, none⟩ = some (.int .i64 (j : Int)) := by
          have h2 := Own.cell O k (by rw [ivs_length]; exact hkl)
          rw [h2]
          simp [ivs, hj]
        have H1 := Lib.hid (rd_patchfield base g r gC j hj8 l a' e' (x.toNat : Int) lab f HFL.out wr R HAt.out HM.out S X (by omega) (by omega) (by omega))
        have GO := fun h => fldsOut_go (must := false) (l := l) (f := f) (a := a') (e := e') k hkl h
        have ST := fun h => fldsOut_stop (must := false) (l := l) (f := f) (a := a') (e := e') k hkl h
        rw [hj, Int.toNat_natCast] at GO ST
        have A2 := Lib.hid (fldOut_at false l a' e' HAt.out)
        obtain ⟨⟨v, a2, e2⟩, hq⟩ : ∃ q, q = fldOut false l a' e' := ⟨_, rfl⟩
        rw [← hq] at H1 GO ST A2
        simp only at H1 GO ST A2
        have ki : (k : Int) < (m : Int) := by omega
        have hF2 : Hid ((f.set j v).length = 8) := Lib.hid (by rw [List.length_set]; exact HFL.out)
        clear hq hj
        by_cases e0 : (e2 == 0) = true
        · have HN : Hid (fldsOut false l (L.drop (k + 1)) (f.set j v) a2 e2 = FR) := Lib.hid ((GO e0).symm.trans HQ.out)
          rw [e0] at H1
          clear GO ST e0 hrr hkl
          go_wp2_with fail
          refine H1.out.mono ?_
          rintro x' wn ⟨rfl, Rn, Sn, Tn⟩
          have hrr : r = w.heap.size := HRS.out
          have Xn := Tn.blk X (by omega) (by omega)
          have Bn := Tn.blk B (by omega) (by omega)
          have On := Tn.own O (by omega) (by omega)
          have Gn := Tn.new G (by omega)
          clear R S X B O G Tn hrr
          go_wp2_with fail
          go_roundw
          case rel => exact ⟨k + 1, a2, e2, f.set j v, by omega, by go_num, Rn, A2, Sn, hF2, Xn, Bn, On, HN, Gn⟩
          case measure => simp [intOf]; omega
        · have e1 : (e2 == 0) = false := by simpa using e0
          have ke : (e2 != 0) = true := by simpa using e0
          have HTE : Hid (T = ((0, 0, zeros), a2, e2)) := Lib.hid (by
            have h2 := (ST e1).symm.trans HQ.out
            rw [HT.out, ← h2]
            simp only
            rw [if_neg (by simpa using e0)])
          rw [e1] at H1
          clear GO ST e0 e1 hrr hkl
          go_wp2_with fail
          refine H1.out.mono ?_
          rintro x' wn ⟨rfl, Rn, Sn, Tn⟩
          have hrr : r = w.heap.size := HRS.out
          have Xn := Tn.blk X (by omega) (by omega)
          have Bn := Tn.blk B (by omega) (by omega)
          have Gn := Tn.new G (by omega)
          have xn : wn.cell? ⟨r, 0, none⟩ = some (.pointer (some ⟨g, 0, none⟩)) := Xn.cell rfl
          clear R S X B O G Tn hrr
          go_wp2_with fail
          have hrr : r = w.heap.size := HRS.out
          refine (rd_err base g l a2 e2 wn Rn).mono ?_
          rintro x' w9 ⟨rfl, rfl⟩
          obtain ⟨cs, hcs⟩ : ∃ cs, cs = (pcells 0 0 zeros) := ⟨_, rfl⟩
          have HCL := Lib.hid (show cs.length = 26 by rw [hcs]; exact (pcells_len 0 0 zeros_len))
          have hone : ∀ u ∈ cs, u.oneCell' = true := by rw [hcs]; exact pcells_one _ _ _
          have T8 := Bn.there 0 26 (by rw [HZL.out]; omega)
          have FIN := Bn.wholeT (ds := cs) (by rw [HCL.out, HZL.out])
          have O8 : cs.toArray.all (·.oneCell') = true := all_oneCell_toArray hone
          have R9 := Rn.other (grown_sets4 (r + 1) cs 0 wn) (by omega)
          have G9 := grown_new Gn (grown_sets4 (r + 1) cs 0 wn) (by omega)
          have HCS := Lib.hid hcs
          clear Sn Rn Bn Gn hrr hcs hone
          go_wp2_with (first
            | (refine wpList_store_mid rfl 61 (.tmp 2) (.tmp 35) rfl (r + 1) 0 cs.toArray rfl (by rw [HCS.out]; rfl) (by simpa [HCL.out] using T8) (by simpa [HCL.out] using info_patch) O8 ?_)
            | fail)
          exact bodyPost_ret (v := .agg cs.toArray) (tok_results (q := 2) rfl _ _ (r + 1) cs _ rfl FIN hu rfl (by rw [HCL.out]; exact info_patch)) rfl ⟨by rw [HTE.out, HCS.out]; rfl, by rw [HTE.out]; exact R9, G9⟩
      · obtain rfl : k = m := by omega
        have hq2 : FR = (f, a', e') := by
          have h2 := HQ.out
          rw [HLM.out, List.drop_length] at h2
          exact h2.symm
        have xn : wr.cell? ⟨r, 0, none⟩ = some (.pointer (some ⟨g, 0, none⟩)) := X.cell rfl
        have HFE := HFL
        by_cases e0 : e' = 0
        · have ke : (e' != 0) = false := by simpa using e0
          have HTE : Hid (T = (((x.toNat : Int), lab, f), a', e')) := Lib.hid (by
            rw [HT.out, hq2]
            simp only
            rw [if_pos e0])
          clear hq2 e0 hrr
          go_wp2_with fail
          have hrr : r = w.heap.size := HRS.out
          refine (rd_err base g l a' e' wr R).mono ?_
          rintro x' w9 ⟨rfl, rfl⟩
          obtain ⟨cs, hcs⟩ : ∃ cs, cs = (pcells (x.toNat : Int) lab f) := ⟨_, rfl⟩
          have HCL := Lib.hid (show cs.length = 26 by rw [hcs]; exact (pcells_len (x.toNat : Int) lab HFE.out))
          have hone : ∀ u ∈ cs, u.oneCell' = true := by rw [hcs]; exact pcells_one _ _ _
          have T8 := B.there 0 26 (by rw [HZL.out]; omega)
          have FIN := B.wholeT (ds := cs) (by rw [HCL.out, HZL.out])
          have O8 : cs.toArray.all (·.oneCell') = true := all_oneCell_toArray hone
          rw [← hcs] at S
          have RG := S.range 0 cs (by rw [List.drop_zero, List.take_length])
          have R9 := R.other (grown_sets4 (r + 1) cs 0 wr) (by omega)
          have G9 := grown_new G (grown_sets4 (r + 1) cs 0 wr) (by omega)
          have HCS := Lib.hid hcs
          clear S R B G hrr hcs hone
          go_wp2_with (first
            | (refine wpList_load_mid rfl 61 (.tmp 3) rfl gC 0 rfl cs _ RG hu rfl (by rw [HCL.out]; exact info_patch) ?_)
            | (refine wpList_store_mid rfl 61 (.tmp 2) (.tmp 36) rfl (r + 1) 0 cs.toArray rfl rfl (by simpa [HCL.out] using T8) (by simpa [HCL.out] using info_patch) O8 ?_)
            | fail)
          exact bodyPost_ret (v := .agg cs.toArray) (tok_results (q := 2) rfl _ _ (r + 1) cs _ rfl FIN hu rfl (by rw [HCL.out]; exact info_patch)) rfl ⟨by rw [HTE.out, HCS.out]; rfl, by rw [HTE.out]; exact R9, G9⟩
        · have ke : (e' != 0) = true := by simpa using e0
          have HTE : Hid (T = ((0, 0, zeros), a', e')) := Lib.hid (by
            rw [HT.out, hq2]
            simp only
            rw [if_neg e0])
          clear hq2 e0 hrr
          go_wp2_with fail
          have hrr : r = w.heap.size := HRS.out
          refine (rd_err base g l a' e' wr R).mono ?_
          rintro x' w9 ⟨rfl, rfl⟩
          obtain ⟨cs, hcs⟩ : ∃ cs, cs = (pcells 0 0 zeros) := ⟨_, rfl⟩
          have HCL := Lib.hid (show cs.length = 26 by rw [hcs]; exact (pcells_len 0 0 zeros_len))
          have hone : ∀ u ∈ cs, u.oneCell' = true := by rw [hcs]; exact pcells_one _ _ _
          have T8 := B.there 0 26 (by rw [HZL.out]; omega)
          have FIN := B.wholeT (ds := cs) (by rw [HCL.out, HZL.out])
          have O8 : cs.toArray.all (·.oneCell') = true := all_oneCell_toArray hone
          have R9 := R.other (grown_sets4 (r + 1) cs 0 wr) (by omega)
          have G9 := grown_new G (grown_sets4 (r + 1) cs 0 wr) (by omega)
          have HCS := Lib.hid hcs
          clear S R B G hrr hcs hone
          go_wp2_with (first
            | (refine wpList_store_mid rfl 61 (.tmp 2) (.tmp 35) rfl (r + 1) 0 cs.toArray rfl (by rw [HCS.out]; rfl) (by simpa [HCL.out] using T8) (by simpa [HCL.out] using info_patch) O8 ?_)
            | fail)
          exact bodyPost_ret (v := .agg cs.toArray) (tok_results (q := 2) rfl _ _ (r + 1) cs _ rfl FIN hu rfl (by rw [HCL.out]; exact info_patch)) rfl ⟨by rw [HTE.out, HCS.out]; rfl, by rw [HTE.out]; exact R9, G9⟩
end Go.Proofs.Ytgpbglmlakildaa
