/- Values as they are read of bytes: the document's; a number above 0. -/
import Derived.Test.YtnhcjadkbogioaaGreatM5
set_option maxRecDepth 100000
set_option maxHeartbeats 3200000
namespace Go.Proofs.YtnhcjadkbogioaaGreat
set_option linter.unusedVariables false
open Go Go.RowKit OctM
theorem rr_value0 (base g : Nat) (l : List UInt8) (a : Nat) (e : Int) (w : World) (h : Rr w base g (l.drop a) e) (ha : a ≤ l.length) (hm : l.length ≤ 4000) (hc : (numOut l a e 2).1 ≠ 1 ∧ (numOut l a e 2).1 ≠ 2) (T : V3 × Nat × Int) (hT : T = valEnd ((numOut l a e 2).1 : Nat) 0 [] (numOut l a e 2).2.1 (numOut l a e 2).2.2) :
    Calls Tryz.prog 82 #[.pointer (some ⟨g, 0, none⟩)] w fun x w' => x = .returned (.agg (vcells T.1).toArray) ∧ Rr w' base g (l.drop T.2.1) T.2.2 ∧ w.grownBy w' (some g) := by
  have hg := h.block.2
  have A1 := numOut_at l a e 2 ha
  have H1 : Hid (∀ wx, Rr wx base g (l.drop a) e → Calls Tryz.prog 22 #[.pointer (some ⟨g, 0, none⟩), .int .i64 2] wx fun x w' => x = .returned (.int .i64 ((numOut l a e 2).1 : Nat)) ∧ Rr w' base g (l.drop (numOut l a e 2).2.1) (numOut l a e 2).2.2 ∧ wx.grownBy w' (some g)) := hid fun wx hx => rr_numd base g l a e 2 wx hx hm
  obtain ⟨r1, hr1⟩ : ∃ r, r = numOut l a e 2 := ⟨_, rfl⟩
  rw [← hr1] at H1 A1 hT hc
  obtain ⟨v1, a1, e1⟩ := r1
  simp only at H1 A1 hT hc
  obtain ⟨k, hk⟩ : ∃ k : Int, k = (v1 : Int) := ⟨_, rfl⟩
  rw [← hk] at H1 hT
  have t1 : (k == 1) = false := by rw [hk]; simp; omega
  have t2 : (k == 2) = false := by rw [hk]; simp; omega
  have HK : Hid (k = k) := hid rfl
  clear hk
  have HT := hid hT
  clear hr1 hT hc A1 ha hm
  have B2 := Blk.new w (vcells zv) 33
  have R0 := h.later ((Below.refl w.heap.size w).alloc (Nat.le_refl _) (.cells (vcells zv).toArray 33))
  have G0 := World.grownBy_alloc w (.cells (vcells zv).toArray 33) (some g)
  have hu := Tryz.underlying33
  clear h
  have hne : (some g : Option Nat) ≠ some w.heap.size := by simp; omega
  obtain ⟨be, hbe⟩ : ∃ b, b = (e1 != 0) := ⟨_, rfl⟩
  have ke : (e1 != 0) = be := hbe.symm
  clear hbe
  cases be
  · go_enter Tryz.func82, Tryz.ntmps82
    go_wp2_with fail
    refine (H1.out _ R0).mono ?_
    rintro x w2 ⟨rfl, R2, G2⟩
    replace B2 := B2.kept G2 hne
    have GG := G0.trans G2
    clear R0 G0 G2
    have B3 := Blk.new w2 (vcells zv) 33
    have T3 := B3.there 0 3 (Nat.le_refl _)
    have S3 := B3.wholeT (ds := (vcells (k, 0, ⟨#[]⟩))) rfl
    have LE3 : Le w2 (World.setCells (w2.alloc (.cells (vcells zv).toArray 33)) w2.heap.size 0 (vcells (k, 0, ⟨#[]⟩))) := below_sets (Nat.le_refl _) _ 0 ((Below.refl w2.heap.size w2).alloc (Nat.le_refl _) _)
    have O3 : ((vcells (k, 0, ⟨#[]⟩))).toArray.all (·.oneCell') = true := vcells_all _
    have hsz := GG.size
    clear B3
    obtain ⟨g3, hg3⟩ : ∃ z, z = w2.heap.size := ⟨_, rfl⟩
    have hb2 := B2.lt
    rw [← hg3] at T3 S3 LE3 hsz hb2
    have HG3 := hid hg3
    clear hg3
    go_wp2_with (first
      | (rw [← HG3.out]
         refine wpList_store_mid rfl 33 (.tmp 3) (.tmp 6) rfl g3 0 ((vcells (k, 0, ⟨#[]⟩))).toArray rfl rfl T3 info_val O3 ?_
         simp only [Act.put]
         generalize hw3 : World.setCells _ g3 0 ((vcells (k, 0, ⟨#[]⟩))).toArray.toList = w3
         have S3' : Blk w3 g3 (vcells (k, 0, ⟨#[]⟩)) := hw3 ▸ S3
         have LE3' : Le w2 w3 := hw3 ▸ LE3
         have R3 := R2.later LE3'
         have q1 : w3.cell? ⟨g3, 0, none⟩ = some (.int .i64 k) := S3'.cell rfl
         obtain ⟨y0, y1, y2, y3⟩ := R3.facts
         have B8 := B2.later LE3'
         have G8 := GG.trans (grown_none LE3' _)
         have T8 := B8.there 0 3 (Nat.le_refl _)
         have FIN := B8.wholeT (ds := (vcells (k, 0, ⟨#[]⟩))) rfl
         have O8 : ((vcells (k, 0, ⟨#[]⟩))).toArray.all (·.oneCell') = true := vcells_all _
         have RG := S3'.range 0 (vcells (k, 0, ⟨#[]⟩)) rfl
         have R9 := R3.off (grown_sets4 w.heap.size (vcells (k, 0, ⟨#[]⟩)) 0 w3) (by omega)
         have G9 := grown_new G8 (grown_sets4 w.heap.size (vcells (k, 0, ⟨#[]⟩)) 0 w3) (by omega)
         clear hw3 T3 S3 LE3 O3 B8 G8 R3 R2 S3')
      | (refine wpList_load_mid rfl 33 (.tmp 3) rfl g3 0 rfl (vcells (k, 0, ⟨#[]⟩)) _ RG hu rfl info_val ?_)
      | (refine wpList_store_mid rfl 33 (.tmp 2) (.tmp 25) rfl w.heap.size 0 ((vcells (k, 0, ⟨#[]⟩))).toArray rfl rfl T8 info_val O8 ?_)
      | fail)
    exact bodyPost_ret (v := .agg ((vcells (k, 0, ⟨#[]⟩))).toArray) (tok_results (q := 2) rfl _ _ w.heap.size _ _ rfl FIN hu rfl info_val) rfl ⟨by rw [HT.out, valEnd_yes ke]; rfl, by rw [HT.out, valEnd_yes ke]; exact R9, G9⟩
  · go_enter Tryz.func82, Tryz.ntmps82
    go_wp2_with fail
    refine (H1.out _ R0).mono ?_
    rintro x w2 ⟨rfl, R2, G2⟩
    replace B2 := B2.kept G2 hne
    have GG := G0.trans G2
    clear R0 G0 G2
    have B3 := Blk.new w2 (vcells zv) 33
    have T3 := B3.there 0 3 (Nat.le_refl _)
    have S3 := B3.wholeT (ds := (vcells (k, 0, ⟨#[]⟩))) rfl
    have LE3 : Le w2 (World.setCells (w2.alloc (.cells (vcells zv).toArray 33)) w2.heap.size 0 (vcells (k, 0, ⟨#[]⟩))) := below_sets (Nat.le_refl _) _ 0 ((Below.refl w2.heap.size w2).alloc (Nat.le_refl _) _)
    have O3 : ((vcells (k, 0, ⟨#[]⟩))).toArray.all (·.oneCell') = true := vcells_all _
    have hsz := GG.size
    clear B3
    obtain ⟨g3, hg3⟩ : ∃ z, z = w2.heap.size := ⟨_, rfl⟩
    have hb2 := B2.lt
    rw [← hg3] at T3 S3 LE3 hsz hb2
    have HG3 := hid hg3
    clear hg3
    go_wp2_with (first
      | (rw [← HG3.out]
         refine wpList_store_mid rfl 33 (.tmp 3) (.tmp 6) rfl g3 0 ((vcells (k, 0, ⟨#[]⟩))).toArray rfl rfl T3 info_val O3 ?_
         simp only [Act.put]
         generalize hw3 : World.setCells _ g3 0 ((vcells (k, 0, ⟨#[]⟩))).toArray.toList = w3
         have S3' : Blk w3 g3 (vcells (k, 0, ⟨#[]⟩)) := hw3 ▸ S3
         have LE3' : Le w2 w3 := hw3 ▸ LE3
         have R3 := R2.later LE3'
         have q1 : w3.cell? ⟨g3, 0, none⟩ = some (.int .i64 k) := S3'.cell rfl
         obtain ⟨y0, y1, y2, y3⟩ := R3.facts
         have B8 := B2.later LE3'
         have G8 := GG.trans (grown_none LE3' _)
         have T8 := B8.there 0 3 (Nat.le_refl _)
         have FIN := B8.wholeT (ds := (vcells zv)) rfl
         have O8 : ((vcells zv)).toArray.all (·.oneCell') = true := vcells_all _
         have RG := S3'.range 0 (vcells (k, 0, ⟨#[]⟩)) rfl
         have R9 := R3.off (grown_sets4 w.heap.size (vcells zv) 0 w3) (by omega)
         have G9 := grown_new G8 (grown_sets4 w.heap.size (vcells zv) 0 w3) (by omega)
         clear hw3 T3 S3 LE3 O3 B8 G8 R3 R2 S3')
      | (refine wpList_load_mid rfl 33 (.tmp 3) rfl g3 0 rfl (vcells (k, 0, ⟨#[]⟩)) _ RG hu rfl info_val ?_)
      | (refine wpList_store_mid rfl 33 (.tmp 2) (.tmp 24) rfl w.heap.size 0 ((vcells zv)).toArray rfl rfl T8 info_val O8 ?_)
      | fail)
    exact bodyPost_ret (v := .agg ((vcells zv)).toArray) (tok_results (q := 2) rfl _ _ w.heap.size _ _ rfl FIN hu rfl info_val) rfl ⟨by rw [HT.out, valEnd_no ke], by rw [HT.out, valEnd_no ke]; exact R9, G9⟩
theorem rr_value1 (base g : Nat) (l : List UInt8) (a : Nat) (e : Int) (w : World) (h : Rr w base g (l.drop a) e) (ha : a ≤ l.length) (hm : l.length ≤ 4000) (hc : (numOut l a e 2).1 = 1) (T : V3 × Nat × Int) (hT : T = valEnd 1 ((numOut l (numOut l a e 2).2.1 (numOut l a e 2).2.2 1099511627776).1 : Nat) [] (numOut l (numOut l a e 2).2.1 (numOut l a e 2).2.2 1099511627776).2.1 (numOut l (numOut l a e 2).2.1 (numOut l a e 2).2.2 1099511627776).2.2) :
    Calls Tryz.prog 82 #[.pointer (some ⟨g, 0, none⟩)] w fun x w' => x = .returned (.agg (vcells T.1).toArray) ∧ Rr w' base g (l.drop T.2.1) T.2.2 ∧ w.grownBy w' (some g) := by
  have hg := h.block.2
  have A1 := numOut_at l a e 2 ha
  have H1 : Hid (∀ wx, Rr wx base g (l.drop a) e → Calls Tryz.prog 22 #[.pointer (some ⟨g, 0, none⟩), .int .i64 2] wx fun x w' => x = .returned (.int .i64 ((numOut l a e 2).1 : Nat)) ∧ Rr w' base g (l.drop (numOut l a e 2).2.1) (numOut l a e 2).2.2 ∧ wx.grownBy w' (some g)) := hid fun wx hx => rr_numd base g l a e 2 wx hx hm
  obtain ⟨r1, hr1⟩ : ∃ r, r = numOut l a e 2 := ⟨_, rfl⟩
  rw [← hr1] at H1 A1 hT hc
  obtain ⟨v1, a1, e1⟩ := r1
  simp only at H1 A1 hT hc
  have H2 : Hid (∀ wx, Rr wx base g (l.drop a1) e1 → Calls Tryz.prog 22 #[.pointer (some ⟨g, 0, none⟩), .int .i64 1099511627776] wx fun x w' => x = .returned (.int .i64 ((numOut l a1 e1 1099511627776).1 : Nat)) ∧ Rr w' base g (l.drop (numOut l a1 e1 1099511627776).2.1) (numOut l a1 e1 1099511627776).2.2 ∧ wx.grownBy w' (some g)) := hid fun wx hx => rr_numd base g l a1 e1 1099511627776 wx hx hm
  obtain ⟨r2, hr2⟩ : ∃ r, r = numOut l a1 e1 1099511627776 := ⟨_, rfl⟩
  rw [← hr2] at H2 hT
  obtain ⟨v2, a5, e5⟩ := r2
  simp only at H2 hT
  obtain ⟨k, hk⟩ : ∃ k : Int, k = (v1 : Int) := ⟨_, rfl⟩
  rw [← hk] at H1
  obtain ⟨n, hn⟩ : ∃ n : Int, n = (v2 : Int) := ⟨_, rfl⟩
  rw [← hn] at H2 hT
  have t1 : (k == 1) = true := by rw [hk, hc]; rfl
  have t2 : (k == 2) = false := by rw [hk, hc]; rfl
  have HK : Hid (k = 1) := hid (by rw [hk, hc]; rfl)
  clear hk hn hr2
  have HT := hid hT
  clear hr1 hT hc A1 ha hm
  have B2 := Blk.new w (vcells zv) 33
  have R0 := h.later ((Below.refl w.heap.size w).alloc (Nat.le_refl _) (.cells (vcells zv).toArray 33))
  have G0 := World.grownBy_alloc w (.cells (vcells zv).toArray 33) (some g)
  have hu := Tryz.underlying33
  clear h
  have hne : (some g : Option Nat) ≠ some w.heap.size := by simp; omega
  obtain ⟨be, hbe⟩ : ∃ b, b = (e5 != 0) := ⟨_, rfl⟩
  have ke : (e5 != 0) = be := hbe.symm
  clear hbe
  cases be
  · go_enter Tryz.func82, Tryz.ntmps82
    go_wp2_with fail
    refine (H1.out _ R0).mono ?_
    rintro x w2 ⟨rfl, R2, G2⟩
    replace B2 := B2.kept G2 hne
    have GG := G0.trans G2
    clear R0 G0 G2
    have B3 := Blk.new w2 (vcells zv) 33
    have T3 := B3.there 0 3 (Nat.le_refl _)
    have S3 := B3.wholeT (ds := (vcells (k, 0, ⟨#[]⟩))) rfl
    have LE3 : Le w2 (World.setCells (w2.alloc (.cells (vcells zv).toArray 33)) w2.heap.size 0 (vcells (k, 0, ⟨#[]⟩))) := below_sets (Nat.le_refl _) _ 0 ((Below.refl w2.heap.size w2).alloc (Nat.le_refl _) _)
    have O3 : ((vcells (k, 0, ⟨#[]⟩))).toArray.all (·.oneCell') = true := vcells_all _
    have hsz := GG.size
    clear B3
    obtain ⟨g3, hg3⟩ : ∃ z, z = w2.heap.size := ⟨_, rfl⟩
    have hb2 := B2.lt
    rw [← hg3] at T3 S3 LE3 hsz hb2
    have HG3 := hid hg3
    clear hg3
    go_wp2_with (first
      | (rw [← HG3.out]
         refine wpList_store_mid rfl 33 (.tmp 3) (.tmp 6) rfl g3 0 ((vcells (k, 0, ⟨#[]⟩))).toArray rfl rfl T3 info_val O3 ?_
         simp only [Act.put]
         generalize hw3 : World.setCells _ g3 0 ((vcells (k, 0, ⟨#[]⟩))).toArray.toList = w3
         have S3' : Blk w3 g3 (vcells (k, 0, ⟨#[]⟩)) := hw3 ▸ S3
         have LE3' : Le w2 w3 := hw3 ▸ LE3
         have R3 := R2.later LE3'
         have q1 : w3.cell? ⟨g3, 0, none⟩ = some (.int .i64 k) := S3'.cell rfl
         obtain ⟨y0, y1, y2, y3⟩ := R3.facts
         clear hw3 T3 S3 LE3 O3)
      | fail)
    have hne3 : (some g : Option Nat) ≠ some g3 := by simp; omega
    replace B2 := B2.later LE3'
    replace GG := GG.trans (grown_none LE3' _)
    clear R2 LE3' q1 y0 y1 y2 y3
    refine (H2.out _ R3).mono ?_
    rintro x w5 ⟨rfl, R5, G5⟩
    replace B2 := B2.kept G5 hne
    have S5 := S3'.kept G5 hne3
    replace GG := GG.trans G5
    have f1 := S5.frozen 1
    have q1 : w5.cell? ⟨g3, 1, none⟩ = some (.int .i64 0) := S5.cell rfl
    have S8 : Blk (w5.setCell ⟨g3, 1, none⟩ (.int .i64 n)) g3 (vcells (k, n, ⟨#[]⟩)) := S5.set 1 _
    have R8 := R5.off (grown_set1 w5 g3 1 (.int .i64 n)) (by omega)
    have B8 := B2.setOther (b := g3) 1 (.int .i64 n) (by omega)
    have G8 := grown_new GG (grown_set1 w5 g3 1 (.int .i64 n)) hsz
    have q3 : (w5.setCell ⟨g3, 1, none⟩ (.int .i64 n)).cell? ⟨g3, 0, none⟩ = some (.int .i64 k) := S8.cell rfl
    obtain ⟨y0, y1, y2, y3⟩ := R8.facts
    clear R3 R5 G5 B2 S3' S5 GG
    have T8 := B8.there 0 3 (Nat.le_refl _)
    have FIN := B8.wholeT (ds := (vcells (k, n, ⟨#[]⟩))) rfl
    have O8 : ((vcells (k, n, ⟨#[]⟩))).toArray.all (·.oneCell') = true := vcells_all _
    have RG := S8.range 0 (vcells (k, n, ⟨#[]⟩)) rfl
    have R9 := R8.off (grown_sets4 w.heap.size (vcells (k, n, ⟨#[]⟩)) 0 (w5.setCell ⟨g3, 1, none⟩ (.int .i64 n))) (by omega)
    have G9 := grown_new G8 (grown_sets4 w.heap.size (vcells (k, n, ⟨#[]⟩)) 0 (w5.setCell ⟨g3, 1, none⟩ (.int .i64 n))) (by omega)
    clear S8 R8 B8 G8
    go_wp2_with (first
      | (refine wpList_load_mid rfl 33 (.tmp 3) rfl g3 0 rfl (vcells (k, n, ⟨#[]⟩)) _ RG hu rfl info_val ?_)
      | (refine wpList_store_mid rfl 33 (.tmp 2) (.tmp 25) rfl w.heap.size 0 ((vcells (k, n, ⟨#[]⟩))).toArray rfl rfl T8 info_val O8 ?_)
      | fail)
    exact bodyPost_ret (v := .agg ((vcells (k, n, ⟨#[]⟩))).toArray) (tok_results (q := 2) rfl _ _ w.heap.size _ _ rfl FIN hu rfl info_val) rfl ⟨by rw [HT.out, valEnd_yes ke]; rw [HK.out]; rfl, by rw [HT.out, valEnd_yes ke]; exact R9, G9⟩
  · go_enter Tryz.func82, Tryz.ntmps82
    go_wp2_with fail
    refine (H1.out _ R0).mono ?_
    rintro x w2 ⟨rfl, R2, G2⟩
    replace B2 := B2.kept G2 hne
    have GG := G0.trans G2
    clear R0 G0 G2
    have B3 := Blk.new w2 (vcells zv) 33
    have T3 := B3.there 0 3 (Nat.le_refl _)
    have S3 := B3.wholeT (ds := (vcells (k, 0, ⟨#[]⟩))) rfl
    have LE3 : Le w2 (World.setCells (w2.alloc (.cells (vcells zv).toArray 33)) w2.heap.size 0 (vcells (k, 0, ⟨#[]⟩))) := below_sets (Nat.le_refl _) _ 0 ((Below.refl w2.heap.size w2).alloc (Nat.le_refl _) _)
    have O3 : ((vcells (k, 0, ⟨#[]⟩))).toArray.all (·.oneCell') = true := vcells_all _
    have hsz := GG.size
    clear B3
    obtain ⟨g3, hg3⟩ : ∃ z, z = w2.heap.size := ⟨_, rfl⟩
    have hb2 := B2.lt
    rw [← hg3] at T3 S3 LE3 hsz hb2
    have HG3 := hid hg3
    clear hg3
    go_wp2_with (first
      | (rw [← HG3.out]
         refine wpList_store_mid rfl 33 (.tmp 3) (.tmp 6) rfl g3 0 ((vcells (k, 0, ⟨#[]⟩))).toArray rfl rfl T3 info_val O3 ?_
         simp only [Act.put]
         generalize hw3 : World.setCells _ g3 0 ((vcells (k, 0, ⟨#[]⟩))).toArray.toList = w3
         have S3' : Blk w3 g3 (vcells (k, 0, ⟨#[]⟩)) := hw3 ▸ S3
         have LE3' : Le w2 w3 := hw3 ▸ LE3
         have R3 := R2.later LE3'
         have q1 : w3.cell? ⟨g3, 0, none⟩ = some (.int .i64 k) := S3'.cell rfl
         obtain ⟨y0, y1, y2, y3⟩ := R3.facts
         clear hw3 T3 S3 LE3 O3)
      | fail)
    have hne3 : (some g : Option Nat) ≠ some g3 := by simp; omega
    replace B2 := B2.later LE3'
    replace GG := GG.trans (grown_none LE3' _)
    clear R2 LE3' q1 y0 y1 y2 y3
    refine (H2.out _ R3).mono ?_
    rintro x w5 ⟨rfl, R5, G5⟩
    replace B2 := B2.kept G5 hne
    have S5 := S3'.kept G5 hne3
    replace GG := GG.trans G5
    have f1 := S5.frozen 1
    have q1 : w5.cell? ⟨g3, 1, none⟩ = some (.int .i64 0) := S5.cell rfl
    have S8 : Blk (w5.setCell ⟨g3, 1, none⟩ (.int .i64 n)) g3 (vcells (k, n, ⟨#[]⟩)) := S5.set 1 _
    have R8 := R5.off (grown_set1 w5 g3 1 (.int .i64 n)) (by omega)
    have B8 := B2.setOther (b := g3) 1 (.int .i64 n) (by omega)
    have G8 := grown_new GG (grown_set1 w5 g3 1 (.int .i64 n)) hsz
    have q3 : (w5.setCell ⟨g3, 1, none⟩ (.int .i64 n)).cell? ⟨g3, 0, none⟩ = some (.int .i64 k) := S8.cell rfl
    obtain ⟨y0, y1, y2, y3⟩ := R8.facts
    clear R3 R5 G5 B2 S3' S5 GG
    have T8 := B8.there 0 3 (Nat.le_refl _)
    have FIN := B8.wholeT (ds := (vcells zv)) rfl
    have O8 : ((vcells zv)).toArray.all (·.oneCell') = true := vcells_all _
    have RG := S8.range 0 (vcells (k, n, ⟨#[]⟩)) rfl
    have R9 := R8.off (grown_sets4 w.heap.size (vcells zv) 0 (w5.setCell ⟨g3, 1, none⟩ (.int .i64 n))) (by omega)
    have G9 := grown_new G8 (grown_sets4 w.heap.size (vcells zv) 0 (w5.setCell ⟨g3, 1, none⟩ (.int .i64 n))) (by omega)
    clear S8 R8 B8 G8
    go_wp2_with (first
      | (refine wpList_load_mid rfl 33 (.tmp 3) rfl g3 0 rfl (vcells (k, n, ⟨#[]⟩)) _ RG hu rfl info_val ?_)
      | (refine wpList_store_mid rfl 33 (.tmp 2) (.tmp 24) rfl w.heap.size 0 ((vcells zv)).toArray rfl rfl T8 info_val O8 ?_)
      | fail)
    exact bodyPost_ret (v := .agg ((vcells zv)).toArray) (tok_results (q := 2) rfl _ _ w.heap.size _ _ rfl FIN hu rfl info_val) rfl ⟨by rw [HT.out, valEnd_no ke], by rw [HT.out, valEnd_no ke]; exact R9, G9⟩
theorem rr_value2 (base g : Nat) (l : List UInt8) (a : Nat) (e : Int) (w : World) (h : Rr w base g (l.drop a) e) (ha : a ≤ l.length) (hm : l.length ≤ 4000) (hc : (numOut l a e 2).1 = 2) (T : V3 × Nat × Int) (hT : T = valEnd 2 0 (strOut l (numOut l a e 2).2.1 (numOut l a e 2).2.2 24).1 (strOut l (numOut l a e 2).2.1 (numOut l a e 2).2.2 24).2.1 (strOut l (numOut l a e 2).2.1 (numOut l a e 2).2.2 24).2.2) :
    Calls Tryz.prog 82 #[.pointer (some ⟨g, 0, none⟩)] w fun x w' => x = .returned (.agg (vcells T.1).toArray) ∧ Rr w' base g (l.drop T.2.1) T.2.2 ∧ w.grownBy w' (some g) := by
  have hg := h.block.2
  have A1 := numOut_at l a e 2 ha
  have H1 : Hid (∀ wx, Rr wx base g (l.drop a) e → Calls Tryz.prog 22 #[.pointer (some ⟨g, 0, none⟩), .int .i64 2] wx fun x w' => x = .returned (.int .i64 ((numOut l a e 2).1 : Nat)) ∧ Rr w' base g (l.drop (numOut l a e 2).2.1) (numOut l a e 2).2.2 ∧ wx.grownBy w' (some g)) := hid fun wx hx => rr_numd base g l a e 2 wx hx hm
  obtain ⟨r1, hr1⟩ : ∃ r, r = numOut l a e 2 := ⟨_, rfl⟩
  rw [← hr1] at H1 A1 hT hc
  obtain ⟨v1, a1, e1⟩ := r1
  simp only at H1 A1 hT hc
  have H2 : Hid (∀ wx, Rr wx base g (l.drop a1) e1 → Calls Tryz.prog 96 #[.pointer (some ⟨g, 0, none⟩), .int .i64 24] wx fun x w' => x = .returned (.string (str (strOut l a1 e1 24).1)) ∧ Rr w' base g (l.drop (strOut l a1 e1 24).2.1) (strOut l a1 e1 24).2.2 ∧ wx.grownBy w' (some g)) := hid fun wx hx => rr_strd base g l a1 e1 24 wx hx A1 hm
  obtain ⟨r2, hr2⟩ : ∃ r, r = strOut l a1 e1 24 := ⟨_, rfl⟩
  rw [← hr2] at H2 hT
  obtain ⟨v2, a5, e5⟩ := r2
  simp only at H2 hT
  obtain ⟨k, hk⟩ : ∃ k : Int, k = (v1 : Int) := ⟨_, rfl⟩
  rw [← hk] at H1
  have t1 : (k == 1) = false := by rw [hk, hc]; rfl
  have t2 : (k == 2) = true := by rw [hk, hc]; rfl
  have HK : Hid (k = 2) := hid (by rw [hk, hc]; rfl)
  obtain ⟨sv, hsv⟩ : ∃ sv, sv = str v2 := ⟨_, rfl⟩
  rw [← hsv] at H2
  have HSV := hid hsv
  clear hk hr2 hsv
  have HT := hid hT
  clear hr1 hT hc A1 ha hm
  have B2 := Blk.new w (vcells zv) 33
  have R0 := h.later ((Below.refl w.heap.size w).alloc (Nat.le_refl _) (.cells (vcells zv).toArray 33))
  have G0 := World.grownBy_alloc w (.cells (vcells zv).toArray 33) (some g)
  have hu := Tryz.underlying33
  clear h
  have hne : (some g : Option Nat) ≠ some w.heap.size := by simp; omega
  obtain ⟨be, hbe⟩ : ∃ b, b = (e5 != 0) := ⟨_, rfl⟩
  have ke : (e5 != 0) = be := hbe.symm
  clear hbe
  cases be
  · go_enter Tryz.func82, Tryz.ntmps82
    go_wp2_with fail
    refine (H1.out _ R0).mono ?_
    rintro x w2 ⟨rfl, R2, G2⟩
    replace B2 := B2.kept G2 hne
    have GG := G0.trans G2
    clear R0 G0 G2
    have B3 := Blk.new w2 (vcells zv) 33
    have T3 := B3.there 0 3 (Nat.le_refl _)
    have S3 := B3.wholeT (ds := (vcells (k, 0, ⟨#[]⟩))) rfl
    have LE3 : Le w2 (World.setCells (w2.alloc (.cells (vcells zv).toArray 33)) w2.heap.size 0 (vcells (k, 0, ⟨#[]⟩))) := below_sets (Nat.le_refl _) _ 0 ((Below.refl w2.heap.size w2).alloc (Nat.le_refl _) _)
    have O3 : ((vcells (k, 0, ⟨#[]⟩))).toArray.all (·.oneCell') = true := vcells_all _
    have hsz := GG.size
    clear B3
    obtain ⟨g3, hg3⟩ : ∃ z, z = w2.heap.size := ⟨_, rfl⟩
    have hb2 := B2.lt
    rw [← hg3] at T3 S3 LE3 hsz hb2
    have HG3 := hid hg3
    clear hg3
    go_wp2_with (first
      | (rw [← HG3.out]
         refine wpList_store_mid rfl 33 (.tmp 3) (.tmp 6) rfl g3 0 ((vcells (k, 0, ⟨#[]⟩))).toArray rfl rfl T3 info_val O3 ?_
         simp only [Act.put]
         generalize hw3 : World.setCells _ g3 0 ((vcells (k, 0, ⟨#[]⟩))).toArray.toList = w3
         have S3' : Blk w3 g3 (vcells (k, 0, ⟨#[]⟩)) := hw3 ▸ S3
         have LE3' : Le w2 w3 := hw3 ▸ LE3
         have R3 := R2.later LE3'
         have q1 : w3.cell? ⟨g3, 0, none⟩ = some (.int .i64 k) := S3'.cell rfl
         obtain ⟨y0, y1, y2, y3⟩ := R3.facts
         clear hw3 T3 S3 LE3 O3)
      | fail)
    have hne3 : (some g : Option Nat) ≠ some g3 := by simp; omega
    replace B2 := B2.later LE3'
    replace GG := GG.trans (grown_none LE3' _)
    clear R2 LE3' q1 y0 y1 y2 y3
    refine (H2.out _ R3).mono ?_
    rintro x w5 ⟨rfl, R5, G5⟩
    replace B2 := B2.kept G5 hne
    have S5 := S3'.kept G5 hne3
    replace GG := GG.trans G5
    have f1 := S5.frozen 2
    have q1 : w5.cell? ⟨g3, 2, none⟩ = some (.string ⟨#[]⟩) := S5.cell rfl
    have S8 : Blk (w5.setCell ⟨g3, 2, none⟩ (.string sv)) g3 (vcells (k, 0, sv)) := S5.set 2 _
    have R8 := R5.off (grown_set1 w5 g3 2 (.string sv)) (by omega)
    have B8 := B2.setOther (b := g3) 2 (.string sv) (by omega)
    have G8 := grown_new GG (grown_set1 w5 g3 2 (.string sv)) hsz
    have q3 : (w5.setCell ⟨g3, 2, none⟩ (.string sv)).cell? ⟨g3, 0, none⟩ = some (.int .i64 k) := S8.cell rfl
    obtain ⟨y0, y1, y2, y3⟩ := R8.facts
    clear R3 R5 G5 B2 S3' S5 GG
    have T8 := B8.there 0 3 (Nat.le_refl _)
    have FIN := B8.wholeT (ds := (vcells (k, 0, sv))) rfl
    have O8 : ((vcells (k, 0, sv))).toArray.all (·.oneCell') = true := vcells_all _
    have RG := S8.range 0 (vcells (k, 0, sv)) rfl
    have R9 := R8.off (grown_sets4 w.heap.size (vcells (k, 0, sv)) 0 (w5.setCell ⟨g3, 2, none⟩ (.string sv))) (by omega)
    have G9 := grown_new G8 (grown_sets4 w.heap.size (vcells (k, 0, sv)) 0 (w5.setCell ⟨g3, 2, none⟩ (.string sv))) (by omega)
    clear S8 R8 B8 G8
    go_wp2_with (first
      | (refine wpList_load_mid rfl 33 (.tmp 3) rfl g3 0 rfl (vcells (k, 0, sv)) _ RG hu rfl info_val ?_)
      | (refine wpList_store_mid rfl 33 (.tmp 2) (.tmp 25) rfl w.heap.size 0 ((vcells (k, 0, sv))).toArray rfl rfl T8 info_val O8 ?_)
      | fail)
    exact bodyPost_ret (v := .agg ((vcells (k, 0, sv))).toArray) (tok_results (q := 2) rfl _ _ w.heap.size _ _ rfl FIN hu rfl info_val) rfl ⟨by rw [HT.out, valEnd_yes ke]; rw [HK.out, HSV.out], by rw [HT.out, valEnd_yes ke]; exact R9, G9⟩
  · go_enter Tryz.func82, Tryz.ntmps82
    go_wp2_with fail
    refine (H1.out _ R0).mono ?_
    rintro x w2 ⟨rfl, R2, G2⟩
    replace B2 := B2.kept G2 hne
    have GG := G0.trans G2
    clear R0 G0 G2
    have B3 := Blk.new w2 (vcells zv) 33
    have T3 := B3.there 0 3 (Nat.le_refl _)
    have S3 := B3.wholeT (ds := (vcells (k, 0, ⟨#[]⟩))) rfl
    have LE3 : Le w2 (World.setCells (w2.alloc (.cells (vcells zv).toArray 33)) w2.heap.size 0 (vcells (k, 0, ⟨#[]⟩))) := below_sets (Nat.le_refl _) _ 0 ((Below.refl w2.heap.size w2).alloc (Nat.le_refl _) _)
    have O3 : ((vcells (k, 0, ⟨#[]⟩))).toArray.all (·.oneCell') = true := vcells_all _
    have hsz := GG.size
    clear B3
    obtain ⟨g3, hg3⟩ : ∃ z, z = w2.heap.size := ⟨_, rfl⟩
    have hb2 := B2.lt
    rw [← hg3] at T3 S3 LE3 hsz hb2
    have HG3 := hid hg3
    clear hg3
    go_wp2_with (first
      | (rw [← HG3.out]
         refine wpList_store_mid rfl 33 (.tmp 3) (.tmp 6) rfl g3 0 ((vcells (k, 0, ⟨#[]⟩))).toArray rfl rfl T3 info_val O3 ?_
         simp only [Act.put]
         generalize hw3 : World.setCells _ g3 0 ((vcells (k, 0, ⟨#[]⟩))).toArray.toList = w3
         have S3' : Blk w3 g3 (vcells (k, 0, ⟨#[]⟩)) := hw3 ▸ S3
         have LE3' : Le w2 w3 := hw3 ▸ LE3
         have R3 := R2.later LE3'
         have q1 : w3.cell? ⟨g3, 0, none⟩ = some (.int .i64 k) := S3'.cell rfl
         obtain ⟨y0, y1, y2, y3⟩ := R3.facts
         clear hw3 T3 S3 LE3 O3)
      | fail)
    have hne3 : (some g : Option Nat) ≠ some g3 := by simp; omega
    replace B2 := B2.later LE3'
    replace GG := GG.trans (grown_none LE3' _)
    clear R2 LE3' q1 y0 y1 y2 y3
    refine (H2.out _ R3).mono ?_
    rintro x w5 ⟨rfl, R5, G5⟩
    replace B2 := B2.kept G5 hne
    have S5 := S3'.kept G5 hne3
    replace GG := GG.trans G5
    have f1 := S5.frozen 2
    have q1 : w5.cell? ⟨g3, 2, none⟩ = some (.string ⟨#[]⟩) := S5.cell rfl
    have S8 : Blk (w5.setCell ⟨g3, 2, none⟩ (.string sv)) g3 (vcells (k, 0, sv)) := S5.set 2 _
    have R8 := R5.off (grown_set1 w5 g3 2 (.string sv)) (by omega)
    have B8 := B2.setOther (b := g3) 2 (.string sv) (by omega)
    have G8 := grown_new GG (grown_set1 w5 g3 2 (.string sv)) hsz
    have q3 : (w5.setCell ⟨g3, 2, none⟩ (.string sv)).cell? ⟨g3, 0, none⟩ = some (.int .i64 k) := S8.cell rfl
    obtain ⟨y0, y1, y2, y3⟩ := R8.facts
    clear R3 R5 G5 B2 S3' S5 GG
    have T8 := B8.there 0 3 (Nat.le_refl _)
    have FIN := B8.wholeT (ds := (vcells zv)) rfl
    have O8 : ((vcells zv)).toArray.all (·.oneCell') = true := vcells_all _
    have RG := S8.range 0 (vcells (k, 0, sv)) rfl
    have R9 := R8.off (grown_sets4 w.heap.size (vcells zv) 0 (w5.setCell ⟨g3, 2, none⟩ (.string sv))) (by omega)
    have G9 := grown_new G8 (grown_sets4 w.heap.size (vcells zv) 0 (w5.setCell ⟨g3, 2, none⟩ (.string sv))) (by omega)
    clear S8 R8 B8 G8
    go_wp2_with (first
      | (refine wpList_load_mid rfl 33 (.tmp 3) rfl g3 0 rfl (vcells (k, 0, sv)) _ RG hu rfl info_val ?_)
      | (refine wpList_store_mid rfl 33 (.tmp 2) (.tmp 24) rfl w.heap.size 0 ((vcells zv)).toArray rfl rfl T8 info_val O8 ?_)
      | fail)
    exact bodyPost_ret (v := .agg ((vcells zv)).toArray) (tok_results (q := 2) rfl _ _ w.heap.size _ _ rfl FIN hu rfl info_val) rfl ⟨by rw [HT.out, valEnd_no ke], by rw [HT.out, valEnd_no ke]; exact R9, G9⟩
theorem rr_value (base g : Nat) (l : List UInt8) (a : Nat) (e : Int) (w : World) (h : Rr w base g (l.drop a) e) (ha : a ≤ l.length) (hm : l.length ≤ 4000) :
    Calls Tryz.prog 82 #[.pointer (some ⟨g, 0, none⟩)] w fun x w' => x = .returned (.agg (vcells (valOut l a e).1).toArray) ∧ Rr w' base g (l.drop (valOut l a e).2.1) (valOut l a e).2.2 ∧ w.grownBy w' (some g) := by
  by_cases c1 : (numOut l a e 2).1 = 1
  · exact rr_value1 base g l a e w h ha hm c1 _ (by unfold valOut; rw [if_pos c1])
  · by_cases c2 : (numOut l a e 2).1 = 2
    · exact rr_value2 base g l a e w h ha hm c2 _ (by unfold valOut; rw [if_neg c1, if_pos c2])
    · exact rr_value0 base g l a e w h ha hm ⟨c1, c2⟩ _ (by unfold valOut; rw [if_neg c1, if_neg c2])
theorem rr_aboved (base g : Nat) (l : List UInt8) (a : Nat) (e y : Int) (w : World) (h : Rr w base g (l.drop a) e) (hm : l.length ≤ 4000) :
    Calls Tryz.prog 79 #[.pointer (some ⟨g, 0, none⟩), .int .i64 y] w fun x w' => x = .returned (.int .i64 ((abvOut l a e y).1 : Nat)) ∧ Rr w' base g (l.drop (abvOut l a e y).2.1) (abvOut l a e y).2.2 ∧ w.grownBy w' (some g) := by
  unfold abvOut
  simp only
  have H1 := hid (rr_numd base g l a e y w h hm)
  obtain ⟨r1, hr1⟩ : ∃ r, r = numOut l a e y := ⟨_, rfl⟩
  rw [← hr1] at H1 ⊢
  clear hr1 h hm
  obtain ⟨v1, a1, e1⟩ := r1
  simp only at H1 ⊢
  have HF : Hid (∀ wx, Rr wx base g (l.drop a1) e1 → Calls Tryz.prog 49 #[.pointer (some ⟨g, 0, none⟩), .int .i64 3] wx fun x w' => x = .returned (.tuple #[]) ∧ Rr w' base g (l.drop a1) (failOut e1 3) ∧ wx.grownBy w' (some g)) := hid fun wx hx => rr_fail base g (l.drop a1) e1 3 wx hx
  obtain ⟨E, hE⟩ : ∃ z, z = (if v1 = 0 then failOut e1 3 else e1) := ⟨_, rfl⟩
  rw [← hE]
  obtain ⟨bz, hbz⟩ : ∃ b, b = (((v1 : Nat) : Int) == 0) := ⟨_, rfl⟩
  obtain ⟨be, hbe⟩ : ∃ b, b = (e1 == 0) := ⟨_, rfl⟩
  have ke : (e1 == 0) = be := hbe.symm
  have kz : (((v1 : Nat) : Int) == 0) = bz := hbz.symm
  cases be
  · have HE : Hid (E = e1) := Lib.hid (by rw [hE]; have : e1 ≠ 0 := by simpa using hbe.symm
                                          unfold failOut; rw [if_neg this]; split <;> rfl)
    clear hE hbz hbe kz
    go_enter Tryz.func79, Tryz.ntmps79
    go_wp2_with fail
    refine H1.out.mono ?_
    rintro x w1 ⟨rfl, R1, G1⟩
    obtain ⟨q0, q1, f0, f1⟩ := R1.facts
    go_wp2_with fail
    go_ret
    exact ⟨rfl, by rw [HE.out]; exact R1, G1⟩
  · cases bz
    · have HE : Hid (E = e1) := hid (by rw [hE]; exact if_neg (by simpa using hbz))
      clear hE hbz hbe
      go_enter Tryz.func79, Tryz.ntmps79
      go_wp2_with fail
      refine H1.out.mono ?_
      rintro x w1 ⟨rfl, R1, G1⟩
      obtain ⟨q0, q1, f0, f1⟩ := R1.facts
      go_wp2_with fail
      go_ret
      exact ⟨rfl, by rw [HE.out]; exact R1, G1⟩
    · have HE : Hid (E = failOut e1 3) := hid (by rw [hE]; exact if_pos (by simpa using hbz))
      clear hE hbz hbe
      go_enter Tryz.func79, Tryz.ntmps79
      go_wp2_with fail
      refine H1.out.mono ?_
      rintro x w1 ⟨rfl, R1, G1⟩
      obtain ⟨q0, q1, f0, f1⟩ := R1.facts
      go_wp2_with fail
      refine (HF.out _ R1).mono ?_
      rintro x w2 ⟨rfl, R2, G2⟩
      clear q0 q1 f0 f1
      go_wp2_with fail
      go_ret
      exact ⟨rfl, by rw [HE.out]; exact R2, G1.trans G2⟩
end Go.Proofs.YtnhcjadkbogioaaGreat
