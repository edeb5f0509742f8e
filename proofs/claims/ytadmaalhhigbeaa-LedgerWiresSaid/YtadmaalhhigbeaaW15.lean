/- Values as they are read of bytes: the document's; a number above 0. -/
import Derived.Test.YtadmaalhhigbeaaW13
import Derived.Test.YtadmaalhhigbeaaW14
import Derived.Test.YtadmaalhhigbeaaW11
namespace Go.Proofs.Ytadmaalhhigbeaa
set_option linter.unusedVariables false
open Go Go.RowKit OctM

set_option maxRecDepth 100000 in
set_option maxHeartbeats 3200000 in
theorem rr_value0 (base g : Nat) (l : List UInt8) (a : Nat) (e : Int) (w : World) (h : Rr w base g (l.drop a) e) (ha : a ≤ l.length) (hm : l.length ≤ 4000) (hc : (numOut l a e 2).1 ≠ 1 ∧ (numOut l a e 2).1 ≠ 2) (T : V3 × Nat × Int) (hT : T = valEnd ((numOut l a e 2).1 : Nat) 0 [] (numOut l a e 2).2.1 (numOut l a e 2).2.2) :
    Calls Try.prog 101 #[.pointer (some ⟨g, 0, none⟩)] w fun x w' => x = .returned (.agg (vcells T.1).toArray) ∧ Rr w' base g (l.drop T.2.1) T.2.2 ∧ w.grownBy w' (some g) := by
  have hg := h.block.2
  have A1 := numOut_at l a e 2 ha
  have H1 : Hid (∀ wx, Rr wx base g (l.drop a) e → Calls Try.prog 53 #[.pointer (some ⟨g, 0, none⟩), .int .i64 2] wx fun x w' => x = .returned (.int .i64 ((numOut l a e 2).1 : Nat)) ∧ Rr w' base g (l.drop (numOut l a e 2).2.1) (numOut l a e 2).2.2 ∧ wx.grownBy w' (some g)) := Lib.hid fun wx hx => rr_numd base g l a e 2 wx hx hm
  obtain ⟨r1, hr1⟩ : ∃ r, r = numOut l a e 2 := ⟨_, rfl⟩
  rw [← hr1] at H1 A1 hT hc
  obtain ⟨v1, a1, e1⟩ := r1
  simp only at H1 A1 hT hc
  obtain ⟨k, hk⟩ : ∃ k : Int, k = (v1 : Int) := ⟨_, rfl⟩
  rw [← hk] at H1 hT
  have t1 : (k == 1) = false := by rw [hk]; simp; omega
  have t2 : (k == 2) = false := by rw [hk]; simp; omega
  have HK : Hid (k = k) := Lib.hid rfl
  clear hk
  have HT := Lib.hid hT
  clear hr1 hT hc A1 ha hm
  have B2 := Blk.new w (vcells zv) 69
  have R0 := h.later ((Below.refl w.heap.size w).alloc (Nat.le_refl _) (.cells (vcells zv).toArray 69))
  have G0 := World.grownBy_alloc w (.cells (vcells zv).toArray 69) (some g)
  have hu := Try.underlying69
  clear h
  have hne : (some g : Option Nat) ≠ some w.heap.size := by simp; omega
  obtain ⟨be, hbe⟩ : ∃ b, b = (e1 != 0) := ⟨_, rfl⟩
  have ke : (e1 != 0) = be := hbe.symm
  clear hbe
  cases be
  · go_enter Try.func101, Try.ntmps101
    go_wp2_with fail
    refine (H1.out _ R0).mono ?_
    rintro x w2 ⟨rfl, R2, G2⟩
    replace B2 := B2.kept G2 hne
    have GG := G0.trans G2
    clear R0 G0 G2
    have B3 := Blk.new w2 (vcells zv) 69
    have T3 := B3.there 0 3 (Nat.le_refl _)
    have S3 := B3.wholeT (ds := (vcells (k, 0, ⟨#[]⟩))) rfl
    have LE3 : Le w2 (World.setCells (w2.alloc (.cells (vcells zv).toArray 69)) w2.heap.size 0 (vcells (k, 0, ⟨#[]⟩))) := below_sets (Nat.le_refl _) _ 0 ((Below.refl w2.heap.size w2).alloc (Nat.le_refl _) _)
    have O3 : ((vcells (k, 0, ⟨#[]⟩))).toArray.all (·.oneCell') = true := vcells_all _
    have hsz := GG.size
    clear B3
    obtain ⟨g3, hg3⟩ : ∃ z, z = w2.heap.size := ⟨_, rfl⟩
    have hb2 := B2.lt
    rw [← hg3] at T3 S3 LE3 hsz hb2
    have HG3 := Lib.hid hg3
    clear hg3
    go_wp2_with (first
      | (rw [← HG3.out]
         refine wpList_store_mid rfl 69 (.tmp 3) (.tmp 6) rfl g3 0 ((vcells (k, 0, ⟨#[]⟩))).toArray rfl rfl T3 info_val O3 ?_
         simp only [Act.put]
         generalize hw3 : World.setCells _ g3 0 ((vcells (k, 0, ⟨#[]⟩))).toArray.toList = w3
         have S3' : Blk w3 g3 (vcells (k, 0, ⟨#[]⟩)) := hw3 ▸ S3
         have LE3' : Le w2 w3 := hw3 ▸ LE3
         have R3 := R2.later LE3'
         have q1 : w3.cell? ⟨g3, 0, none⟩ = some (.int .i64 k) := S3'.cell rfl
         obtain ⟨y0, y1, y2, y3⟩ := R3.facts
         have B8 := B2.later LE3'
         have G8 := GG.trans (grown_none LE3' _)
         have T8 := B8.there 0 3 (Nat.le_refl _)
         have FIN := B8.wholeT (ds := (vcells (k, 0, ⟨#[]⟩))) rfl
         have O8 : ((vcells (k, 0, ⟨#[]⟩))).toArray.all (·.oneCell') = true := vcells_all _
         have RG := S3'.range 0 (vcells (k, 0, ⟨#[]⟩)) rfl
         have R9 := R3.off (grown_sets4 w.heap.size (vcells (k, 0, ⟨#[]⟩)) 0 w3) (by omega)
         have G9 := grown_new G8 (grown_sets4 w.heap.size (vcells (k, 0, ⟨#[]⟩)) 0 w3) (by omega)
         clear hw3 T3 S3 LE3 O3 B8 G8 R3 R2 S3')
      | (refine wpList_load_mid rfl 69 (.tmp 3) rfl g3 0 rfl (vcells (k, 0, ⟨#[]⟩)) _ RG hu rfl info_val ?_)
      | (refine wpList_store_mid rfl 69 (.tmp 2) (.tmp 25) rfl w.heap.size 0 ((vcells (k, 0, ⟨#[]⟩))).toArray rfl rfl T8 info_val O8 ?_)
      | fail)
    exact bodyPost_ret (v := .agg ((vcells (k, 0, ⟨#[]⟩))).toArray) (tok_results (q := 2) rfl _ _ w.heap.size _ _ rfl FIN hu rfl info_val) rfl ⟨by rw [HT.out, valEnd_yes ke]; rfl, by rw [HT.out, valEnd_yes ke]; exact R9, G9⟩
  · go_enter Try.func101, Try.ntmps101
    go_wp2_with fail
    refine (H1.out _ R0).mono ?_
    rintro x w2 ⟨rfl, R2, G2⟩
    replace B2 := B2.kept G2 hne
    have GG := G0.trans G2
    clear R0 G0 G2
    have B3 := Blk.new w2 (vcells zv) 69
    have T3 := B3.there 0 3 (Nat.le_refl _)
    have S3 := B3.wholeT (ds := (vcells (k, 0, ⟨#[]⟩))) rfl
    have LE3 : Le w2 (World.setCells (w2.alloc (.cells (vcells zv).toArray 69)) w2.heap.size 0 (vcells (k, 0, ⟨#[]⟩))) := below_sets (Nat.le_refl _) _ 0 ((Below.refl w2.heap.size w2).alloc (Nat.le_refl _) _)
    have O3 : ((vcells (k, 0, ⟨#[]⟩))).toArray.all (·.oneCell') = true := vcells_all _
    have hsz := GG.size
    clear B3
    obtain ⟨g3, hg3⟩ : ∃ z, z = w2.heap.size := ⟨_, rfl⟩
    have hb2 := B2.lt
    rw [← hg3] at T3 S3 LE3 hsz hb2
    have HG3 := Lib.hid hg3
    clear hg3
    go_wp2_with (first
      | (rw [← HG3.out]
         refine wpList_store_mid rfl 69 (.tmp 3) (.tmp 6) rfl g3 0 ((vcells (k, 0, ⟨#[]⟩))).toArray rfl rfl T3 info_val O3 ?_
         simp only [Act.put]
         generalize hw3 : World.setCells _ g3 0 ((vcells (k, 0, ⟨#[]⟩))).toArray.toList = w3
         have S3' : Blk w3 g3 (vcells (k, 0, ⟨#[]⟩)) := hw3 ▸ S3
         have LE3' : Le w2 w3 := hw3 ▸ LE3
         have R3 := R2.later LE3'
         have q1 : w3.cell? ⟨g3, 0, none⟩ = some (.int .i64 k) := S3'.cell rfl
         obtain ⟨y0, y1, y2, y3⟩ := R3.facts
         have B8 := B2.later LE3'
         have G8 := GG.trans (grown_none LE3' _)
         have T8 := B8.there 0 3 (Nat.le_refl _)
         have FIN := B8.wholeT (ds := (vcells zv)) rfl
         have O8 : ((vcells zv)).toArray.all (·.oneCell') = true := vcells_all _
         have RG := S3'.range 0 (vcells (k, 0, ⟨#[]⟩)) rfl
         have R9 := R3.off (grown_sets4 w.heap.size (vcells zv) 0 w3) (by omega)
         have G9 := grown_new G8 (grown_sets4 w.heap.size (vcells zv) 0 w3) (by omega)
         clear hw3 T3 S3 LE3 O3 B8 G8 R3 R2 S3')
      | (refine wpList_load_mid rfl 69 (.tmp 3) rfl g3 0 rfl (vcells (k, 0, ⟨#[]⟩)) _ RG hu rfl info_val ?_)
      | (refine wpList_store_mid rfl 69 (.tmp 2) (.tmp 24) rfl w.heap.size 0 ((vcells zv)).toArray rfl rfl T8 info_val O8 ?_)
      | fail)
    exact bodyPost_ret (v := .agg ((vcells zv)).toArray) (tok_results (q := 2) rfl _ _ w.heap.size _ _ rfl FIN hu rfl info_val) rfl ⟨by rw [HT.out, valEnd_no ke], by rw [HT.out, valEnd_no ke]; exact R9, G9⟩
set_option maxRecDepth 100000 in
set_option maxHeartbeats 3200000 in
theorem rr_value1 (base g : Nat) (l : List UInt8) (a : Nat) (e : Int) (w : World) (h : Rr w base g (l.drop a) e) (ha : a ≤ l.length) (hm : l.length ≤ 4000) (hc : (numOut l a e 2).1 = 1) (T : V3 × Nat × Int) (hT : T = valEnd 1 ((numOut l (numOut l a e 2).2.1 (numOut l a e 2).2.2 1099511627776).1 : Nat) [] (numOut l (numOut l a e 2).2.1 (numOut l a e 2).2.2 1099511627776).2.1 (numOut l (numOut l a e 2).2.1 (numOut l a e 2).2.2 1099511627776).2.2) :
    Calls Try.prog 101 #[.pointer (some ⟨g, 0, none⟩)] w fun x w' => x = .returned (.agg (vcells T.1).toArray) ∧ Rr w' base g (l.drop T.2.1) T.2.2 ∧ w.grownBy w' (some g) := by
  have hg := h.block.2
  have A1 := numOut_at l a e 2 ha
  have H1 : Hid (∀ wx, Rr wx base g (l.drop a) e → Calls Try.prog 53 #[.pointer (some ⟨g, 0, none⟩), .int .i64 2] wx fun x w' => x = .returned (.int .i64 ((numOut l a e 2).1 : Nat)) ∧ Rr w' base g (l.drop (numOut l a e 2).2.1) (numOut l a e 2).2.2 ∧ wx.grownBy w' (some g)) := Lib.hid fun wx hx => rr_numd base g l a e 2 wx hx hm
  obtain ⟨r1, hr1⟩ : ∃ r, r = numOut l a e 2 := ⟨_, rfl⟩
  rw [← hr1] at H1 A1 hT hc
  obtain ⟨v1, a1, e1⟩ := r1
  simp only at H1 A1 hT hc
  have H2 : Hid (∀ wx, Rr wx base g (l.drop a1) e1 → Calls Try.prog 53 #[.pointer (some ⟨g, 0, none⟩), .int .i64 1099511627776] wx fun x w' => x = .returned (.int .i64 ((numOut l a1 e1 1099511627776).1 : Nat)) ∧ Rr w' base g (l.drop (numOut l a1 e1 1099511627776).2.1) (numOut l a1 e1 1099511627776).2.2 ∧ wx.grownBy w' (some g)) := Lib.hid fun wx hx => rr_numd base g l a1 e1 1099511627776 wx hx hm
  obtain ⟨r2, hr2⟩ : ∃ r, r = numOut l a1 e1 1099511627776 := ⟨_, rfl⟩
  rw [← hr2] at H2 hT
  obtain ⟨v2, a5, e5⟩ := r2
  simp only at H2 hT
  obtain ⟨k, hk⟩ : ∃ k : Int, k = (v1 : Int) := ⟨_, rfl⟩
  rw [← hk] at H1
  obtain ⟨n, hn⟩ : ∃ n : Int, n = (v2 : Int) := ⟨_, rfl⟩
  rw [← hn] at H2 hT
  have t1 : (k == 1) = true := by rw [hk, hc]; rfl
  have t2 : (k == 2) = false := by rw [hk, hc]; rfl
  have HK : Hid (k = 1) := Lib.hid (by rw [hk, hc]; rfl)
  clear hk hn hr2
  have HT := Lib.hid hT
  clear hr1 hT hc A1 ha hm
  have B2 := Blk.new w (vcells zv) 69
  have R0 := h.later ((Below.refl w.heap.size w).alloc (Nat.le_refl _) (.cells (vcells zv).toArray 69))
  have G0 := World.grownBy_alloc w (.cells (vcells zv).toArray 69) (some g)
  have hu := Try.underlying69
  clear h
  have hne : (some g : Option Nat) ≠ some w.heap.size := by simp; omega
  obtain ⟨be, hbe⟩ : ∃ b, b = (e5 != 0) := ⟨_, rfl⟩
  have ke : (e5 != 0) = be := hbe.symm
  clear hbe
  cases be
  · go_enter Try.func101, Try.ntmps101
    go_wp2_with fail
    refine (H1.out _ R0).mono ?_
    rintro x w2 ⟨rfl, R2, G2⟩
    replace B2 := B2.kept G2 hne
    have GG := G0.trans G2
    clear R0 G0 G2
    have B3 := Blk.new w2 (vcells zv) 69
    have T3 := B3.there 0 3 (Nat.le_refl _)
    have S3 := B3.wholeT (ds := (vcells (k, 0, ⟨#[]⟩))) rfl
    have LE3 : Le w2 (World.setCells (w2.alloc (.cells (vcells zv).toArray 69)) w2.heap.size 0 (vcells (k, 0, ⟨#[]⟩))) := below_sets (Nat.le_refl _) _ 0 ((Below.refl w2.heap.size w2).alloc (Nat.le_refl _) _)
    have O3 : ((vcells (k, 0, ⟨#[]⟩))).toArray.all (·.oneCell') = true := vcells_all _
    have hsz := GG.size
    clear B3
    obtain ⟨g3, hg3⟩ : ∃ z, z = w2.heap.size := ⟨_, rfl⟩
    have hb2 := B2.lt
    rw [← hg3] at T3 S3 LE3 hsz hb2
    have HG3 := Lib.hid hg3
    clear hg3
    go_wp2_with (first
      | (rw [← HG3.out]
         refine wpList_store_mid rfl 69 (.tmp 3) (.tmp 6) rfl g3 0 ((vcells (k, 0, ⟨#[]⟩))).toArray rfl rfl T3 info_val O3 ?_
         simp only [Act.put]
         generalize hw3 : World.setCells _ g3 0 ((vcells (k, 0, ⟨#[]⟩))).toArray.toList = w3
         have S3' : Blk w3 g3 (vcells (k, 0, ⟨#[]⟩)) := hw3 ▸ S3
         have LE3' : Le w2 w3 := hw3 ▸ LE3
         have R3 := R2.later LE3'
         have q1 : w3.cell? ⟨g3, 0, none⟩ = some (.int .i64 k) := S3'.cell rfl
         obtain ⟨y0, y1, y2, y3⟩ := R3.facts
         clear hw3 T3 S3 LE3 O3)
      | fail)
    have hne3 : (some g : Option Nat) ≠ some g3 := by simp; omega
    replace B2 := B2.later LE3'
    replace GG := GG.trans (grown_none LE3' _)
    clear R2 LE3' q1 y0 y1 y2 y3
    refine (H2.out _ R3).mono ?_
    rintro x w5 ⟨rfl, R5, G5⟩
    replace B2 := B2.kept G5 hne
    have S5 := S3'.kept G5 hne3
    replace GG := GG.trans G5
    have f1 := S5.frozen 1
    have q1 : w5.cell? ⟨g3, 1, none⟩ = some (.int .i64 0) := S5.cell rfl
    have S8 : Blk (w5.setCell ⟨g3, 1, none⟩ (.int .i64 n)) g3 (vcells (k, n, ⟨#[]⟩)) := S5.set 1 _
    have R8 := R5.off (grown_set1 w5 g3 1 (.int .i64 n)) (by omega)
    have B8 := B2.setOther (b := g3) 1 (.int .i64 n) (by omega)
    have G8 := grown_new GG (grown_set1 w5 g3 1 (.int .i64 n)) hsz
    have q3 : (w5.setCell ⟨g3, 1, none⟩ (.int .i64 n)).cell? ⟨g3, 0, none⟩ = some (.int .i64 k) := S8.cell rfl
    obtain ⟨y0, y1, y2, y3⟩ := R8.facts
    clear R3 R5 G5 B2 S3' S5 GG
    have T8 := B8.there 0 3 (Nat.le_refl _)
    have FIN := B8.wholeT (ds := (vcells (k, n, ⟨#[]⟩))) rfl
    have O8 : ((vcells (k, n, ⟨#[]⟩))).toArray.all (·.oneCell') = true := vcells_all _
    have RG := S8.range 0 (vcells (k, n, ⟨#[]⟩)) rfl
    have R9 := R8.off (grown_sets4 w.heap.size (vcells (k, n, ⟨#[]⟩)) 0 (w5.setCell ⟨g3, 1, none⟩ (.int .i64 n))) (by omega)
    have G9 := grown_new G8 (grown_sets4 w.heap.size (vcells (k, n, ⟨#[]⟩)) 0 (w5.setCell ⟨g3, 1, none⟩ (.int .i64 n))) (by omega)
    clear S8 R8 B8 G8
    go_wp2_with (first
      | (refine wpList_load_mid rfl 69 (.tmp 3) rfl g3 0 rfl (vcells (k, n, ⟨#[]⟩)) _ RG hu rfl info_val ?_)
      | (refine wpList_store_mid rfl 69 (.tmp 2) (.tmp 25) rfl w.heap.size 0 ((vcells (k, n, ⟨#[]⟩))).toArray rfl rfl T8 info_val O8 ?_)
      | fail)
    exact bodyPost_ret (v := .agg ((vcells (k, n, ⟨#[]⟩))).toArray) (tok_results (q := 2) rfl _ _ w.heap.size _ _ rfl FIN hu rfl info_val) rfl ⟨by rw [HT.out, valEnd_yes ke]; rw [HK.out]; rfl, by rw [HT.out, valEnd_yes ke]; exact R9, G9⟩
  · go_enter Try.func101, Try.ntmps101
    go_wp2_with fail
    refine (H1.out _ R0).mono ?_
    rintro x w2 ⟨rfl, R2, G2⟩
    replace B2 := B2.kept G2 hne
    have GG := G0.trans G2
    clear R0 G0 G2
    have B3 := Blk.new w2 (vcells zv) 69
    have T3 := B3.there 0 3 (Nat.le_refl _)
    have S3 := B3.wholeT (ds := (vcells (k, 0, ⟨#[]⟩))) rfl
    have LE3 : Le w2 (World.setCells (w2.alloc (.cells (vcells zv).toArray 69)) w2.heap.size 0 (vcells (k, 0, ⟨#[]⟩))) := below_sets (Nat.le_refl _) _ 0 ((Below.refl w2.heap.size w2).alloc (Nat.le_refl _) _)
    have O3 : ((vcells (k, 0, ⟨#[]⟩))).toArray.all (·.oneCell') = true := vcells_all _
    have hsz := GG.size
    clear B3
    obtain ⟨g3, hg3⟩ : ∃ z, z = w2.heap.size := ⟨_, rfl⟩
    have hb2 := B2.lt
    rw [← hg3] at T3 S3 LE3 hsz hb2
    have HG3 := Lib.hid hg3
    clear hg3
    go_wp2_with (first
      | (rw [← HG3.out]
         refine wpList_store_mid rfl 69 (.tmp 3) (.tmp 6) rfl g3 0 ((vcells (k, 0, ⟨#[]⟩))).toArray rfl rfl T3 info_val O3 ?_
         simp only [Act.put]
         generalize hw3 : World.setCells _ g3 0 ((vcells (k, 0, ⟨#[]⟩))).toArray.toList = w3
         have S3' : Blk w3 g3 (vcells (k, 0, ⟨#[]⟩)) := hw3 ▸ S3
         have LE3' : Le w2 w3 := hw3 ▸ LE3
         have R3 := R2.later LE3'
         have q1 : w3.cell? ⟨g3, 0, none⟩ = some (.int .i64 k) := S3'.cell rfl
         obtain ⟨y0, y1, y2, y3⟩ := R3.facts
         clear hw3 T3 S3 LE3 O3)
      | fail)
    have hne3 : (some g : Option Nat) ≠ some g3 := by simp; omega
    replace B2 := B2.later LE3'
    replace GG := GG.trans (grown_none LE3' _)
    clear R2 LE3' q1 y0 y1 y2 y3
    refine (H2.out _ R3).mono ?_
    rintro x w5 ⟨rfl, R5, G5⟩
    replace B2 := B2.kept G5 hne
    have S5 := S3'.kept G5 hne3
    replace GG := GG.trans G5
    have f1 := S5.frozen 1
    have q1 : w5.cell? ⟨g3, 1, none⟩ = some (.int .i64 0) := S5.cell rfl
    have S8 : Blk (w5.setCell ⟨g3, 1, none⟩ (.int .i64 n)) g3 (vcells (k, n, ⟨#[]⟩)) := S5.set 1 _
    have R8 := R5.off (grown_set1 w5 g3 1 (.int .i64 n)) (by omega)
    have B8 := B2.setOther (b := g3) 1 (.int .i64 n) (by omega)
    have G8 := grown_new GG (grown_set1 w5 g3 1 (.int .i64 n)) hsz
    have q3 : (w5.setCell ⟨g3, 1, none⟩ (.int .i64 n)).cell? ⟨g3, 0, none⟩ = some (.int .i64 k) := S8.cell rfl
    obtain ⟨y0, y1, y2, y3⟩ := R8.facts
    clear R3 R5 G5 B2 S3' S5 GG
    have T8 := B8.there 0 3 (Nat.le_refl _)
    have FIN := B8.wholeT (ds := (vcells zv)) rfl
    have O8 : ((vcells zv)).toArray.all (·.oneCell') = true := vcells_all _
    have RG := S8.range 0 (vcells (k, n, ⟨#[]⟩)) rfl
    have R9 := R8.off (grown_sets4 w.heap.size (vcells zv) 0 (w5.setCell ⟨g3, 1, none⟩ (.int .i64 n))) (by omega)
    have G9 := grown_new G8 (grown_sets4 w.heap.size (vcells zv) 0 (w5.setCell ⟨g3, 1, none⟩ (.int .i64 n))) (by omega)
    clear S8 R8 B8 G8
    go_wp2_with (first
      | (refine wpList_load_mid rfl 69 (.tmp 3) rfl g3 0 rfl (vcells (k, n, ⟨#[]⟩)) _ RG hu rfl info_val ?_)
      | (refine wpList_store_mid rfl 69 (.tmp 2) (.tmp 24) rfl w.heap.size 0 ((vcells zv)).toArray rfl rfl T8 info_val O8 ?_)
      | fail)
    exact bodyPost_ret (v := .agg ((vcells zv)).toArray) (tok_results (q := 2) rfl _ _ w.heap.size _ _ rfl FIN hu rfl info_val) rfl ⟨by rw [HT.out, valEnd_no ke], by rw [HT.out, valEnd_no ke]; exact R9, G9⟩
set_option maxRecDepth 100000 in
set_option maxHeartbeats 3200000 in
theorem rr_value2 (base g : Nat) (l : List UInt8) (a : Nat) (e : Int) (w : World) (h : Rr w base g (l.drop a) e) (ha : a ≤ l.length) (hm : l.length ≤ 4000) (hc : (numOut l a e 2).1 = 2) (T : V3 × Nat × Int) (hT : T = valEnd 2 0 (strOut l (numOut l a e 2).2.1 (numOut l a e 2).2.2 24).1 (strOut l (numOut l a e 2).2.1 (numOut l a e 2).2.2 24).2.1 (strOut l (numOut l a e 2).2.1 (numOut l a e 2).2.2 24).2.2) :
    Calls Try.prog 101 #[.pointer (some ⟨g, 0, none⟩)] w fun x w' => x = .returned (.agg (vcells T.1).toArray) ∧ Rr w' base g (l.drop T.2.1) T.2.2 ∧ w.grownBy w' (some g) := by
  have hg := h.block.2
  have A1 := numOut_at l a e 2 ha
  have H1 : Hid (∀ wx, Rr wx base g (l.drop a) e → Calls Try.prog 53 #[.pointer (some ⟨g, 0, none⟩), .int .i64 2] wx fun x w' => x = .returned (.int .i64 ((numOut l a e 2).1 : Nat)) ∧ Rr w' base g (l.drop (numOut l a e 2).2.1) (numOut l a e 2).2.2 ∧ wx.grownBy w' (some g)) := Lib.hid fun wx hx => rr_numd base g l a e 2 wx hx hm
  obtain ⟨r1, hr1⟩ : ∃ r, r = numOut l a e 2 := ⟨_, rfl⟩
  rw [← hr1] at H1 A1 hT hc
  obtain ⟨v1, a1, e1⟩ := r1
  simp only at H1 A1 hT hc
  have H2 : Hid (∀ wx, Rr wx base g (l.drop a1) e1 → Calls Try.prog 105 #[.pointer (some ⟨g, 0, none⟩), .int .i64 24] wx fun x w' => x = .returned (.string (str (strOut l a1 e1 24).1)) ∧ Rr w' base g (l.drop (strOut l a1 e1 24).2.1) (strOut l a1 e1 24).2.2 ∧ wx.grownBy w' (some g)) := Lib.hid fun wx hx => rr_strd base g l a1 e1 24 wx hx A1 hm
  obtain ⟨r2, hr2⟩ : ∃ r, r = strOut l a1 e1 24 := ⟨_, rfl⟩
  rw [← hr2] at H2 hT
  obtain ⟨v2, a5, e5⟩ := r2
  simp only at H2 hT
  obtain ⟨k, hk⟩ : ∃ k : Int, k = (v1 : Int) := ⟨_, rfl⟩
  rw [← hk] at H1
  have t1 : (k == 1) = false := by rw [hk, hc]; rfl
  have t2 : (k == 2) = true := by rw [hk, hc]; rfl
  have HK : Hid (k = 2) := Lib.hid (by rw [hk, hc]; rfl)
  obtain ⟨sv, hsv⟩ : ∃ sv, sv = str v2 := ⟨_, rfl⟩
  rw [← hsv] at H2
  have HSV := Lib.hid hsv
  clear hk hr2 hsv
  have HT := Lib.hid hT
  clear hr1 hT hc A1 ha hm
  have B2 := Blk.new w (vcells zv) 69
  have R0 := h.later ((Below.refl w.heap.size w).alloc (Nat.le_refl _) (.cells (vcells zv).toArray 69))
  have G0 := World.grownBy_alloc w (.cells (vcells zv).toArray 69) (some g)
  have hu := Try.underlying69
  clear h
  have hne : (some g : Option Nat) ≠ some w.heap.size := by simp; omega
  obtain ⟨be, hbe⟩ : ∃ b, b = (e5 != 0) := ⟨_, rfl⟩
  have ke : (e5 != 0) = be := hbe.symm
  clear hbe
  cases be
  · go_enter Try.func101, Try.ntmps101
    go_wp2_with fail
    refine (H1.out _ R0).mono ?_
    rintro x w2 ⟨rfl, R2, G2⟩
    replace B2 := B2.kept G2 hne
    have GG := G0.trans G2
    clear R0 G0 G2
    have B3 := Blk.new w2 (vcells zv) 69
    have T3 := B3.there 0 3 (Nat.le_refl _)
    have S3 := B3.wholeT (ds := (vcells (k, 0, ⟨#[]⟩))) rfl
    have LE3 : Le w2 (World.setCells (w2.alloc (.cells (vcells zv).toArray 69)) w2.heap.size 0 (vcells (k, 0, ⟨#[]⟩))) := below_sets (Nat.le_refl _) _ 0 ((Below.refl w2.heap.size w2).alloc (Nat.le_refl _) _)
    have O3 : ((vcells (k, 0, ⟨#[]⟩))).toArray.all (·.oneCell') = true := vcells_all _
    have hsz := GG.size
    clear B3
    obtain ⟨g3, hg3⟩ : ∃ z, z = w2.heap.size := ⟨_, rfl⟩
    have hb2 := B2.lt
    rw [← hg3] at T3 S3 LE3 hsz hb2
    have HG3 := Lib.hid hg3
    clear hg3
    go_wp2_with (first
      | (rw [← HG3.out]
         refine wpList_store_mid rfl 69 (.tmp 3) (.tmp 6) rfl g3 0 ((vcells (k, 0, ⟨#[]⟩))).toArray rfl rfl T3 info_val O3 ?_
         simp only [Act.put]
         generalize hw3 : World.setCells _ g3 0 ((vcells (k, 0, ⟨#[]⟩))).toArray.toList = w3
         have S3' : Blk w3 g3 (vcells (k, 0, ⟨#[]⟩)) := hw3 ▸ S3
         have LE3' : Le w2 w3 := hw3 ▸ LE3
         have R3 := R2.later LE3'
         have q1 : w3.cell? ⟨g3, 0, none⟩ = some (.int .i64 k) := S3'.cell rfl
         obtain ⟨y0, y1, y2, y3⟩ := R3.facts
         clear hw3 T3 S3 LE3 O3)
      | fail)
    have hne3 : (some g : Option Nat) ≠ some g3 := by simp; omega
    replace B2 := B2.later LE3'
    replace GG := GG.trans (grown_none LE3' _)
    clear R2 LE3' q1 y0 y1 y2 y3
    refine (H2.out _ R3).mono ?_
    rintro x w5 ⟨rfl, R5, G5⟩
    replace B2 := B2.kept G5 hne
    have S5 := S3'.kept G5 hne3
    replace GG := GG.trans G5
    have f1 := S5.frozen 2
    have q1 : w5.cell? ⟨g3, 2, none⟩ = some (.string ⟨#[]⟩) := S5.cell rfl
    have S8 : Blk (w5.setCell ⟨g3, 2, none⟩ (.string sv)) g3 (vcells (k, 0, sv)) := S5.set 2 _
    have R8 := R5.off (grown_set1 w5 g3 2 (.string sv)) (by omega)
    have B8 := B2.setOther (b := g3) 2 (.string sv) (by omega)
    have G8 := grown_new GG (grown_set1 w5 g3 2 (.string sv)) hsz
    have q3 : (w5.setCell ⟨g3, 2, none⟩ (.string sv)).cell? ⟨g3, 0, none⟩ = some (.int .i64 k) := S8.cell rfl
    obtain ⟨y0, y1, y2, y3⟩ := R8.facts
    clear R3 R5 G5 B2 S3' S5 GG
    have T8 := B8.there 0 3 (Nat.le_refl _)
    have FIN := B8.wholeT (ds := (vcells (k, 0, sv))) rfl
    have O8 : ((vcells (k, 0, sv))).toArray.all (·.oneCell') = true := vcells_all _
    have RG := S8.range 0 (vcells (k, 0, sv)) rfl
    have R9 := R8.off (grown_sets4 w.heap.size (vcells (k, 0, sv)) 0 (w5.setCell ⟨g3, 2, none⟩ (.string sv))) (by omega)
    have G9 := grown_new G8 (grown_sets4 w.heap.size (vcells (k, 0, sv)) 0 (w5.setCell ⟨g3, 2, none⟩ (.string sv))) (by omega)
    clear S8 R8 B8 G8
    go_wp2_with (first
      | (refine wpList_load_mid rfl 69 (.tmp 3) rfl g3 0 rfl (vcells (k, 0, sv)) _ RG hu rfl info_val ?_)
      | (refine wpList_store_mid rfl 69 (.tmp 2) (.tmp 25) rfl w.heap.size 0 ((vcells (k, 0, sv))).toArray rfl rfl T8 info_val O8 ?_)
      | fail)
    exact bodyPost_ret (v := .agg ((vcells (k, 0, sv))).toArray) (tok_results (q := 2) rfl _ _ w.heap.size _ _ rfl FIN hu rfl info_val) rfl ⟨by rw [HT.out, valEnd_yes ke]; rw [HK.out, HSV.out], by rw [HT.out, valEnd_yes ke]; exact R9, G9⟩
  · go_enter Try.func101, Try.ntmps101
    go_wp2_with fail
    refine (H1.out _ R0).mono ?_
    rintro x w2 ⟨rfl, R2, G2⟩
    replace B2 := B2.kept G2 hne
    have GG := G0.trans G2
    clear R0 G0 G2
    have B3 := Blk.new w2 (vcells zv) 69
    have T3 := B3.there 0 3 (Nat.le_refl _)
    have S3 := B3.wholeT (ds := (vcells (k, 0, ⟨#[]⟩))) rfl
    have LE3 : Le w2 (World.setCells (w2.alloc (.cells (vcells zv).toArray 69)) w2.heap.size 0 (vcells (k, 0, ⟨#[]⟩))) := below_sets (Nat.le_refl _) _ 0 ((Below.refl w2.heap.size w2).alloc (Nat.le_refl _) _)
    have O3 : ((vcells (k, 0, ⟨#[]⟩))).toArray.all (·.oneCell') = true := vcells_all _
    have hsz := GG.size
    clear B3
    obtain ⟨g3, hg3⟩ : ∃ z, z = w2.heap.size := ⟨_, rfl⟩
    have hb2 := B2.lt
    rw [← hg3] at T3 S3 LE3 hsz hb2
    have HG3 := Lib.hid hg3
    clear hg3
    go_wp2_with (first
      | (rw [← HG3.out]
         refine wpList_store_mid rfl 69 (.tmp 3) (.tmp 6) rfl g3 0 ((vcells (k, 0, ⟨#[]⟩))).toArray rfl rfl T3 info_val O3 ?_
         simp only [Act.put]
         generalize hw3 : World.setCells _ g3 0 ((vcells (k, 0, ⟨#[]⟩))).toArray.toList = w3
         have S3' : Blk w3 g3 (vcells (k, 0, ⟨#[]⟩)) := hw3 ▸ S3
         have LE3' : Le w2 w3 := hw3 ▸ LE3
         have R3 := R2.later LE3'
         have q1 : w3.cell? ⟨g3, 0, none⟩ = some (.int .i64 k) := S3'.cell rfl
         obtain ⟨y0, y1, y2, y3⟩ := R3.facts
         clear hw3 T3 S3 LE3 O3)
      | fail)
    have hne3 : (some g : Option Nat) ≠ some g3 := by simp; omega
    replace B2 := B2.later LE3'
    replace GG := GG.trans (grown_none LE3' _)
    clear R2 LE3' q1 y0 y1 y2 y3
    refine (H2.out _ R3).mono ?_
    rintro x w5 ⟨rfl, R5, G5⟩
    replace B2 := B2.kept G5 hne
    have S5 := S3'.kept G5 hne3
    replace GG := GG.trans G5
    have f1 := S5.frozen 2
    have q1 : w5.cell? ⟨g3, 2, none⟩ = some (.string ⟨#[]⟩) := S5.cell rfl
    have S8 : Blk (w5.setCell ⟨g3, 2, none⟩ (.string sv)) g3 (vcells (k, 0, sv)) := S5.set 2 _
    have R8 := R5.off (grown_set1 w5 g3 2 (.string sv)) (by omega)
    have B8 := B2.setOther (b := g3) 2 (.string sv) (by omega)
    have G8 := grown_new GG (grown_set1 w5 g3 2 (.string sv)) hsz
    have q3 : (w5.setCell ⟨g3, 2, none⟩ (.string sv)).cell? ⟨g3, 0, none⟩ = some (.int .i64 k) := S8.cell rfl
    obtain ⟨y0, y1, y2, y3⟩ := R8.facts
    clear R3 R5 G5 B2 S3' S5 GG
    have T8 := B8.there 0 3 (Nat.le_refl _)
    have FIN := B8.wholeT (ds := (vcells zv)) rfl
    have O8 : ((vcells zv)).toArray.all (·.oneCell') = true := vcells_all _
    have RG := S8.range 0 (vcells (k, 0, sv)) rfl
    have R9 := R8.off (grown_sets4 w.heap.size (vcells zv) 0 (w5.setCell ⟨g3, 2, none⟩ (.string sv))) (by omega)
    have G9 := grown_new G8 (grown_sets4 w.heap.size (vcells zv) 0 (w5.setCell ⟨g3, 2, none⟩ (.string sv))) (by omega)
    clear S8 R8 B8 G8
    go_wp2_with (first
      | (refine wpList_load_mid rfl 69 (.tmp 3) rfl g3 0 rfl (vcells (k, 0, sv)) _ RG hu rfl info_val ?_)
      | (refine wpList_store_mid rfl 69 (.tmp 2) (.tmp 24) rfl w.heap.size 0 ((vcells zv)).toArray rfl rfl T8 info_val O8 ?_)
      | fail)
    exact bodyPost_ret (v := .agg ((vcells zv)).toArray) (tok_results (q := 2) rfl _ _ w.heap.size _ _ rfl FIN hu rfl info_val) rfl ⟨by rw [HT.out, valEnd_no ke], by rw [HT.out, valEnd_no ke]; exact R9, G9⟩
theorem rr_value (base g : Nat) (l : List UInt8) (a : Nat) (e : Int) (w : World) (h : Rr w base g (l.drop a) e) (ha : a ≤ l.length) (hm : l.length ≤ 4000) :
    Calls Try.prog 101 #[.pointer (some ⟨g, 0, none⟩)] w fun x w' => x = .returned (.agg (vcells (valOut l a e).1).toArray) ∧ Rr w' base g (l.drop (valOut l a e).2.1) (valOut l a e).2.2 ∧ w.grownBy w' (some g) := by
  by_cases c1 : (numOut l a e 2).1 = 1
  · exact rr_value1 base g l a e w h ha hm c1 _ (by unfold valOut; rw [if_pos c1])
  · by_cases c2 : (numOut l a e 2).1 = 2
    · exact rr_value2 base g l a e w h ha hm c2 _ (by unfold valOut; rw [if_neg c1, if_pos c2])
    · exact rr_value0 base g l a e w h ha hm ⟨c1, c2⟩ _ (by unfold valOut; rw [if_neg c1, if_neg c2])
end Go.Proofs.Ytadmaalhhigbeaa

/- Cards as they are read of bytes: the document's: the walk. -/
namespace Go.Proofs.Ytadmaalhhigbeaa
set_option linter.unusedVariables false
open Go Go.RowKit OctM BitM

/-- The numbers from k on that are in a set, n of them looked at. -/
def fromL (x : BitVec 32) : Nat → Nat → List Int
  | 0, _ => []
  | n + 1, k => (if has x (k : Int) = true then [(k : Int)] else []) ++ fromL x n (k + 1)
theorem from_lst (x : BitVec 32) : ∀ (n k : Nat), lst x (k + n) = lst x k ++ fromL x n k
  | 0, k => by simp [fromL]
  | n + 1, k => by
    have h := from_lst x n (k + 1)
    rw [show k + (n + 1) = k + 1 + n by omega, h, lst_succ, fromL, List.append_assoc]
theorem from_and (x : BitVec 32) : ∀ (n k : Nat), k + n ≤ 8 → fromL (x &&& 255#32) n k = fromL x n k
  | 0, _, _ => rfl
  | n + 1, k, h => by
    rw [fromL, fromL, from_and x n (k + 1) (by omega), has_and_255, decide_eq_true (show (k : Int) < 8 by omega), Bool.and_true]
theorem flds_from (x : BitVec 32) : flds x = fromL x 8 0 := by
  unfold flds
  rw [lst_end (j := 8) (fun i hi => by rw [has_and_255, decide_eq_false (by omega), Bool.and_false]) 32 (by omega)]
  have h := from_lst (x &&& 255#32) 8 0
  rw [Nat.zero_add] at h
  rw [h, from_and x 8 0 (by omega)]
  rfl
theorem numOut_err (l : List UInt8) (a : Nat) (e m : Int) (h : (numOut l a e m).2.2 ≠ 0) : (numOut l a e m).1 = 0 := by
  unfold numOut at *
  split at h
  · rename_i h1; rw [if_pos h1]
  · rename_i h1
    split at h
    · rename_i h2; rw [if_neg h1, if_pos h2]
    · rename_i h2
      split at h
      · rename_i h3; rw [if_neg h1, if_neg h2, if_pos h3]
      · exact absurd rfl h

end Go.Proofs.Ytadmaalhhigbeaa

/- Patches as they are read of bytes: the program's: the walk. -/
namespace Go.Proofs.Ytadmaalhhigbeaa
set_option linter.unusedVariables false
open Go Go.RowKit OctM BitM

def patA (l : List UInt8) (a : Nat) (e : Int) : Nat × Nat × Int := abvOut l a e 511
def patX (l : List UInt8) (a : Nat) (e : Int) : BitVec 32 := BitVec.ofNat 32 (patA l a e).1
def patB (l : List UInt8) (a : Nat) (e : Int) : Nat × Nat × Int := if has (patX l a e) 8 = true then numOut l (patA l a e).2.1 (patA l a e).2.2 65535 else (0, (patA l a e).2)
def patE (l : List UInt8) (a : Nat) (e : Int) : List V3 × Nat × Int := fldsOut false l (flds (patX l a e)) zeros (patB l a e).2.1 (patB l a e).2.2
/-- What is read of bytes: the patch, how far, the error. -/
def patOut (l : List UInt8) (a : Nat) (e : Int) : (Int × Int × List V3) × Nat × Int :=
  (if (patE l a e).2.2 = 0 then (((patX l a e).toNat : Int), ((patB l a e).1 : Int), (patE l a e).1) else (0, 0, zeros), (patE l a e).2)
theorem patB_at (l : List UInt8) (a : Nat) (e : Int) (h : a ≤ l.length) : (patB l a e).2.1 ≤ l.length := by
  unfold patB
  split
  · exact numOut_at _ _ _ _ (abvOut_at _ _ _ _ h)
  · exact abvOut_at _ _ _ _ h
theorem patOut_at (l : List UInt8) (a : Nat) (e : Int) (h : a ≤ l.length) : (patOut l a e).2.1 ≤ l.length :=
  fldsOut_at _ _ _ _ _ _ (patB_at _ _ _ h)
theorem patOut_len (l : List UInt8) (a : Nat) (e : Int) : (patOut l a e).1.2.2.length = 8 := by
  unfold patOut
  simp only
  split
  · simp only [patE, fldsOut_len, zeros_len]
  · exact zeros_len
def pc3 (t : Int × Int × List V3) : List Value := pcells t.1 t.2.1 t.2.2
theorem fld_natP {x : BitVec 32} {k : Nat} {L : List Int} (hL : L = flds x) (hk : k < L.length) : ∃ j : Nat, L[k] = (j : Int) ∧ j < 8 := by
  obtain ⟨h0, h8, _⟩ := (mem_flds x L[k]).1 (by rw [← hL]; exact List.getElem_mem hk)
  obtain ⟨j, hj⟩ := Int.eq_ofNat_of_zero_le h0
  exact ⟨j, hj, by omega⟩

end Go.Proofs.Ytadmaalhhigbeaa

/- Patches as they are read of bytes: the document's: the walk. -/
namespace Go.Proofs.Ytadmaalhhigbeaa
set_option linter.unusedVariables false
open Go Go.RowKit OctM BitM

theorem numOut_bad (l : List UInt8) (a : Nat) (e m : Int) (h : e ≠ 0) : numOut l a e m = (0, a, e) := by
  unfold numOut
  rw [if_pos h]
theorem valOut_err (l : List UInt8) (a : Nat) (e : Int) (h : e ≠ 0) : valOut l a e = (zv, a, e) := by
  unfold valOut
  rw [numOut_bad l a e 2 h, if_neg (by simp), if_neg (by simp)]
  unfold valEnd
  rw [if_neg h]
theorem patch_step {l : List UInt8} {FR : List V3 × Nat × Int} {k : Nat} {L : List Int} {f : List V3} {a : Nat} {e : Int} (h : FR = fldsOut false l ([(k : Int)] ++ L) f a e) :
    ((valOut l a e).2.2 = 0 → FR = fldsOut false l L (f.set k (valOut l a e).1) (valOut l a e).2.1 (valOut l a e).2.2) ∧ ((valOut l a e).2.2 ≠ 0 → FR.2 = ((valOut l a e).2.1, (valOut l a e).2.2)) := by
  have hf : fldOut false l a e = valOut l a e := by
    unfold fldOut
    rw [if_neg (by simp)]
  rw [List.singleton_append, fldsOut, hf, Int.toNat_natCast] at h
  constructor
  · intro h0
    rw [if_pos h0] at h
    exact h
  · intro h0
    rw [if_neg h0] at h
    rw [h]
theorem patch_err (l : List UInt8) (L : List Int) (a : Nat) (e : Int) (h : e ≠ 0) : (fldsOut false l L zeros a e).2 = (a, e) := by
  cases L with
  | nil => rfl
  | cons i L =>
    have hf : fldOut false l a e = (zv, a, e) := by
      unfold fldOut
      rw [if_neg (by simp), valOut_err l a e h]
    rw [fldsOut, hf, if_neg h]

end Go.Proofs.Ytadmaalhhigbeaa

/- What was put is read: values, cards, patches: mathematics. -/
namespace Go.Proofs.Ytadmaalhhigbeaa
set_option linter.unusedVariables false
set_option linter.unusedSimpArgs false
open Go Go.RowKit OctM BitM

theorem held_nat {z : Int} (h0 : 0 ≤ z) (h1 : z ≤ 1099511627776) : held z = z.toNat := by
  unfold held
  simp only [Int.min_def, Int.max_def]
  split <;> (try split) <;> omega
theorem valOut_put (pre rest : List UInt8) (v : V3) (h : vchk v = true) : valOut (pre ++ (vbs v ++ rest)) pre.length 0 = (v, pre.length + (vbs v).length, 0) := by
  have hv : vbs v = if v.1 = 1 then enc 1 ++ enc (held v.2.1) else if v.1 = 2 then enc 2 ++ (enc v.2.2.data.toList.length ++ v.2.2.data.toList) else enc 0 := by
    unfold vbs
    rw [if_neg (by rw [h]; simp)]
  obtain ⟨k, n, s⟩ := v
  simp only at hv
  unfold vchk at h
  simp only at h
  by_cases k0 : k = 0
  · subst k0
    rw [if_pos rfl] at h
    obtain ⟨rfl, rfl⟩ := of_decide_eq_true h
    rw [if_neg (by decide), if_neg (by decide)] at hv
    rw [hv]
    unfold valOut
    rw [num_put pre rest 0 2 (by omega) (by omega), if_neg (by simp), if_neg (by simp)]
    unfold valEnd
    rw [if_pos rfl]
    rfl
  · rw [if_neg k0] at h
    by_cases k1 : k = 1
    · subst k1
      rw [if_pos rfl] at h
      obtain ⟨h0, h1, rfl⟩ := of_decide_eq_true h
      rw [if_pos rfl] at hv
      rw [hv]
      have n1 := num_put pre (enc (held n) ++ rest) 1 2 (by omega) (by omega)
      have n2 := num_put (pre ++ enc 1) rest (held n) 1099511627776 (held_le n) (by have := held_le n; omega)
      simp only [List.append_assoc, List.length_append] at n1 n2 ⊢
      unfold valOut
      rw [n1, if_pos rfl]
      simp only
      rw [n2]
      unfold valEnd
      simp only
      rw [if_pos trivial, held_self h0 h1, Nat.add_assoc]
      rfl
    · rw [if_neg k1] at h
      by_cases k2 : k = 2
      · subst k2
        rw [if_pos rfl] at h
        obtain ⟨rfl, h1⟩ := of_decide_eq_true h
        rw [if_neg (by decide), if_pos rfl] at hv
        rw [hv]
        have hl : s.data.toList.length ≤ 24 := by simpa using h1
        have n1 := num_put pre (enc s.data.toList.length ++ (s.data.toList ++ rest)) 2 2 (by omega) (by omega)
        have n2 := str_put (pre ++ enc 2) s.data.toList rest 24 (by omega) (by omega)
        simp only [List.append_assoc, List.length_append] at n1 n2 ⊢
        unfold valOut
        rw [n1, if_neg (by simp), if_pos rfl]
        simp only
        rw [n2]
        unfold valEnd
        simp only
        rw [if_pos trivial, str_eta]
        simp only [Nat.add_assoc]
      · rw [if_neg k2] at h
        cases h
/-- The fields of a list are put. -/
def setL (L : List Int) (f g : List V3) : List V3 := L.foldl (fun g i => g.set i.toNat (f.getD i.toNat zv)) g
theorem setL_len (f : List V3) : ∀ (L : List Int) (g : List V3), (setL L f g).length = g.length
  | [], g => rfl
  | i :: L, g => by
    show (setL L f _).length = _
    rw [setL_len f L, List.length_set]
theorem setL_get (f : List V3) (j : Nat) : ∀ (L : List Int) (g : List V3), (∀ i ∈ L, 0 ≤ i) → j < g.length → (setL L f g).getD j zv = if (j : Int) ∈ L then f.getD j zv else g.getD j zv
  | [], g, _, _ => by simp [setL]
  | i :: L, g, h0, hj => by
    show (setL L f _).getD j zv = _
    rw [setL_get f j L _ (fun i hi => h0 i (by simp [hi])) (by simpa using hj)]
    have hi := h0 i (by simp)
    by_cases hm : (j : Int) ∈ L
    · simp [hm]
    · by_cases hij : (j : Int) = i
      · subst hij
        simp [hm, List.getD, hj]
      · have : i.toNat ≠ j := by omega
        simp [hm, hij, List.getD, List.getElem?_set, this]
theorem getD_ext {f g : List V3} (h : f.length = g.length) (hh : ∀ j, j < f.length → f.getD j zv = g.getD j zv) : f = g := by
  apply List.ext_getElem h
  intro j h1 h2
  have := hh j h1
  simpa [List.getD, h1, h2] using this
theorem fbs_cons (i : Int) (L : List Int) (f : List V3) : fbs (i :: L) f = vbs (f.getD i.toNat zv) ++ fbs L f := by
  unfold fbs
  rw [List.flatMap_cons]
theorem fldsOut_put (must : Bool) (f : List V3) (rest : List UInt8) : ∀ (L : List Int) (pre : List UInt8) (g : List V3), (∀ i ∈ L, vchk (f.getD i.toNat zv) = true ∧ (must = true → (f.getD i.toNat zv).1 ≠ 0)) →
    fldsOut must (pre ++ (fbs L f ++ rest)) L g pre.length 0 = (setL L f g, pre.length + (fbs L f).length, 0)
  | [], pre, g, _ => by simp [fldsOut, setL, fbs]
  | i :: L, pre, g, h => by
    obtain ⟨h1, h2⟩ := h i (by simp)
    have hf : fldOut must (pre ++ (fbs (i :: L) f ++ rest)) pre.length 0 = (f.getD i.toNat zv, pre.length + (vbs (f.getD i.toNat zv)).length, 0) := by
      unfold fldOut
      rw [fbs_cons, List.append_assoc, valOut_put pre _ _ h1]
      simp only
      rw [if_neg (fun hh => h2 hh.1 hh.2)]
    rw [fldsOut, hf]
    simp only
    rw [if_pos trivial]
    have ih := fldsOut_put must f rest L (pre ++ vbs (f.getD i.toNat zv)) (g.set i.toNat (f.getD i.toNat zv)) (fun j hj => h j (by simp [hj]))
    rw [fbs_cons]
    simp only [List.append_assoc, List.length_append] at ih ⊢
    rw [ih]
    simp only [Nat.add_assoc]
    rfl
theorem vk_get {f : List V3} (hv : vk f 8 = true) (i : Nat) (h : i < 8) : vchk (f.getD i zv) = true := by
  unfold vk at hv
  rw [List.all_eq_true] at hv
  exact hv i (List.mem_range.2 h)
theorem vchk_zero {v : V3} (h : vchk v = true) (h0 : v.1 = 0) : v = zv := by
  obtain ⟨k, n, s⟩ := v
  simp only at h0
  subst h0
  unfold vchk at h
  simp only [if_pos] at h
  obtain ⟨rfl, rfl⟩ := of_decide_eq_true h
  rfl
theorem setL_kl {f : List V3} (hf : f.length = 8) (hv : vk f 8 = true) : setL (kl f 8) f zeros = f := by
  apply getD_ext
  · rw [setL_len, zeros_len, hf]
  · intro j hj
    rw [setL_len, zeros_len] at hj
    rw [setL_get f j (kl f 8) zeros (fun i hi => by obtain ⟨k, _, rfl, _⟩ := (mem_kl f 8 i).1 hi; omega) (by rw [zeros_len]; exact hj)]
    split
    · rfl
    · rename_i hn
      rw [zeros_getD]
      have : (f.getD j zv).1 = 0 := by
        by_cases h0 : (f.getD j zv).1 = 0
        · exact h0
        · exact absurd ((mem_kl f 8 j).2 ⟨j, hj, rfl, h0⟩) hn
      exact (vchk_zero (vk_get hv j hj) this).symm
theorem kl_le (f : List V3) : (ofl (kl f 8)).toNat ≤ 255 := by
  have h : ofl (kl f 8) &&& 255#32 = ofl (kl f 8) := by
    apply BitM.ext
    intro n
    rw [has_and_255, has_ofl]
    by_cases hn : n ∈ kl f 8
    · obtain ⟨k, hk, rfl, _⟩ := (mem_kl f 8 n).1 hn
      simp [hn]; omega
    · simp [hn]
  rw [← h, BitVec.toNat_and]
  exact Nat.and_le_right
theorem held_pos {z : Int} (h : 1 ≤ z) : held z ≠ 0 := by unfold held; omega
theorem abv_put (pre rest : List UInt8) (z m : Int) (h0 : 1 ≤ z) (h1 : z ≤ 1099511627776) (h2 : z ≤ m) : abvOut (pre ++ (enc (held z) ++ rest)) pre.length 0 m = (held z, pre.length + (enc (held z)).length, 0) := by
  unfold abvOut
  rw [num_put pre rest (held z) m (held_le z) (by rw [held_self (by omega) h1]; exact h2)]
  simp only
  rw [if_neg (held_pos h0)]
theorem cardOut_put (pre rest : List UInt8) (id ver lab : Int) (f : List V3) (hf : f.length = 8) (hl : 0 ≤ lab) (h : ccheck id ver lab f = true) :
    cardOut (pre ++ (cbs id ver lab f ++ rest)) pre.length 0 = ((id, ver, lab, f), pre.length + (cbs id ver lab f).length, 0) := by
  have hc : cbs id ver lab f = enc (held id) ++ (enc (held ver) ++ (enc (held lab) ++ (enc (held ((ofl (kl f 8)).toNat : Int)) ++ fbs (kl f 8) f))) := by
    unfold cbs
    rw [if_neg (by rw [h]; simp)]
    simp only [List.append_assoc]
  unfold ccheck at h
  rw [Bool.and_eq_true] at h
  have h1 := of_decide_eq_true h.1
  have hv := h.2
  have hX := kl_le f
  have hh : held ((ofl (kl f 8)).toNat : Int) = (ofl (kl f 8)).toNat := by rw [held_nat (by omega) (by omega)]; rfl
  rw [hh] at hc
  obtain ⟨x, hx⟩ : ∃ x, x = ofl (kl f 8) := ⟨_, rfl⟩
  have hfl : flds x = kl f 8 := by rw [hx, flds_kl]
  rw [← hx] at hc hX hh
  have n1 := abv_put pre (enc (held ver) ++ (enc (held lab) ++ (enc x.toNat ++ fbs (kl f 8) f)) ++ rest) id 1073741823 (by omega) (by omega) (by omega)
  have n2 := abv_put (pre ++ enc (held id)) ((enc (held lab) ++ (enc x.toNat ++ fbs (kl f 8) f)) ++ rest) ver 1099511627776 (by omega) (by omega) (by omega)
  have n3 := num_put (pre ++ enc (held id) ++ enc (held ver)) ((enc x.toNat ++ fbs (kl f 8) f) ++ rest) (held lab) 65535 (held_le lab) (by rw [held_self hl (by omega)]; omega)
  have n4 := num_put (pre ++ enc (held id) ++ enc (held ver) ++ enc (held lab)) (fbs (kl f 8) f ++ rest) x.toNat 255 (by omega) (by omega)
  have n5 := fldsOut_put true f rest (kl f 8) (pre ++ enc (held id) ++ enc (held ver) ++ enc (held lab) ++ enc x.toNat) zeros (fun i hi => by
    obtain ⟨k, hk, rfl, hne⟩ := (mem_kl f 8 i).1 hi
    exact ⟨vk_get hv k hk, fun _ => hne⟩)
  rw [setL_kl hf hv] at n5
  rw [hc]
  simp only [List.append_assoc, List.length_append] at n1 n2 n3 n4 n5 ⊢
  simp only [← Nat.add_assoc] at n1 n2 n3 n4 n5 ⊢
  obtain ⟨l, hll⟩ : ∃ l, l = pre ++ (enc (held id) ++ (enc (held ver) ++ (enc (held lab) ++ (enc x.toNat ++ (fbs (kl f 8) f ++ rest))))) := ⟨_, rfl⟩
  rw [← hll] at n1 n2 n3 n4 n5 ⊢
  have kA : cardA l pre.length 0 = (held id, pre.length + (enc (held id)).length, 0) := n1
  have kB : cardB l pre.length 0 = (held ver, pre.length + (enc (held id)).length + (enc (held ver)).length, 0) := by unfold cardB; rw [kA]; exact n2
  have kC : cardC l pre.length 0 = (held lab, pre.length + (enc (held id)).length + (enc (held ver)).length + (enc (held lab)).length, 0) := by unfold cardC; rw [kB]; exact n3
  have kD : cardD l pre.length 0 = (x.toNat, pre.length + (enc (held id)).length + (enc (held ver)).length + (enc (held lab)).length + (enc x.toNat).length, 0) := by unfold cardD; rw [kC]; exact n4
  have kE : cardE l pre.length 0 = (f, pre.length + (enc (held id)).length + (enc (held ver)).length + (enc (held lab)).length + (enc x.toNat).length + (fbs (kl f 8) f).length, 0) := by
    unfold cardE
    rw [kD]
    simp only
    rw [BitVec.ofNat_toNat, BitVec.setWidth_eq, hfl]
    exact n5
  unfold cardOut
  rw [kA, kB, kC, kE]
  simp only
  rw [if_pos trivial, held_self (by omega) (by omega), held_self (by omega) (by omega), held_self hl (by omega)]
theorem fok_get {x : BitVec 32} {f : List V3} (h : fok x f 8 = true) (i : Nat) (hi : i < 8) : vchk (f.getD i zv) = true ∧ ((f.getD i zv).1 = 0 ∨ has x (i : Int) = true) := by
  unfold fok at h
  rw [List.all_eq_true] at h
  have := h i (List.mem_range.2 hi)
  simp only [Bool.and_eq_true, Bool.or_eq_true, decide_eq_true_eq] at this
  exact this
theorem patOut_put (pre rest : List UInt8) (x : BitVec 32) (lab : Int) (f : List V3) (hf : f.length = 8) (hl : 0 ≤ lab) (h : pchk x lab f = 0) :
    patOut (pre ++ (pbs x lab f ++ rest)) pre.length 0 = (((x.toNat : Int), lab, f), pre.length + (pbs x lab f).length, 0) := by
  have hc : pbs x lab f = enc (held (x.toNat : Int)) ++ ((if has x 8 = true then enc (held lab) else []) ++ fbs (flds x) f) := by
    unfold pbs
    rw [if_neg (by rw [h]; simp)]
    simp only [List.append_assoc]
  unfold pchk at h
  have h1 : ¬ (511 < x.toNat ∨ x.toNat = 0) := fun hh => by rw [if_pos hh] at h; cases h
  rw [if_neg h1] at h
  have h2 : ¬ (65536 ≤ lab ∨ (lab ≠ 0 ∧ has x 8 = false)) := fun hh => by rw [if_pos hh] at h; cases h
  rw [if_neg h2] at h
  have h3 : fok x f 8 = true := by
    by_cases hh : fok x f 8 = true
    · exact hh
    · rw [if_neg hh] at h; cases h
  have hh : held (x.toNat : Int) = x.toNat := by rw [held_nat (by omega) (by omega)]; rfl
  have hset : setL (flds x) f zeros = f := by
    apply getD_ext
    · rw [setL_len, zeros_len, hf]
    · intro j hj
      rw [setL_len, zeros_len] at hj
      rw [setL_get f j (flds x) zeros (fun i hi => ((mem_flds x i).1 hi).1) (by rw [zeros_len]; exact hj)]
      split
      · rfl
      · rename_i hn
        rw [zeros_getD]
        obtain ⟨g1, g2⟩ := fok_get h3 j hj
        rcases g2 with g2 | g2
        · exact (vchk_zero g1 g2).symm
        · exact absurd ((mem_flds x j).2 ⟨by omega, by omega, g2⟩) hn
  have hm : ∀ i ∈ flds x, vchk (f.getD i.toNat zv) = true ∧ (false = true → (f.getD i.toNat zv).1 ≠ 0) := fun i hi => by
    obtain ⟨i0, i8, _⟩ := (mem_flds x i).1 hi
    exact ⟨(fok_get h3 i.toNat (by omega)).1, fun e => by cases e⟩
  rw [hh] at hc
  cases h8 : has x 8
  · rw [h8, if_neg (by simp), List.nil_append] at hc
    have hl0 : lab = 0 := by
      by_cases e : lab = 0
      · exact e
      · exact absurd (.inr ⟨e, h8⟩) h2
    subst hl0
    have n1 := abv_put pre (fbs (flds x) f ++ rest) (x.toNat : Int) 511 (by omega) (by omega) (by omega)
    have n5 := fldsOut_put false f rest (flds x) (pre ++ enc x.toNat) zeros hm
    rw [hset] at n5
    rw [hh] at n1
    rw [hc]
    simp only [List.append_assoc, List.length_append] at n1 n5 ⊢
    obtain ⟨l, hll⟩ : ∃ l, l = pre ++ (enc x.toNat ++ (fbs (flds x) f ++ rest)) := ⟨_, rfl⟩
    rw [← hll] at n1 n5 ⊢
    have kA : patA l pre.length 0 = (x.toNat, pre.length + (enc x.toNat).length, 0) := n1
    have kX : patX l pre.length 0 = x := by unfold patX; rw [kA, BitVec.ofNat_toNat, BitVec.setWidth_eq]
    have kB : patB l pre.length 0 = (0, pre.length + (enc x.toNat).length, 0) := by unfold patB; rw [kX, kA, h8, if_neg (by simp)]
    have kE : patE l pre.length 0 = (f, pre.length + (enc x.toNat).length + (fbs (flds x) f).length, 0) := by
      unfold patE
      rw [kB, kX]
      exact n5
    unfold patOut
    rw [kX, kB, kE]
    simp only
    rw [if_pos trivial]
    simp only [Nat.add_assoc]
    rfl
  · rw [h8, if_pos rfl] at hc
    have n1 := abv_put pre ((enc (held lab) ++ fbs (flds x) f) ++ rest) (x.toNat : Int) 511 (by omega) (by omega) (by omega)
    have n2 := num_put (pre ++ enc x.toNat) (fbs (flds x) f ++ rest) (held lab) 65535 (held_le lab) (by rw [held_self hl (by omega)]; omega)
    have n5 := fldsOut_put false f rest (flds x) (pre ++ enc x.toNat ++ enc (held lab)) zeros hm
    rw [hset] at n5
    rw [hh] at n1
    rw [hc]
    simp only [List.append_assoc, List.length_append] at n1 n2 n5 ⊢
    simp only [← Nat.add_assoc] at n1 n2 n5 ⊢
    obtain ⟨l, hll⟩ : ∃ l, l = pre ++ (enc x.toNat ++ (enc (held lab) ++ (fbs (flds x) f ++ rest))) := ⟨_, rfl⟩
    rw [← hll] at n1 n2 n5 ⊢
    have kA : patA l pre.length 0 = (x.toNat, pre.length + (enc x.toNat).length, 0) := n1
    have kX : patX l pre.length 0 = x := by unfold patX; rw [kA, BitVec.ofNat_toNat, BitVec.setWidth_eq]
    have kB : patB l pre.length 0 = (held lab, pre.length + (enc x.toNat).length + (enc (held lab)).length, 0) := by unfold patB; rw [kX, kA, h8, if_pos rfl]; exact n2
    have kE : patE l pre.length 0 = (f, pre.length + (enc x.toNat).length + (enc (held lab)).length + (fbs (flds x) f).length, 0) := by
      unfold patE
      rw [kB, kX]
      exact n5
    unfold patOut
    rw [kX, kB, kE]
    simp only
    rw [if_pos trivial, held_self hl (by omega)]
end Go.Proofs.Ytadmaalhhigbeaa

/- What is read may be, and has just the bytes that were taken: mathematics. -/
namespace Go.Proofs.Ytadmaalhhigbeaa
set_option linter.unusedVariables false
set_option linter.unusedSimpArgs false
open Go Go.RowKit OctM BitM

theorem scan_only : ∀ (l : List UInt8) (i v : Nat), (scan l i v).2.2 = 0 → ∃ n, scan l i v = (v + n * 128 ^ i, i + (enc n).length, 0) ∧ l = enc n ++ l.drop (enc n).length ∧ (0 < i → 0 < n)
  | [], i, v, h => by
    unfold scan at h
    split at h <;> cases h
  | c :: l, i, v, h => by
    unfold scan at h ⊢
    by_cases h6 : i = 6
    · rw [if_pos h6] at h; cases h
    · rw [if_neg h6] at h ⊢
      by_cases hc : c.toNat < 128
      · rw [if_pos hc] at h ⊢
        by_cases hz : c.toNat = 0 ∧ 0 < i
        · rw [if_pos hz] at h; cases h
        · rw [if_neg hz] at h ⊢
          have he : enc c.toNat = [c] := by rw [enc_low hc]; simp
          refine ⟨c.toNat, ?_, ?_, fun hi => ?_⟩
          · rw [he, Nat.mod_eq_of_lt hc]; rfl
          · rw [he]; rfl
          · rcases Nat.eq_zero_or_pos c.toNat with h0 | h0
            · exact absurd ⟨h0, hi⟩ hz
            · exact h0
      · rw [if_neg hc] at h ⊢
        obtain ⟨n, e1, e2, e3⟩ := scan_only l (i + 1) _ h
        have hn := e3 (by omega)
        have hcl := c.toNat_lt
        have hlow : (c.toNat % 128 + n * 128) % 128 = c.toNat % 128 := by omega
        have hdiv : (c.toNat % 128 + n * 128) / 128 = n := by omega
        have he : enc (c.toNat % 128 + n * 128) = c :: enc n := by
          rw [enc_high (by omega), hlow, hdiv, show c.toNat % 128 + 128 = c.toNat by omega]
          simp
        refine ⟨c.toNat % 128 + n * 128, ?_, ?_, fun _ => by omega⟩
        · rw [e1, he, List.length_cons]
          have e4 : v + c.toNat % 128 * 128 ^ i + n * 128 ^ (i + 1) = v + (c.toNat % 128 + n * 128) * 128 ^ i := by
            rw [Nat.add_mul, Nat.pow_succ, Nat.mul_comm (128 ^ i) 128, ← Nat.mul_assoc, Nat.add_assoc]
          rw [e4]
          congr 2; omega
        · rw [he, List.length_cons, List.drop_succ_cons, List.cons_append, ← e2]
theorem num_only {l : List UInt8} {a : Nat} {e m : Int} (h : (numOut l a e m).2.2 = 0) :
    e = 0 ∧ (numOut l a e m).2.1 = a + (enc (numOut l a e m).1).length ∧ l.drop a = enc (numOut l a e m).1 ++ l.drop (numOut l a e m).2.1 ∧ ((numOut l a e m).1 : Int) ≤ m ∧ (numOut l a e m).1 ≤ 1099511627776 := by
  unfold numOut at *
  by_cases he : e ≠ 0
  · rw [if_pos he] at h; exact absurd h he
  · rw [if_neg he] at h ⊢
    by_cases hs : (scan (l.drop a) 0 0).2.2 ≠ 0
    · rw [if_pos hs] at h
      simp only at h
      omega
    · rw [if_neg hs] at h ⊢
      by_cases hb : 1099511627776 < ((scan (l.drop a) 0 0).1 : Int) ∨ m < ((scan (l.drop a) 0 0).1 : Int)
      · rw [if_pos hb] at h; cases h
      · rw [if_neg hb] at h ⊢
        obtain ⟨n, e1, e2, _⟩ := scan_only (l.drop a) 0 0 (by omega)
        rw [e1] at hb ⊢
        simp only [Nat.pow_zero, Nat.mul_one, Nat.zero_add] at hb ⊢
        refine ⟨by omega, by first | rfl | trivial, ?_, by omega, by omega⟩
        rw [List.drop_drop] at e2
        exact e2
theorem str_only {l : List UInt8} {a : Nat} {e m : Int} (h : (strOut l a e m).2.2 = 0) :
    e = 0 ∧ (strOut l a e m).2.1 = a + (enc (strOut l a e m).1.length).length + (strOut l a e m).1.length ∧ l.drop a = enc (strOut l a e m).1.length ++ ((strOut l a e m).1 ++ l.drop (strOut l a e m).2.1) ∧ ((strOut l a e m).1.length : Int) ≤ m := by
  unfold strOut at *
  by_cases he : e ≠ 0
  · rw [if_pos he] at h; exact absurd h he
  · rw [if_neg he] at h ⊢
    by_cases hs : (numOut l a 0 m).2.2 ≠ 0
    · rw [if_pos hs] at h; exact absurd h hs
    · rw [if_neg hs] at h ⊢
      by_cases hb : l.length < (numOut l a 0 m).2.1 + (numOut l a 0 m).1
      · rw [if_pos hb] at h; cases h
      · rw [if_neg hb] at h ⊢
        obtain ⟨_, e1, e2, e3, _⟩ := num_only (l := l) (a := a) (e := 0) (m := m) (by simpa using hs)
        have hl : ((l.drop (numOut l a 0 m).2.1).take (numOut l a 0 m).1).length = (numOut l a 0 m).1 := by
          rw [List.length_take, List.length_drop]; omega
        simp only [hl]
        refine ⟨by omega, by rw [e1], ?_, e3⟩
        rw [← List.drop_drop, List.take_append_drop]
        exact e2
theorem enc_zero : enc 0 = [0] := by rw [enc_low (by omega)]; rfl
/-- A value that is read without an error. -/
theorem val_only {l : List UInt8} {a : Nat} {e : Int} (h : (valOut l a e).2.2 = 0) :
    e = 0 ∧ vchk (valOut l a e).1 = true ∧ (valOut l a e).2.1 = a + (vbs (valOut l a e).1).length ∧ l.drop a = vbs (valOut l a e).1 ++ l.drop (valOut l a e).2.1 := by
  have hcase : (numOut l a e 2).2.2 = 0 := by
    by_cases h0 : (numOut l a e 2).2.2 = 0
    · exact h0
    · have hz := numOut_err l a e 2 h0
      unfold valOut at h
      rw [hz, if_neg (by decide), if_neg (by decide)] at h
      exact h
  obtain ⟨he, n1, n2, n3, _⟩ := num_only hcase
  obtain ⟨r1, hr1⟩ : ∃ r, r = numOut l a e 2 := ⟨_, rfl⟩
  unfold valOut at h ⊢
  rw [← hr1] at h n1 n2 n3 hcase ⊢
  obtain ⟨k, a1, e1⟩ := r1
  simp only at h n1 n2 n3 hcase ⊢
  subst hcase
  refine ⟨he, ?_⟩
  by_cases k1 : k = 1
  · subst k1
    rw [if_pos rfl] at h ⊢
    have h' : (numOut l a1 0 1099511627776).2.2 = 0 := by unfold valEnd at h; exact h
    obtain ⟨_, m1, m2, m3, m4⟩ := num_only h'
    unfold valEnd
    rw [if_pos h']
    simp only
    obtain ⟨r2, hr2⟩ : ∃ r, r = numOut l a1 0 1099511627776 := ⟨_, rfl⟩
    rw [← hr2] at m1 m2 m3 m4 ⊢
    have hv : vchk (1, (r2.1 : Int), str []) = true := by
      unfold vchk
      simp only
      rw [if_neg (by decide), if_pos trivial, decide_eq_true_eq]
      exact ⟨by omega, by omega, rfl⟩
    have hb : vbs (1, (r2.1 : Int), str []) = enc 1 ++ enc r2.1 := by
      unfold vbs
      rw [if_neg (by rw [hv]; simp)]
      simp only
      rw [if_pos trivial, held_nat (by omega) (by omega)]
      rfl
    rw [hb]
    refine ⟨hv, by rw [m1, n1, List.length_append]; omega, ?_⟩
    rw [n2, m2, List.append_assoc]
  · rw [if_neg k1] at h ⊢
    by_cases k2 : k = 2
    · subst k2
      rw [if_pos rfl] at h ⊢
      have h' : (strOut l a1 0 24).2.2 = 0 := by unfold valEnd at h; exact h
      obtain ⟨_, m1, m2, m3⟩ := str_only h'
      unfold valEnd
      rw [if_pos h']
      simp only
      obtain ⟨r2, hr2⟩ : ∃ r, r = strOut l a1 0 24 := ⟨_, rfl⟩
      rw [← hr2] at m1 m2 m3 ⊢
      have hd : (str r2.1).data.toList = r2.1 := by unfold str; simp
      have hv : vchk (2, 0, str r2.1) = true := by
        unfold vchk
        simp only
        rw [if_neg (by decide), if_neg (by decide), if_pos trivial, decide_eq_true_eq]
        exact ⟨trivial, by rw [str_size]; omega⟩
      have hb : vbs (2, 0, str r2.1) = enc 2 ++ (enc r2.1.length ++ r2.1) := by
        unfold vbs
        rw [if_neg (by rw [hv]; simp)]
        simp only
        rw [if_neg (by decide), if_pos trivial, hd]
      rw [hb]
      refine ⟨hv, by rw [m1, n1, List.length_append, List.length_append]; omega, ?_⟩
      rw [n2, m2]
      simp only [List.append_assoc]
    · rw [if_neg k2] at h ⊢
      have k0 : k = 0 := by omega
      subst k0
      unfold valEnd
      rw [if_pos rfl]
      exact ⟨rfl, n1, n2⟩
/-- Fields that are read without an error. -/
theorem flds_only (must : Bool) (l : List UInt8) : ∀ (L : List Int) (f : List V3) (a : Nat) (e : Int), L.Nodup → (∀ i ∈ L, 0 ≤ i ∧ i.toNat < f.length) → (fldsOut must l L f a e).2.2 = 0 →
    e = 0 ∧ (∀ j : Nat, (j : Int) ∉ L → (fldsOut must l L f a e).1.getD j zv = f.getD j zv) ∧ (∀ i ∈ L, vchk ((fldsOut must l L f a e).1.getD i.toNat zv) = true ∧ (must = true → ((fldsOut must l L f a e).1.getD i.toNat zv).1 ≠ 0)) ∧
    (fldsOut must l L f a e).2.1 = a + (fbs L (fldsOut must l L f a e).1).length ∧ l.drop a = fbs L (fldsOut must l L f a e).1 ++ l.drop (fldsOut must l L f a e).2.1
  | [], f, a, e, _, _, h => by
    refine ⟨h, fun _ _ => rfl, fun i hi => (by cases hi), ?_, ?_⟩
    · simp [fldsOut, fbs]
    · simp [fldsOut, fbs]
  | i :: L, f, a, e, hn, hL, h => by
    unfold fldsOut at h ⊢
    by_cases h0 : (fldOut must l a e).2.2 = 0
    · rw [if_pos h0] at h ⊢
      obtain ⟨hi0, hil⟩ := hL i (by simp)
      rw [List.nodup_cons] at hn
      obtain ⟨_, r1, r2, r3, r4⟩ := flds_only must l L (f.set i.toNat (fldOut must l a e).1) (fldOut must l a e).2.1 (fldOut must l a e).2.2 hn.2 (fun j hj => by rw [List.length_set]; exact hL j (by simp [hj])) h
      obtain ⟨R, hR⟩ : ∃ R, R = fldsOut must l L (f.set i.toNat (fldOut must l a e).1) (fldOut must l a e).2.1 (fldOut must l a e).2.2 := ⟨_, rfl⟩
      rw [← hR] at r1 r2 r3 r4 ⊢
      have hRi : R.1.getD i.toNat zv = (fldOut must l a e).1 := by
        rw [r1 i.toNat (by rw [Int.toNat_of_nonneg hi0]; exact hn.1)]
        simp [List.getD, hil]
      have hv0 : (valOut l a e).2.2 = 0 := by
        unfold fldOut at h0
        simp only at h0
        split at h0
        · unfold failOut at h0
          split at h0
          · cases h0
          · exact h0
        · exact h0
      have hk : must = true → (valOut l a e).1.1 ≠ 0 := fun hm hz => by
        unfold fldOut at h0
        simp only at h0
        rw [if_pos ⟨hm, hz⟩] at h0
        unfold failOut at h0
        rw [if_pos hv0] at h0
        cases h0
      obtain ⟨he, v1, v2, v3⟩ := val_only hv0
      have hf1 : (fldOut must l a e).1 = (valOut l a e).1 := rfl
      have hf2 : (fldOut must l a e).2.1 = (valOut l a e).2.1 := rfl
      rw [hf1] at hRi
      rw [hf2] at r3 r4
      refine ⟨he, fun j hj => ?_, fun j hj => ?_, ?_, ?_⟩
      · rw [r1 j (fun hh => hj (by simp [hh]))]
        have : i.toNat ≠ j := fun hh => hj (by rw [← hh, Int.toNat_of_nonneg hi0]; simp)
        simp [List.getD, List.getElem?_set, this]
      · rcases List.mem_cons.1 hj with rfl | hj
        · rw [hRi]; exact ⟨v1, hk⟩
        · exact r2 j hj
      · rw [fbs_cons, hRi, List.length_append, r3, v2]; omega
      · rw [fbs_cons, hRi, List.append_assoc, ← r4, ← v3]
    · rw [if_neg h0] at h
      exact absurd h h0
theorem lst_nodup (x : BitVec 32) (k : Nat) : (lst x k).Nodup := by
  unfold lst
  unfold List.Nodup
  rw [List.pairwise_map]
  exact (List.Pairwise.filter _ List.nodup_range).imp (fun h e => h (by omega))
theorem flds_ok (x : BitVec 32) : (flds x).Nodup ∧ ∀ i ∈ flds x, 0 ≤ i ∧ i.toNat < zeros.length := by
  refine ⟨lst_nodup _ _, fun i hi => ?_⟩
  obtain ⟨h0, h8, _⟩ := (mem_flds x i).1 hi
  rw [zeros_len]
  exact ⟨h0, by omega⟩
end Go.Proofs.Ytadmaalhhigbeaa
