/- Values as they are read of bytes: the program's. -/
import Derived.Test.YtnhcjadkbogioaaGreatM3
import Derived.Test.YtnhcjadkbogioaaGreatM1
import Derived.RangeFuncNested
import Derived.RangeFuncBound
import Derived.RangeFuncCalls
import Derived.RangeFuncLeaves
import Derived.RangeFuncBox
import Derived.Shelf.Abstract
import Derived.Shelf.RegionOpen
import Derived.OwnWalkIn
import Derived.TacticsInMore
import Derived.LoopNIn
import Derived.LoopIn
import Derived.Deep.RegionHeld3
set_option maxRecDepth 100000
set_option linter.unusedVariables false
set_option maxHeartbeats 3200000
namespace Go.Proofs.YtnhcjadkbogioaaGreat
open Go Go.RowKit OctM
def valEnd (k n : Int) (s : List UInt8) (a : Nat) (e : Int) : V3 × Nat × Int := (if e = 0 then (k, n, str s) else zv, a, e)
def valOut (l : List UInt8) (a : Nat) (e : Int) : V3 × Nat × Int :=
  if (numOut l a e 2).1 = 1 then valEnd 1 ((numOut l (numOut l a e 2).2.1 (numOut l a e 2).2.2 1099511627776).1 : Nat) [] (numOut l (numOut l a e 2).2.1 (numOut l a e 2).2.2 1099511627776).2.1 (numOut l (numOut l a e 2).2.1 (numOut l a e 2).2.2 1099511627776).2.2
  else if (numOut l a e 2).1 = 2 then valEnd 2 0 (strOut l (numOut l a e 2).2.1 (numOut l a e 2).2.2 24).1 (strOut l (numOut l a e 2).2.1 (numOut l a e 2).2.2 24).2.1 (strOut l (numOut l a e 2).2.1 (numOut l a e 2).2.2 24).2.2
  else valEnd ((numOut l a e 2).1 : Nat) 0 [] (numOut l a e 2).2.1 (numOut l a e 2).2.2
theorem valOut_at (l : List UInt8) (a : Nat) (e : Int) (h : a ≤ l.length) : (valOut l a e).2.1 ≤ l.length := by
  unfold valOut valEnd
  split
  · exact numOut_at _ _ _ _ (numOut_at _ _ _ _ h)
  · split
    · exact strOut_at _ _ _ _ (numOut_at _ _ _ _ h)
    · exact numOut_at _ _ _ _ h
theorem valEnd_no {k n : Int} {s : List UInt8} {a : Nat} {e : Int} (h : (e != 0) = true) : valEnd k n s a e = (zv, a, e) := by
  unfold valEnd
  rw [if_neg (by simpa using h)]
theorem valEnd_yes {k n : Int} {s : List UInt8} {a : Nat} {e : Int} (h : (e != 0) = false) : valEnd k n s a e = ((k, n, str s), a, e) := by
  unfold valEnd
  rw [if_pos (by simpa using h)]
theorem vcells_all (v : V3) : (vcells v).toArray.all (·.oneCell') = true := by
  refine all_oneCell_toArray fun u hu => ?_
  simp only [vcells, List.mem_cons, List.not_mem_nil, or_false] at hu
  rcases hu with rfl | rfl | rfl <;> rfl
theorem info_val : (Tryz.prog.info? 33).map (·.size) = some 3 := by kernel_rfl
theorem rd_value0 (base g : Nat) (l : List UInt8) (a : Nat) (e : Int) (w : World) (h : Rd w base g l a e) (ha : a ≤ l.length) (hm : l.length ≤ 4000) (hc : (numOut l a e 2).1 ≠ 1 ∧ (numOut l a e 2).1 ≠ 2) (T : V3 × Nat × Int) (hT : T = valEnd ((numOut l a e 2).1 : Nat) 0 [] (numOut l a e 2).2.1 (numOut l a e 2).2.2) :
    Calls Tryz.prog 70 #[.pointer (some ⟨g, 0, none⟩)] w fun x w' => x = .returned (.agg (vcells T.1).toArray) ∧ Rd w' base g l T.2.1 T.2.2 ∧ w.grownBy w' (some g) := by
  have hg := h.block.2
  have A1 := numOut_at l a e 2 ha
  have H1 : Hid (∀ wx, Rd wx base g l a e → Calls Tryz.prog 33 #[.pointer (some ⟨g, 0, none⟩), .int .i64 2] wx fun x w' => x = .returned (.int .i64 ((numOut l a e 2).1 : Nat)) ∧ Rd w' base g l (numOut l a e 2).2.1 (numOut l a e 2).2.2 ∧ wx.grownBy w' (some g)) := hid fun wx hx => rd_num base g l a e 2 wx hx ha (by omega)
  obtain ⟨r1, hr1⟩ : ∃ r, r = numOut l a e 2 := ⟨_, rfl⟩
  rw [← hr1] at H1 A1 hT hc
  obtain ⟨v1, a1, e1⟩ := r1
  simp only at H1 A1 hT hc
  obtain ⟨k, hk⟩ : ∃ k : Int, k = (v1 : Int) := ⟨_, rfl⟩
  rw [← hk] at H1 hT
  have t1 : (k == 1) = false := by rw [hk]; simp; omega
  have t2 : (k == 2) = false := by rw [hk]; simp; omega
  have HK : Hid (k = k) := hid rfl
  clear hk
  have HE : Hid (∀ wx, Rd wx base g l a1 e1 → Calls Tryz.prog 9 #[.pointer (some ⟨g, 0, none⟩)] wx fun x w' => x = .returned (.int .i64 e1) ∧ wx = w') := hid fun wx hx => rd_err base g l a1 e1 wx hx
  have HT := hid hT
  clear hr1 hT hc A1 ha hm
  have B2 := Blk.new w (vcells zv) 33
  have R0 := h.later ((Below.refl w.heap.size w).alloc (Nat.le_refl _) (.cells (vcells zv).toArray 33))
  have G0 := World.grownBy_alloc w (.cells (vcells zv).toArray 33) (some g)
  have hu := Tryz.underlying33
  clear h
  have hne : (some g : Option Nat) ≠ some w.heap.size := by simp; omega
  obtain ⟨be, hbe⟩ : ∃ b, b = (e1 != 0) := ⟨_, rfl⟩
  have ke : (e1 != 0) = be := hbe.symm
  clear hbe
  go_enter Tryz.func70, Tryz.ntmps70
  go_wp2_with fail
  refine (H1.out _ R0).mono ?_
  rintro x w2 ⟨rfl, R2, G2⟩
  replace B2 := B2.kept G2 hne
  have GG := G0.trans G2
  clear R0 G0 G2
  have B3 := Blk.new w2 (vcells zv) 33
  have T3 := B3.there 0 3 (Nat.le_refl _)
  have S3 := B3.wholeT (ds := (vcells (k, 0, ⟨#[]⟩))) rfl
  have LE3 : Le w2 (World.setCells (w2.alloc (.cells (vcells zv).toArray 33)) w2.heap.size 0 (vcells (k, 0, ⟨#[]⟩))) := below_sets (Nat.le_refl _) _ 0 ((Below.refl w2.heap.size w2).alloc (Nat.le_refl _) _)
  have O3 : ((vcells (k, 0, ⟨#[]⟩))).toArray.all (·.oneCell') = true := vcells_all _
  have hsz := GG.size
  clear B3
  obtain ⟨g3, hg3⟩ : ∃ z, z = w2.heap.size := ⟨_, rfl⟩
  have hb2 := B2.lt
  rw [← hg3] at T3 S3 LE3 hsz hb2
  have HG3 := hid hg3
  clear hg3
  go_wp2_with (first
    | (rw [← HG3.out]
       refine wpList_store_mid rfl 33 (.tmp 3) (.tmp 6) rfl g3 0 ((vcells (k, 0, ⟨#[]⟩))).toArray rfl rfl T3 info_val O3 ?_
       simp only [Act.put]
       generalize hw3 : World.setCells _ g3 0 ((vcells (k, 0, ⟨#[]⟩))).toArray.toList = w3
       have S3' : Blk w3 g3 (vcells (k, 0, ⟨#[]⟩)) := hw3 ▸ S3
       have LE3' : Le w2 w3 := hw3 ▸ LE3
       have q1 : w3.cell? ⟨g3, 0, none⟩ = some (.int .i64 k) := S3'.cell rfl
       clear hw3 T3 S3 LE3 O3)
    | fail)
  have hne3 : (some g : Option Nat) ≠ some g3 := by simp; omega
  have R3 := R2.later LE3'
  replace B2 := B2.later LE3'
  replace GG := GG.trans (grown_none LE3' _)
  clear R2 LE3' q1
  refine (HE.out _ R3).mono ?_
  rintro x w9 ⟨rfl, rfl⟩
  have S8 := S3'
  have R8 := R3
  have B8 := B2
  have G8 := GG
  clear S3' R3 B2 GG
  cases be
  · have T8 := B8.there 0 3 (Nat.le_refl _)
    have FIN := B8.wholeT (ds := (vcells (k, 0, ⟨#[]⟩))) rfl
    have O8 : ((vcells (k, 0, ⟨#[]⟩))).toArray.all (·.oneCell') = true := vcells_all _
    have RG := S8.range 0 (vcells (k, 0, ⟨#[]⟩)) rfl
    have R9 := R8.other (grown_sets4 w.heap.size (vcells (k, 0, ⟨#[]⟩)) 0 w3) (by omega)
    have G9 := grown_new G8 (grown_sets4 w.heap.size (vcells (k, 0, ⟨#[]⟩)) 0 w3) (by omega)
    clear S8 R8 B8 G8
    go_wp2_with (first
      | (refine wpList_load_mid rfl 33 (.tmp 3) rfl g3 0 rfl (vcells (k, 0, ⟨#[]⟩)) _ RG hu rfl info_val ?_)
      | (refine wpList_store_mid rfl 33 (.tmp 2) (.tmp 23) rfl w.heap.size 0 ((vcells (k, 0, ⟨#[]⟩))).toArray rfl rfl T8 info_val O8 ?_)
      | fail)
    exact bodyPost_ret (v := .agg ((vcells (k, 0, ⟨#[]⟩))).toArray) (tok_results (q := 2) rfl _ _ w.heap.size _ _ rfl FIN hu rfl info_val) rfl ⟨by rw [HT.out, valEnd_yes ke]; rfl, by rw [HT.out, valEnd_yes ke]; exact R9, G9⟩
  · have T8 := B8.there 0 3 (Nat.le_refl _)
    have FIN := B8.wholeT (ds := (vcells zv)) rfl
    have O8 : ((vcells zv)).toArray.all (·.oneCell') = true := vcells_all _
    have RG := S8.range 0 (vcells (k, 0, ⟨#[]⟩)) rfl
    have R9 := R8.other (grown_sets4 w.heap.size (vcells zv) 0 w3) (by omega)
    have G9 := grown_new G8 (grown_sets4 w.heap.size (vcells zv) 0 w3) (by omega)
    clear S8 R8 B8 G8
    go_wp2_with (first
      | (refine wpList_store_mid rfl 33 (.tmp 2) (.tmp 22) rfl w.heap.size 0 ((vcells zv)).toArray rfl rfl T8 info_val O8 ?_)
      | fail)
    exact bodyPost_ret (v := .agg ((vcells zv)).toArray) (tok_results (q := 2) rfl _ _ w.heap.size _ _ rfl FIN hu rfl info_val) rfl ⟨by rw [HT.out, valEnd_no ke], by rw [HT.out, valEnd_no ke]; exact R9, G9⟩
theorem rd_value1 (base g : Nat) (l : List UInt8) (a : Nat) (e : Int) (w : World) (h : Rd w base g l a e) (ha : a ≤ l.length) (hm : l.length ≤ 4000) (hc : (numOut l a e 2).1 = 1) (T : V3 × Nat × Int) (hT : T = valEnd 1 ((numOut l (numOut l a e 2).2.1 (numOut l a e 2).2.2 1099511627776).1 : Nat) [] (numOut l (numOut l a e 2).2.1 (numOut l a e 2).2.2 1099511627776).2.1 (numOut l (numOut l a e 2).2.1 (numOut l a e 2).2.2 1099511627776).2.2) :
    Calls Tryz.prog 70 #[.pointer (some ⟨g, 0, none⟩)] w fun x w' => x = .returned (.agg (vcells T.1).toArray) ∧ Rd w' base g l T.2.1 T.2.2 ∧ w.grownBy w' (some g) := by
  have hg := h.block.2
  have A1 := numOut_at l a e 2 ha
  have H1 : Hid (∀ wx, Rd wx base g l a e → Calls Tryz.prog 33 #[.pointer (some ⟨g, 0, none⟩), .int .i64 2] wx fun x w' => x = .returned (.int .i64 ((numOut l a e 2).1 : Nat)) ∧ Rd w' base g l (numOut l a e 2).2.1 (numOut l a e 2).2.2 ∧ wx.grownBy w' (some g)) := hid fun wx hx => rd_num base g l a e 2 wx hx ha (by omega)
  obtain ⟨r1, hr1⟩ : ∃ r, r = numOut l a e 2 := ⟨_, rfl⟩
  rw [← hr1] at H1 A1 hT hc
  obtain ⟨v1, a1, e1⟩ := r1
  simp only at H1 A1 hT hc
  have H2 : Hid (∀ wx, Rd wx base g l a1 e1 → Calls Tryz.prog 33 #[.pointer (some ⟨g, 0, none⟩), .int .i64 1099511627776] wx fun x w' => x = .returned (.int .i64 ((numOut l a1 e1 1099511627776).1 : Nat)) ∧ Rd w' base g l (numOut l a1 e1 1099511627776).2.1 (numOut l a1 e1 1099511627776).2.2 ∧ wx.grownBy w' (some g)) := hid fun wx hx => rd_num base g l a1 e1 1099511627776 wx hx A1 (by omega)
  obtain ⟨r2, hr2⟩ : ∃ r, r = numOut l a1 e1 1099511627776 := ⟨_, rfl⟩
  rw [← hr2] at H2 hT
  obtain ⟨v2, a5, e5⟩ := r2
  simp only at H2 hT
  obtain ⟨k, hk⟩ : ∃ k : Int, k = (v1 : Int) := ⟨_, rfl⟩
  rw [← hk] at H1
  obtain ⟨n, hn⟩ : ∃ n : Int, n = (v2 : Int) := ⟨_, rfl⟩
  rw [← hn] at H2 hT
  have t1 : (k == 1) = true := by rw [hk, hc]; rfl
  have t2 : (k == 2) = false := by rw [hk, hc]; rfl
  have HK : Hid (k = 1) := hid (by rw [hk, hc]; rfl)
  clear hk hn hr2
  have HE : Hid (∀ wx, Rd wx base g l a5 e5 → Calls Tryz.prog 9 #[.pointer (some ⟨g, 0, none⟩)] wx fun x w' => x = .returned (.int .i64 e5) ∧ wx = w') := hid fun wx hx => rd_err base g l a5 e5 wx hx
  have HT := hid hT
  clear hr1 hT hc A1 ha hm
  have B2 := Blk.new w (vcells zv) 33
  have R0 := h.later ((Below.refl w.heap.size w).alloc (Nat.le_refl _) (.cells (vcells zv).toArray 33))
  have G0 := World.grownBy_alloc w (.cells (vcells zv).toArray 33) (some g)
  have hu := Tryz.underlying33
  clear h
  have hne : (some g : Option Nat) ≠ some w.heap.size := by simp; omega
  obtain ⟨be, hbe⟩ : ∃ b, b = (e5 != 0) := ⟨_, rfl⟩
  have ke : (e5 != 0) = be := hbe.symm
  clear hbe
  go_enter Tryz.func70, Tryz.ntmps70
  go_wp2_with fail
  refine (H1.out _ R0).mono ?_
  rintro x w2 ⟨rfl, R2, G2⟩
  replace B2 := B2.kept G2 hne
  have GG := G0.trans G2
  clear R0 G0 G2
  have B3 := Blk.new w2 (vcells zv) 33
  have T3 := B3.there 0 3 (Nat.le_refl _)
  have S3 := B3.wholeT (ds := (vcells (k, 0, ⟨#[]⟩))) rfl
  have LE3 : Le w2 (World.setCells (w2.alloc (.cells (vcells zv).toArray 33)) w2.heap.size 0 (vcells (k, 0, ⟨#[]⟩))) := below_sets (Nat.le_refl _) _ 0 ((Below.refl w2.heap.size w2).alloc (Nat.le_refl _) _)
  have O3 : ((vcells (k, 0, ⟨#[]⟩))).toArray.all (·.oneCell') = true := vcells_all _
  have hsz := GG.size
  clear B3
  obtain ⟨g3, hg3⟩ : ∃ z, z = w2.heap.size := ⟨_, rfl⟩
  have hb2 := B2.lt
  rw [← hg3] at T3 S3 LE3 hsz hb2
  have HG3 := hid hg3
  clear hg3
  go_wp2_with (first
    | (rw [← HG3.out]
       refine wpList_store_mid rfl 33 (.tmp 3) (.tmp 6) rfl g3 0 ((vcells (k, 0, ⟨#[]⟩))).toArray rfl rfl T3 info_val O3 ?_
       simp only [Act.put]
       generalize hw3 : World.setCells _ g3 0 ((vcells (k, 0, ⟨#[]⟩))).toArray.toList = w3
       have S3' : Blk w3 g3 (vcells (k, 0, ⟨#[]⟩)) := hw3 ▸ S3
       have LE3' : Le w2 w3 := hw3 ▸ LE3
       have q1 : w3.cell? ⟨g3, 0, none⟩ = some (.int .i64 k) := S3'.cell rfl
       clear hw3 T3 S3 LE3 O3)
    | fail)
  have hne3 : (some g : Option Nat) ≠ some g3 := by simp; omega
  have R3 := R2.later LE3'
  replace B2 := B2.later LE3'
  replace GG := GG.trans (grown_none LE3' _)
  clear R2 LE3' q1
  refine (H2.out _ R3).mono ?_
  rintro x w5 ⟨rfl, R5, G5⟩
  replace B2 := B2.kept G5 hne
  have S5 := S3'.kept G5 hne3
  replace GG := GG.trans G5
  have f1 := S5.frozen 1
  have q1 : w5.cell? ⟨g3, 1, none⟩ = some (.int .i64 0) := S5.cell rfl
  have S8 : Blk (w5.setCell ⟨g3, 1, none⟩ (.int .i64 n)) g3 (vcells (k, n, ⟨#[]⟩)) := S5.set 1 _
  have R8 := R5.other (grown_set1 w5 g3 1 (.int .i64 n)) (by omega)
  have B8 := B2.setOther (b := g3) 1 (.int .i64 n) (by omega)
  have G8 := grown_new GG (grown_set1 w5 g3 1 (.int .i64 n)) hsz
  clear R3 R5 G5 B2 S3' S5 GG
  go_wp2_with fail
  obtain ⟨w8, hw8⟩ : ∃ z, z = w5.setCell ⟨g3, 1, none⟩ (.int .i64 n) := ⟨_, rfl⟩
  rw [← hw8] at S8 R8 B8 G8 ⊢
  clear hw8 f1 q1
  refine (HE.out _ R8).mono ?_
  rintro x w9 ⟨rfl, rfl⟩
  cases be
  · have T8 := B8.there 0 3 (Nat.le_refl _)
    have FIN := B8.wholeT (ds := (vcells (k, n, ⟨#[]⟩))) rfl
    have O8 : ((vcells (k, n, ⟨#[]⟩))).toArray.all (·.oneCell') = true := vcells_all _
    have RG := S8.range 0 (vcells (k, n, ⟨#[]⟩)) rfl
    have R9 := R8.other (grown_sets4 w.heap.size (vcells (k, n, ⟨#[]⟩)) 0 w8) (by omega)
    have G9 := grown_new G8 (grown_sets4 w.heap.size (vcells (k, n, ⟨#[]⟩)) 0 w8) (by omega)
    clear S8 R8 B8 G8
    go_wp2_with (first
      | (refine wpList_load_mid rfl 33 (.tmp 3) rfl g3 0 rfl (vcells (k, n, ⟨#[]⟩)) _ RG hu rfl info_val ?_)
      | (refine wpList_store_mid rfl 33 (.tmp 2) (.tmp 23) rfl w.heap.size 0 ((vcells (k, n, ⟨#[]⟩))).toArray rfl rfl T8 info_val O8 ?_)
      | fail)
    exact bodyPost_ret (v := .agg ((vcells (k, n, ⟨#[]⟩))).toArray) (tok_results (q := 2) rfl _ _ w.heap.size _ _ rfl FIN hu rfl info_val) rfl ⟨by rw [HT.out, valEnd_yes ke]; rw [HK.out]; rfl, by rw [HT.out, valEnd_yes ke]; exact R9, G9⟩
  · have T8 := B8.there 0 3 (Nat.le_refl _)
    have FIN := B8.wholeT (ds := (vcells zv)) rfl
    have O8 : ((vcells zv)).toArray.all (·.oneCell') = true := vcells_all _
    have RG := S8.range 0 (vcells (k, n, ⟨#[]⟩)) rfl
    have R9 := R8.other (grown_sets4 w.heap.size (vcells zv) 0 w8) (by omega)
    have G9 := grown_new G8 (grown_sets4 w.heap.size (vcells zv) 0 w8) (by omega)
    clear S8 R8 B8 G8
    go_wp2_with (first
      | (refine wpList_store_mid rfl 33 (.tmp 2) (.tmp 22) rfl w.heap.size 0 ((vcells zv)).toArray rfl rfl T8 info_val O8 ?_)
      | fail)
    exact bodyPost_ret (v := .agg ((vcells zv)).toArray) (tok_results (q := 2) rfl _ _ w.heap.size _ _ rfl FIN hu rfl info_val) rfl ⟨by rw [HT.out, valEnd_no ke], by rw [HT.out, valEnd_no ke]; exact R9, G9⟩
theorem rd_value2 (base g : Nat) (l : List UInt8) (a : Nat) (e : Int) (w : World) (h : Rd w base g l a e) (ha : a ≤ l.length) (hm : l.length ≤ 4000) (hc : (numOut l a e 2).1 = 2) (T : V3 × Nat × Int) (hT : T = valEnd 2 0 (strOut l (numOut l a e 2).2.1 (numOut l a e 2).2.2 24).1 (strOut l (numOut l a e 2).2.1 (numOut l a e 2).2.2 24).2.1 (strOut l (numOut l a e 2).2.1 (numOut l a e 2).2.2 24).2.2) :
    Calls Tryz.prog 70 #[.pointer (some ⟨g, 0, none⟩)] w fun x w' => x = .returned (.agg (vcells T.1).toArray) ∧ Rd w' base g l T.2.1 T.2.2 ∧ w.grownBy w' (some g) := by
  have hg := h.block.2
  have A1 := numOut_at l a e 2 ha
  have H1 : Hid (∀ wx, Rd wx base g l a e → Calls Tryz.prog 33 #[.pointer (some ⟨g, 0, none⟩), .int .i64 2] wx fun x w' => x = .returned (.int .i64 ((numOut l a e 2).1 : Nat)) ∧ Rd w' base g l (numOut l a e 2).2.1 (numOut l a e 2).2.2 ∧ wx.grownBy w' (some g)) := hid fun wx hx => rd_num base g l a e 2 wx hx ha (by omega)
  obtain ⟨r1, hr1⟩ : ∃ r, r = numOut l a e 2 := ⟨_, rfl⟩
  rw [← hr1] at H1 A1 hT hc
  obtain ⟨v1, a1, e1⟩ := r1
  simp only at H1 A1 hT hc
  have H2 : Hid (∀ wx, Rd wx base g l a1 e1 → Calls Tryz.prog 91 #[.pointer (some ⟨g, 0, none⟩), .int .i64 24] wx fun x w' => x = .returned (.string (str (strOut l a1 e1 24).1)) ∧ Rd w' base g l (strOut l a1 e1 24).2.1 (strOut l a1 e1 24).2.2 ∧ wx.grownBy w' (some g)) := hid fun wx hx => rd_str base g l a1 e1 24 wx hx A1 (by omega)
  obtain ⟨r2, hr2⟩ : ∃ r, r = strOut l a1 e1 24 := ⟨_, rfl⟩
  rw [← hr2] at H2 hT
  obtain ⟨v2, a5, e5⟩ := r2
  simp only at H2 hT
  obtain ⟨k, hk⟩ : ∃ k : Int, k = (v1 : Int) := ⟨_, rfl⟩
  rw [← hk] at H1
  have t1 : (k == 1) = false := by rw [hk, hc]; rfl
  have t2 : (k == 2) = true := by rw [hk, hc]; rfl
  have HK : Hid (k = 2) := hid (by rw [hk, hc]; rfl)
  obtain ⟨sv, hsv⟩ : ∃ sv, sv = str v2 := ⟨_, rfl⟩
  rw [← hsv] at H2
  have HSV := hid hsv
  clear hk hr2 hsv
  have HE : Hid (∀ wx, Rd wx base g l a5 e5 → Calls Tryz.prog 9 #[.pointer (some ⟨g, 0, none⟩)] wx fun x w' => x = .returned (.int .i64 e5) ∧ wx = w') := hid fun wx hx => rd_err base g l a5 e5 wx hx
  have HT := hid hT
  clear hr1 hT hc A1 ha hm
  have B2 := Blk.new w (vcells zv) 33
  have R0 := h.later ((Below.refl w.heap.size w).alloc (Nat.le_refl _) (.cells (vcells zv).toArray 33))
  have G0 := World.grownBy_alloc w (.cells (vcells zv).toArray 33) (some g)
  have hu := Tryz.underlying33
  clear h
  have hne : (some g : Option Nat) ≠ some w.heap.size := by simp; omega
  obtain ⟨be, hbe⟩ : ∃ b, b = (e5 != 0) := ⟨_, rfl⟩
  have ke : (e5 != 0) = be := hbe.symm
  clear hbe
  go_enter Tryz.func70, Tryz.ntmps70
  go_wp2_with fail
  refine (H1.out _ R0).mono ?_
  rintro x w2 ⟨rfl, R2, G2⟩
  replace B2 := B2.kept G2 hne
  have GG := G0.trans G2
  clear R0 G0 G2
  have B3 := Blk.new w2 (vcells zv) 33
  have T3 := B3.there 0 3 (Nat.le_refl _)
  have S3 := B3.wholeT (ds := (vcells (k, 0, ⟨#[]⟩))) rfl
  have LE3 : Le w2 (World.setCells (w2.alloc (.cells (vcells zv).toArray 33)) w2.heap.size 0 (vcells (k, 0, ⟨#[]⟩))) := below_sets (Nat.le_refl _) _ 0 ((Below.refl w2.heap.size w2).alloc (Nat.le_refl _) _)
  have O3 : ((vcells (k, 0, ⟨#[]⟩))).toArray.all (·.oneCell') = true := vcells_all _
  have hsz := GG.size
  clear B3
  obtain ⟨g3, hg3⟩ : ∃ z, z = w2.heap.size := ⟨_, rfl⟩
  have hb2 := B2.lt
  rw [← hg3] at T3 S3 LE3 hsz hb2
  have HG3 := hid hg3
  clear hg3
  go_wp2_with (first
    | (rw [← HG3.out]
       refine wpList_store_mid rfl 33 (.tmp 3) (.tmp 6) rfl g3 0 ((vcells (k, 0, ⟨#[]⟩))).toArray rfl rfl T3 info_val O3 ?_
       simp only [Act.put]
       generalize hw3 : World.setCells _ g3 0 ((vcells (k, 0, ⟨#[]⟩))).toArray.toList = w3
       have S3' : Blk w3 g3 (vcells (k, 0, ⟨#[]⟩)) := hw3 ▸ S3
       have LE3' : Le w2 w3 := hw3 ▸ LE3
       have q1 : w3.cell? ⟨g3, 0, none⟩ = some (.int .i64 k) := S3'.cell rfl
       clear hw3 T3 S3 LE3 O3)
    | fail)
  have hne3 : (some g : Option Nat) ≠ some g3 := by simp; omega
  have R3 := R2.later LE3'
  replace B2 := B2.later LE3'
  replace GG := GG.trans (grown_none LE3' _)
  clear R2 LE3' q1
  refine (H2.out _ R3).mono ?_
  rintro x w5 ⟨rfl, R5, G5⟩
  replace B2 := B2.kept G5 hne
  have S5 := S3'.kept G5 hne3
  replace GG := GG.trans G5
  have f1 := S5.frozen 2
  have q1 : w5.cell? ⟨g3, 2, none⟩ = some (.string ⟨#[]⟩) := S5.cell rfl
  have S8 : Blk (w5.setCell ⟨g3, 2, none⟩ (.string sv)) g3 (vcells (k, 0, sv)) := S5.set 2 _
  have R8 := R5.other (grown_set1 w5 g3 2 (.string sv)) (by omega)
  have B8 := B2.setOther (b := g3) 2 (.string sv) (by omega)
  have G8 := grown_new GG (grown_set1 w5 g3 2 (.string sv)) hsz
  clear R3 R5 G5 B2 S3' S5 GG
  go_wp2_with fail
  obtain ⟨w8, hw8⟩ : ∃ z, z = w5.setCell ⟨g3, 2, none⟩ (.string sv) := ⟨_, rfl⟩
  rw [← hw8] at S8 R8 B8 G8 ⊢
  clear hw8 f1 q1
  refine (HE.out _ R8).mono ?_
  rintro x w9 ⟨rfl, rfl⟩
  cases be
  · have T8 := B8.there 0 3 (Nat.le_refl _)
    have FIN := B8.wholeT (ds := (vcells (k, 0, sv))) rfl
    have O8 : ((vcells (k, 0, sv))).toArray.all (·.oneCell') = true := vcells_all _
    have RG := S8.range 0 (vcells (k, 0, sv)) rfl
    have R9 := R8.other (grown_sets4 w.heap.size (vcells (k, 0, sv)) 0 w8) (by omega)
    have G9 := grown_new G8 (grown_sets4 w.heap.size (vcells (k, 0, sv)) 0 w8) (by omega)
    clear S8 R8 B8 G8
    go_wp2_with (first
      | (refine wpList_load_mid rfl 33 (.tmp 3) rfl g3 0 rfl (vcells (k, 0, sv)) _ RG hu rfl info_val ?_)
      | (refine wpList_store_mid rfl 33 (.tmp 2) (.tmp 23) rfl w.heap.size 0 ((vcells (k, 0, sv))).toArray rfl rfl T8 info_val O8 ?_)
      | fail)
    exact bodyPost_ret (v := .agg ((vcells (k, 0, sv))).toArray) (tok_results (q := 2) rfl _ _ w.heap.size _ _ rfl FIN hu rfl info_val) rfl ⟨by rw [HT.out, valEnd_yes ke]; rw [HK.out, HSV.out], by rw [HT.out, valEnd_yes ke]; exact R9, G9⟩
  · have T8 := B8.there 0 3 (Nat.le_refl _)
    have FIN := B8.wholeT (ds := (vcells zv)) rfl
    have O8 : ((vcells zv)).toArray.all (·.oneCell') = true := vcells_all _
    have RG := S8.range 0 (vcells (k, 0, sv)) rfl
    have R9 := R8.other (grown_sets4 w.heap.size (vcells zv) 0 w8) (by omega)
    have G9 := grown_new G8 (grown_sets4 w.heap.size (vcells zv) 0 w8) (by omega)
    clear S8 R8 B8 G8
    go_wp2_with (first
      | (refine wpList_store_mid rfl 33 (.tmp 2) (.tmp 22) rfl w.heap.size 0 ((vcells zv)).toArray rfl rfl T8 info_val O8 ?_)
      | fail)
    exact bodyPost_ret (v := .agg ((vcells zv)).toArray) (tok_results (q := 2) rfl _ _ w.heap.size _ _ rfl FIN hu rfl info_val) rfl ⟨by rw [HT.out, valEnd_no ke], by rw [HT.out, valEnd_no ke]; exact R9, G9⟩
theorem rd_value (base g : Nat) (l : List UInt8) (a : Nat) (e : Int) (w : World) (h : Rd w base g l a e) (ha : a ≤ l.length) (hm : l.length ≤ 4000) :
    Calls Tryz.prog 70 #[.pointer (some ⟨g, 0, none⟩)] w fun x w' => x = .returned (.agg (vcells (valOut l a e).1).toArray) ∧ Rd w' base g l (valOut l a e).2.1 (valOut l a e).2.2 ∧ w.grownBy w' (some g) := by
  by_cases c1 : (numOut l a e 2).1 = 1
  · exact rd_value1 base g l a e w h ha hm c1 _ (by unfold valOut; rw [if_pos c1])
  · by_cases c2 : (numOut l a e 2).1 = 2
    · exact rd_value2 base g l a e w h ha hm c2 _ (by unfold valOut; rw [if_neg c1, if_pos c2])
    · exact rd_value0 base g l a e w h ha hm ⟨c1, c2⟩ _ (by unfold valOut; rw [if_neg c1, if_neg c2])
end Go.Proofs.YtnhcjadkbogioaaGreat
namespace Go.Proofs.YtnhcjadkbogioaaGreat
open Go.RowKit BitM
theorem bit_any (n : Int) (w : World) : Calls Tryz.prog 103 #[.int .i64 n] w fun e w' => e = .returned (.int .u32 ((one n).toNat : Int)) ∧ w = w' := by
  by_cases h : 0 ≤ n ∧ n < 32
  · obtain ⟨k, rfl⟩ := Int.eq_ofNat_of_zero_le h.1
    have hk : k < 32 := by omega
    have d1 : decide ((k : Int) < 0) = false := by simp
    have d2 : decide ((32 : Int) ≤ (k : Int)) = false := by simp; omega
    have h2 : (2 : Int) ^ k % 4294967296 = ((2 ^ k : Nat) : Int) := by
      have hlt : (2 : Nat) ^ k < 2 ^ 32 := Nat.pow_lt_pow_right (by omega) hk
      have h3 : ((2 ^ k : Nat) : Int) = (2 : Int) ^ k := by simp
      rw [← h3]
      exact Int.emod_eq_of_lt (Int.natCast_nonneg _) (by rw [show (2 : Nat) ^ 32 = 4294967296 from rfl] at hlt; exact Int.ofNat_lt.2 hlt)
    have H2 := hid h2
    clear h2
    have h1 := two_pow_nat hk
    rw [one_in hk, h1]
    clear h1
    go_enter Tryz.func103, Tryz.ntmps103
    go_wp2
    go_ret
    refine ⟨?_, rfl⟩
    show Ending.returned (.int .u32 ((2 : Int) ^ k % 4294967296)) = _
    rw [H2.out]
  · rw [one_out h]
    by_cases h0 : n < 0
    · have d1 : decide (n < 0) = true := by simpa using h0
      go_enter Tryz.func103, Tryz.ntmps103
      go_wp2
      go_ret
      exact ⟨rfl, rfl⟩
    · have d1 : decide (n < 0) = false := by simpa using h0
      have d2 : decide (32 ≤ n) = true := by simp; omega
      go_enter Tryz.func103, Tryz.ntmps103
      go_wp2
      go_ret
      exact ⟨rfl, rfl⟩
theorem has_any (x : BitVec 32) (n : Int) (w : World) : Calls Tryz.prog 101 #[.int .u32 (x.toNat : Int), .int .i64 n] w fun e w' => e = .returned (.bool (has x n)) ∧ w = w' := by
  have h1 := BitM.u32_and x (one n)
  have h2 := (nat_ne0 (x &&& one n)).trans (and_one x n)
  generalize x &&& one n = r at h1 h2
  go_enter Tryz.func101, Tryz.ntmps101
  go_wp2_with fail
  refine (bit_any n _).mono ?_
  rintro e w' ⟨rfl, rfl⟩
  go_wp2_with fail
  go_ret
  exact ⟨rfl, rfl⟩
theorem within_any (x y : BitVec 32) (w : World) : Calls Tryz.prog 78 #[.int .u32 (x.toNat : Int), .int .u32 (y.toNat : Int)] w fun e w' => e = .returned (.bool (x &&& ~~~y == 0#32)) ∧ w = w' := by
  have h1 := BitM.u32_andNot x y
  have h2 := nat_eq0 (x &&& ~~~y)
  generalize x &&& ~~~y = r at h1 h2 ⊢
  go_enter Tryz.func78, Tryz.ntmps78
  go_wp2_with fail
  go_ret
  exact ⟨rfl, rfl⟩
theorem rhas_any (x : BitVec 32) (n : Int) (w : World) : Calls Tryz.prog 81 #[.int .u32 (x.toNat : Int), .int .i64 n] w fun e w' => e = .returned (.bool (has x n)) ∧ w = w' := by
  by_cases h : 0 ≤ n ∧ n < 32
  · obtain ⟨k, rfl⟩ := Int.eq_ofNat_of_zero_le h.1
    have hk : k < 32 := by omega
    have d1 : decide ((k : Int) < 0) = false := by simp
    have d2 : decide ((31 : Int) < (k : Int)) = false := by simp; omega
    have HB := hid (bit_of_div x hk)
    have hx := x.isLt
    obtain ⟨X, hX⟩ : ∃ X, X = x.toNat := ⟨_, rfl⟩
    rw [← hX] at HB hx ⊢
    clear hX h
    go_enter Tryz.func81, Tryz.ntmps81
    go_wp2_with fail
    go_loop [0, 5] (fun s i => ∃ (j m : Nat), j ≤ k ∧ i = .int .i64 j ∧ s = .int .u32 m ∧ m < 4294967296 ∧ Hid (m = X / 2 ^ j)) (fun _ i => k - (intOf i).toNat)
    case atStart => exact ⟨0, X, by omega, rfl, rfl, by omega, hid (by simp)⟩
    case round =>
      obtain ⟨j, m, hj, rfl, rfl, hm, HM⟩ := hrel
      by_cases hlt : j < k
      · go_wp2_with fail
        go_round
        case rel => exact ⟨j + 1, m / 2, by omega, by go_num, by go_num, by omega, hid (by rw [HM.out, Nat.div_div_eq_div_mul, Nat.pow_succ])⟩
        case measure => simp [intOf]; omega
      · obtain rfl : j = k := by omega
        have hb : ((m : Int) % 2 == 1) = has x (j : Int) := by rw [← HB.out, ← HM.out]; rfl
        clear HB HM
        go_wp2_with fail
        go_ret
        exact ⟨rfl, rfl⟩
  · rw [has_out x h]
    by_cases h0 : n < 0
    · have d1 : decide (n < 0) = true := by simpa using h0
      go_enter Tryz.func81, Tryz.ntmps81
      go_wp2
      go_ret
      exact ⟨rfl, rfl⟩
    · have d1 : decide (n < 0) = false := by simpa using h0
      have d2 : decide (31 < n) = true := by simp; omega
      go_enter Tryz.func81, Tryz.ntmps81
      go_wp2
      go_ret
      exact ⟨rfl, rfl⟩
end Go.Proofs.YtnhcjadkbogioaaGreat
namespace Go.Proofs.YtnhcjadkbogioaaGreat
open Go Go.RowKit BitM
def empty : ByteArray := ⟨#[]⟩
def vchk (v : V3) : Bool :=
  if v.1 = 0 then decide (v.2.1 = 0 ∧ v.2.2 = empty)
  else if v.1 = 1 then decide (0 ≤ v.2.1 ∧ v.2.1 ≤ 1099511627776 ∧ v.2.2 = empty)
  else if v.1 = 2 then decide (v.2.1 = 0 ∧ v.2.2.size ≤ 24)
  else false
theorem nil_str_iff (s : ByteArray) : s.toList = [] ↔ s = empty := by
  rw [ByteArray.toList_eq]
  constructor
  · intro h
    apply ByteArray.ext
    apply Array.ext'
    simpa [empty] using h
  · rintro rfl; rfl
theorem vchk_0 (n : Int) (s : ByteArray) : vchk (0, n, s) = decide (n = 0 ∧ s.toList = []) := by
  unfold vchk
  simp only [if_true, nil_str_iff]
theorem vchk_1 (n : Int) (s : ByteArray) : vchk (1, n, s) = decide (0 ≤ n ∧ n ≤ 1099511627776 ∧ s.toList = []) := by
  unfold vchk
  simp only [nil_str_iff]
  rfl
theorem vchk_2 (n : Int) (s : ByteArray) : vchk (2, n, s) = decide (n = 0 ∧ s.size ≤ 24) := rfl
theorem vchk_3 {k : Int} (n : Int) (s : ByteArray) (h0 : k ≠ 0) (h1 : k ≠ 1) (h2 : k ≠ 2) : vchk (k, n, s) = false := by
  unfold vchk
  simp only [h0, h1, h2, if_false]
theorem vcheck_any (k n : Int) (s : ByteArray) (w : World) :
    Calls Tryz.prog 89 #[.agg #[.int .i64 k, .int .i64 n, .string s]] w fun e w' => e = .returned (.bool (vchk (k, n, s))) ∧ Below w.heap.size w w' := by
  by_cases h0 : k = 0
  · subst h0
    rw [vchk_0]
    go_enter Tryz.func89, Tryz.ntmps89
    go_wp2
    all_goals
      go_ret
      refine ⟨congrArg (fun b => Ending.returned (.bool b)) ?_, (Below.refl _ _).alloc (Nat.le_refl _) _⟩
      first | (simp_all; done) | (cases hs : s.toList <;> simp_all; done) | (simp_all; omega) | (cases hs : s.toList <;> simp_all <;> omega)
  by_cases h1 : k = 1
  · subst h1
    rw [vchk_1]
    go_enter Tryz.func89, Tryz.ntmps89
    go_wp2
    all_goals
      go_ret
      refine ⟨congrArg (fun b => Ending.returned (.bool b)) ?_, (Below.refl _ _).alloc (Nat.le_refl _) _⟩
      first | (simp_all; done) | (cases hs : s.toList <;> simp_all; done) | (simp_all; omega) | (cases hs : s.toList <;> simp_all <;> omega)
  by_cases h2 : k = 2
  · subst h2
    rw [vchk_2]
    go_enter Tryz.func89, Tryz.ntmps89
    go_wp2
    all_goals
      go_ret
      refine ⟨congrArg (fun b => Ending.returned (.bool b)) ?_, (Below.refl _ _).alloc (Nat.le_refl _) _⟩
      first | (simp_all; done) | (cases hs : s.toList <;> simp_all; done) | (simp_all; omega) | (cases hs : s.toList <;> simp_all <;> omega)
  · rw [vchk_3 n s h0 h1 h2]
    have b0 : (k == 0) = false := by simpa using h0
    have b1 : (k == 1) = false := by simpa using h1
    have b2 : (k == 2) = false := by simpa using h2
    clear h0 h1 h2
    go_enter Tryz.func89, Tryz.ntmps89
    go_wp2
    go_ret
    exact ⟨rfl, (Below.refl _ _).alloc (Nat.le_refl _) _⟩
theorem rvcheck_any (k n : Int) (s : ByteArray) (w : World) :
    Calls Tryz.prog 84 #[.agg #[.int .i64 k, .int .i64 n, .string s]] w fun e w' => e = .returned (.bool (vchk (k, n, s))) ∧ Below w.heap.size w w' := by
  by_cases h0 : k = 0
  · subst h0
    rw [vchk_0]
    go_enter Tryz.func84, Tryz.ntmps84
    go_wp2
    all_goals
      go_ret
      refine ⟨congrArg (fun b => Ending.returned (.bool b)) ?_, (Below.refl _ _).alloc (Nat.le_refl _) _⟩
      first | (simp_all; done) | (cases hs : s.toList <;> simp_all; done) | (simp_all; omega) | (cases hs : s.toList <;> simp_all <;> omega)
  by_cases h1 : k = 1
  · subst h1
    rw [vchk_1]
    go_enter Tryz.func84, Tryz.ntmps84
    go_wp2
    all_goals
      go_ret
      refine ⟨congrArg (fun b => Ending.returned (.bool b)) ?_, (Below.refl _ _).alloc (Nat.le_refl _) _⟩
      first | (simp_all; done) | (cases hs : s.toList <;> simp_all; done) | (simp_all; omega) | (cases hs : s.toList <;> simp_all <;> omega)
  by_cases h2 : k = 2
  · subst h2
    rw [vchk_2]
    go_enter Tryz.func84, Tryz.ntmps84
    go_wp2
    all_goals
      go_ret
      refine ⟨congrArg (fun b => Ending.returned (.bool b)) ?_, (Below.refl _ _).alloc (Nat.le_refl _) _⟩
      first | (simp_all; done) | (cases hs : s.toList <;> simp_all; done) | (simp_all; omega) | (cases hs : s.toList <;> simp_all <;> omega)
  · rw [vchk_3 n s h0 h1 h2]
    have b0 : (k == 0) = false := by simpa using h0
    have b1 : (k == 1) = false := by simpa using h1
    have b2 : (k == 2) = false := by simpa using h2
    clear h0 h1 h2
    go_enter Tryz.func84, Tryz.ntmps84
    go_wp2
    go_ret
    exact ⟨rfl, (Below.refl _ _).alloc (Nat.le_refl _) _⟩
end Go.Proofs.YtnhcjadkbogioaaGreat
namespace Go.Proofs.YtnhcjadkbogioaaGreat
open Go Go.RowKit Go.Shelf BitM
attribute [local go_sem] Oper.semAt_some
def lst (x : BitVec 32) (k : Nat) : List Int := ((List.range k).filter fun i : Nat => has x (i : Int)).map fun i : Nat => (i : Int)
theorem lst_succ (x : BitVec 32) (k : Nat) : lst x (k + 1) = lst x k ++ if has x (k : Int) = true then [(k : Int)] else [] := by
  unfold lst
  rw [List.range_succ, List.filter_append, List.map_append]
  congr 1
  cases h : has x (k : Int) <;> simp [h]
theorem lst_len (x : BitVec 32) (k : Nat) : (lst x k).length ≤ k := by
  unfold lst
  rw [List.length_map]
  have := List.length_filter_le (fun i : Nat => has x (i : Int)) (List.range k)
  simpa using this
theorem lst_pre (x : BitVec 32) {j k : Nat} (h : j ≤ k) : lst x j <+: lst x k := by
  induction k with
  | zero => obtain rfl : j = 0 := by omega
            exact List.prefix_refl _
  | succ k ih =>
    by_cases e : j = k + 1
    · subst e; exact List.prefix_refl _
    · exact (ih (by omega)).trans (by rw [lst_succ]; exact List.prefix_append _ _)
theorem each1_in (n : Nat) (hn : 1 ≤ n) (l Bn n₀ : Nat) (x : BitVec 32) (J Jx : List Int → World → Prop) (hB : Bn < n₀)
    (hY : ∀ pre y W, J pre W → pre.length < 32 → YieldAt Fence.wide (n - 1) Tryz.prog l #[.int .i64 y] W fun e W' =>
      (e = .returned (.bool true) ∧ J (pre ++ [y]) W' ∧ Below n₀ W W') ∨ (e = .returned (.bool false) ∧ Jx (pre ++ [y]) W'))
    (W : World) (hBn : W.cell? ⟨Bn, 0, none⟩ = some (.int .u32 (x.toNat : Int))) (h0 : J [] W) :
    CallsIn Fence.wide n Tryz.prog 100 #[.func (.yield l) #[] #[], .pointer (some ⟨Bn, 0, none⟩)] W fun e W' => (∃ v, e = .returned v) ∧
      ((∃ ys, ys = lst x 32 ∧ J ys W') ∨ (∃ pre, pre <+: lst x 32 ∧ Jx pre W')) := by
  refine callsIn_of_wp Tryz.func100 rfl trivial ?_ rfl
  simp only [Tryz.ntmps100, List.size_toArray, List.length_cons, List.length_nil, Nat.reduceAdd, Nat.reduceSub, Array.replicate_succ, Array.replicate_zero, List.push_toArray, List.append_toArray, List.nil_append, List.cons_append]
  gi_wp2
  gi_loopw [4] (fun i wr => ∃ k : Nat, k ≤ 32 ∧ i = .int .i64 k ∧ J (lst x k) wr ∧ wr.cell? ⟨Bn, 0, none⟩ = some (.int .u32 (x.toNat : Int)))
    (fun i wr => 32 - (intOf i).toNat)
  case atStart => exact ⟨0, by omega, rfl, h0, hBn⟩
  case round =>
    obtain ⟨k, hk, rfl, hJ, hc⟩ := hrel
    by_cases hlt : k < 32
    · have d1 : decide ((k : Int) < 32) = true := by simp; omega
      cases hb : has x (k : Int) with
      | true =>
        have HS := hid (show lst x (k + 1) = lst x k ++ [(k : Int)] from by rw [lst_succ, hb]; rfl)
        have hlen := lst_len x k
        obtain ⟨fn, tmps, assign, body, hy, hR⟩ := hY (lst x k) (k : Int) wr hJ (by omega)
        have HH := hid (has_any x (k : Int) wr)
        rw [hb] at HH
        clear hb
        gi_wp2_with fail
        refine ⟨trivial, (callsIn_wide.2 HH.out).mono ?_⟩
        rintro e w' ⟨rfl, rfl⟩
        gi_wp2
        refine hR.mono ?_
        rintro e W3 (⟨rfl, hJ3, hk3⟩ | ⟨rfl, hJx3⟩)
        · have hc3 := (hk3.cell (p := ⟨Bn, 0, none⟩) hB).trans hc
          gi_wp2
          go_roundw
          case rel => exact ⟨k + 1, by omega, by go_num, by rw [HS.out]; exact hJ3, hc3⟩
          case measure => simp [intOf]; omega
        · gi_wp2
          refine bodyPost_ret (results_none rfl _ _ _) rfl ?_
          exact ⟨⟨_, rfl⟩, .inr ⟨lst x k ++ [(k : Int)], by rw [← HS.out]; exact lst_pre x (by omega), hJx3⟩⟩
      | false =>
        have HS := hid (show lst x (k + 1) = lst x k from by rw [lst_succ, hb]; simp)
        have HH := hid (has_any x (k : Int) wr)
        rw [hb] at HH
        clear hb
        gi_wp2_with fail
        refine ⟨trivial, (callsIn_wide.2 HH.out).mono ?_⟩
        rintro e w' ⟨rfl, rfl⟩
        gi_wp2
        refine ⟨fun _ h => (by cases h), ?_⟩
        gi_wp2
        go_roundw
        case rel => exact ⟨k + 1, by omega, by go_num, by rw [HS.out]; exact hJ, hc⟩
        case measure => simp [intOf]; omega
    · obtain rfl : k = 32 := by omega
      gi_wp2
      go_end0
      exact ⟨⟨_, rfl⟩, .inl ⟨_, rfl, hJ⟩⟩
theorem each_any (x : BitVec 32) (w : World) : Calls Tryz.prog 93 #[.int .u32 (x.toNat : Int)] w fun e w' =>
    e = .returned (.func (.func 100) #[] #[.pointer (some ⟨w.heap.size, 0, none⟩)]) ∧ w' = w.alloc (.cells #[.int .u32 (x.toNat : Int)] 31) := by
  go_enter Tryz.func93, Tryz.ntmps93
  go_wp2
  go_ret
  exact ⟨rfl, rfl⟩
theorem each_stops (n : Nat) (hn : 1 ≤ n) (Bn n₀ : Nat) (x : BitVec 32) (w : World) (hBn : Bn < w.heap.size) (hB : Bn < n₀) (hc : w.cell? ⟨Bn, 0, none⟩ = some (.int .u32 (x.toNat : Int))) :
    SeqStopsK Fence.wide n Tryz.prog 100 #[.pointer (some ⟨Bn, 0, none⟩)] (fun y : Int => #[Value.int .i64 y]) (Below n₀) (fun ys => ys = lst x 32) (fun pre => pre <+: lst x 32) 32 w :=
  fun l J Jx W hW _ _ hY h0 => each1_in n hn l Bn n₀ x J Jx hB hY W ((hW.cell (p := ⟨Bn, 0, none⟩) hBn).trans hc) h0
theorem info_int : (Tryz.prog.info? 3).map (fun i => (i.zero, i.size, i.bytes)) = some (some (.int .i64 0), 1, 8) := by kernel_rfl
theorem append_seq (x : BitVec 32) (Bn : Nat) (w : World) (hBn : Bn < w.heap.size) (hc : w.cell? ⟨Bn, 0, none⟩ = some (.int .u32 (x.toNat : Int))) :
    Calls Tryz.prog 99 #[.slice none 0 0, .func (.func 100) #[] #[.pointer (some ⟨Bn, 0, none⟩)]] w fun e W' =>
      ∃ v, e = .returned v ∧ W'.ownsRow w.heap.size 3 1 v (lst x 32).length ((lst x 32).map (Value.int .i64)) ∧ Below w.heap.size w W' := by
  refine (callsIn_wide (n := 5)).1 ?_
  obtain ⟨i0, hi, hz0, hz1, hz2⟩ := info_parts info_int
  refine callsIn_of_wp_marks Tryz.func99 rfl trivial ?_ rfl
  simp only [Tryz.ntmps99, List.size_toArray, List.length_cons, List.length_nil, Nat.reduceAdd, Nat.reduceSub, Array.replicate_succ, Array.replicate_zero, List.push_toArray, List.append_toArray, List.nil_append, List.cons_append]
  gi_wp2
  have bO := Boxed.new w 93 (.slice none 0 0)
  have hB0 : Below w.heap.size w (w.alloc (.cells #[.slice none 0 0] 93)) := (Below.refl _ w).alloc (Nat.le_refl _) _
  refine wpIn_rangeFunc_ownG (F := Fence.wide) rfl (by omega) (gf := 100) (lb := #[.pointer (some ⟨Bn, 0, none⟩)]) rfl trivial (enters_of Tryz.func100 (by kernel_rfl) rfl)
    (each_stops (5 - 1) (by omega) Bn w.heap.size x (w.alloc (.cells #[.slice none 0 0] 93)) (by simp; omega) hBn ((hB0.cell (p := ⟨Bn, 0, none⟩) hBn).trans hc)) belowK_t (belowK_b (by simp)) (Below.refl _ _) (fun _ => rfl)
    (fun pre W => (∃ v, Boxed W w.heap.size 93 v ∧ W.ownsRow w.heap.size 3 1 v pre.length (pre.map (Value.int .i64)) ∧ True) ∧ Below w.heap.size w W)
    (fun _ _ _ => False)
    (OwnFrom.and (Own.from (holdsRow_own w.heap.size w.heap.size 93 3 1 (fun pre : List Int => pre.length) (fun pre => pre.map (Value.int .i64)) (fun _ _ => True)) _) (ownFrom_below (Nat.le_refl _) (by simp)))
    (fun _ _ _ _ _ hs _ _ => hs)
    ⟨⟨_, bO, World.ownsRow_nil _ _ _ _, trivial⟩, hB0⟩
    (fun y => { tmps := #[.slice none 0 0, .func (.func 100) #[] #[.pointer (some ⟨Bn, 0, none⟩)], .pointer (some ⟨w.heap.size, 0, none⟩), undef, .slice none 0 0, .int .i64 y, .func (.func 100) #[] #[.pointer (some ⟨Bn, 0, none⟩)], .int .i64 y, undef, undef, undef, undef, undef], defers := [] }) ?assign ?body ?done ?stop
  case assign =>
    intro l y W K hK
    gi_wp2
    exact hK
  case body =>
    rintro l pre y W ⟨⟨v, hv, hrow, _⟩, hB⟩ hlt
    have hc := hv.cell
    have hm63 : pre.length + 1 ≤ maxLen := by unfold maxLen; omega
    gi_wp2_with (gi_at_builtin; refine wpListIn_append_own _ rfl _ _ 93 rfl w.heap.size 3 i0 (.int .i64 0) 1 8 Tryz.underlying93 hi hz0 hz1 hz2 rfl (by decide) _ _ _ rfl (hrow.alloc _) ⟨W.heap.size, 0, none⟩ 1 1 [.int .i64 y] rfl rfl (cell_one_new _ _ _) (by simp [Value.oneCell']) (by omega) (by omega) (by have := hB.size; simp; omega) ?_; intro v' w1 hown' hgrow _; obtain ⟨g', cap', rfl⟩ := ownsRow_succ hown'; obtain ⟨hv1, hv2, hr2, hk2, hb2⟩ := hv.appended (by decide) hrow hB.size (Nat.le_refl _) hown' hgrow; have hc1 := hv1.cell; have hf1 := hv1.frozen)
    exact ⟨hk2.from _, hb2, ⟨_, hv2, by simpa using hr2, trivial⟩, hB.trans hb2⟩
  case done =>
    rintro D ys W hD rfl ⟨⟨v, hv, hrow, _⟩, hB⟩ hK
    have hc := hv.cell
    gi_wp2
    refine ⟨by simp, .inl ⟨_, _, rfl, run_takeDeferred hK, ?_⟩⟩
    exact ⟨_, results_tmp rfl _ _ _, v, rfl, ownsRow_putObj hrow _ hK rfl, hB.trans (belowK_b (w := w) (Nat.le_refl _) W D _ _ (by simp at hD; omega) hK rfl rfl)⟩
  case stop =>
    rintro D c pre W _ _ h _
    exact h.elim
theorem collect_any (x : BitVec 32) (Bn : Nat) (w : World) (hBn : Bn < w.heap.size) (hc : w.cell? ⟨Bn, 0, none⟩ = some (.int .u32 (x.toNat : Int))) :
    Calls Tryz.prog 92 #[.func (.func 100) #[] #[.pointer (some ⟨Bn, 0, none⟩)]] w fun e W' =>
      ∃ v, e = .returned v ∧ W'.ownsRow w.heap.size 3 1 v (lst x 32).length ((lst x 32).map (Value.int .i64)) ∧ Below w.heap.size w W' := by
  have H := hid (append_seq x Bn w hBn hc)
  clear hc hBn
  go_enter Tryz.func92, Tryz.ntmps92
  go_wp2_with fail
  refine H.out.mono ?_
  rintro e w1 ⟨v, rfl, ho, hb⟩
  have HO := hid ho
  clear ho
  go_wp2_with fail
  go_ret
  exact ⟨v, rfl, HO.out, hb⟩
def flds (x : BitVec 32) : List Int := lst (x &&& 255#32) 32
theorem flds_len (x : BitVec 32) : (flds x).length ≤ 32 := lst_len _ _
theorem fields_any (x : BitVec 32) (w : World) : Calls Tryz.prog 71 #[.int .u32 (x.toNat : Int)] w fun e w' =>
    ∃ A c, e = .returned (.slice A (flds x).length c) ∧ Own w' w.heap.size 3 (.slice A (flds x).length c) (ivs (flds x)) ∧ Below w.heap.size w w' := by
  have h1 := BitM.u32_and x 255#32
  have h2 : (255 : Int) = ((255#32 : BitVec 32).toNat : Int) := rfl
  rw [← h2] at h1
  unfold flds
  generalize x &&& 255#32 = r at h1 ⊢
  clear h2
  go_enter Tryz.func71, Tryz.ntmps71
  go_wp2_with fail
  refine (each_any r w).mono ?_
  rintro e w1 ⟨rfl, rfl⟩
  have H := hid (collect_any r w.heap.size (w.alloc (.cells #[.int .u32 (r.toNat : Int)] 31)) (by simp) (Boxed.new w 31 (.int .u32 (r.toNat : Int))).cell)
  go_wp2_with fail
  refine H.out.mono ?_
  rintro e w2 ⟨v, rfl, ho, hb⟩
  have ho2 : Own w2 w.heap.size 3 v (ivs (lst r 32)) := Own.lower (base := (w.alloc (.cells #[.int .u32 (r.toNat : Int)] 31)).heap.size) (by unfold Own; rw [ivs_length]; exact ho) (by simp)
  obtain ⟨A, c, hv⟩ := ho2.form
  rw [ivs_length] at hv
  subst hv
  have HO := hid ho2
  have hb2 : Below w.heap.size w w2 := ((Below.refl _ w).alloc (Nat.le_refl _) _).trans (hb.mono (by simp))
  clear ho ho2 hb
  go_wp2_with fail
  go_ret
  exact ⟨A, c, rfl, HO.out, hb2⟩
end Go.Proofs.YtnhcjadkbogioaaGreat
namespace Go.Proofs.YtnhcjadkbogioaaGreat
open Go Go.RowKit BitM
theorem low_bit (n i : Nat) : (2 ^ n - 1 : Nat).testBit i = decide (i < n) := Nat.testBit_two_pow_sub_one n i
theorem bit_255 (i : Nat) : (255#32 : BitVec 32).getLsbD i = decide (i < 8) := low_bit 8 i
theorem bit_511 (i : Nat) : (511#32 : BitVec 32).getLsbD i = decide (i < 9) := low_bit 9 i
theorem le_511 (x : BitVec 32) : decide (x.toNat ≤ 511) = true ↔ ∀ i, 9 ≤ i → i < 32 → x.getLsbD i = false := by
  rw [decide_eq_true_iff]
  constructor
  · intro h i h9 _
    have : x.toNat < 2 ^ i := Nat.lt_of_lt_of_le (by omega : x.toNat < 2 ^ 9) (Nat.pow_le_pow_right (by omega) h9)
    exact Nat.testBit_lt_two_pow this
  · intro h
    have : x.toNat < 2 ^ 9 := by
      apply Nat.lt_pow_two_of_testBit
      intro i hi
      by_cases h32 : i < 32
      · exact h i hi h32
      · exact BitVec.getLsbD_of_ge x i (by omega)
    omega
theorem check_eq (x : BitVec 32) : (x &&& ~~~511#32 == 0#32) = decide (x.toNat ≤ 511) := by
  rw [Bool.eq_iff_iff, le_511, beq_iff_eq]
  constructor
  · intro h i h9 h32
    have := congrArg (fun v : BitVec 32 => v.getLsbD i) h
    simp only [BitVec.getLsbD_and, BitVec.getLsbD_not, bit_511, BitVec.getLsbD_zero] at this
    simpa [h32, show ¬ i < 9 by omega] using this
  · intro h
    apply BitVec.eq_of_getLsbD_eq
    intro i hi
    simp only [BitVec.getLsbD_and, BitVec.getLsbD_not, bit_511, BitVec.getLsbD_zero]
    by_cases h9 : i < 9
    · simp [h9]
    · simp [h i (by omega) hi]
theorem has_and_255 (x : BitVec 32) (n : Int) : has (x &&& 255#32) n = (has x n && decide (n < 8)) := by
  by_cases h : 0 ≤ n ∧ n < 32
  · obtain ⟨k, rfl⟩ := Int.eq_ofNat_of_zero_le h.1
    have hk : k < 32 := by omega
    rw [has_in _ hk, has_in _ hk, BitVec.getLsbD_and, bit_255]
    congr 1
    rw [Bool.eq_iff_iff]; simp; omega
  · rw [has_out _ h, has_out _ h]; rfl
theorem mem_lst (x : BitVec 32) (k : Nat) (n : Int) : n ∈ lst x k ↔ (0 ≤ n ∧ n < k ∧ has x n = true) := by
  unfold lst
  rw [List.mem_map]
  constructor
  · rintro ⟨i, hi, rfl⟩
    rw [List.mem_filter, List.mem_range] at hi
    exact ⟨by omega, by omega, hi.2⟩
  · rintro ⟨h0, h1, h2⟩
    obtain ⟨i, rfl⟩ := Int.eq_ofNat_of_zero_le h0
    exact ⟨i, List.mem_filter.2 ⟨List.mem_range.2 (by omega), h2⟩, rfl⟩
theorem mem_flds (x : BitVec 32) (n : Int) : n ∈ flds x ↔ (0 ≤ n ∧ n < 8 ∧ has x n = true) := by
  unfold flds
  rw [mem_lst, has_and_255]
  simp only [Bool.and_eq_true, decide_eq_true_eq]
  constructor
  · rintro ⟨a, b, c, d⟩; exact ⟨a, d, c⟩
  · rintro ⟨a, b, c⟩; exact ⟨a, by omega, c, b⟩
theorem flds_in (x : BitVec 32) (j : Nat) (h : j < (flds x).length) : ∃ i : Nat, i < 8 ∧ (flds x)[j] = (i : Int) := by
  have := (mem_flds x (flds x)[j]).1 (List.getElem_mem h)
  obtain ⟨i, hi⟩ := Int.eq_ofNat_of_zero_le this.1
  exact ⟨i, by omega, hi⟩
theorem labels_any (x : BitVec 32) (w : World) : Calls Tryz.prog 60 #[.int .u32 (x.toNat : Int)] w fun e w' => e = .returned (.bool (has x 8)) ∧ w = w' := by
  have h1 := BitM.u32_and x (one 8)
  have h3 : ((one 8).toNat : Int) = 256 := rfl
  rw [h3] at h1
  have h2 := (nat_ne0 (x &&& one 8)).trans (and_one x 8)
  generalize x &&& one 8 = r at h1 h2
  clear h3
  go_enter Tryz.func60, Tryz.ntmps60
  go_wp2_with fail
  go_ret
  exact ⟨rfl, rfl⟩
theorem rlabels_any (x : BitVec 32) (w : World) : Calls Tryz.prog 80 #[.int .u32 (x.toNat : Int)] w fun e w' => e = .returned (.bool (has x 8)) ∧ w = w' := by
  go_enter Tryz.func80, Tryz.ntmps80
  go_wp2_with fail
  refine (rhas_any x 8 w).mono ?_
  rintro e w' ⟨rfl, rfl⟩
  go_wp2_with fail
  go_ret
  exact ⟨rfl, rfl⟩
theorem mcheck_any (x : BitVec 32) (w : World) : Calls Tryz.prog 46 #[.int .u32 (x.toNat : Int)] w fun e w' => e = .returned (.bool (decide (x.toNat ≤ 511))) ∧ w = w' := by
  have H := hid (within_any x 511#32 w)
  rw [check_eq] at H
  go_enter Tryz.func46, Tryz.ntmps46
  go_wp2_with fail
  refine H.out.mono ?_
  rintro e w' ⟨rfl, rfl⟩
  go_wp2_with fail
  go_ret
  exact ⟨rfl, rfl⟩
theorem rmcheck_any (x : BitVec 32) (w : World) : Calls Tryz.prog 83 #[.int .u32 (x.toNat : Int)] w fun e w' => e = .returned (.bool (decide (x.toNat ≤ 511))) ∧ w = w' := by
  have h1 : decide ((x.toNat : Int) ≤ 511) = decide (x.toNat ≤ 511) := by rw [decide_eq_decide]; omega
  by_cases h : x.toNat ≤ 511
  · rw [decide_eq_true h] at h1 ⊢
    go_enter Tryz.func83, Tryz.ntmps83
    go_wp2_with fail
    go_ret
    exact ⟨rfl, rfl⟩
  · rw [decide_eq_false h] at h1 ⊢
    go_enter Tryz.func83, Tryz.ntmps83
    go_wp2_with fail
    go_ret
    exact ⟨rfl, rfl⟩
theorem grown_setCell (w : World) (b j : Nat) (v : Value) : w.grownBy (w.setCell ⟨b, j, none⟩ v) (some b) :=
  ⟨rfl, rfl, rfl, by simp [World.setCell], fun k _ hk => Below.heap_setCell _ _ _ k (fun e => hk (by rw [e]))⟩
theorem grown_sets (b : Nat) : ∀ (vs : List Value) (o : Nat) (w : World), w.grownBy (w.setCells b o vs) (some b)
  | [], _, w => World.grownBy.refl w _
  | v :: vs, o, w => (grown_setCell w b o v).trans (grown_sets b vs (o + 1) _)
theorem Own.setsOther {w : World} {base : Nat} {e : TypeId} {v : Value} {xs : List Value} (h : Own w base e v xs) {b : Nat} (hb : b < base) (vs : List Value) (o : Nat) : Own (w.setCells b o vs) base e v xs := by
  refine h.kept (grown_sets b vs o w) ?_
  have hl := h.lt
  rcases hv : v.ownBlock with _ | g
  · exact .inl rfl
  · refine .inr fun e' => ?_
    have := hl g hv
    cases e'
    omega
section
variable {P : Program} {ops : List Oper} {Q : Exit → Act → World → Prop}
theorem wpAny_yield (i : Nat) {oi : Oper} (v : Value) {fuel : Nat} {listed : Array Bool} {a : Act} {w : World} (hi : ops[i]? = some oi)
    (hs : Region.noSelect ops.toArray = true) (hf : Region.free .any ops.toArray listed i = true) (hr : (Region.ready .any ops.toArray listed).contains i = true)
    (hQ : ∀ c a w, Q (.panic c) (a.put oi.dst v) w → Q (.panic c) a w) (hw : Region.wanted oi (yielded ops.toArray a.tmps) = true) (hy : ∀ w, (execOp a.eval oi).run P w = .ok (.value v) w)
    (h : wpAny P .any ops.toArray Q fuel (listed.setIfInBounds i true) (a.put oi.dst v) w) : wpAny P .any ops.toArray Q (fuel + 1) listed a w :=
  wpAny_take (by rw [List.getElem?_toArray]; exact hi) hs hf hr hQ (.inl ⟨hw, hy⟩) h
theorem wpAny_one (i : Nat) {oi : Oper} {fuel : Nat} {listed : Array Bool} {a : Act} {w : World} (hi : ops[i]? = some oi) (hr : Region.ready .any ops.toArray listed = [i]) (hw : Region.wanted oi (yielded ops.toArray a.tmps) = true)
    (h : oi.wp P a w (wpAny P .any ops.toArray Q fuel (listed.setIfInBounds i true)) Q) : wpAny P .any ops.toArray Q (fuel + 1) listed a w :=
  wpAny_all hr (by simp) (fun j hj => by
    obtain rfl : j = i := by simpa using hj
    unfold wpOp
    simp only [List.getElem?_toArray, hi, hw, if_true]
    exact .inl h)
end
theorem results_blk {P : Program} {fn : Func} {q : Tmp} {ty : TypeId} (h : fn.results = #[.cell q ty]) (tmps : Array Value) (w : World) (g : Nat) (cs : List Value) (d : TypeDesc)
    (hq : tmps.getD q undef = .pointer (some ⟨g, 0, none⟩)) (hB : Blk w g cs)
    (hu : P.underlying ty = some d) (hd : (match d with | .struct _ | .array _ _ => true | _ => false) = true) (hi : (P.info? ty).map (·.size) = some cs.length) :
    (results fn tmps).run P w = .ok (.agg cs.toArray) w := by
  obtain ⟨t, hB⟩ := hB
  exact results_cell_row h tmps w g t cs.toArray (0, 0) d hq hB hu hd (by simpa using hi)
theorem results_tmp_blk {P : Program} {fn : Func} {p q : Tmp} {ty : TypeId} (h : fn.results = #[.tmp p, .cell q ty]) (tmps : Array Value) (w : World) (g : Nat) (cs : List Value) (d : TypeDesc) (v : Value) (hp : tmps.getD p undef = v)
    (hq : tmps.getD q undef = .pointer (some ⟨g, 0, none⟩)) (hB : Blk w g cs)
    (hu : P.underlying ty = some d) (hd : (match d with | .struct _ | .array _ _ => true | _ => false) = true) (hi : (P.info? ty).map (·.size) = some cs.length) :
    (results fn tmps).run P w = .ok (.tuple #[v, .agg cs.toArray]) w := by
  obtain ⟨t, hB⟩ := hB
  subst hp
  have hq' : tmps[q]?.getD undef = .pointer (some ⟨g, 0, none⟩) := by simpa using hq
  simp [results, h, hq', asAddr, run_loadVar_row w g t ty cs.toArray (0, 0) d hB hu hd (by simpa using hi)]
def zeros : List V3 := List.replicate 8 zv
theorem zeros_len : zeros.length = 8 := rfl
def inl (l : List Int) (k : Nat) : Nat → Bool := fun i => decide ((i : Int) ∈ l.take k)
theorem inl_zero (l : List Int) : inl l 0 = fun _ => false := by
  funext i; simp [inl]
theorem inl_succ (l : List Int) (k i : Nat) (h : k < l.length) (hi : l[k] = (i : Int)) : inl l (k + 1) = fun j => inl l k j || j == i := by
  funext j
  unfold inl
  rw [List.take_succ_eq_append_getElem h, hi]
  rw [Bool.eq_iff_iff]
  simp only [List.mem_append, List.mem_singleton, Bool.or_eq_true, decide_eq_true_eq, beq_iff_eq]
  rw [show ((j : Int) = (i : Int)) ↔ j = i from by omega]
theorem inl_flds (x : BitVec 32) (a c : List V3) : mix (inl (flds x) (flds x).length) a c = mix (fun i => has x (i : Int)) a c := by
  apply mix_congr
  intro i hi
  unfold inl
  rw [List.take_length, Bool.eq_iff_iff, decide_eq_true_iff, mem_flds]
  constructor
  · rintro ⟨_, _, h⟩; exact h
  · intro h; exact ⟨by omega, by omega, h⟩
theorem blk_field {w : World} {g : Nat} (p : Nat → Bool) (f c : List V3) (pre : List Value) (i : Nat) (hi : i < 8) (hf : i < f.length) (h : Blk w g (pre ++ fcells (mix p f c))) :
    Blk (w.setCells g (pre.length + i * 3) (vcells f[i])) g (pre ++ fcells (mix (fun j => p j || j == i) f c)) := by
  have hl : (fcells (mix p f c)).length = 24 := by rw [fcells_len, mix_len]
  have h2 := h.sets (vcells f[i]) (pre.length + i * 3) (by rw [List.length_append, hl]; show _ + 3 ≤ _; omega)
  have e : (pre ++ fcells (mix p f c)).take (pre.length + i * 3) ++ vcells f[i] ++ (pre ++ fcells (mix p f c)).drop (pre.length + i * 3 + (vcells f[i]).length) = pre ++ fcells (mix (fun j => p j || j == i) f c) := by
    rw [show (vcells f[i]).length = 3 from rfl, List.take_append, List.drop_append, Nat.add_sub_cancel_left]
    rw [List.take_of_length_le (by omega), List.drop_eq_nil_of_le (by omega), List.nil_append, show pre.length + i * 3 + 3 - pre.length = 3 * i + 3 by omega, Nat.mul_comm i 3]
    rw [List.append_assoc, List.append_assoc, ← List.append_assoc ((fcells (mix p f c)).take _), fcells_set _ _ _ (by rw [mix_len]; exact hi), mix_set p f c i hi hf]
  rw [e] at h2
  exact h2
theorem Blk.field {w : World} {g : Nat} {pre : List Value} {f : List V3} (h : Blk w g (pre ++ fcells f)) (o i : Nat) (ho : pre.length = o) (hi : i < f.length) :
    w.cell? ⟨g, o + i * 3, none⟩ = some (.int .i64 f[i].1) ∧ w.cell? ⟨g, o + i * 3 + 1, none⟩ = some (.int .i64 f[i].2.1) ∧ w.cell? ⟨g, o + i * 3 + 2, none⟩ = some (.string f[i].2.2) := by
  subst ho
  have h2 := fcells_get f i hi
  rw [Nat.mul_comm i 3]
  refine ⟨h.cell ?_, h.cell ?_, h.cell ?_⟩
  · rw [List.getElem?_append_right (by omega), Nat.add_sub_cancel_left]; exact h2.1
  · rw [List.getElem?_append_right (by omega), show pre.length + 3 * i + 1 - pre.length = 3 * i + 1 by omega]; exact h2.2.1
  · rw [List.getElem?_append_right (by omega), show pre.length + 3 * i + 2 - pre.length = 3 * i + 2 by omega]; exact h2.2.2
theorem Blk.field0 {w : World} {g : Nat} {f : List V3} (h : Blk w g (fcells f)) (i : Nat) (hi : i < f.length) :
    w.cell? ⟨g, i * 3, none⟩ = some (.int .i64 f[i].1) ∧ w.cell? ⟨g, i * 3 + 1, none⟩ = some (.int .i64 f[i].2.1) ∧ w.cell? ⟨g, i * 3 + 2, none⟩ = some (.string f[i].2.2) := by
  have := Blk.field (pre := []) (o := 0) h i rfl hi
  simpa using this
theorem shown_any (lb : Int) (x : BitVec 32) (f : List V3) (w : World) (hf : f.length = 8) :
    Calls Tryz.prog 73 #[.int .u32 lb, .agg (fcells f).toArray, .int .u32 (x.toNat : Int)] w fun e w' =>
      e = .returned (.tuple #[.int .u32 (if has x 8 then lb else 0), .agg (fcells (mix (fun i => has x (i : Int)) f zeros)).toArray]) ∧ Below w.heap.size w w' := by
  obtain ⟨rl, hrl⟩ : ∃ r : Int, r = (if has x 8 then lb else 0) := ⟨_, rfl⟩
  rw [← hrl]
  have HRL := hid hrl
  clear hrl
  have B0 := Blk.new w (fcells f) 34
  obtain ⟨arr, harr⟩ : ∃ arr, arr = (fcells f).toArray := ⟨_, rfl⟩
  rw [← harr] at B0 ⊢
  have B1 := Blk.new (w.alloc (.cells arr 34)) (fcells zeros) 34
  have B2 := Blk.new ((w.alloc (.cells arr 34)).alloc (.cells (fcells zeros).toArray 34)) (fcells zeros) 34
  have hw0 := (((Below.refl w.heap.size w).alloc (Nat.le_refl _) (.cells arr 34)).alloc (by simp) (.cells (fcells zeros).toArray 34)).alloc (by simp; omega) (.cells (fcells zeros).toArray 34)
  replace B1 := B1.alloc (.cells (fcells zeros).toArray 34)
  replace B0 := (B0.alloc (.cells (fcells zeros).toArray 34)).alloc (.cells (fcells zeros).toArray 34)
  have HF := hid hf
  have HFL := hid (fields_any x (((w.alloc (.cells arr 34)).alloc (.cells (fcells zeros).toArray 34)).alloc (.cells (fcells zeros).toArray 34)))
  have hsz : (((w.alloc (.cells arr 34)).alloc (.cells (fcells zeros).toArray 34)).alloc (.cells (fcells zeros).toArray 34)).heap.size = w.heap.size + 3 := by simp
  have hs2 : ((w.alloc (.cells arr 34)).alloc (.cells (fcells zeros).toArray 34)).heap.size = w.heap.size + 2 := by simp
  have hs1 : (w.alloc (.cells arr 34)).heap.size = w.heap.size + 1 := by simp
  rw [hs1] at B1
  rw [hs2] at B2
  generalize hW : ((w.alloc (.cells arr 34)).alloc (.cells (fcells zeros).toArray 34)).alloc (.cells (fcells zeros).toArray 34) = W at *
  have HW := hid hW
  have HB := hid hw0
  have HSZ := hid hsz
  clear hf harr hsz hs1 hs2 hW hw0
  go_enter Tryz.func73, Tryz.ntmps73
  go_wp2_with fail
  have hzc : (fcells zeros).toArray = #[Value.int .i64 0, .int .i64 0, .string { data := #[] }, .int .i64 0, .int .i64 0, .string { data := #[] }, .int .i64 0, .int .i64 0, .string { data := #[] }, .int .i64 0, .int .i64 0, .string { data := #[] }, .int .i64 0, .int .i64 0, .string { data := #[] }, .int .i64 0, .int .i64 0, .string { data := #[] }, .int .i64 0, .int .i64 0, .string { data := #[] }, .int .i64 0, .int .i64 0, .string { data := #[] }] := rfl
  rw [← hzc, HW.out]
  clear hzc
  refine HFL.out.mono ?_
  rintro e w1 ⟨A, c, rfl, ho, hb⟩
  have C0 := B0.later hb
  have C1 := B1.later hb
  have C2 := B2.later hb
  have hbw : Below w.heap.size w w1 := HB.out.trans (hb.mono (by rw [HSZ.out]; omega))
  replace ho : Own w1 (w.heap.size + 3) 3 (.slice A (flds x).length c) (ivs (flds x)) := by rw [HSZ.out] at ho; exact ho
  have hfl := flds_len x
  clear B0 B1 B2 HFL HB HSZ hb
  go_wp2_with fail
  obtain ⟨n, hn⟩ : ∃ n, n = (flds x).length := ⟨_, rfl⟩
  rw [← hn] at ho hfl ⊢
  have HN := hid hn
  clear hn
  go_loopw [14] (fun i wr => ∃ k : Nat, k ≤ n ∧ i = .int .i64 k ∧ Blk wr w.heap.size (fcells f) ∧ Blk wr (w.heap.size + 1) (fcells zeros) ∧ Blk wr (w.heap.size + 2) (fcells (mix (inl (flds x) k) f zeros)) ∧ Own wr (w.heap.size + 3) 3 (.slice A n c) (ivs (flds x)) ∧ Below w.heap.size w wr)
    (fun i _ => n - (intOf i).toNat)
  case atStart => exact ⟨0, Nat.zero_le _, rfl, C0, C1, by rw [inl_zero, mix_none _ _ zeros_len]; exact C2, ho, hbw⟩
  case round =>
    obtain ⟨k, hk, rfl, D0, D1, D2, hown, hbr⟩ := hrel
    clear C0 C1 C2 ho hbw
    by_cases hlt : k < n
    · have hkl : k < (flds x).length := by rw [← HN.out]; exact hlt
      obtain ⟨i, hi8, hik⟩ := flds_in x k hkl
      obtain ⟨b, o, rfl, hb, hc⟩ := hown.sees.int k hkl
      rw [hik] at hc
      have hif : i < f.length := by rw [HF.out]; exact hi8
      obtain ⟨l0, l1, l2⟩ := D0.field0 i hif
      obtain ⟨s0, s1, s2⟩ := D2.field0 i (by rw [mix_len]; exact hi8)
      have f0 := D2.frozen (i * 3)
      have f1 := D2.frozen (i * 3 + 1)
      have f2 := D2.frozen (i * 3 + 2)
      have d8 : (i : Int) < 8 := by omega
      have E2 := blk_field (w := wr) (g := w.heap.size + 2) (inl (flds x) k) f zeros [] i hi8 hif D2
      rw [← inl_succ (flds x) k i hkl hik] at E2
      have E0 := Blk.setsOther (b := w.heap.size + 2) (g := w.heap.size) (by omega) (vcells f[i]) (0 + i * 3) D0
      have E1 := Blk.setsOther (b := w.heap.size + 2) (g := w.heap.size + 1) (by omega) (vcells f[i]) (0 + i * 3) D1
      have EO := hown.setsOther (b := w.heap.size + 2) (by omega) (vcells f[i]) (0 + i * 3)
      have EB := below_sets (B := w.heap.size) (b := w.heap.size + 2) (by omega) (vcells f[i]) (0 + i * 3) hbr
      obtain ⟨v, hv⟩ : ∃ v, v = f[i] := ⟨_, rfl⟩
      rw [← hv] at l0 l1 l2 E0 E1 E2 EO EB
      obtain ⟨v0, v1, v2⟩ := v
      simp only at l0 l1 l2
      have R : Hid (Blk (wr.setCells (w.heap.size + 2) (0 + i * 3) (vcells (v0, v1, v2))) w.heap.size (fcells f) ∧ Blk (wr.setCells (w.heap.size + 2) (0 + i * 3) (vcells (v0, v1, v2))) (w.heap.size + 1) (fcells zeros) ∧ Blk (wr.setCells (w.heap.size + 2) (0 + i * 3) (vcells (v0, v1, v2))) (w.heap.size + 2) (fcells (mix (inl (flds x) (k + 1)) f zeros)) ∧ Own (wr.setCells (w.heap.size + 2) (0 + i * 3) (vcells (v0, v1, v2))) (w.heap.size + 3) 3 (.slice (some ⟨b, o, none⟩) n c) (ivs (flds x)) ∧ Below w.heap.size w (wr.setCells (w.heap.size + 2) (0 + i * 3) (vcells (v0, v1, v2)))) := ⟨E0, E1, E2, EO, EB⟩
      clear hv E0 E1 E2 EO EB hik D0 D1 D2
      rw [Nat.zero_add] at R
      go_wp2_with fail
      go_roundw
      case rel => exact ⟨k + 1, by omega, by go_num, R.out⟩
      case measure => simp [intOf]; omega
    · obtain rfl : k = n := by omega
      have hz : mix (inl (flds x) k) f zeros = mix (fun i => has x (i : Int)) f zeros := by rw [HN.out]; exact inl_flds x f zeros
      rw [hz] at D2
      clear hz hown
      have HL := hid (labels_any x wr)
      have R2 := D2.range 0 (fcells (mix (fun i => has x (i : Int)) f zeros)) (by rw [List.drop_zero, List.take_length])
      have T1 := D1.there 0 24 (by rw [fcells_len, zeros_len]; omega)
      have hu := Tryz.underlying34
      obtain ⟨cs, hcs⟩ : ∃ cs, cs = fcells (mix (fun i => has x (i : Int)) f zeros) := ⟨_, rfl⟩
      have hlen : cs.length = 24 := by rw [hcs, fcells_len, mix_len]
      have hi : (Tryz.prog.info? 34).map (·.size) = some cs.length := by rw [hlen]; kernel_rfl
      have hone : ∀ v ∈ cs, v.oneCell' = true := by rw [hcs]; exact fcells_one _
      rw [← hcs] at R2
      have HI := hid hi
      have HCS := hid hcs
      have FIN : Blk (wr.drew.setCells (w.heap.size + 1) 0 cs) (w.heap.size + 1) cs := by
        have h := D1.drew.sets cs 0 (by rw [hlen, fcells_len, zeros_len]; omega)
        rw [List.take_zero, List.nil_append, List.drop_eq_nil_of_le (by rw [hlen, fcells_len, zeros_len]; omega), List.append_nil] at h
        exact h
      have FB : Below w.heap.size w (wr.drew.setCells (w.heap.size + 1) 0 cs) := below_sets (by omega) cs 0 hbr.drew
      clear hcs
      cases hb : has x 8 with
      | true =>
        rw [hb] at HL
        have HBB := hid hb
        clear hb
        go_wp2_with fail
        refine HL.out.mono ?_
        rintro e w' ⟨rfl, rfl⟩
        go_wp2_with fail
        refine wp_region_any (by kernel_rfl) ?_
        refine wpAny_yield 0 (.int .u32 lb) rfl (by kernel_rfl) (by kernel_rfl) (by kernel_rfl) (fun _ _ _ h => h) (by rfl) (by intro _; simp [go_sem]) ?_
        simp only [pq4]
        refine wpAny_yield 2 (.int .u32 lb) rfl (by kernel_rfl) (by kernel_rfl) (by kernel_rfl) (fun _ _ _ h => h) (by rfl) (by intro _; simp [go_sem]) ?_
        simp only [pq4]
        refine wpAny_one 1 rfl (by kernel_rfl) (by rfl) ?_
        refine wp_load_mid 34 _ rfl (w.heap.size + 1 + 1) 0 rfl cs _ R2 hu rfl hi ?_
        simp only [pq4]
        refine wpAny_one 3 rfl (by kernel_rfl) (by rfl) ?_
        refine wp_store_mid 34 _ _ rfl (w.heap.size + 1) 0 cs.toArray rfl rfl (by simpa [hlen] using T1) (by simpa using hi) (all_oneCell_toArray hone) ?_
        refine wpAny_done (by kernel_rfl) ?_ _
        clear hi hone hlen R2 T1
        go_wp2
        exact bodyPost_ret (v := .tuple #[.int .u32 lb, .agg cs.toArray]) (results_tmp_blk (p := 6) (q := 7) rfl _ _ (w.heap.size + 1) cs _ _ rfl rfl FIN hu rfl HI.out) rfl ⟨by rw [HCS.out, HRL.out, HBB.out]; rfl, FB⟩
      | false =>
        rw [hb] at HL
        have HBB := hid hb
        clear hb
        go_wp2_with fail
        refine HL.out.mono ?_
        rintro e w' ⟨rfl, rfl⟩
        go_wp2_with fail
        refine wp_region_any (by kernel_rfl) ?_
        refine wpAny_yield 0 (.int .u32 0) rfl (by kernel_rfl) (by kernel_rfl) (by kernel_rfl) (fun _ _ _ h => h) (by rfl) (by intro _; simp [go_sem]) ?_
        simp only [pq4]
        refine wpAny_yield 2 (.int .u32 0) rfl (by kernel_rfl) (by kernel_rfl) (by kernel_rfl) (fun _ _ _ h => h) (by rfl) (by intro _; simp [go_sem]) ?_
        simp only [pq4]
        refine wpAny_one 1 rfl (by kernel_rfl) (by rfl) ?_
        refine wp_load_mid 34 _ rfl (w.heap.size + 1 + 1) 0 rfl cs _ R2 hu rfl hi ?_
        simp only [pq4]
        refine wpAny_one 3 rfl (by kernel_rfl) (by rfl) ?_
        refine wp_store_mid 34 _ _ rfl (w.heap.size + 1) 0 cs.toArray rfl rfl (by simpa [hlen] using T1) (by simpa using hi) (all_oneCell_toArray hone) ?_
        refine wpAny_done (by kernel_rfl) ?_ _
        clear hi hone hlen R2 T1
        go_wp2
        exact bodyPost_ret (v := .tuple #[.int .u32 0, .agg cs.toArray]) (results_tmp_blk (p := 6) (q := 7) rfl _ _ (w.heap.size + 1) cs _ _ rfl rfl FIN hu rfl HI.out) rfl ⟨by rw [HCS.out, HRL.out, HBB.out]; rfl, FB⟩
def ccells (id ver lab : Int) (f : List V3) : List Value := [.int .i64 id, .int .i64 ver, .int .u32 lab] ++ fcells f
def pcells (m lab : Int) (f : List V3) : List Value := [.int .u32 m, .int .u32 lab] ++ fcells f
theorem pcells_len (m lab : Int) {f : List V3} (h : f.length = 8) : (pcells m lab f).length = 26 := by
  unfold pcells; rw [List.length_append, fcells_len, h]; rfl
theorem pcells_one (m lab : Int) (f : List V3) : ∀ u ∈ pcells m lab f, u.oneCell' = true := by
  intro u hu
  rcases List.mem_append.1 hu with h | h
  · simp at h; rcases h with rfl | rfl <;> rfl
  · exact fcells_one f u h
theorem Blk.card {w : World} {g : Nat} {id ver lab : Int} {f : List V3} (h : Blk w g (ccells id ver lab f)) :
    w.cell? ⟨g, 0, none⟩ = some (.int .i64 id) ∧ w.cell? ⟨g, 1, none⟩ = some (.int .i64 ver) ∧ w.cell? ⟨g, 2, none⟩ = some (.int .u32 lab) := ⟨h.cell rfl, h.cell rfl, h.cell rfl⟩
theorem Blk.patch {w : World} {g : Nat} {m lab : Int} {f : List V3} (h : Blk w g (pcells m lab f)) :
    w.cell? ⟨g, 0, none⟩ = some (.int .u32 m) ∧ w.cell? ⟨g, 1, none⟩ = some (.int .u32 lab) := ⟨h.cell rfl, h.cell rfl⟩
theorem Own.setOther {w : World} {base : Nat} {e : TypeId} {v : Value} {xs : List Value} (h : Own w base e v xs) {b : Nat} (hb : b < base) (j : Nat) (u : Value) : Own (w.setCell ⟨b, j, none⟩ u) base e v xs :=
  h.setsOther hb [u] j
theorem Blk.whole {w : World} {g : Nat} {cs ds : List Value} (h : Blk w g cs) (hl : ds.length = cs.length) : Blk (w.setCells g 0 ds) g ds := by
  have h2 := h.sets ds 0 (by omega)
  rw [List.take_zero, List.nil_append, List.drop_eq_nil_of_le (by omega), List.append_nil] at h2
  exact h2
theorem info_patch : (Tryz.prog.info? 36).map (·.size) = some 26 := by kernel_rfl
end Go.Proofs.YtnhcjadkbogioaaGreat
