/- Values as they are read of bytes: the program's. -/
import Derived.Test.YtgpbglmlakildaaE8
import Derived.Test.YtgpbglmlakildaaE1
import Derived.Test.YtgpbglmlakildaaE3
import Derived.Test.YtgpbglmlakildaaE6
namespace Go.Proofs.Ytgpbglmlakildaa
set_option linter.unusedVariables false
open Go Go.RowKit OctM

def valEnd (k n : Int) (s : List UInt8) (a : Nat) (e : Int) : V3 × Nat × Int := (if e = 0 then (k, n, str s) else zv, a, e)
/-- What is read of bytes: the value, how far, the error. -/
def valOut (l : List UInt8) (a : Nat) (e : Int) : V3 × Nat × Int :=
  if (numOut l a e 2).1 = 1 then valEnd 1 ((numOut l (numOut l a e 2).2.1 (numOut l a e 2).2.2 1099511627776).1 : Nat) [] (numOut l (numOut l a e 2).2.1 (numOut l a e 2).2.2 1099511627776).2.1 (numOut l (numOut l a e 2).2.1 (numOut l a e 2).2.2 1099511627776).2.2
  else if (numOut l a e 2).1 = 2 then valEnd 2 0 (strOut l (numOut l a e 2).2.1 (numOut l a e 2).2.2 24).1 (strOut l (numOut l a e 2).2.1 (numOut l a e 2).2.2 24).2.1 (strOut l (numOut l a e 2).2.1 (numOut l a e 2).2.2 24).2.2
  else valEnd ((numOut l a e 2).1 : Nat) 0 [] (numOut l a e 2).2.1 (numOut l a e 2).2.2
theorem valOut_at (l : List UInt8) (a : Nat) (e : Int) (h : a ≤ l.length) : (valOut l a e).2.1 ≤ l.length := by
  unfold valOut valEnd
  split
  · exact numOut_at _ _ _ _ (numOut_at _ _ _ _ h)
  · split
    · exact strOut_at _ _ _ _ (numOut_at _ _ _ _ h)
    · exact numOut_at _ _ _ _ h
theorem valEnd_no {k n : Int} {s : List UInt8} {a : Nat} {e : Int} (h : (e != 0) = true) : valEnd k n s a e = (zv, a, e) := by
  unfold valEnd
  rw [if_neg (by simpa using h)]
theorem valEnd_yes {k n : Int} {s : List UInt8} {a : Nat} {e : Int} (h : (e != 0) = false) : valEnd k n s a e = ((k, n, str s), a, e) := by
  unfold valEnd
  rw [if_pos (by simpa using h)]
theorem vcells_all (v : V3) : (vcells v).toArray.all (·.oneCell') = true := by
  refine all_oneCell_toArray fun u hu => ?_
  simp only [vcells, List.mem_cons, List.not_mem_nil, or_false] at hu
  rcases hu with rfl | rfl | rfl <;> rfl
set_option maxRecDepth 100000 in
set_option maxHeartbeats 3200000 in
theorem rd_value0 (base g : Nat) (l : List UInt8) (a : Nat) (e : Int) (w : World) (h : Rd w base g l a e) (ha : a ≤ l.length) (hm : l.length ≤ 2000) (hc : (numOut l a e 2).1 ≠ 1 ∧ (numOut l a e 2).1 ≠ 2) (T : V3 × Nat × Int) (hT : T = valEnd ((numOut l a e 2).1 : Nat) 0 [] (numOut l a e 2).2.1 (numOut l a e 2).2.2) :
    Calls Try.prog 97 #[.pointer (some ⟨g, 0, none⟩)] w fun x w' => x = .returned (.agg (vcells T.1).toArray) ∧ Rd w' base g l T.2.1 T.2.2 ∧ w.grownBy w' (some g) := by
  have hg := h.block.2
  have A1 := numOut_at l a e 2 ha
  have H1 : Hid (∀ wx, Rd wx base g l a e → Calls Try.prog 69 #[.pointer (some ⟨g, 0, none⟩), .int .i64 2] wx fun x w' => x = .returned (.int .i64 ((numOut l a e 2).1 : Nat)) ∧ Rd w' base g l (numOut l a e 2).2.1 (numOut l a e 2).2.2 ∧ wx.grownBy w' (some g)) := Lib.hid fun wx hx => rd_num base g l a e 2 wx hx ha (by omega)
  obtain ⟨r1, hr1⟩ : ∃ r, r = numOut l a e 2 := ⟨_, rfl⟩
  rw [← hr1] at H1 A1 hT hc
  obtain ⟨v1, a1, e1⟩ := r1
  simp only at H1 A1 hT hc
  obtain ⟨k, hk⟩ : ∃ k : Int, k = (v1 : Int) := ⟨_, rfl⟩
  rw [← hk] at H1 hT
  have t1 : (k == 1) = false := by rw [hk]; simp; omega
  have t2 : (k == 2) = false := by rw [hk]; simp; omega
  have HK : Hid (k = k) := Lib.hid rfl
  clear hk
  have HE : Hid (∀ wx, Rd wx base g l a1 e1 → Calls Try.prog 38 #[.pointer (some ⟨g, 0, none⟩)] wx fun x w' => x = .returned (.int .i64 e1) ∧ wx = w') := Lib.hid fun wx hx => rd_err base g l a1 e1 wx hx
  have HT := Lib.hid hT
  clear hr1 hT hc A1 ha hm
  have B2 := Blk.new w (vcells zv) 27
  have R0 := h.later ((Below.refl w.heap.size w).alloc (Nat.le_refl _) (.cells (vcells zv).toArray 27))
  have G0 := World.grownBy_alloc w (.cells (vcells zv).toArray 27) (some g)
  have hu := Try.underlying27
  clear h
  have hne : (some g : Option Nat) ≠ some w.heap.size := by simp; omega
  obtain ⟨be, hbe⟩ : ∃ b, b = (e1 != 0) := ⟨_, rfl⟩
  have ke : (e1 != 0) = be := hbe.symm
  clear hbe
  go_enter Try.func97, Try.ntmps97
  go_wp2_with fail
  refine (H1.out _ R0).mono ?_
  rintro x w2 ⟨rfl, R2, G2⟩
  replace B2 := B2.kept G2 hne
  have GG := G0.trans G2
  clear R0 G0 G2
  have B3 := Blk.new w2 (vcells zv) 27
  have T3 := B3.there 0 3 (Nat.le_refl _)
  have S3 := B3.wholeT (ds := (vcells (k, 0, ⟨#[]⟩))) rfl
  have LE3 : Le w2 (World.setCells (w2.alloc (.cells (vcells zv).toArray 27)) w2.heap.size 0 (vcells (k, 0, ⟨#[]⟩))) := below_sets (Nat.le_refl _) _ 0 ((Below.refl w2.heap.size w2).alloc (Nat.le_refl _) _)
  have O3 : ((vcells (k, 0, ⟨#[]⟩))).toArray.all (·.oneCell') = true := vcells_all _
  have hsz := GG.size
  clear B3
  obtain ⟨g3, hg3⟩ : ∃ z, z = w2.heap.size := ⟨_, rfl⟩
  have hb2 := B2.lt
  rw [← hg3] at T3 S3 LE3 hsz hb2
  have HG3 := Lib.hid hg3
  clear hg3
  go_wp2_with (first
    | (rw [← HG3.out]
       refine wpList_store_mid rfl 27 (.tmp 3) (.tmp 6) rfl g3 0 ((vcells (k, 0, ⟨#[]⟩))).toArray rfl rfl T3 info_val O3 ?_
       simp only [Act.put]
       generalize hw3 : World.setCells _ g3 0 ((vcells (k, 0, ⟨#[]⟩))).toArray.toList = w3
       have S3' : Blk w3 g3 (vcells (k, 0, ⟨#[]⟩)) := hw3 ▸ S3
       have LE3' : Le w2 w3 := hw3 ▸ LE3
       have q1 : w3.cell? ⟨g3, 0, none⟩ = some (.int .i64 k) := S3'.cell rfl
       clear hw3 T3 S3 LE3 O3)
    | fail)
  have hne3 : (some g : Option Nat) ≠ some g3 := by simp; omega
  have R3 := R2.later LE3'
  replace B2 := B2.later LE3'
  replace GG := GG.trans (grown_none LE3' _)
  clear R2 LE3' q1
  refine (HE.out _ R3).mono ?_
  rintro x w9 ⟨rfl, rfl⟩
  have S8 := S3'
  have R8 := R3
  have B8 := B2
  have G8 := GG
  clear S3' R3 B2 GG
  cases be
  · have T8 := B8.there 0 3 (Nat.le_refl _)
    have FIN := B8.wholeT (ds := (vcells (k, 0, ⟨#[]⟩))) rfl
    have O8 : ((vcells (k, 0, ⟨#[]⟩))).toArray.all (·.oneCell') = true := vcells_all _
    have RG := S8.range 0 (vcells (k, 0, ⟨#[]⟩)) rfl
    have R9 := R8.other (grown_sets4 w.heap.size (vcells (k, 0, ⟨#[]⟩)) 0 w3) (by omega)
    have G9 := grown_new G8 (grown_sets4 w.heap.size (vcells (k, 0, ⟨#[]⟩)) 0 w3) (by omega)
    clear S8 R8 B8 G8
    go_wp2_with (first
      | (refine wpList_load_mid rfl 27 (.tmp 3) rfl g3 0 rfl (vcells (k, 0, ⟨#[]⟩)) _ RG hu rfl info_val ?_)
      | (refine wpList_store_mid rfl 27 (.tmp 2) (.tmp 23) rfl w.heap.size 0 ((vcells (k, 0, ⟨#[]⟩))).toArray rfl rfl T8 info_val O8 ?_)
      | fail)
    exact bodyPost_ret (v := .agg ((vcells (k, 0, ⟨#[]⟩))).toArray) (tok_results (q := 2) rfl _ _ w.heap.size _ _ rfl FIN hu rfl info_val) rfl ⟨by rw [HT.out, valEnd_yes ke]; rfl, by rw [HT.out, valEnd_yes ke]; exact R9, G9⟩
  · have T8 := B8.there 0 3 (Nat.le_refl _)
    have FIN := B8.wholeT (ds := (vcells zv)) rfl
    have O8 : ((vcells zv)).toArray.all (·.oneCell') = true := vcells_all _
    have RG := S8.range 0 (vcells (k, 0, ⟨#[]⟩)) rfl
    have R9 := R8.other (grown_sets4 w.heap.size (vcells zv) 0 w3) (by omega)
    have G9 := grown_new G8 (grown_sets4 w.heap.size (vcells zv) 0 w3) (by omega)
    clear S8 R8 B8 G8
    go_wp2_with (first
      | (refine wpList_load_mid rfl 27 (.tmp 3) rfl g3 0 rfl (vcells (k, 0, ⟨#[]⟩)) _ RG hu rfl info_val ?_)
      | (refine wpList_store_mid rfl 27 (.tmp 2) (.tmp 22) rfl w.heap.size 0 ((vcells zv)).toArray rfl rfl T8 info_val O8 ?_)
      | fail)
    exact bodyPost_ret (v := .agg ((vcells zv)).toArray) (tok_results (q := 2) rfl _ _ w.heap.size _ _ rfl FIN hu rfl info_val) rfl ⟨by rw [HT.out, valEnd_no ke], by rw [HT.out, valEnd_no ke]; exact R9, G9⟩
set_option maxRecDepth 100000 in
set_option maxHeartbeats 3200000 in
theorem rd_value1 (base g : Nat) (l : List UInt8) (a : Nat) (e : Int) (w : World) (h : Rd w base g l a e) (ha : a ≤ l.length) (hm : l.length ≤ 2000) (hc : (numOut l a e 2).1 = 1) (T : V3 × Nat × Int) (hT : T = valEnd 1 ((numOut l (numOut l a e 2).2.1 (numOut l a e 2).2.2 1099511627776).1 : Nat) [] (numOut l (numOut l a e 2).2.1 (numOut l a e 2).2.2 1099511627776).2.1 (numOut l (numOut l a e 2).2.1 (numOut l a e 2).2.2 1099511627776).2.2) :
    Calls Try.prog 97 #[.pointer (some ⟨g, 0, none⟩)] w fun x w' => x = .returned (.agg (vcells T.1).toArray) ∧ Rd w' base g l T.2.1 T.2.2 ∧ w.grownBy w' (some g) := by
  have hg := h.block.2
  have A1 := numOut_at l a e 2 ha
  have H1 : Hid (∀ wx, Rd wx base g l a e → Calls Try.prog 69 #[.pointer (some ⟨g, 0, none⟩), .int .i64 2] wx fun x w' => x = .returned (.int .i64 ((numOut l a e 2).1 : Nat)) ∧ Rd w' base g l (numOut l a e 2).2.1 (numOut l a e 2).2.2 ∧ wx.grownBy w' (some g)) := Lib.hid fun wx hx => rd_num base g l a e 2 wx hx ha (by omega)
  obtain ⟨r1, hr1⟩ : ∃ r, r = numOut l a e 2 := ⟨_, rfl⟩
  rw [← hr1] at H1 A1 hT hc
  obtain ⟨v1, a1, e1⟩ := r1
  simp only at H1 A1 hT hc
  have H2 : Hid (∀ wx, Rd wx base g l a1 e1 → Calls Try.prog 69 #[.pointer (some ⟨g, 0, none⟩), .int .i64 1099511627776] wx fun x w' => x = .returned (.int .i64 ((numOut l a1 e1 1099511627776).1 : Nat)) ∧ Rd w' base g l (numOut l a1 e1 1099511627776).2.1 (numOut l a1 e1 1099511627776).2.2 ∧ wx.grownBy w' (some g)) := Lib.hid fun wx hx => rd_num base g l a1 e1 1099511627776 wx hx A1 (by omega)
  obtain ⟨r2, hr2⟩ : ∃ r, r = numOut l a1 e1 1099511627776 := ⟨_, rfl⟩
  rw [← hr2] at H2 hT
  obtain ⟨v2, a5, e5⟩ := r2
  simp only at H2 hT
  obtain ⟨k, hk⟩ : ∃ k : Int, k = (v1 : Int) := ⟨_, rfl⟩
  rw [← hk] at H1
  obtain ⟨n, hn⟩ : ∃ n : Int, n = (v2 : Int) := ⟨_, rfl⟩
  rw [← hn] at H2 hT
  have t1 : (k == 1) = true := by rw [hk, hc]; rfl
  have t2 : (k == 2) = false := by rw [hk, hc]; rfl
  have HK : Hid (k = 1) := Lib.hid (by rw [hk, hc]; rfl)
  clear hk hn hr2
  have HE : Hid (∀ wx, Rd wx base g l a5 e5 → Calls Try.prog 38 #[.pointer (some ⟨g, 0, none⟩)] wx fun x w' => x = .returned (.int .i64 e5) ∧ wx = w') := Lib.hid fun wx hx => rd_err base g l a5 e5 wx hx
  have HT := Lib.hid hT
  clear hr1 hT hc A1 ha hm
  have B2 := Blk.new w (vcells zv) 27
  have R0 := h.later ((Below.refl w.heap.size w).alloc (Nat.le_refl _) (.cells (vcells zv).toArray 27))
  have G0 := World.grownBy_alloc w (.cells (vcells zv).toArray 27) (some g)
  have hu := Try.underlying27
  clear h
  have hne : (some g : Option Nat) ≠ some w.heap.size := by simp; omega
  obtain ⟨be, hbe⟩ : ∃ b, b = (e5 != 0) := ⟨_, rfl⟩
  have ke : (e5 != 0) = be := hbe.symm
  clear hbe
  go_enter Try.func97, Try.ntmps97
  go_wp2_with fail
  refine (H1.out _ R0).mono ?_
  rintro x w2 ⟨rfl, R2, G2⟩
  replace B2 := B2.kept G2 hne
  have GG := G0.trans G2
  clear R0 G0 G2
  have B3 := Blk.new w2 (vcells zv) 27
  have T3 := B3.there 0 3 (Nat.le_refl _)
  have S3 := B3.wholeT (ds := (vcells (k, 0, ⟨#[]⟩))) rfl
  have LE3 : Le w2 (World.setCells (w2.alloc (.cells (vcells zv).toArray 27)) w2.heap.size 0 (vcells (k, 0, ⟨#[]⟩))) := below_sets (Nat.le_refl _) _ 0 ((Below.refl w2.heap.size w2).alloc (Nat.le_refl _) _)
  have O3 : ((vcells (k, 0, ⟨#[]⟩))).toArray.all (·.oneCell') = true := vcells_all _
  have hsz := GG.size
  clear B3
  obtain ⟨g3, hg3⟩ : ∃ z, z = w2.heap.size := ⟨_, rfl⟩
  have hb2 := B2.lt
  rw [← hg3] at T3 S3 LE3 hsz hb2
  have HG3 := Lib.hid hg3
  clear hg3
  go_wp2_with (first
    | (rw [← HG3.out]
       refine wpList_store_mid rfl 27 (.tmp 3) (.tmp 6) rfl g3 0 ((vcells (k, 0, ⟨#[]⟩))).toArray rfl rfl T3 info_val O3 ?_
       simp only [Act.put]
       generalize hw3 : World.setCells _ g3 0 ((vcells (k, 0, ⟨#[]⟩))).toArray.toList = w3
       have S3' : Blk w3 g3 (vcells (k, 0, ⟨#[]⟩)) := hw3 ▸ S3
       have LE3' : Le w2 w3 := hw3 ▸ LE3
       have q1 : w3.cell? ⟨g3, 0, none⟩ = some (.int .i64 k) := S3'.cell rfl
       clear hw3 T3 S3 LE3 O3)
    | fail)
  have hne3 : (some g : Option Nat) ≠ some g3 := by simp; omega
  have R3 := R2.later LE3'
  replace B2 := B2.later LE3'
  replace GG := GG.trans (grown_none LE3' _)
  clear R2 LE3' q1
  refine (H2.out _ R3).mono ?_
  rintro x w5 ⟨rfl, R5, G5⟩
  replace B2 := B2.kept G5 hne
  have S5 := S3'.kept G5 hne3
  replace GG := GG.trans G5
  have f1 := S5.frozen 1
  have q1 : w5.cell? ⟨g3, 1, none⟩ = some (.int .i64 0) := S5.cell rfl
  have S8 : Blk (w5.setCell ⟨g3, 1, none⟩ (.int .i64 n)) g3 (vcells (k, n, ⟨#[]⟩)) := S5.set 1 _
  have R8 := R5.other (grown_set1 w5 g3 1 (.int .i64 n)) (by omega)
  have B8 := B2.setOther (b := g3) 1 (.int .i64 n) (by omega)
  have G8 := grown_new GG (grown_set1 w5 g3 1 (.int .i64 n)) hsz
  clear R3 R5 G5 B2 S3' S5 GG
  go_wp2_with fail
  obtain ⟨w8, hw8⟩ : ∃ z, z = w5.setCell ⟨g3, 1, none⟩ (.int .i64 n) := ⟨_, rfl⟩
  rw [← hw8] at S8 R8 B8 G8 ⊢
  clear hw8 f1 q1
  refine (HE.out _ R8).mono ?_
  rintro x w9 ⟨rfl, rfl⟩
  cases be
  · have T8 := B8.there 0 3 (Nat.le_refl _)
    have FIN := B8.wholeT (ds := (vcells (k, n, ⟨#[]⟩))) rfl
    have O8 : ((vcells (k, n, ⟨#[]⟩))).toArray.all (·.oneCell') = true := vcells_all _
    have RG := S8.range 0 (vcells (k, n, ⟨#[]⟩)) rfl
    have R9 := R8.other (grown_sets4 w.heap.size (vcells (k, n, ⟨#[]⟩)) 0 w8) (by omega)
    have G9 := grown_new G8 (grown_sets4 w.heap.size (vcells (k, n, ⟨#[]⟩)) 0 w8) (by omega)
    clear S8 R8 B8 G8
    go_wp2_with (first
      | (refine wpList_load_mid rfl 27 (.tmp 3) rfl g3 0 rfl (vcells (k, n, ⟨#[]⟩)) _ RG hu rfl info_val ?_)
      | (refine wpList_store_mid rfl 27 (.tmp 2) (.tmp 23) rfl w.heap.size 0 ((vcells (k, n, ⟨#[]⟩))).toArray rfl rfl T8 info_val O8 ?_)
      | fail)
    exact bodyPost_ret (v := .agg ((vcells (k, n, ⟨#[]⟩))).toArray) (tok_results (q := 2) rfl _ _ w.heap.size _ _ rfl FIN hu rfl info_val) rfl ⟨by rw [HT.out, valEnd_yes ke]; rw [HK.out]; rfl, by rw [HT.out, valEnd_yes ke]; exact R9, G9⟩
  · have T8 := B8.there 0 3 (Nat.le_refl _)
    have FIN := B8.wholeT (ds := (vcells zv)) rfl
    have O8 : ((vcells zv)).toArray.all (·.oneCell') = true := vcells_all _
    have RG := S8.range 0 (vcells (k, n, ⟨#[]⟩)) rfl
    have R9 := R8.other (grown_sets4 w.heap.size (vcells zv) 0 w8) (by omega)
    have G9 := grown_new G8 (grown_sets4 w.heap.size (vcells zv) 0 w8) (by omega)
    clear S8 R8 B8 G8
    go_wp2_with (first
      | (refine wpList_load_mid rfl 27 (.tmp 3) rfl g3 0 rfl (vcells (k, n, ⟨#[]⟩)) _ RG hu rfl info_val ?_)
      | (refine wpList_store_mid rfl 27 (.tmp 2) (.tmp 22) rfl w.heap.size 0 ((vcells zv)).toArray rfl rfl T8 info_val O8 ?_)
      | fail)
    exact bodyPost_ret (v := .agg ((vcells zv)).toArray) (tok_results (q := 2) rfl _ _ w.heap.size _ _ rfl FIN hu rfl info_val) rfl ⟨by rw [HT.out, valEnd_no ke], by rw [HT.out, valEnd_no ke]; exact R9, G9⟩
set_option maxRecDepth 100000 in
set_option maxHeartbeats 3200000 in
theorem rd_value2 (base g : Nat) (l : List UInt8) (a : Nat) (e : Int) (w : World) (h : Rd w base g l a e) (ha : a ≤ l.length) (hm : l.length ≤ 2000) (hc : (numOut l a e 2).1 = 2) (T : V3 × Nat × Int) (hT : T = valEnd 2 0 (strOut l (numOut l a e 2).2.1 (numOut l a e 2).2.2 24).1 (strOut l (numOut l a e 2).2.1 (numOut l a e 2).2.2 24).2.1 (strOut l (numOut l a e 2).2.1 (numOut l a e 2).2.2 24).2.2) :
    Calls Try.prog 97 #[.pointer (some ⟨g, 0, none⟩)] w fun x w' => x = .returned (.agg (vcells T.1).toArray) ∧ Rd w' base g l T.2.1 T.2.2 ∧ w.grownBy w' (some g) := by
  have hg := h.block.2
  have A1 := numOut_at l a e 2 ha
  have H1 : Hid (∀ wx, Rd wx base g l a e → Calls Try.prog 69 #[.pointer (some ⟨g, 0, none⟩), .int .i64 2] wx fun x w' => x = .returned (.int .i64 ((numOut l a e 2).1 : Nat)) ∧ Rd w' base g l (numOut l a e 2).2.1 (numOut l a e 2).2.2 ∧ wx.grownBy w' (some g)) := Lib.hid fun wx hx => rd_num base g l a e 2 wx hx ha (by omega)
  obtain ⟨r1, hr1⟩ : ∃ r, r = numOut l a e 2 := ⟨_, rfl⟩
  rw [← hr1] at H1 A1 hT hc
  obtain ⟨v1, a1, e1⟩ := r1
  simp only at H1 A1 hT hc
  have H2 : Hid (∀ wx, Rd wx base g l a1 e1 → Calls Try.prog 115 #[.pointer (some ⟨g, 0, none⟩), .int .i64 24] wx fun x w' => x = .returned (.string (str (strOut l a1 e1 24).1)) ∧ Rd w' base g l (strOut l a1 e1 24).2.1 (strOut l a1 e1 24).2.2 ∧ wx.grownBy w' (some g)) := Lib.hid fun wx hx => rd_str base g l a1 e1 24 wx hx A1 (by omega)
  obtain ⟨r2, hr2⟩ : ∃ r, r = strOut l a1 e1 24 := ⟨_, rfl⟩
  rw [← hr2] at H2 hT
  obtain ⟨v2, a5, e5⟩ := r2
  simp only at H2 hT
  obtain ⟨k, hk⟩ : ∃ k : Int, k = (v1 : Int) := ⟨_, rfl⟩
  rw [← hk] at H1
  have t1 : (k == 1) = false := by rw [hk, hc]; rfl
  have t2 : (k == 2) = true := by rw [hk, hc]; rfl
  have HK : Hid (k = 2) := Lib.hid (by rw [hk, hc]; rfl)
  obtain ⟨sv, hsv⟩ : ∃ sv, sv = str v2 := ⟨_, rfl⟩
  rw [← hsv] at H2
  have HSV := Lib.hid hsv
  clear hk hr2 hsv
  have HE : Hid (∀ wx, Rd wx base g l a5 e5 → Calls Try.prog 38 #[.pointer (some ⟨g, 0, none⟩)] wx fun x w' => x = .returned (.int .i64 e5) ∧ wx = w') := Lib.hid fun wx hx => rd_err base g l a5 e5 wx hx
  have HT := Lib.hid hT
  clear hr1 hT hc A1 ha hm
  have B2 := Blk.new w (vcells zv) 27
  have R0 := h.later ((Below.refl w.heap.size w).alloc (Nat.le_refl _) (.cells (vcells zv).toArray 27))
  have G0 := World.grownBy_alloc w (.cells (vcells zv).toArray 27) (some g)
  have hu := Try.underlying27
  clear h
  have hne : (some g : Option Nat) ≠ some w.heap.size := by simp; omega
  obtain ⟨be, hbe⟩ : ∃ b, b = (e5 != 0) := ⟨_, rfl⟩
  have ke : (e5 != 0) = be := hbe.symm
  clear hbe
  go_enter Try.func97, Try.ntmps97
  go_wp2_with fail
  refine (H1.out _ R0).mono ?_
  rintro x w2 ⟨rfl, R2, G2⟩
  replace B2 := B2.kept G2 hne
  have GG := G0.trans G2
  clear R0 G0 G2
  have B3 := Blk.new w2 (vcells zv) 27
  have T3 := B3.there 0 3 (Nat.le_refl _)
  have S3 := B3.wholeT (ds := (vcells (k, 0, ⟨#[]⟩))) rfl
  have LE3 : Le w2 (World.setCells (w2.alloc (.cells (vcells zv).toArray 27)) w2.heap.size 0 (vcells (k, 0, ⟨#[]⟩))) := below_sets (Nat.le_refl _) _ 0 ((Below.refl w2.heap.size w2).alloc (Nat.le_refl _) _)
  have O3 : ((vcells (k, 0, ⟨#[]⟩))).toArray.all (·.oneCell') = true := vcells_all _
  have hsz := GG.size
  clear B3
  obtain ⟨g3, hg3⟩ : ∃ z, z = w2.heap.size := ⟨_, rfl⟩
  have hb2 := B2.lt
  rw [← hg3] at T3 S3 LE3 hsz hb2
  have HG3 := Lib.hid hg3
  clear hg3
  go_wp2_with (first
    | (rw [← HG3.out]
       refine wpList_store_mid rfl 27 (.tmp 3) (.tmp 6) rfl g3 0 ((vcells (k, 0, ⟨#[]⟩))).toArray rfl rfl T3 info_val O3 ?_
       simp only [Act.put]
       generalize hw3 : World.setCells _ g3 0 ((vcells (k, 0, ⟨#[]⟩))).toArray.toList = w3
       have S3' : Blk w3 g3 (vcells (k, 0, ⟨#[]⟩)) := hw3 ▸ S3
       have LE3' : Le w2 w3 := hw3 ▸ LE3
       have q1 : w3.cell? ⟨g3, 0, none⟩ = some (.int .i64 k) := S3'.cell rfl
       clear hw3 T3 S3 LE3 O3)
    | fail)
  have hne3 : (some g : Option Nat) ≠ some g3 := by simp; omega
  have R3 := R2.later LE3'
  replace B2 := B2.later LE3'
  replace GG := GG.trans (grown_none LE3' _)
  clear R2 LE3' q1
  refine (H2.out _ R3).mono ?_
  rintro x w5 ⟨rfl, R5, G5⟩
  replace B2 := B2.kept G5 hne
  have S5 := S3'.kept G5 hne3
  replace GG := GG.trans G5
  have f1 := S5.frozen 2
  have q1 : w5.cell? ⟨g3, 2, none⟩ = some (.string ⟨#[]⟩) := S5.cell rfl
  have S8 : Blk (w5.setCell ⟨g3, 2, none⟩ (.string sv)) g3 (vcells (k, 0, sv)) := S5.set 2 _
  have R8 := R5.other (grown_set1 w5 g3 2 (.string sv)) (by omega)
  have B8 := B2.setOther (b := g3) 2 (.string sv) (by omega)
  have G8 := grown_new GG (grown_set1 w5 g3 2 (.string sv)) hsz
  clear R3 R5 G5 B2 S3' S5 GG
  go_wp2_with fail
  obtain ⟨w8, hw8⟩ : ∃ z, z = w5.setCell ⟨g3, 2, none⟩ (.string sv) := ⟨_, rfl⟩
  rw [← hw8] at S8 R8 B8 G8 ⊢
  clear hw8 f1 q1
  refine (HE.out _ R8).mono ?_
  rintro x w9 ⟨rfl, rfl⟩
  cases be
  · have T8 := B8.there 0 3 (Nat.le_refl _)
    have FIN := B8.wholeT (ds := (vcells (k, 0, sv))) rfl
    have O8 : ((vcells (k, 0, sv))).toArray.all (·.oneCell') = true := vcells_all _
    have RG := S8.range 0 (vcells (k, 0, sv)) rfl
    have R9 := R8.other (grown_sets4 w.heap.size (vcells (k, 0, sv)) 0 w8) (by omega)
    have G9 := grown_new G8 (grown_sets4 w.heap.size (vcells (k, 0, sv)) 0 w8) (by omega)
    clear S8 R8 B8 G8
    go_wp2_with (first
      | (refine wpList_load_mid rfl 27 (.tmp 3) rfl g3 0 rfl (vcells (k, 0, sv)) _ RG hu rfl info_val ?_)
      | (refine wpList_store_mid rfl 27 (.tmp 2) (.tmp 23) rfl w.heap.size 0 ((vcells (k, 0, sv))).toArray rfl rfl T8 info_val O8 ?_)
      | fail)
    exact bodyPost_ret (v := .agg ((vcells (k, 0, sv))).toArray) (tok_results (q := 2) rfl _ _ w.heap.size _ _ rfl FIN hu rfl info_val) rfl ⟨by rw [HT.out, valEnd_yes ke]; rw [HK.out, HSV.out], by rw [HT.out, valEnd_yes ke]; exact R9, G9⟩
  · have T8 := B8.there 0 3 (Nat.le_refl _)
    have FIN := B8.wholeT (ds := (vcells zv)) rfl
    have O8 : ((vcells zv)).toArray.all (·.oneCell') = true := vcells_all _
    have RG := S8.range 0 (vcells (k, 0, sv)) rfl
    have R9 := R8.other (grown_sets4 w.heap.size (vcells zv) 0 w8) (by omega)
    have G9 := grown_new G8 (grown_sets4 w.heap.size (vcells zv) 0 w8) (by omega)
    clear S8 R8 B8 G8
    go_wp2_with (first
      | (refine wpList_load_mid rfl 27 (.tmp 3) rfl g3 0 rfl (vcells (k, 0, sv)) _ RG hu rfl info_val ?_)
      | (refine wpList_store_mid rfl 27 (.tmp 2) (.tmp 22) rfl w.heap.size 0 ((vcells zv)).toArray rfl rfl T8 info_val O8 ?_)
      | fail)
    exact bodyPost_ret (v := .agg ((vcells zv)).toArray) (tok_results (q := 2) rfl _ _ w.heap.size _ _ rfl FIN hu rfl info_val) rfl ⟨by rw [HT.out, valEnd_no ke], by rw [HT.out, valEnd_no ke]; exact R9, G9⟩
theorem rd_value (base g : Nat) (l : List UInt8) (a : Nat) (e : Int) (w : World) (h : Rd w base g l a e) (ha : a ≤ l.length) (hm : l.length ≤ 2000) :
    Calls Try.prog 97 #[.pointer (some ⟨g, 0, none⟩)] w fun x w' => x = .returned (.agg (vcells (valOut l a e).1).toArray) ∧ Rd w' base g l (valOut l a e).2.1 (valOut l a e).2.2 ∧ w.grownBy w' (some g) := by
  by_cases c1 : (numOut l a e 2).1 = 1
  · exact rd_value1 base g l a e w h ha hm c1 _ (by unfold valOut; rw [if_pos c1])
  · by_cases c2 : (numOut l a e 2).1 = 2
    · exact rd_value2 base g l a e w h ha hm c2 _ (by unfold valOut; rw [if_neg c1, if_pos c2])
    · exact rd_value0 base g l a e w h ha hm ⟨c1, c2⟩ _ (by unfold valOut; rw [if_neg c1, if_neg c2])
end Go.Proofs.Ytgpbglmlakildaa

/- Cards and patches as they are read of bytes: a number above 0; a field: the program's. -/
namespace Go.Proofs.Ytgpbglmlakildaa
set_option linter.unusedVariables false
open Go Go.RowKit OctM

def abvOut (l : List UInt8) (a : Nat) (e m : Int) : Nat × Nat × Int :=
  ((numOut l a e m).1, (numOut l a e m).2.1, if (numOut l a e m).1 = 0 then failOut (numOut l a e m).2.2 3 else (numOut l a e m).2.2)
theorem abvOut_at (l : List UInt8) (a : Nat) (e m : Int) (h : a ≤ l.length) : (abvOut l a e m).2.1 ≤ l.length := numOut_at l a e m h
/-- What is read of bytes for a field: the value, how far, the error. -/
def fldOut (must : Bool) (l : List UInt8) (a : Nat) (e : Int) : V3 × Nat × Int :=
  ((valOut l a e).1, (valOut l a e).2.1, if must = true ∧ (valOut l a e).1.1 = 0 then failOut (valOut l a e).2.2 3 else (valOut l a e).2.2)
theorem fldOut_at (must : Bool) (l : List UInt8) (a : Nat) (e : Int) (h : a ≤ l.length) : (fldOut must l a e).2.1 ≤ l.length := valOut_at l a e h
/-- Block g, block c, and block g again are written; all else is new. -/
def Tri (g c : Nat) (w w' : World) : Prop := ∃ w1 w2, w.grownBy w1 (some g) ∧ w1.grownBy w2 (some c) ∧ w2.grownBy w' (some g)
section
variable {g c : Nat} {w w' : World}
theorem Tri.new {W0 : World} (t : Tri g c w w') (h : W0.grownBy w (some g)) (hc : W0.heap.size ≤ c) : W0.grownBy w' (some g) := by
  obtain ⟨w1, w2, t1, t2, t3⟩ := t
  exact (grown_new (h.trans t1) t2 hc).trans t3
theorem Own.other {base m : Nat} {e : TypeId} {v : Value} {xs : List Value} (h : Own w base e v xs) (hg : w.grownBy w' (some m)) (hm : m < base) : Own w' base e v xs := by
  refine h.kept hg ?_
  by_cases h0 : v.ownBlock = none
  · exact .inl h0
  · right
    intro he
    have := (h.lt _ he).1
    omega
theorem Tri.own {base : Nat} {e : TypeId} {v : Value} {xs : List Value} (t : Tri g c w w') (h : Own w base e v xs) (h1 : g < base) (h2 : c < base) : Own w' base e v xs := by
  obtain ⟨w1, w2, t1, t2, t3⟩ := t
  exact ((h.other t1 h1).other t2 h2).other t3 h1
theorem Tri.blk {b : Nat} {cs : List Value} (t : Tri g c w w') (h : Blk w b cs) (h1 : g ≠ b) (h2 : c ≠ b) : Blk w' b cs := by
  obtain ⟨w1, w2, t1, t2, t3⟩ := t
  exact ((h.kept t1 (by simpa using h1)).kept t2 (by simpa using h2)).kept t3 (by simpa using h1)
theorem Tri.size (t : Tri g c w w') : w.heap.size ≤ w'.heap.size := by
  obtain ⟨w1, w2, t1, t2, t3⟩ := t
  exact Nat.le_trans t1.size (Nat.le_trans t2.size t3.size)
theorem Blk.putField {pre : List Value} {f : List V3} (h : Blk w g (pre ++ fcells f)) (i : Nat) (hi : i < f.length) (v : V3) :
    Blk (w.setCells g (pre.length + i * 3) (vcells v)) g (pre ++ fcells (f.set i v)) := by
  have hl : (fcells f).length = 3 * f.length := fcells_len f
  have h2 := h.sets (vcells v) (pre.length + i * 3) (by rw [List.length_append, hl]; show _ + 3 ≤ _; omega)
  have e : (pre ++ fcells f).take (pre.length + i * 3) ++ vcells v ++ (pre ++ fcells f).drop (pre.length + i * 3 + (vcells v).length) = pre ++ fcells (f.set i v) := by
    rw [show (vcells v).length = 3 from rfl, List.take_append, List.drop_append, Nat.add_sub_cancel_left]
    rw [List.take_of_length_le (by omega), List.drop_eq_nil_of_le (by omega), List.nil_append, show pre.length + i * 3 + 3 - pre.length = 3 * i + 3 by omega, Nat.mul_comm i 3]
    rw [List.append_assoc, List.append_assoc, ← List.append_assoc ((fcells f).take _), fcells_set _ _ _ hi]
  rw [e] at h2
  exact h2
end

set_option maxRecDepth 100000 in
set_option maxHeartbeats 1600000 in
theorem rd_above (base g : Nat) (l : List UInt8) (a : Nat) (e m : Int) (w : World) (h : Rd w base g l a e) (ha : a ≤ l.length) (hm : l.length ≤ 2000) :
    Calls Try.prog 109 #[.pointer (some ⟨g, 0, none⟩), .int .i64 m] w fun x w' => x = .returned (.int .i64 ((abvOut l a e m).1 : Nat)) ∧ Rd w' base g l (abvOut l a e m).2.1 (abvOut l a e m).2.2 ∧ w.grownBy w' (some g) := by
  have H1 := Lib.hid (rd_num base g l a e m w h ha (by omega))
  unfold abvOut
  simp only
  obtain ⟨r1, hr1⟩ : ∃ r, r = numOut l a e m := ⟨_, rfl⟩
  rw [← hr1] at H1 ⊢
  obtain ⟨v1, a1, e1⟩ := r1
  simp only at H1 ⊢
  have HF := Lib.hid (fun wx (hx : Rd wx base g l a1 e1) => rd_fail base g l a1 e1 3 wx hx)
  clear hr1
  by_cases c1 : v1 = 0
  · subst c1
    rw [if_pos rfl]
    have HK := Lib.hid (show ((0 : Nat) : Int) = 0 from rfl)
    obtain ⟨k, hk⟩ : ∃ k : Int, k = ((0 : Nat) : Int) := ⟨_, rfl⟩
    rw [← hk] at H1 ⊢
    have t1 : (k == 0) = true := by rw [hk]; rfl
    clear hk
    go_enter Try.func109, Try.ntmps109
    go_wp2_with fail
    refine H1.out.mono ?_
    rintro x w1 ⟨rfl, R1, G1⟩
    go_wp2_with fail
    refine (HF.out _ R1).mono ?_
    rintro x w2 ⟨rfl, R2, G2⟩
    go_wp2_with fail
    go_ret
    exact ⟨rfl, R2, G1.trans G2⟩
  · rw [if_neg c1]
    obtain ⟨k, hk⟩ : ∃ k : Int, k = (v1 : Int) := ⟨_, rfl⟩
    have t1 : (k == 0) = false := by rw [hk]; simpa using c1
    rw [← hk] at H1 ⊢
    clear hk c1
    go_enter Try.func109, Try.ntmps109
    go_wp2_with fail
    refine H1.out.mono ?_
    rintro x w1 ⟨rfl, R1, G1⟩
    go_wp2_with fail
    go_ret
    exact ⟨rfl, R1, G1⟩
set_option maxRecDepth 100000 in
set_option maxHeartbeats 3200000 in
theorem rd_patchfield (base g bx bc i : Nat) (hi : i < 8) (l : List UInt8) (a : Nat) (e : Int) (pm lab : Int) (f : List V3) (hf : f.length = 8) (w : World) (h : Rd w base g l a e) (ha : a ≤ l.length) (hm : l.length ≤ 2000)
    (hB : Blk w bc (pcells pm lab f)) (hX : Blk w bx [.pointer (some ⟨g, 0, none⟩)]) (h1 : g < bx) (h2 : g < bc) (h3 : bx ≠ bc) :
    Calls Try.prog 110 #[.int .i64 i, .pointer (some ⟨bx, 0, none⟩), .pointer (some ⟨bc, 0, none⟩)] w fun x w' => x = .returned (.bool ((fldOut false l a e).2.2 == 0)) ∧ Rd w' base g l (fldOut false l a e).2.1 (fldOut false l a e).2.2 ∧
      Blk w' bc (pcells pm lab (f.set i (fldOut false l a e).1)) ∧ Tri g bc w w' := by
  have HV := Lib.hid (rd_value base g l a e w h ha hm)
  unfold fldOut
  simp only
  obtain ⟨r1, hr1⟩ : ∃ r, r = valOut l a e := ⟨_, rfl⟩
  rw [← hr1] at HV ⊢
  obtain ⟨⟨v0, v1, v2⟩, a1, e1⟩ := r1
  simp only at HV ⊢
  have HF := Lib.hid (fun wx (hx : Rd wx base g l a1 e1) => rd_fail base g l a1 e1 3 wx hx)
  have HE := Lib.hid (fun wx e2 (hx : Rd wx base g l a1 e2) => rd_err base g l a1 e2 wx hx)
  have ne1 : (some g : Option Nat) ≠ some bc := by simp; omega
  have ne2 : (some g : Option Nat) ≠ some bx := by simp; omega
  have x0 : w.cell? ⟨bx, 0, none⟩ = some (.pointer (some ⟨g, 0, none⟩)) := hX.cell rfl
  have i0 : (0 : Int) ≤ (i : Int) := by omega
  have i8 : (i : Int) < 8 := by omega
  have HFL := Lib.hid hf
  have HI := Lib.hid hi
  have HFO := Lib.hid (show ∀ ee : Int, failOut ee 3 = if ee = 0 then 3 else ee from fun _ => rfl)
  clear hr1 h ha hm hf hi
  rw [if_neg (by simp)]
  go_enter Try.func110, Try.ntmps110
  go_wp2_with fail
  refine HV.out.mono ?_
  rintro x w1 ⟨rfl, R1, G1⟩
  have B1 := hB.kept G1 ne1
  have X1 := hX.kept G1 ne2
  have T1 := B1.there (2 + i * 3) 3 (by rw [pcells_len _ _ HFL.out]; have := HI.out; omega)
  have S1 := Blk.putField (pre := [.int .u32 pm, .int .u32 lab]) B1 i (by rw [HFL.out]; exact HI.out) (v0, v1, v2)
  have XS1 := X1.setsOther (b := bc) (Ne.symm h3) (vcells (v0, v1, v2)) (2 + i * 3)
  have RS1 := R1.other (grown_sets4 bc (vcells (v0, v1, v2)) (2 + i * 3) w1) h2
  have GS1 := grown_sets4 bc (vcells (v0, v1, v2)) (2 + i * 3) w1
  have O1 : (vcells (v0, v1, v2)).toArray.all (·.oneCell') = true := vcells_all _
  have x1 : w1.cell? ⟨bx, 0, none⟩ = some (.pointer (some ⟨g, 0, none⟩)) := X1.cell rfl
  clear B1 X1 R1 x0 hB hX
  go_wp2_with (first
    | (refine wpList_store_mid rfl 27 (.tmp 9) (.tmp 7) rfl bc (2 + i * 3) (vcells (v0, v1, v2)).toArray rfl rfl T1 info_val O1 ?_
       simp only [Act.put]
       generalize hw3 : World.setCells _ bc (2 + i * 3) (vcells (v0, v1, v2)).toArray.toList = w3
       have S3 : Blk w3 bc ([.int .u32 pm, .int .u32 lab] ++ fcells (f.set i (v0, v1, v2))) := hw3 ▸ S1
       have X3 : Blk w3 bx [.pointer (some ⟨g, 0, none⟩)] := hw3 ▸ XS1
       have R3 : Rd w3 base g l a1 e1 := hw3 ▸ RS1
       have G3 : w1.grownBy w3 (some bc) := hw3 ▸ GS1
       have q1 : w3.cell? ⟨bc, 2 + i * 3, none⟩ = some (.int .i64 v0) := by
         have hs := (Blk.field S3 2 i rfl (by rw [List.length_set, HFL.out]; exact HI.out)).1
         simpa using hs
       have x3 : w3.cell? ⟨bx, 0, none⟩ = some (.pointer (some ⟨g, 0, none⟩)) := X3.cell rfl
       clear hw3 S1 XS1 RS1 GS1 T1 x1 O1)
    | fail)
  refine (HE.out _ _ R3).mono ?_
  rintro x w4 ⟨rfl, rfl⟩
  go_wp2_with fail
  go_ret
  exact ⟨rfl, R3, S3, w1, w3, G1, G3, World.grownBy.refl _ _⟩
end Go.Proofs.Ytgpbglmlakildaa
