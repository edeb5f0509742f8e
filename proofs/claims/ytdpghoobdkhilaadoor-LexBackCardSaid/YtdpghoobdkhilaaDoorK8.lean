/- The document's word at a place; what is at a place, by both sides. -/
import Derived.Test.YtdpghoobdkhilaaDoorK7
import Derived.Test.YtdpghoobdkhilaaDoorK1
import Derived.WalkMore
import Derived.ScopeJumps
namespace Go.Proofs.YtdpghoobdkhilaaDoor
set_option linter.unusedVariables false
set_option linter.unusedSimpArgs false
open Go Go.RowKit BitM MskM ValM LexM

set_option maxRecDepth 100000 in
set_option maxHeartbeats 3200000 in
theorem one_letter (t : ByteArray) (k : Nat) (w : World) (hk : k < t.size) (hs : t.size ≤ 1000) (hc : letterB (t[k]) = true) (e : Nat) (he : e = lrun letterB t.data.toList k) (hke : k < e) (het : e ≤ t.size) :
    Calls Tryd.prog 14 #[.string t, .int .i64 (k : Int)] w fun x w' => x = .returned (.tuple #[.agg (wcells4 (1, 0, (k : Int), t.extract k e)).toArray, .int .i64 (e : Int)]) ∧ Below w.heap.size w w' := by
  simp only [letterB, Bool.and_eq_true, decide_eq_true_eq] at hc
  have b1 : (97 : Int) ≤ ((t[k]).toNat : Int) := by omega
  have b2 : ((t[k]).toNat : Int) ≤ 122 := by omega
  have HR := Lib.hid (fun wx : World => rrun_letter t k wx (by omega) hs)
  rw [← he] at HR
  have hu := Tryd.underlying38
  have F4 := Blk.new w (wcells4 zw) 38
  have B4 : Below w.heap.size w (w.alloc (.cells (wcells4 zw).toArray 38)) := (Below.refl w.heap.size w).alloc (Nat.le_refl _) _
  have i1 : (0 : Int) ≤ (k : Int) := by omega
  have i2 : (k : Int) ≤ (e : Int) := by omega
  have i3 : (e : Int) ≤ (t.size : Int) := by omega
  have TH := F4.there 0 4 (Nat.le_refl _)
  have FE : Blk (World.setCells (w.alloc (.cells (wcells4 zw).toArray 38)) w.heap.size 0 (wcells4 (1, 0, (k : Int), t.extract k e))) w.heap.size (wcells4 (1, 0, (k : Int), t.extract k e)) := by simpa [wcells4, zw] using F4.sets (wcells4 (1, 0, (k : Int), t.extract k e)) 0 (Nat.le_refl _)
  have BE := below_sets (b := w.heap.size) (Nat.le_refl _) (wcells4 (1, 0, (k : Int), t.extract k e)) 0 B4
  have ONX := wcells4_one (1, 0, (k : Int), t.extract k e)
  clear he hc
  go_enter Tryd.func14, Tryd.ntmps14
  go_wp2_with fail
  refine (HR.out _).mono ?_
  rintro x w1 ⟨rfl, rfl⟩
  clear F4 B4
  go_wp2_with (first
    | (refine wpList_store_mid rfl 38 (.tmp 4) (.tmp 31) rfl w.heap.size 0 (wcells4 (1, 0, (k : Int), t.extract k e)).toArray rfl rfl TH info_rlw ONX ?_
       simp only [Act.put]
       generalize hwE : World.setCells _ w.heap.size 0 (wcells4 (1, 0, (k : Int), t.extract k e)).toArray.toList = wE
       have FE1 : Blk wE w.heap.size (wcells4 (1, 0, (k : Int), t.extract k e)) := hwE ▸ FE
       have BE1 : Below w.heap.size w wE := hwE ▸ BE
       clear hwE TH FE BE)
    | fail)
  exact bodyPost_ret (v := .tuple #[.agg (wcells4 (1, 0, (k : Int), t.extract k e)).toArray, .int .i64 (e : Int)]) (results_blk_tmp (p := 5) (q := 4) rfl _ _ w.heap.size (wcells4 (1, 0, (k : Int), t.extract k e)) _ _ rfl rfl FE1 hu rfl info_rlw) rfl ⟨rfl, BE1⟩
set_option maxRecDepth 100000 in
set_option maxHeartbeats 3200000 in
theorem one_digit (t : ByteArray) (k : Nat) (w : World) (hk : k < t.size) (hs : t.size ≤ 1000) (hd : dig (t[k]) = true) (e : Nat) (he : e = lrun dig t.data.toList k) (hke : k < e) (het : e ≤ t.size) (n : Int) (hn : pint (t.extract k e).data.toList 1099511627776 = (n, true)) :
    Calls Tryd.prog 14 #[.string t, .int .i64 (k : Int)] w fun x w' => x = .returned (.tuple #[.agg (wcells4 (2, n, (k : Int), ⟨#[]⟩)).toArray, .int .i64 (e : Int)]) ∧ Below w.heap.size w w' := by
  simp only [dig, Bool.and_eq_true, decide_eq_true_eq] at hd
  have b0 : ¬ (97 : Int) ≤ ((t[k]).toNat : Int) := by omega
  have b1 : (48 : Int) ≤ ((t[k]).toNat : Int) := by omega
  have b2 : ((t[k]).toNat : Int) ≤ 57 := by omega
  have HR := Lib.hid (fun wx : World => rrun_digit t k wx (by omega) hs)
  have HI := Lib.hid (fun wx : World => rint_any (t.extract k e) 1099511627776 wx)
  rw [← he] at HR
  rw [hn] at HI
  have hu := Tryd.underlying38
  have F4 := Blk.new w (wcells4 zw) 38
  have B4 : Below w.heap.size w (w.alloc (.cells (wcells4 zw).toArray 38)) := (Below.refl w.heap.size w).alloc (Nat.le_refl _) _
  have i1 : (0 : Int) ≤ (k : Int) := by omega
  have i2 : (k : Int) ≤ (e : Int) := by omega
  have i3 : (e : Int) ≤ (t.size : Int) := by omega
  have TH := F4.there 0 4 (Nat.le_refl _)
  have FE : Blk (World.setCells (w.alloc (.cells (wcells4 zw).toArray 38)) w.heap.size 0 (wcells4 (2, n, (k : Int), ⟨#[]⟩))) w.heap.size (wcells4 (2, n, (k : Int), ⟨#[]⟩)) := by simpa [wcells4, zw] using F4.sets (wcells4 (2, n, (k : Int), ⟨#[]⟩)) 0 (Nat.le_refl _)
  have BE := below_sets (b := w.heap.size) (Nat.le_refl _) (wcells4 (2, n, (k : Int), ⟨#[]⟩)) 0 B4
  have ONX := wcells4_one (2, n, (k : Int), ⟨#[]⟩)
  clear he hd hn
  go_enter Tryd.func14, Tryd.ntmps14
  go_wp2_with fail
  refine (HR.out _).mono ?_
  rintro x w1 ⟨rfl, rfl⟩
  go_wp2_with fail
  refine (HI.out _).mono ?_
  rintro x w1 ⟨rfl, rfl⟩
  clear F4 B4
  go_wp2_with (first
    | (refine wpList_store_mid rfl 38 (.tmp 4) (.tmp 55) rfl w.heap.size 0 (wcells4 (2, n, (k : Int), ⟨#[]⟩)).toArray rfl rfl TH info_rlw ONX ?_
       simp only [Act.put]
       generalize hwE : World.setCells _ w.heap.size 0 (wcells4 (2, n, (k : Int), ⟨#[]⟩)).toArray.toList = wE
       have FE1 : Blk wE w.heap.size (wcells4 (2, n, (k : Int), ⟨#[]⟩)) := hwE ▸ FE
       have BE1 : Below w.heap.size w wE := hwE ▸ BE
       clear hwE TH FE BE)
    | fail)
  exact bodyPost_ret (v := .tuple #[.agg (wcells4 (2, n, (k : Int), ⟨#[]⟩)).toArray, .int .i64 (e : Int)]) (results_blk_tmp (p := 5) (q := 4) rfl _ _ w.heap.size (wcells4 (2, n, (k : Int), ⟨#[]⟩)) _ _ rfl rfl FE1 hu rfl info_rlw) rfl ⟨rfl, BE1⟩
set_option maxRecDepth 100000 in
set_option maxHeartbeats 3200000 in
theorem one_digit_no (t : ByteArray) (k : Nat) (w : World) (hk : k < t.size) (hs : t.size ≤ 1000) (hd : dig (t[k]) = true) (e : Nat) (he : e = lrun dig t.data.toList k) (hke : k < e) (het : e ≤ t.size) (n : Int) (hn : pint (t.extract k e).data.toList 1099511627776 = (n, false)) :
    Calls Tryd.prog 14 #[.string t, .int .i64 (k : Int)] w fun x w' => x = .returned (.tuple #[.agg (wcells4 zw).toArray, .int .i64 0]) ∧ Below w.heap.size w w' := by
  simp only [dig, Bool.and_eq_true, decide_eq_true_eq] at hd
  have b0 : ¬ (97 : Int) ≤ ((t[k]).toNat : Int) := by omega
  have b1 : (48 : Int) ≤ ((t[k]).toNat : Int) := by omega
  have b2 : ((t[k]).toNat : Int) ≤ 57 := by omega
  have HR := Lib.hid (fun wx : World => rrun_digit t k wx (by omega) hs)
  have HI := Lib.hid (fun wx : World => rint_any (t.extract k e) 1099511627776 wx)
  rw [← he] at HR
  rw [hn] at HI
  have hu := Tryd.underlying38
  have F4 := Blk.new w (wcells4 zw) 38
  have B4 : Below w.heap.size w (w.alloc (.cells (wcells4 zw).toArray 38)) := (Below.refl w.heap.size w).alloc (Nat.le_refl _) _
  have i1 : (0 : Int) ≤ (k : Int) := by omega
  have i2 : (k : Int) ≤ (e : Int) := by omega
  have i3 : (e : Int) ≤ (t.size : Int) := by omega
  have TH := F4.there 0 4 (Nat.le_refl _)
  have FE : Blk (World.setCells (w.alloc (.cells (wcells4 zw).toArray 38)) w.heap.size 0 (wcells4 zw)) w.heap.size (wcells4 zw) := by simpa [wcells4, zw] using F4.sets (wcells4 zw) 0 (Nat.le_refl _)
  have BE := below_sets (b := w.heap.size) (Nat.le_refl _) (wcells4 zw) 0 B4
  have ONX := wcells4_one zw
  clear he hd hn
  go_enter Tryd.func14, Tryd.ntmps14
  go_wp2_with fail
  refine (HR.out _).mono ?_
  rintro x w1 ⟨rfl, rfl⟩
  go_wp2_with fail
  refine (HI.out _).mono ?_
  rintro x w1 ⟨rfl, rfl⟩
  clear F4 B4
  go_wp2_with (first
    | (refine wpList_store_mid rfl 38 (.tmp 4) (.tmp 52) rfl w.heap.size 0 (wcells4 zw).toArray rfl rfl TH info_rlw ONX ?_
       simp only [Act.put]
       generalize hwE : World.setCells _ w.heap.size 0 (wcells4 zw).toArray.toList = wE
       have FE1 : Blk wE w.heap.size (wcells4 zw) := hwE ▸ FE
       have BE1 : Below w.heap.size w wE := hwE ▸ BE
       clear hwE TH FE BE)
    | fail)
  exact bodyPost_ret (v := .tuple #[.agg (wcells4 zw).toArray, .int .i64 0]) (results_blk_tmp (p := 5) (q := 4) rfl _ _ w.heap.size (wcells4 zw) _ _ rfl rfl FE1 hu rfl info_rlw) rfl ⟨rfl, BE1⟩
set_option maxRecDepth 100000 in
set_option maxHeartbeats 3200000 in
theorem one_quote_end (t : ByteArray) (k : Nat) (w : World) (hk : k < t.size) (hs : t.size ≤ 1000) (hc : (t[k]).toNat = 34) (hq : qend t.data.toList k = 0) :
    Calls Tryd.prog 14 #[.string t, .int .i64 (k : Int)] w fun x w' => x = .returned (.tuple #[.agg (wcells4 zw).toArray, .int .i64 0]) ∧ Below w.heap.size w w' := by
  have b0 : ¬ (97 : Int) ≤ ((t[k]).toNat : Int) := by omega
  have b1 : ¬ (48 : Int) ≤ ((t[k]).toNat : Int) := by omega
  have b2 : (((t[k]).toNat : Int) == 34) = true := by rw [hc]; rfl
  have HR := Lib.hid (fun wx : World => lrquote_any t k wx (by omega) hs)
  rw [hq] at HR
  have hu := Tryd.underlying38
  have F4 := Blk.new w (wcells4 zw) 38
  have B4 : Below w.heap.size w (w.alloc (.cells (wcells4 zw).toArray 38)) := (Below.refl w.heap.size w).alloc (Nat.le_refl _) _
  have TH := F4.there 0 4 (Nat.le_refl _)
  have FE : Blk (World.setCells (w.alloc (.cells (wcells4 zw).toArray 38)) w.heap.size 0 (wcells4 zw)) w.heap.size (wcells4 zw) := by simpa [wcells4, zw] using F4.sets (wcells4 zw) 0 (Nat.le_refl _)
  have BE := below_sets (b := w.heap.size) (Nat.le_refl _) (wcells4 zw) 0 B4
  have ONX := wcells4_one zw
  clear hc hq
  go_enter Tryd.func14, Tryd.ntmps14
  go_wp2_with fail
  refine (HR.out _).mono ?_
  rintro x w1 ⟨rfl, rfl⟩
  clear F4 B4
  go_wp2_with (first
    | (refine wpList_store_mid rfl 38 (.tmp 4) (.tmp 64) rfl w.heap.size 0 (wcells4 zw).toArray rfl rfl TH info_rlw ONX ?_
       simp only [Act.put]
       generalize hwE : World.setCells _ w.heap.size 0 (wcells4 zw).toArray.toList = wE
       have FE1 : Blk wE w.heap.size (wcells4 zw) := hwE ▸ FE
       have BE1 : Below w.heap.size w wE := hwE ▸ BE
       clear hwE TH FE BE)
    | fail)
  exact bodyPost_ret (v := .tuple #[.agg (wcells4 zw).toArray, .int .i64 0]) (results_blk_tmp (p := 5) (q := 4) rfl _ _ w.heap.size (wcells4 zw) _ _ rfl rfl FE1 hu rfl info_rlw) rfl ⟨rfl, BE1⟩
set_option maxRecDepth 100000 in
set_option maxHeartbeats 3200000 in
theorem one_quote (t : ByteArray) (k : Nat) (w : World) (hk : k < t.size) (hs : t.size ≤ 1000) (hc : (t[k]).toNat = 34) (e : Nat) (he : e = qend t.data.toList k) (hke : k < e) (het : e ≤ t.size) (kd n : Int) (s : ByteArray) (hv : vrd (t.extract k e) = ((kd, n, s), true)) :
    Calls Tryd.prog 14 #[.string t, .int .i64 (k : Int)] w fun x w' => x = .returned (.tuple #[.agg (wcells4 (3, 0, (k : Int), s)).toArray, .int .i64 (e : Int)]) ∧ Below w.heap.size w w' := by
  have b0 : ¬ (97 : Int) ≤ ((t[k]).toNat : Int) := by omega
  have b1 : ¬ (48 : Int) ≤ ((t[k]).toNat : Int) := by omega
  have b2 : (((t[k]).toNat : Int) == 34) = true := by rw [hc]; rfl
  have HR := Lib.hid (fun wx : World => lrquote_any t k wx (by omega) hs)
  rw [← he] at HR
  have HV := Lib.hid (fun (wx : World) => (show Calls Tryd.prog 27 #[.string (t.extract k e)] wx fun e w' => e = .returned (.tuple #[.agg (vcells (kd, n, s)).toArray, .bool true]) ∧ Below wx.heap.size wx w' from by
    have h := rread_any (t.extract k e) wx (by rw [ByteArray.size_extract]; omega)
    rw [hv] at h
    exact h))
  have n0 : (((e : Nat) : Int) == 0) = false := by rw [beq_eq_false_iff_ne]; omega
  have huv := Tryd.underlying54
  have hu := Tryd.underlying38
  have F4 := Blk.new w (wcells4 zw) 38
  have B4 : Below w.heap.size w (w.alloc (.cells (wcells4 zw).toArray 38)) := (Below.refl w.heap.size w).alloc (Nat.le_refl _) _
  have i1 : (0 : Int) ≤ (k : Int) := by omega
  have i2 : (k : Int) ≤ (e : Int) := by omega
  have i3 : (e : Int) ≤ (t.size : Int) := by omega
  clear he hc hv
  go_enter Tryd.func14, Tryd.ntmps14
  go_wp2_with fail
  refine (HR.out _).mono ?_
  rintro x w1 ⟨rfl, rfl⟩
  go_wp2_with fail
  refine (HV.out _).mono ?_
  rintro x w2 ⟨rfl, hb2⟩
  have F44 := F4.later hb2
  have B44 := B4.trans (hb2.mono B4.size)
  clear F4 B4 hb2
  have hgt := F44.lt
  obtain ⟨gv, hgv⟩ : ∃ gv, gv = w2.heap.size := ⟨_, rfl⟩
  rw [← hgv] at hgt
  have BV := Blk.new w2 (vcells zval) 54
  rw [← hgv] at BV
  have F45 := F44.alloc (.cells (vcells zval).toArray 54)
  have B45 := B44.alloc B44.size (.cells (vcells zval).toArray 54)
  have TV := BV.there 0 3 (Nat.le_refl _)
  have SV := BV.whole (ds := vcells (kd, n, s)) rfl
  have SF4 := Blk.setsOther (b := gv) (by omega) (vcells (kd, n, s)) 0 F45
  have SB := below_sets (b := gv) (by omega) (vcells (kd, n, s)) 0 B45
  have OV : (vcells (kd, n, s)).toArray.all (·.oneCell') = true := all_oneCell_toArray (by intro v hv; simp only [vcells, List.mem_cons, List.not_mem_nil, or_false] at hv; rcases hv with rfl | rfl | rfl <;> rfl)
  have HGV := Lib.hid hgv
  clear hgv F44 B44 BV F45 B45
  go_wp2_with (first
    | (rw [← HGV.out]
       refine wpList_store_mid rfl 54 (.tmp 12) (.tmp 71) rfl gv 0 (vcells (kd, n, s)).toArray rfl rfl TV info_val OV ?_
       simp only [Act.put]
       generalize hw4 : World.setCells (w2.alloc _) gv 0 (vcells (kd, n, s)).toArray.toList = w4
       have FV : Blk w4 gv (vcells (kd, n, s)) := hw4 ▸ SV
       have F4 : Blk w4 w.heap.size (wcells4 zw) := hw4 ▸ SF4
       have B4 : Below w.heap.size w w4 := hw4 ▸ SB
       have q2 : w4.cell? ⟨gv, 2, none⟩ = some (.string s) := FV.cell rfl
       have TH := F4.there 0 4 (Nat.le_refl _)
       have FE : Blk (World.setCells w4 w.heap.size 0 (wcells4 (3, 0, (k : Int), s))) w.heap.size (wcells4 (3, 0, (k : Int), s)) := by simpa [wcells4, zw] using F4.sets (wcells4 (3, 0, (k : Int), s)) 0 (Nat.le_refl _)
       have BE := below_sets (b := w.heap.size) (Nat.le_refl _) (wcells4 (3, 0, (k : Int), s)) 0 B4
       have ONX := wcells4_one (3, 0, (k : Int), s)
       clear hw4 TV SV SF4 SB FV F4 B4)
    | (refine wpList_store_mid rfl 38 (.tmp 4) (.tmp 79) rfl w.heap.size 0 (wcells4 (3, 0, (k : Int), s)).toArray rfl rfl TH info_rlw ONX ?_
       simp only [Act.put]
       generalize hwE : World.setCells _ w.heap.size 0 (wcells4 (3, 0, (k : Int), s)).toArray.toList = wE
       have FE1 : Blk wE w.heap.size (wcells4 (3, 0, (k : Int), s)) := hwE ▸ FE
       have BE1 : Below w.heap.size w wE := hwE ▸ BE
       clear hwE TH FE BE)
    | fail)
  exact bodyPost_ret (v := .tuple #[.agg (wcells4 (3, 0, (k : Int), s)).toArray, .int .i64 (e : Int)]) (results_blk_tmp (p := 5) (q := 4) rfl _ _ w.heap.size (wcells4 (3, 0, (k : Int), s)) _ _ rfl rfl FE1 hu rfl info_rlw) rfl ⟨rfl, BE1⟩
set_option maxRecDepth 100000 in
set_option maxHeartbeats 3200000 in
theorem one_quote_no (t : ByteArray) (k : Nat) (w : World) (hk : k < t.size) (hs : t.size ≤ 1000) (hc : (t[k]).toNat = 34) (e : Nat) (he : e = qend t.data.toList k) (hke : k < e) (het : e ≤ t.size) (kd n : Int) (s : ByteArray) (hv : vrd (t.extract k e) = ((kd, n, s), false)) :
    Calls Tryd.prog 14 #[.string t, .int .i64 (k : Int)] w fun x w' => x = .returned (.tuple #[.agg (wcells4 zw).toArray, .int .i64 0]) ∧ Below w.heap.size w w' := by
  have b0 : ¬ (97 : Int) ≤ ((t[k]).toNat : Int) := by omega
  have b1 : ¬ (48 : Int) ≤ ((t[k]).toNat : Int) := by omega
  have b2 : (((t[k]).toNat : Int) == 34) = true := by rw [hc]; rfl
  have HR := Lib.hid (fun wx : World => lrquote_any t k wx (by omega) hs)
  rw [← he] at HR
  have HV := Lib.hid (fun (wx : World) => (show Calls Tryd.prog 27 #[.string (t.extract k e)] wx fun e w' => e = .returned (.tuple #[.agg (vcells (kd, n, s)).toArray, .bool false]) ∧ Below wx.heap.size wx w' from by
    have h := rread_any (t.extract k e) wx (by rw [ByteArray.size_extract]; omega)
    rw [hv] at h
    exact h))
  have n0 : (((e : Nat) : Int) == 0) = false := by rw [beq_eq_false_iff_ne]; omega
  have huv := Tryd.underlying54
  have hu := Tryd.underlying38
  have F4 := Blk.new w (wcells4 zw) 38
  have B4 : Below w.heap.size w (w.alloc (.cells (wcells4 zw).toArray 38)) := (Below.refl w.heap.size w).alloc (Nat.le_refl _) _
  have i1 : (0 : Int) ≤ (k : Int) := by omega
  have i2 : (k : Int) ≤ (e : Int) := by omega
  have i3 : (e : Int) ≤ (t.size : Int) := by omega
  clear he hc hv
  go_enter Tryd.func14, Tryd.ntmps14
  go_wp2_with fail
  refine (HR.out _).mono ?_
  rintro x w1 ⟨rfl, rfl⟩
  go_wp2_with fail
  refine (HV.out _).mono ?_
  rintro x w2 ⟨rfl, hb2⟩
  have F44 := F4.later hb2
  have B44 := B4.trans (hb2.mono B4.size)
  clear F4 B4 hb2
  have hgt := F44.lt
  obtain ⟨gv, hgv⟩ : ∃ gv, gv = w2.heap.size := ⟨_, rfl⟩
  rw [← hgv] at hgt
  have BV := Blk.new w2 (vcells zval) 54
  rw [← hgv] at BV
  have F45 := F44.alloc (.cells (vcells zval).toArray 54)
  have B45 := B44.alloc B44.size (.cells (vcells zval).toArray 54)
  have TV := BV.there 0 3 (Nat.le_refl _)
  have SV := BV.whole (ds := vcells (kd, n, s)) rfl
  have SF4 := Blk.setsOther (b := gv) (by omega) (vcells (kd, n, s)) 0 F45
  have SB := below_sets (b := gv) (by omega) (vcells (kd, n, s)) 0 B45
  have OV : (vcells (kd, n, s)).toArray.all (·.oneCell') = true := all_oneCell_toArray (by intro v hv; simp only [vcells, List.mem_cons, List.not_mem_nil, or_false] at hv; rcases hv with rfl | rfl | rfl <;> rfl)
  have HGV := Lib.hid hgv
  clear hgv F44 B44 BV F45 B45
  go_wp2_with (first
    | (rw [← HGV.out]
       refine wpList_store_mid rfl 54 (.tmp 12) (.tmp 71) rfl gv 0 (vcells (kd, n, s)).toArray rfl rfl TV info_val OV ?_
       simp only [Act.put]
       generalize hw4 : World.setCells (w2.alloc _) gv 0 (vcells (kd, n, s)).toArray.toList = w4
       have FV : Blk w4 gv (vcells (kd, n, s)) := hw4 ▸ SV
       have F4 : Blk w4 w.heap.size (wcells4 zw) := hw4 ▸ SF4
       have B4 : Below w.heap.size w w4 := hw4 ▸ SB
       have q2 : w4.cell? ⟨gv, 2, none⟩ = some (.string s) := FV.cell rfl
       have TH := F4.there 0 4 (Nat.le_refl _)
       have FE : Blk (World.setCells w4 w.heap.size 0 (wcells4 zw)) w.heap.size (wcells4 zw) := by simpa [wcells4, zw] using F4.sets (wcells4 zw) 0 (Nat.le_refl _)
       have BE := below_sets (b := w.heap.size) (Nat.le_refl _) (wcells4 zw) 0 B4
       have ONX := wcells4_one zw
       clear hw4 TV SV SF4 SB FV F4 B4)
    | (refine wpList_store_mid rfl 38 (.tmp 4) (.tmp 75) rfl w.heap.size 0 (wcells4 zw).toArray rfl rfl TH info_rlw ONX ?_
       simp only [Act.put]
       generalize hwE : World.setCells _ w.heap.size 0 (wcells4 zw).toArray.toList = wE
       have FE1 : Blk wE w.heap.size (wcells4 zw) := hwE ▸ FE
       have BE1 : Below w.heap.size w wE := hwE ▸ BE
       clear hwE TH FE BE)
    | fail)
  exact bodyPost_ret (v := .tuple #[.agg (wcells4 zw).toArray, .int .i64 0]) (results_blk_tmp (p := 5) (q := 4) rfl _ _ w.heap.size (wcells4 zw) _ _ rfl rfl FE1 hu rfl info_rlw) rfl ⟨rfl, BE1⟩
set_option maxRecDepth 100000 in
set_option maxHeartbeats 3200000 in
theorem one_sign (t : ByteArray) (k : Nat) (w : World) (hk : k < t.size) (hs : t.size ≤ 1000) (hl : letterB (t[k]) = false) (hd : dig (t[k]) = false) (hc : (t[k]).toNat ≠ 34) (hok : signB (t[k]) = true) (e : Nat) (he : e = k + 1) :
    Calls Tryd.prog 14 #[.string t, .int .i64 (k : Int)] w fun x w' => x = .returned (.tuple #[.agg (wcells4 (4, 0, (k : Int), t.extract k e)).toArray, .int .i64 (e : Int)]) ∧ Below w.heap.size w w' := by
  have b34 : (((t[k]).toNat : Int) == 34) = false := by rw [beq_eq_false_iff_ne]; omega
  have HS := Lib.hid (fun wx : World => rsign_any (t[k]) wx)
  rw [hok] at HS
  have h256 := UInt8.toNat_lt (t[k])
  simp only [letterB, Bool.and_eq_false_iff, decide_eq_false_iff_not] at hl
  simp only [dig, Bool.and_eq_false_iff, decide_eq_false_iff_not] at hd
  have hu := Tryd.underlying38
  have F4 := Blk.new w (wcells4 zw) 38
  have B4 : Below w.heap.size w (w.alloc (.cells (wcells4 zw).toArray 38)) := (Below.refl w.heap.size w).alloc (Nat.le_refl _) _
  have i1 : (0 : Int) ≤ (k : Int) := by omega
  have i2 : (k : Int) ≤ (e : Int) := by omega
  have i3 : (e : Int) ≤ (t.size : Int) := by omega
  have hE : (k : Int) + 1 = (e : Int) := by omega
  have TH := F4.there 0 4 (Nat.le_refl _)
  have FE : Blk (World.setCells (w.alloc (.cells (wcells4 zw).toArray 38)) w.heap.size 0 (wcells4 (4, 0, (k : Int), t.extract k e))) w.heap.size (wcells4 (4, 0, (k : Int), t.extract k e)) := by simpa [wcells4, zw] using F4.sets (wcells4 (4, 0, (k : Int), t.extract k e)) 0 (Nat.le_refl _)
  have BE := below_sets (b := w.heap.size) (Nat.le_refl _) (wcells4 (4, 0, (k : Int), t.extract k e)) 0 B4
  have ONX := wcells4_one (4, 0, (k : Int), t.extract k e)
  have key1 : ¬ (97 : Int) ≤ ((t[k]).toNat : Int) ∨ ((97 : Int) ≤ ((t[k]).toNat : Int) ∧ ¬ ((t[k]).toNat : Int) ≤ 122) := by omega
  have key2 : ¬ (48 : Int) ≤ ((t[k]).toNat : Int) ∨ ((48 : Int) ≤ ((t[k]).toNat : Int) ∧ ¬ ((t[k]).toNat : Int) ≤ 57) := by omega
  clear hl hd hc hok he F4 B4
  rcases key1 with k1 | ⟨k1, k2⟩ <;> rcases key2 with k3 | ⟨k3, k4⟩
  all_goals (try (exfalso; omega))
  all_goals
    go_enter Tryd.func14, Tryd.ntmps14
    go_wp2_with fail
    refine (HS.out _).mono ?_
    rintro x w1 ⟨rfl, rfl⟩
    go_wp2_with (first
      | (refine wpList_store_mid rfl 38 (.tmp 4) (.tmp 89) rfl w.heap.size 0 (wcells4 (4, 0, (k : Int), t.extract k e)).toArray rfl rfl TH info_rlw ONX ?_
         simp only [Act.put]
         generalize hwE : World.setCells _ w.heap.size 0 (wcells4 (4, 0, (k : Int), t.extract k e)).toArray.toList = wE
         have FE1 : Blk wE w.heap.size (wcells4 (4, 0, (k : Int), t.extract k e)) := hwE ▸ FE
         have BE1 : Below w.heap.size w wE := hwE ▸ BE
         clear hwE TH FE BE)
      | fail)
    exact bodyPost_ret (v := .tuple #[.agg (wcells4 (4, 0, (k : Int), t.extract k e)).toArray, .int .i64 (e : Int)]) (results_blk_tmp (p := 5) (q := 4) rfl _ _ w.heap.size (wcells4 (4, 0, (k : Int), t.extract k e)) _ _ rfl rfl FE1 hu rfl info_rlw) rfl ⟨rfl, BE1⟩
set_option maxRecDepth 100000 in
set_option maxHeartbeats 3200000 in
theorem one_none (t : ByteArray) (k : Nat) (w : World) (hk : k < t.size) (hs : t.size ≤ 1000) (hl : letterB (t[k]) = false) (hd : dig (t[k]) = false) (hc : (t[k]).toNat ≠ 34) (hok : signB (t[k]) = false) (e : Nat) (he : e = k + 1) :
    Calls Tryd.prog 14 #[.string t, .int .i64 (k : Int)] w fun x w' => x = .returned (.tuple #[.agg (wcells4 zw).toArray, .int .i64 0]) ∧ Below w.heap.size w w' := by
  have b34 : (((t[k]).toNat : Int) == 34) = false := by rw [beq_eq_false_iff_ne]; omega
  have HS := Lib.hid (fun wx : World => rsign_any (t[k]) wx)
  rw [hok] at HS
  have h256 := UInt8.toNat_lt (t[k])
  simp only [letterB, Bool.and_eq_false_iff, decide_eq_false_iff_not] at hl
  simp only [dig, Bool.and_eq_false_iff, decide_eq_false_iff_not] at hd
  have hu := Tryd.underlying38
  have F4 := Blk.new w (wcells4 zw) 38
  have B4 : Below w.heap.size w (w.alloc (.cells (wcells4 zw).toArray 38)) := (Below.refl w.heap.size w).alloc (Nat.le_refl _) _
  have i1 : (0 : Int) ≤ (k : Int) := by omega
  have i2 : (k : Int) ≤ (e : Int) := by omega
  have i3 : (e : Int) ≤ (t.size : Int) := by omega
  have hE : (k : Int) + 1 = (e : Int) := by omega
  have TH := F4.there 0 4 (Nat.le_refl _)
  have FE : Blk (World.setCells (w.alloc (.cells (wcells4 zw).toArray 38)) w.heap.size 0 (wcells4 zw)) w.heap.size (wcells4 zw) := by simpa [wcells4, zw] using F4.sets (wcells4 zw) 0 (Nat.le_refl _)
  have BE := below_sets (b := w.heap.size) (Nat.le_refl _) (wcells4 zw) 0 B4
  have ONX := wcells4_one zw
  have key1 : ¬ (97 : Int) ≤ ((t[k]).toNat : Int) ∨ ((97 : Int) ≤ ((t[k]).toNat : Int) ∧ ¬ ((t[k]).toNat : Int) ≤ 122) := by omega
  have key2 : ¬ (48 : Int) ≤ ((t[k]).toNat : Int) ∨ ((48 : Int) ≤ ((t[k]).toNat : Int) ∧ ¬ ((t[k]).toNat : Int) ≤ 57) := by omega
  clear hl hd hc hok he F4 B4
  rcases key1 with k1 | ⟨k1, k2⟩ <;> rcases key2 with k3 | ⟨k3, k4⟩
  all_goals (try (exfalso; omega))
  all_goals
    go_enter Tryd.func14, Tryd.ntmps14
    go_wp2_with fail
    refine (HS.out _).mono ?_
    rintro x w1 ⟨rfl, rfl⟩
    go_wp2_with (first
      | (refine wpList_store_mid rfl 38 (.tmp 4) (.tmp 92) rfl w.heap.size 0 (wcells4 zw).toArray rfl rfl TH info_rlw ONX ?_
         simp only [Act.put]
         generalize hwE : World.setCells _ w.heap.size 0 (wcells4 zw).toArray.toList = wE
         have FE1 : Blk wE w.heap.size (wcells4 zw) := hwE ▸ FE
         have BE1 : Below w.heap.size w wE := hwE ▸ BE
         clear hwE TH FE BE)
      | fail)
    exact bodyPost_ret (v := .tuple #[.agg (wcells4 zw).toArray, .int .i64 0]) (results_blk_tmp (p := 5) (q := 4) rfl _ _ w.heap.size (wcells4 zw) _ _ rfl rfl FE1 hu rfl info_rlw) rfl ⟨rfl, BE1⟩

theorem letter_not {c : UInt8} (h : letterB c = true) : dig c = false ∧ c.toNat ≠ 34 := by
  simp only [letterB, Bool.and_eq_true, decide_eq_true_eq] at h
  exact ⟨by simp only [dig, Bool.and_eq_false_iff, decide_eq_false_iff_not]; omega, by omega⟩
/-- The word that is there: the program's, and the document's. -/
theorem word_yes (t : ByteArray) (k : Nat) (w : World) (hk : k < t.size) (hs : t.size ≤ 1000) (ht : Tab w) (x : Wd) (e : Nat) (h : wone t k = some (x, e)) :
    (Calls Tryd.prog 13 #[.string t, .int .i64 (k : Int)] w fun y w' => y = .returned (.tuple #[.agg (wcells4 x).toArray, .int .i64 (e : Int), .bool true]) ∧ Below w.heap.size w w') ∧
    (Calls Tryd.prog 14 #[.string t, .int .i64 (k : Int)] w fun y w' => y = .returned (.tuple #[.agg (wcells4 x).toArray, .int .i64 (e : Int)]) ∧ Below w.heap.size w w') := by
  have hsz : t.data.toList.length = t.size := by simp
  have hp := wone_past h
  dsimp only at hp
  unfold wone at h
  rw [List.getElem?_eq_getElem (by omega)] at h
  simp only at h
  have e0 : t.data.toList[k] = t[k] := rfl
  rw [e0] at h
  by_cases hl : letterB t[k] = true
  · rw [if_pos hl] at h
    simp only [Option.some.injEq, Prod.mk.injEq] at h
    obtain ⟨rfl, he⟩ := h
    rw [he]
    exact ⟨word_letter t k w hk hs hl e he.symm hp.1 hp.2, one_letter t k w hk hs hl e he.symm hp.1 hp.2⟩
  · rw [if_neg hl] at h
    replace hl : letterB t[k] = false := by simpa using hl
    by_cases hd : dig t[k] = true
    · rw [if_pos hd] at h
      split at h
      · rename_i hr
        simp only [Option.some.injEq, Prod.mk.injEq] at h
        obtain ⟨rfl, he⟩ := h
        rw [he] at hr ⊢
        have hn : pint (t.extract k e).data.toList 1099511627776 = ((pint (t.extract k e).data.toList 1099511627776).1, true) := Prod.ext rfl hr
        exact ⟨word_digit t k w hk hs hl hd e he.symm hp.1 hp.2 _ true hn, one_digit t k w hk hs hd e he.symm hp.1 hp.2 _ hn⟩
      · cases h
    · rw [if_neg hd] at h
      replace hd : dig t[k] = false := by simpa using hd
      by_cases hc : (t[k]).toNat = 34
      · rw [if_pos hc] at h
        split at h
        · cases h
        · rename_i hq
          split at h
          · rename_i hr
            simp only [Option.some.injEq, Prod.mk.injEq] at h
            obtain ⟨rfl, he⟩ := h
            rw [he] at hr ⊢
            have hb := qend_bound _ _ hq
            have hv : vrd (t.extract k e) = (((vrd (t.extract k e)).1.1, (vrd (t.extract k e)).1.2.1, (vrd (t.extract k e)).1.2.2), true) := Prod.ext rfl hr
            exact ⟨word_quote t k w hk hs hc e e he.symm (by omega) hp.1 hp.2 _ _ _ true hv ht, one_quote t k w hk hs hc e he.symm hp.1 hp.2 _ _ _ hv⟩
          · cases h
      · rw [if_neg hc] at h
        split at h
        · rename_i hr
          simp only [Option.some.injEq, Prod.mk.injEq] at h
          obtain ⟨rfl, he⟩ := h
          rw [he]
          exact ⟨word_sign t k w hk hs hl hd hc true hr e he.symm, one_sign t k w hk hs hl hd hc hr e he.symm⟩
        · cases h
/-- No word is there. -/
theorem word_no (t : ByteArray) (k : Nat) (w : World) (hk : k < t.size) (hs : t.size ≤ 1000) (ht : Tab w) (h : wone t k = none) :
    (Calls Tryd.prog 13 #[.string t, .int .i64 (k : Int)] w fun y w' => (∃ (x : Wd) (e : Int), y = .returned (.tuple #[.agg (wcells4 x).toArray, .int .i64 e, .bool false])) ∧ Below w.heap.size w w') ∧
    (Calls Tryd.prog 14 #[.string t, .int .i64 (k : Int)] w fun y w' => y = .returned (.tuple #[.agg (wcells4 zw).toArray, .int .i64 0]) ∧ Below w.heap.size w w') := by
  have hsz : t.data.toList.length = t.size := by simp
  unfold wone at h
  rw [List.getElem?_eq_getElem (by omega)] at h
  simp only at h
  have e0 : t.data.toList[k] = t[k] := rfl
  rw [e0] at h
  by_cases hl : letterB t[k] = true
  · rw [if_pos hl] at h; cases h
  · rw [if_neg hl] at h
    replace hl : letterB t[k] = false := by simpa using hl
    by_cases hd : dig t[k] = true
    · rw [if_pos hd] at h
      split at h
      · cases h
      · rename_i hr
        have h1 := lrun_yes dig t.data.toList k (by omega) hd
        have h2 := lrun_ge dig t.data.toList (k + 1)
        have h3 := lrun_le dig t.data.toList k (by omega)
        obtain ⟨e, he⟩ : ∃ e, e = lrun dig t.data.toList k := ⟨_, rfl⟩
        rw [← he] at hr h1 h3
        have hn : pint (t.extract k e).data.toList 1099511627776 = ((pint (t.extract k e).data.toList 1099511627776).1, false) := Prod.ext rfl (by simpa using hr)
        exact ⟨(word_digit t k w hk hs hl hd e he (by omega) (by omega) _ false hn).mono fun y w' hy => ⟨⟨_, _, hy.1⟩, hy.2⟩, one_digit_no t k w hk hs hd e he (by omega) (by omega) _ hn⟩
    · rw [if_neg hd] at h
      replace hd : dig t[k] = false := by simpa using hd
      by_cases hc : (t[k]).toNat = 34
      · rw [if_pos hc] at h
        split at h
        · rename_i hq
          have hv : (vrd (t.extract k (k + 1))).2 = false := vrd_quote _ (by
            rw [ByteArray.data_extract, Array.toList_extract]
            show List.take (k + 1 - k) (List.drop k t.data.toList) = [34]
            rw [List.drop_eq_getElem_cons (by omega), show k + 1 - k = 0 + 1 by omega, List.take_succ_cons, e0, show t[k] = 34 from UInt8.toNat_inj.1 hc]
            rfl)
          have hv2 : vrd (t.extract k (k + 1)) = (((vrd (t.extract k (k + 1))).1.1, (vrd (t.extract k (k + 1))).1.2.1, (vrd (t.extract k (k + 1))).1.2.2), false) := Prod.ext rfl hv
          exact ⟨(word_quote t k w hk hs hc 0 (k + 1) hq.symm (by omega) (by omega) (by omega) _ _ _ false hv2 ht).mono fun y w' hy => ⟨⟨_, _, hy.1⟩, hy.2⟩, one_quote_end t k w hk hs hc hq⟩
        · rename_i hq
          split at h
          · cases h
          · rename_i hr
            have hb := qend_bound _ _ hq
            obtain ⟨e, he⟩ : ∃ e, e = qend t.data.toList k := ⟨_, rfl⟩
            rw [← he] at hr hb
            have hv : vrd (t.extract k e) = (((vrd (t.extract k e)).1.1, (vrd (t.extract k e)).1.2.1, (vrd (t.extract k e)).1.2.2), false) := Prod.ext rfl (by simpa using hr)
            exact ⟨(word_quote t k w hk hs hc e e he (by omega) (by omega) (by omega) _ _ _ false hv ht).mono fun y w' hy => ⟨⟨_, _, hy.1⟩, hy.2⟩, one_quote_no t k w hk hs hc e he (by omega) (by omega) _ _ _ hv⟩
      · rw [if_neg hc] at h
        split at h
        · cases h
        · rename_i hr
          replace hr : signB t[k] = false := by simpa using hr
          exact ⟨(word_sign t k w hk hs hl hd hc false hr (k + 1) rfl).mono fun y w' hy => ⟨⟨_, _, hy.1⟩, hy.2⟩, one_none t k w hk hs hl hd hc hr (k + 1) rfl⟩
end Go.Proofs.YtdpghoobdkhilaaDoor

/- Slices of structs: append onto a row of the call's own, and a slice cut, whatever an element's size is. -/
namespace Go.Proofs.YtdpghoobdkhilaaDoor
set_option linter.unusedVariables false
open Go Go.RowKit

theorem row_form {w : World} {base : Nat} {e : TypeId} {size n : Nat} {v : Value} {xs : List Value} (h : w.ownsRow base e size v n xs) : ∃ A c, v = .slice A n c := by
  rcases h.2 with ⟨rfl, h0⟩ | ⟨g, cap, cur, rfl, _⟩
  · exact ⟨none, 0, by rw [h0]⟩
  · exact ⟨_, _, rfl⟩
theorem row_sees {w : World} {base : Nat} {e : TypeId} {size n : Nat} {A : Option Addr} {c : Nat} {xs : List Value} (h : w.ownsRow base e size (.slice A n c) n xs) : Sees w w.heap.size A xs := fun hx => by
  rcases h.2 with ⟨hv, h0⟩ | ⟨g, cap, cur, hv, _, hh, _⟩
  · have := h.1
    rw [h0, Nat.zero_mul] at this
    omega
  have hA : A = some ⟨g, 0, none⟩ := by injection hv
  subst hA
  have hlt : g < w.heap.size := by
    rcases Nat.lt_or_ge g w.heap.size with h1 | h1
    · exact h1
    · rw [Array.getElem?_eq_none h1] at hh; cases hh
  exact ⟨g, 0, rfl, hlt, fun j hj => by
    have h1 := h.cells (g := g) rfl j _ (List.getElem?_eq_getElem hj)
    rw [add_at] at h1
    exact h1⟩
theorem row_later {w w' : World} {base : Nat} {e : TypeId} {size n : Nat} {v : Value} {xs : List Value} (h : w.ownsRow base e size v n xs) (hl : Below w.heap.size w w') : w'.ownsRow base e size v n xs :=
  World.ownsRow.kept h ⟨hl.os, hl.tape, hl.output, hl.size, fun q hq _ => hl.block q hq⟩ (by by_cases h : v.ownBlock = none; exact .inl h; exact .inr h)
theorem row_lower {w : World} {base base' : Nat} {e : TypeId} {size n : Nat} {v : Value} {xs : List Value} (h : w.ownsRow base e size v n xs) (hb : base' ≤ base) : w.ownsRow base' e size v n xs := by
  refine ⟨h.1, ?_⟩
  rcases h.2 with h' | ⟨g, cap, cur, h1, h2, h3⟩
  · exact .inl h'
  · exact .inr ⟨g, cap, cur, h1, Nat.le_trans hb h2, h3⟩
/-- An empty row, or any, just laid. -/
theorem row_lit (w : World) (base : Nat) (e : TypeId) (size n : Nat) (arr : Array Value) (hb : base ≤ w.heap.size) (hn : n ≤ maxLen) (hs : arr.size = n * size) : (w.alloc (.cells arr e)).ownsRow base e size (.slice (some ⟨w.heap.size, 0, none⟩) n n) n arr.toList := by
  refine ⟨by simpa using hs, .inr ⟨w.heap.size, n, arr, rfl, hb, heap_alloc_new w _, Nat.le_refl _, hn, hs, ?_⟩⟩
  rw [List.take_of_length_le]
  simp [hs]

theorem run_appk {P : Program} (w : World) (base : Nat) (t ty e : TypeId) (i : TypeInfo) (z : Value) (size bytes : Nat) (ht : P.underlying t = some (.slice e)) (hi : P.info? e = some i) (hz : i.zero = some z)
    (hsize : i.size = size) (hby : i.bytes = bytes) (hzs : z.cells.size = size) (hpos : 0 < size) (v : Value) (n : Nat) (xs : List Value) (hown : w.ownsRow base e size v n xs)
    (B : Nat) (A : Option Addr) (m c : Nat) (news : List Value) (hl : news.length = m * size) (hs : Sees w B A news) (h1 : ∀ u ∈ news, u.oneCell' = true)
    (h63 : n + m ≤ maxLen) (hbytes : (n + m) * bytes ≤ 140737488355328) (hbase : base ≤ w.heap.size) :
    ∃ A' c' w', (Builtin.append_ #[t, t] ty #[v, .slice A m c]).run P w = .ok (.slice A' (n + m) c') w' ∧ w'.ownsRow base e size (.slice A' (n + m) c') (n + m) (xs ++ news) ∧
      w.grownBy w' v.ownBlock ∧ ((Value.slice A' (n + m) c').ownBlock = v.ownBlock ∨ (Value.slice A' (n + m) c').ownBlock = some w.heap.size) := by
  obtain ⟨A0, c0, hv⟩ := row_form hown
  rcases A with _ | ad
  · have hn : news = [] := by
      rcases news with _ | ⟨x, l⟩
      · rfl
      · obtain ⟨b, o, h, _⟩ := hs (by simp)
        cases h
    subst hn
    obtain rfl : m = 0 := by
      rcases Nat.eq_zero_or_pos m with h | h
      · exact h
      · have := Nat.mul_pos h hpos
        simp at hl
        omega
    subst hv
    refine ⟨A0, c0, w, ?_, by simpa using hown, World.grownBy.refl w _, .inl (by simp)⟩
    rcases hown.2 with ⟨hv0, h0⟩ | ⟨g, cap, cur, hv0, _, _, hnc, _⟩
    · injection hv0 with h1' h2' h3'
      subst h1' h3'
      simp [Builtin.append_, run_underlying ht, sizeOf, typeInfo, hi, Builtin.lenOf, Builtin.firstCells, h0]
    · injection hv0 with h1' h2' h3'
      subst h1' h3'
      simp [Builtin.append_, run_underlying ht, sizeOf, typeInfo, hi, Builtin.lenOf, Builtin.firstCells, hnc, storeCells]
  · have hcells : ∀ j u, news[j]? = some u → w.cell? (ad.add j) = some u := by
      intro j u hu
      have hj : j < news.length := by
        rcases Nat.lt_or_ge j news.length with h | h
        · exact h
        · rw [List.getElem?_eq_none h] at hu; cases hu
      obtain ⟨b, o, h, _, hc⟩ := hs (by omega)
      injection h with h
      subst h
      rw [add_at, hc j hj, ← hu, List.getElem?_eq_getElem hj]
    obtain ⟨v', w', hrun, h2, h3, _, h5⟩ := run_append_own_at (P := P) w base t ty e i z size bytes ht hi hz hsize hby hzs hpos v n xs hown ad m c news hl hcells h1 h63 hbytes hbase
    obtain ⟨A', c', hv'⟩ := row_form h2
    subst hv'
    exact ⟨A', c', w', hrun, h2, h3, h5⟩

/-- append onto a row of the call's own, whatever the source is, and whatever an element's size is. -/
theorem wpList_appk {P : Program} (w : World) {ops : Array Oper} {rest : List Oper} {o : Oper} {a : Act} {Q : Exit → Act → World → Prop} (hgd : o.guard = none) (s x : Operand) (t : TypeId)
    (ho : o.op = .call { callee := .builtin .append, args := #[s, x], argTypes := #[t, t] })
    (base : Nat) (e : TypeId) (i : TypeInfo) (z : Value) (size bytes : Nat) (ht : P.underlying t = some (.slice e)) (hi : P.info? e = some i) (hz : i.zero = some z)
    (hsize : i.size = size) (hby : i.bytes = bytes) (hzs : z.cells.size = size) (hpos : 0 < size) (v : Value) (n : Nat) (xs : List Value) (hv : a.eval s = v) (hown : w.ownsRow base e size v n xs)
    (B : Nat) (A : Option Addr) (c : Nat) (news : List Value) (m : Nat) (hx : a.eval x = .slice A m c) (hn : news.length = m * size) (hs : Sees w B A news) (h1 : ∀ u ∈ news, u.oneCell' = true)
    (h63 : n + m ≤ maxLen) (hbytes : (n + m) * bytes ≤ 140737488355328) (hbase : base ≤ w.heap.size)
    (h : ∀ A' c' w', w'.ownsRow base e size (.slice A' (n + m) c') (n + m) (xs ++ news) → Below base w w' → w.grownBy w' v.ownBlock →
      ((Value.slice A' (n + m) c').ownBlock = v.ownBlock ∨ (Value.slice A' (n + m) c').ownBlock = some w.heap.size) →
      wpList P ops Q rest (a.put o.dst (.slice A' (n + m) c')) w') : wpList P ops Q (o :: rest) a w := by
  refine wpList_plain hgd fun K hK => ?_
  obtain ⟨A', c', w', hrun, h2, h3, h4⟩ := run_appk (P := P) w base t o.type e i z size bytes ht hi hz hsize hby hzs hpos v n xs hown B A m c news hn hs h1 h63 hbytes hbase
  unfold Oper.wp execOp
  simp only [ho, resolve, invoke, builtin, Sem.run_bind, Sem.run_pure, Result.andThen_ok, List.map_toArray, List.map_cons, List.map_nil, hv, hx, hrun]
  exact hK _ _ (h A' c' w' h2 ((Below.refl _ _).grown h3 hbase (fun k hk => (hown.lt k hk).1)) h3 h4)

/-- s[k:k+m]: what the cut is, under one name. -/
theorem cutk_fact {P : Program} (t e : TypeId) (i : TypeInfo) (size : Nat) (ht : P.underlying t = some (.slice e)) (hi : P.info? e = some i) (hsz : i.size = size) {w : World} {B : Nat} {A : Option Addr} {xs : List Value} (h : Sees w B A xs)
    (n k m c : Nat) (K H : Int) (kl kh : IntKind) (hn : xs.length = n * size) (hkm : k + m ≤ n) (hK : K = (k : Int)) (hH : H = ((k + m : Nat) : Int)) (hc : n ≤ c) :
    ∃ A2, (∀ wx, (Instr.slice t (.slice A n c) (some (.int kl K)) (some (.int kh H)) none).run P wx = .ok (.slice A2 m (c - k)) wx) ∧ Sees w B A2 ((xs.drop (k * size)).take (m * size)) := by
  refine ⟨if c = k then A else A.map (·.add (k * size)), fun wx => ?_, ?_⟩
  · have he : P.elem t = e := by simp [Program.elem, ht]
    have ht' : P.underlying t = some (.slice (P.elem t)) := by rw [he]; exact ht
    rw [run_slice_lh wx t A n c ht' kl kh K H (by omega) (by omega) (by omega), he]
    simp [sizeOf, typeInfo, hi, hsz, sliced, hK, hH]
    try omega
  · intro hx
    rw [List.length_take, List.length_drop] at hx
    have hm : 0 < m := by
      rcases Nat.eq_zero_or_pos m with h0 | h0
      · rw [h0, Nat.zero_mul] at hx; simp at hx
      · exact h0
    obtain ⟨b, o, rfl, hb, hcell⟩ := h (by omega)
    rw [if_neg (by omega)]
    refine ⟨b, o + k * size, by simp [Addr.add], hb, fun j hj => ?_⟩
    rw [List.length_take, List.length_drop] at hj
    rw [Nat.add_assoc, hcell (k * size + j) (by omega)]
    simp
end Go.Proofs.YtdpghoobdkhilaaDoor

/- The words of a text: what the program's All returns. -/
namespace Go.Proofs.YtdpghoobdkhilaaDoor
set_option linter.unusedVariables false
set_option linter.unusedSimpArgs false
open Go Go.RowKit BitM MskM ValM LexM

namespace LexM
theorem lrun_stop (p : UInt8 → Bool) (l : List UInt8) : ∀ (n k : Nat), l.length - k = n → ∀ h : lrun p l k < l.length, p (l[lrun p l k]'h) = false
  | 0, k, hn, h => by
    have h1 := lrun_ge p l k
    omega
  | n + 1, k, hn, h => by
    have hk : k < l.length := by omega
    cases hp : p l[k] with
    | true =>
      have e := lrun_yes p l k hk hp
      have := lrun_stop p l n (k + 1) (by omega) (by omega)
      simpa only [e] using this
    | false =>
      have e := lrun_no p l k hk hp
      simpa only [e] using hp
def lcs (l : List Wd) : List Value := l.flatMap wcells4
theorem lcs_len (l : List Wd) : (lcs l).length = l.length * 4 := by
  induction l with
  | nil => rfl
  | cons x l ih => rw [lcs, List.flatMap_cons, List.length_append, show (l.flatMap wcells4).length = (lcs l).length from rfl, ih]; simp [wcells4]; omega
theorem lcs_snoc (l : List Wd) (x : Wd) : lcs (l ++ [x]) = lcs l ++ wcells4 x := by simp [lcs]
theorem lcs_one (l : List Wd) : ∀ u ∈ lcs l, u.oneCell' = true := fun u hu => by
  simp only [lcs, List.mem_flatMap, wcells4] at hu
  obtain ⟨x, _, hx⟩ := hu
  simp at hx
  rcases hx with rfl | rfl | rfl | rfl <;> rfl
end LexM
theorem info_lws : (Tryd.prog.info? 34).map (fun i => (i.zero, i.size, i.bytes)) = some (some (.agg #[.int .i64 0, .int .i64 0, .int .i64 0, .string ⟨#[]⟩]), 4, 40) := by kernel_rfl
theorem info_rlws : (Tryd.prog.info? 38).map (fun i => (i.zero, i.size, i.bytes)) = some (some (.agg #[.int .i64 0, .int .i64 0, .int .i64 0, .string ⟨#[]⟩]), 4, 40) := by kernel_rfl
/-- What All leaves: the words, in a row of its own; or the place of what is wrong. -/
def AllPost (T : TypeId) (RES : Option (List Wd) × Nat) (w : World) (e : Ending) (w' : World) : Prop :=
  (∃ L, RES = (some L, 0) ∧ ∃ A c, e = .returned (.tuple #[.slice A L.length c, .int .i64 0, .int .i64 0]) ∧ w'.ownsRow w.heap.size T 4 (.slice A L.length c) L.length (lcs L) ∧ Below w.heap.size w w' ∧ L.length ≤ 1000) ∨
  (∃ p : Nat, RES = (none, p) ∧ e = .returned (.tuple #[.slice none 0 0, .int .i64 (p : Int), .int .i64 3]) ∧ Below w.heap.size w w')
/-- A new word's cells, stored. -/
theorem word_put (w : World) (T : TypeId) (x : Wd) : ∃ W, W = w.alloc (.cells (wcells4 zw).toArray T) ∧ W.there w.heap.size 0 4 ∧ Blk (W.setCells w.heap.size 0 (wcells4 x)) w.heap.size (wcells4 x) ∧ Below w.heap.size w (W.setCells w.heap.size 0 (wcells4 x)) ∧ (W.setCells w.heap.size 0 (wcells4 x)).heap.size = w.heap.size + 1 := by
  have h0 := Blk.new w (wcells4 zw) T
  refine ⟨_, rfl, h0.there 0 4 (Nat.le_refl _), by simpa [wcells4, zw] using h0.sets (wcells4 x) 0 (Nat.le_refl _), below_sets (Nat.le_refl _) _ 0 ((Below.refl w.heap.size w).alloc (Nat.le_refl _) _), ?_⟩
  rw [size_sets]; simp

set_option maxRecDepth 100000 in
set_option maxHeartbeats 6400000 in
theorem all_any (t : ByteArray) (w : World) (hs : t.size ≤ 1000) (ht : Tab w) : Calls Tryd.prog 6 #[.string t] w fun e w' => AllPost 34 (lto t 0 []) w e w' := by
  have hu := Tryd.underlying34
  obtain ⟨i1, ji, jz0, jz1, jz2⟩ := info_parts info_lws
  have HSZ : Hid (t.data.toList.length = t.size) := Lib.hid (by simp)
  obtain ⟨RES, hRES⟩ : ∃ R, R = lto t 0 [] := ⟨_, rfl⟩
  rw [← hRES]
  have HP0 : Hid (lto t 0 [] = RES) := Lib.hid hRES.symm
  have HT := Lib.hid ht
  have hs1 : ¬ (1000 : Int) < (t.size : Int) := by omega
  clear hRES ht
  go_enter Tryd.func6, Tryd.ntmps6
  go_wp2_with fail
  refine wp_scope_jumps 0 (fun a' w' => ∃ (k : Nat) (acc : List Wd) (A : Option Addr) (m c : Nat) (u1 u7 u8 u9 u10 u11 u12 u13 u14 u15 u16 u17 u18 u19 u20 u21 u22 u23 u24 u25 u26 u27 u28 u29 u30 u31 u32 u33 u34 u35 : Value), a' = { tmps := #[.string t, u1, .slice none 0 0, .int .i64 0, .int .i64 0, .slice A m c, .int .i64 (k : Int), u7, u8, u9, u10, u11, u12, u13, u14, u15, u16, u17, u18, u19, u20, u21, u22, u23, u24, u25, u26, u27, u28, u29, u30, u31, u32, u33, u34, u35], defers := [] } ∧ k ≤ t.size ∧ m ≤ k ∧ Hid (acc.length = m) ∧ Hid (lto t k acc = RES) ∧ w'.ownsRow w.heap.size 34 4 (.slice A m c) m (lcs acc) ∧ Below w.heap.size w w') (fun a' _ => t.size - (intOf (a'.tmps.getD 6 undef)).toNat) rfl ?_ ?_
  · have HP := HP0
    have hb : Below w.heap.size w w := Below.refl _ _
    have hrow := World.ownsRow_nil w w.heap.size 34 4
    have HLEN : Hid (([] : List Wd).length = 0) := Lib.hid rfl
    go_wp2_with fail
    go_step3
    obtain ⟨j, hj⟩ : ∃ j, j = lrun blankB t.data.toList 0 := ⟨_, rfl⟩
    have hjk : 0 ≤ j := by rw [hj]; exact lrun_ge _ _ _
    have hjt : j ≤ t.size := by rw [hj, ← HSZ.out]; exact lrun_le _ _ _ (by rw [HSZ.out]; omega)
    have HB : Hid (∀ wx : World, Calls Tryd.prog 11 #[.string t, .int .i64 0, .func (.func 12) #[] #[]] wx fun y w' => y = .returned (.int .i64 (j : Int)) ∧ wx = w') := Lib.hid (fun wx => by rw [hj]; exact run_blank t 0 wx (by omega) hs)
    have HJ : Hid (lto t j ([] : List Wd) = RES) := Lib.hid (by rw [hj, ← lto_blanks t _ 0 _ rfl (by omega)]; exact HP.out)
    have HST : Hid (∀ h : j < t.size, (t[j]).toNat ≠ 32) := Lib.hid (by
      subst hj
      intro h e
      have h1 := lrun_stop blankB t.data.toList _ 0 rfl (by rw [HSZ.out]; exact h)
      have h2 : blankB (t.data.toList[lrun blankB t.data.toList 0]'(by rw [HSZ.out]; exact h)) = true := decide_eq_true e
      rw [h1] at h2
      cases h2)
    clear hj
    go_wp2_with fail
    refine (HB.out _).mono ?_
    rintro y w1 ⟨rfl, rfl⟩
    rcases Nat.lt_or_ge j t.size with hlt | hge
    · have d1 : (((j : Nat) : Int) == ((t.size : Nat) : Int)) = false := by rw [beq_eq_false_iff_ne]; omega
      have d2 : (j == t.size) = false := by rw [beq_eq_false_iff_ne]; omega
      cases hw : wone t j with
      | none =>
        have HW := Lib.hid (fun (wx : World) (hb : Below w.heap.size w wx) => (word_no t j wx hlt hs (HT.out.later hb) hw).1)
        have HE : Hid (RES = (none, j)) := Lib.hid (by rw [← HJ.out]; exact lto_bad t j _ hlt (HST.out hlt) hw)
        clear hw
        go_wp2_with fail
        refine (HW.out _ hb).mono ?_
        rintro y w2 ⟨⟨x', e', rfl⟩, hb2⟩
        obtain ⟨W3, hW3, TH, F3, B3, z3⟩ := word_put w2 34 x'
        subst hW3
        have ON := wcells4_one x'
        have hb3 := hb.trans (hb2.mono hb.size)
        have BE := Lib.hid (hb3.trans (B3.mono hb3.size))
        clear hb2 hb3 F3 B3 z3
        go_wp2_with (first
          | (refine wpList_store_mid rfl 34 (.tmp 7) (.tmp 25) rfl w2.heap.size 0 (wcells4 x').toArray rfl rfl TH info_lw ON ?_
             simp only [Act.put]
             generalize hw4 : World.setCells _ w2.heap.size 0 (wcells4 x').toArray.toList = w4
             have BE1 : Below w.heap.size w w4 := hw4 ▸ BE.out
             clear hw4 TH BE)
          | fail)
        try simp only [Exit.jump]
        try rw [Exit.noGoto_ret]
        go_ret3
        exact .inr ⟨j, HE.out, rfl, BE1⟩
      | some xe =>
        obtain ⟨x, e⟩ := xe
        obtain ⟨hje, het⟩ := wone_past hw
        dsimp only at hje het
        have HW := Lib.hid (fun (wx : World) (hb : Below w.heap.size w wx) => (word_yes t j wx hlt hs (HT.out.later hb) x e hw).1)
        have HN0 : Hid (lto t e (([] : List Wd) ++ [x]) = RES) := Lib.hid (by rw [← HJ.out]; exact (lto_word t j _ hlt (HST.out hlt) _ hw).symm)
        obtain ⟨x0, x1, x2, x3⟩ := x
        obtain ⟨acc2, hacc2⟩ : ∃ a, a = ([] : List Wd) ++ [(x0, x1, x2, x3)] := ⟨_, rfl⟩
        have HLEN2 : Hid (acc2.length = 0 + 1) := Lib.hid (by rw [hacc2, List.length_append, HLEN.out]; rfl)
        have HNC : Hid (lcs ([] : List Wd) ++ [.int .i64 x0, .int .i64 x1, .int .i64 x2, .string x3] = lcs acc2) := Lib.hid (by rw [hacc2, lcs_snoc]; rfl)
        have HN : Hid (lto t e acc2 = RES) := Lib.hid (by rw [hacc2]; exact HN0.out)
        clear hw hacc2 HN0
        go_wp2_with fail
        refine (HW.out _ hb).mono ?_
        rintro y w2 ⟨rfl, hb2⟩
        obtain ⟨W3, hW3, TH, F3, B3, z3⟩ := word_put w2 34 (x0, x1, x2, x3)
        subst hW3
        have ON := wcells4_one (x0, x1, x2, x3)
        have hb3 := hb.trans (hb2.mono hb.size)
        have BE := Lib.hid (hb3.trans (B3.mono hb3.size))
        have RE := Lib.hid (row_later (row_later hrow hb2) B3)
        clear hb2 hb3 B3 z3 HW HB
        go_wp2_with (first
          | (refine wpList_store_mid rfl 34 (.tmp 7) (.tmp 25) rfl w2.heap.size 0 (wcells4 (x0, x1, x2, x3)).toArray rfl rfl TH info_lw ON ?_
             simp only [Act.put]
             generalize hw4 : World.setCells _ w2.heap.size 0 (wcells4 (x0, x1, x2, x3)).toArray.toList = w4
             have F4 : Blk w4 w2.heap.size (wcells4 (x0, x1, x2, x3)) := hw4 ▸ F3
             have BE1 : Below w.heap.size w w4 := hw4 ▸ BE.out
             have RE1 : w4.ownsRow w.heap.size 34 4 (.slice none 0 0) 0 (lcs ([] : List Wd)) := hw4 ▸ RE.out
             have R4 : w4.rangeAt w2.heap.size 0 [.int .i64 x0, .int .i64 x1, .int .i64 x2, .string x3] := F4.range 0 _ rfl
             have RE2 := Lib.hid (World.ownsRow.alloc RE1 (.cells #[.int .i64 x0, .int .i64 x1, .int .i64 x2, .string x3] 34))
             have hz4 := BE1.size
             clear hw4 TH BE F3 RE F4 RE1)
          | (refine wpList_load_mid rfl 34 (.tmp 7) rfl w2.heap.size 0 rfl [.int .i64 x0, .int .i64 x1, .int .i64 x2, .string x3] _ R4 hu rfl info_lw ?_)
          | (at_builtin
             refine wpList_appk _ rfl (.tmp 31) (.tmp 33) 23 rfl w.heap.size 34 i1 _ 4 40 Tryd.underlying23 ji jz0 jz1 jz2 rfl (by decide) ((.slice none 0 0)) 0 (lcs ([] : List Wd)) rfl RE2.out (w4.heap.size + 1) (some ⟨w4.heap.size, 0, none⟩) 1 [.int .i64 x0, .int .i64 x1, .int .i64 x2, .string x3] 1 rfl rfl (sees_lit w4 #[.int .i64 x0, .int .i64 x1, .int .i64 x2, .string x3] 34 (0, 0) [.int .i64 x0, .int .i64 x1, .int .i64 x2, .string x3] rfl) (by simp [Value.oneCell']) (by unfold maxLen; omega) (by omega) (by simp; omega) ?_
             intro A3 c3 w5 hr3 hb5 hg3 hat3)
          | fail)
        rw [HNC.out] at hr3
        have BZ := Lib.hid (BE1.trans (((Below.refl w4.heap.size w4).alloc (Nat.le_refl _) (.cells #[.int .i64 x0, .int .i64 x1, .int .i64 x2, .string x3] 34)).mono hz4 |>.trans hb5))
        clear hb5 hg3 hat3 R4 RE2 BE1
        go_step3
        exact ⟨rfl, e, acc2, A3, _, c3, _, _, _, _, _, _, _, _, _, _, _, _, _, _, _, _, _, _, _, _, _, _, _, _, _, _, _, _, _, _, rfl, het, by omega, HLEN2, HN, hr3, BZ.out⟩
    · have hjz : j = t.size := by omega
      have d1 : (((j : Nat) : Int) == ((t.size : Nat) : Int)) = true := by rw [hjz]; exact beq_self_eq_true _
      have d2 : (j == t.size) = true := by rw [hjz]; exact beq_self_eq_true _
      have HE : Hid (RES = (some ([] : List Wd), 0)) := Lib.hid (by rw [← HJ.out]; exact lto_end t j _ hge)
      have BE := Lib.hid hb
      have RE := Lib.hid hrow
      clear hjz hge
      go_wp2_with fail
      try simp only [Exit.jump]
      try rw [Exit.noGoto_ret]
      go_ret3
      exact .inl ⟨([] : List Wd), HE.out, _, _, by rw [HLEN.out]; rfl, by rw [HLEN.out]; exact RE.out, BE.out, by rw [HLEN.out]; omega⟩
  · rintro a' wr ⟨k, acc, A, m, c, u1, u7, u8, u9, u10, u11, u12, u13, u14, u15, u16, u17, u18, u19, u20, u21, u22, u23, u24, u25, u26, u27, u28, u29, u30, u31, u32, u33, u34, u35, rfl, hk, hm, HLEN, HP, hrow, hb⟩
    obtain ⟨j, hj⟩ : ∃ j, j = lrun blankB t.data.toList k := ⟨_, rfl⟩
    have hjk : k ≤ j := by rw [hj]; exact lrun_ge _ _ _
    have hjt : j ≤ t.size := by rw [hj, ← HSZ.out]; exact lrun_le _ _ _ (by rw [HSZ.out]; omega)
    have HB : Hid (∀ wx : World, Calls Tryd.prog 11 #[.string t, .int .i64 (k : Int), .func (.func 12) #[] #[]] wx fun y w' => y = .returned (.int .i64 (j : Int)) ∧ wx = w') := Lib.hid (fun wx => by rw [hj]; exact run_blank t k wx (by omega) hs)
    have HJ : Hid (lto t j acc = RES) := Lib.hid (by rw [hj, ← lto_blanks t _ k _ rfl (by omega)]; exact HP.out)
    have HST : Hid (∀ h : j < t.size, (t[j]).toNat ≠ 32) := Lib.hid (by
      subst hj
      intro h e
      have h1 := lrun_stop blankB t.data.toList _ k rfl (by rw [HSZ.out]; exact h)
      have h2 : blankB (t.data.toList[lrun blankB t.data.toList k]'(by rw [HSZ.out]; exact h)) = true := decide_eq_true e
      rw [h1] at h2
      cases h2)
    clear hj
    go_wp2_with fail
    refine (HB.out _).mono ?_
    rintro y w1 ⟨rfl, rfl⟩
    rcases Nat.lt_or_ge j t.size with hlt | hge
    · have d1 : (((j : Nat) : Int) == ((t.size : Nat) : Int)) = false := by rw [beq_eq_false_iff_ne]; omega
      have d2 : (j == t.size) = false := by rw [beq_eq_false_iff_ne]; omega
      cases hw : wone t j with
      | none =>
        have HW := Lib.hid (fun (wx : World) (hb : Below w.heap.size w wx) => (word_no t j wx hlt hs (HT.out.later hb) hw).1)
        have HE : Hid (RES = (none, j)) := Lib.hid (by rw [← HJ.out]; exact lto_bad t j _ hlt (HST.out hlt) hw)
        clear hw
        go_wp2_with fail
        refine (HW.out _ hb).mono ?_
        rintro y w2 ⟨⟨x', e', rfl⟩, hb2⟩
        obtain ⟨W3, hW3, TH, F3, B3, z3⟩ := word_put w2 34 x'
        subst hW3
        have ON := wcells4_one x'
        have hb3 := hb.trans (hb2.mono hb.size)
        have BE := Lib.hid (hb3.trans (B3.mono hb3.size))
        clear hb2 hb3 F3 B3 z3
        go_wp2_with (first
          | (refine wpList_store_mid rfl 34 (.tmp 7) (.tmp 25) rfl w2.heap.size 0 (wcells4 x').toArray rfl rfl TH info_lw ON ?_
             simp only [Act.put]
             generalize hw4 : World.setCells _ w2.heap.size 0 (wcells4 x').toArray.toList = w4
             have BE1 : Below w.heap.size w w4 := hw4 ▸ BE.out
             clear hw4 TH BE)
          | fail)
        try simp only [Exit.jump]
        try rw [Exit.noGoto_ret]
        go_ret3
        exact .inr ⟨j, HE.out, rfl, BE1⟩
      | some xe =>
        obtain ⟨x, e⟩ := xe
        obtain ⟨hje, het⟩ := wone_past hw
        dsimp only at hje het
        have HW := Lib.hid (fun (wx : World) (hb : Below w.heap.size w wx) => (word_yes t j wx hlt hs (HT.out.later hb) x e hw).1)
        have HN0 : Hid (lto t e (acc ++ [x]) = RES) := Lib.hid (by rw [← HJ.out]; exact (lto_word t j _ hlt (HST.out hlt) _ hw).symm)
        obtain ⟨x0, x1, x2, x3⟩ := x
        obtain ⟨acc2, hacc2⟩ : ∃ a, a = acc ++ [(x0, x1, x2, x3)] := ⟨_, rfl⟩
        have HLEN2 : Hid (acc2.length = m + 1) := Lib.hid (by rw [hacc2, List.length_append, HLEN.out]; rfl)
        have HNC : Hid (lcs acc ++ [.int .i64 x0, .int .i64 x1, .int .i64 x2, .string x3] = lcs acc2) := Lib.hid (by rw [hacc2, lcs_snoc]; rfl)
        have HN : Hid (lto t e acc2 = RES) := Lib.hid (by rw [hacc2]; exact HN0.out)
        clear hw hacc2 HN0
        go_wp2_with fail
        refine (HW.out _ hb).mono ?_
        rintro y w2 ⟨rfl, hb2⟩
        obtain ⟨W3, hW3, TH, F3, B3, z3⟩ := word_put w2 34 (x0, x1, x2, x3)
        subst hW3
        have ON := wcells4_one (x0, x1, x2, x3)
        have hb3 := hb.trans (hb2.mono hb.size)
        have BE := Lib.hid (hb3.trans (B3.mono hb3.size))
        have RE := Lib.hid (row_later (row_later hrow hb2) B3)
        clear hb2 hb3 B3 z3 HW HB
        go_wp2_with (first
          | (refine wpList_store_mid rfl 34 (.tmp 7) (.tmp 25) rfl w2.heap.size 0 (wcells4 (x0, x1, x2, x3)).toArray rfl rfl TH info_lw ON ?_
             simp only [Act.put]
             generalize hw4 : World.setCells _ w2.heap.size 0 (wcells4 (x0, x1, x2, x3)).toArray.toList = w4
             have F4 : Blk w4 w2.heap.size (wcells4 (x0, x1, x2, x3)) := hw4 ▸ F3
             have BE1 : Below w.heap.size w w4 := hw4 ▸ BE.out
             have RE1 : w4.ownsRow w.heap.size 34 4 (.slice A m c) m (lcs acc) := hw4 ▸ RE.out
             have R4 : w4.rangeAt w2.heap.size 0 [.int .i64 x0, .int .i64 x1, .int .i64 x2, .string x3] := F4.range 0 _ rfl
             have RE2 := Lib.hid (World.ownsRow.alloc RE1 (.cells #[.int .i64 x0, .int .i64 x1, .int .i64 x2, .string x3] 34))
             have hz4 := BE1.size
             clear hw4 TH BE F3 RE F4 RE1)
          | (refine wpList_load_mid rfl 34 (.tmp 7) rfl w2.heap.size 0 rfl [.int .i64 x0, .int .i64 x1, .int .i64 x2, .string x3] _ R4 hu rfl info_lw ?_)
          | (at_builtin
             refine wpList_appk _ rfl (.tmp 31) (.tmp 33) 23 rfl w.heap.size 34 i1 _ 4 40 Tryd.underlying23 ji jz0 jz1 jz2 rfl (by decide) ((.slice A m c)) m (lcs acc) rfl RE2.out (w4.heap.size + 1) (some ⟨w4.heap.size, 0, none⟩) 1 [.int .i64 x0, .int .i64 x1, .int .i64 x2, .string x3] 1 rfl rfl (sees_lit w4 #[.int .i64 x0, .int .i64 x1, .int .i64 x2, .string x3] 34 (0, 0) [.int .i64 x0, .int .i64 x1, .int .i64 x2, .string x3] rfl) (by simp [Value.oneCell']) (by unfold maxLen; omega) (by omega) (by simp; omega) ?_
             intro A3 c3 w5 hr3 hb5 hg3 hat3)
          | fail)
        rw [HNC.out] at hr3
        have BZ := Lib.hid (BE1.trans (((Below.refl w4.heap.size w4).alloc (Nat.le_refl _) (.cells #[.int .i64 x0, .int .i64 x1, .int .i64 x2, .string x3] 34)).mono hz4 |>.trans hb5))
        clear hb5 hg3 hat3 R4 RE2 BE1
        go_step3
        refine ⟨rfl, ⟨e, acc2, A3, _, c3, _, _, _, _, _, _, _, _, _, _, _, _, _, _, _, _, _, _, _, _, _, _, _, _, _, _, _, _, _, _, rfl, het, by omega, HLEN2, HN, hr3, BZ.out⟩, ?_⟩
        simp [intOf]; omega
    · have hjz : j = t.size := by omega
      have d1 : (((j : Nat) : Int) == ((t.size : Nat) : Int)) = true := by rw [hjz]; exact beq_self_eq_true _
      have d2 : (j == t.size) = true := by rw [hjz]; exact beq_self_eq_true _
      have HE : Hid (RES = (some acc, 0)) := Lib.hid (by rw [← HJ.out]; exact lto_end t j _ hge)
      have BE := Lib.hid hb
      have RE := Lib.hid hrow
      clear hjz hge
      go_wp2_with fail
      try simp only [Exit.jump]
      try rw [Exit.noGoto_ret]
      go_ret3
      exact .inl ⟨acc, HE.out, _, _, by rw [HLEN.out]; rfl, by rw [HLEN.out]; exact RE.out, BE.out, by rw [HLEN.out]; omega⟩
end Go.Proofs.YtdpghoobdkhilaaDoor

/- The words of a text: the document's All; words that are the same; the iterator over words. -/
namespace Go.Proofs.YtdpghoobdkhilaaDoor
set_option linter.unusedVariables false
set_option linter.unusedSimpArgs false
open Go Go.RowKit BitM MskM ValM LexM

theorem lcs_at (l : List Wd) : ∀ (k : Nat) (hk : k < l.length) (j : Nat) (v : Value), (wcells4 l[k])[j]? = some v → (lcs l)[k * 4 + j]? = some v := by
  induction l with
  | nil => intro k hk; simp at hk
  | cons x l ih =>
    intro k hk j v h
    rw [show lcs (x :: l) = wcells4 x ++ lcs l from rfl]
    cases k with
    | zero =>
      have hj : j < (wcells4 x).length := (List.getElem?_eq_some_iff.1 h).1
      rw [Nat.zero_mul, Nat.zero_add, List.getElem?_append_left hj]
      exact h
    | succ k =>
      rw [List.getElem?_append_right (by simp [wcells4]; omega), show (k + 1) * 4 + j - (wcells4 x).length = k * 4 + j by simp [wcells4]; omega]
      exact ih k (by simpa using hk) j v h
theorem sees_word {w : World} {B : Nat} {A : Option Addr} {l : List Wd} (hs : Sees w B A (lcs l)) (k : Nat) (hk : k < l.length) :
    ∃ b o, A = some ⟨b, o, none⟩ ∧ b < B ∧ w.cell? ⟨b, o + k * 4, none⟩ = some (.int .i64 l[k].1) ∧ w.cell? ⟨b, o + k * 4 + 1, none⟩ = some (.int .i64 l[k].2.1) ∧ w.cell? ⟨b, o + k * 4 + 2, none⟩ = some (.int .i64 l[k].2.2.1) ∧
      w.cell? ⟨b, o + k * 4 + 3, none⟩ = some (.string l[k].2.2.2) ∧ w.rangeAt b (o + k * 4) (wcells4 l[k]) := by
  obtain ⟨b, o, e, hb, hc⟩ := hs (by rw [lcs_len]; omega)
  have key : ∀ j v, (wcells4 l[k])[j]? = some v → w.cell? ⟨b, o + k * 4 + j, none⟩ = some v := fun j v hj => by
    have h1 := lcs_at l k hk j v hj
    obtain ⟨h2, h3⟩ := List.getElem?_eq_some_iff.1 h1
    have := hc (k * 4 + j) h2
    rw [h3] at this
    rw [Nat.add_assoc]
    exact this
  exact ⟨b, o, e, hb, key 0 _ rfl, key 1 _ rfl, key 2 _ rfl, key 3 _ rfl, key⟩

set_option maxRecDepth 100000 in
set_option maxHeartbeats 3200000 in
theorem wsame_yes (A : Option Addr) (n c : Nat) (A' : Option Addr) (c' : Nat) (l : List Wd) (w : World) (hn : l.length = n) (hs : Sees w w.heap.size A (lcs l)) (hs' : Sees w w.heap.size A' (lcs l)) (hm : n ≤ 65536) :
    Calls Tryd.prog 9 #[.slice A n c, .slice A' n c'] w fun e w' => e = .returned (.bool true) ∧ Below w.heap.size w w' := by
  have HN := Lib.hid hn
  have hbe : ((n : Int) != (n : Int)) = false := by simp
  clear hn
  go_enter Tryd.func9, Tryd.ntmps9
  go_wp2_with fail
  go_loopw [5] (fun i wr => ∃ k : Nat, k ≤ n ∧ i = .int .i64 k ∧ Below w.heap.size w wr) (fun i _ => n - (intOf i).toNat)
  case atStart => exact ⟨0, Nat.zero_le _, rfl, Below.refl _ _⟩
  case round =>
    obtain ⟨k, hk, rfl, hbr⟩ := hrel
    by_cases hlt : k < n
    · have hkl : k < l.length := by rw [HN.out]; exact hlt
      have hki : (k : Int) < (n : Int) := by omega
      have hki0 : (0 : Int) ≤ (k : Int) := by omega
      have d1 : decide ((k : Int) < (n : Int)) = true := by simp; omega
      obtain ⟨b, o, rfl, hb, c0, c1, c2, c3, _⟩ := sees_word ((hs.below hbr)) k hkl
      obtain ⟨b', o', rfl, hb', c0', c1', c2', c3', _⟩ := sees_word ((hs'.below hbr)) k hkl
      obtain ⟨⟨x0, x1, x2, x3⟩, hx⟩ : ∃ x, x = l[k] := ⟨_, rfl⟩
      rw [← hx] at c0 c1 c2 c3 c0' c1' c2' c3'
      dsimp only at c0 c1 c2 c3 c0' c1' c2' c3'
      clear hx hs hs'
      go_wp2_with fail
      go_quiet (fail)
      go_wp2_with fail
      go_roundw
      case rel => exact ⟨k + 1, by omega, by go_num, below_drewN hbr _⟩
      case measure => simp [intOf]; omega
    · obtain rfl : k = n := by omega
      have d1 : decide ((k : Int) < (k : Int)) = false := by simp
      go_wp2_with fail
      go_ret
      exact ⟨rfl, hbr⟩

theorem each_any (t : ByteArray) (w : World) : Calls Tryd.prog 8 #[.string t] w fun e w' =>
    e = .returned (.func (.func 15) #[] #[.pointer (some ⟨w.heap.size, 0, none⟩)]) ∧ w' = w.alloc (.cells #[.string t] 9) := by
  go_enter Tryd.func8, Tryd.ntmps8
  go_wp2
  go_ret
  exact ⟨rfl, rfl⟩

set_option maxRecDepth 100000 in
set_option maxHeartbeats 6400000 in
theorem rall_any (t : ByteArray) (w : World) (hs : t.size ≤ 1000) (ht : Tab w) : Calls Tryd.prog 7 #[.string t] w fun e w' => AllPost 38 (lto t 0 []) w e w' := by
  have hu := Tryd.underlying38
  obtain ⟨i1, ji, jz0, jz1, jz2⟩ := info_parts info_rlws
  have HSZ : Hid (t.data.toList.length = t.size) := Lib.hid (by simp)
  obtain ⟨RES, hRES⟩ : ∃ R, R = lto t 0 [] := ⟨_, rfl⟩
  rw [← hRES]
  have HP0 : Hid (lto t 0 [] = RES) := Lib.hid hRES.symm
  have HT := Lib.hid ht
  have hs1 : ¬ (1000 : Int) < (t.size : Int) := by omega
  have R0 := Lib.hid (row_lit w w.heap.size 38 4 0 #[] (Nat.le_refl _) (by simp [maxLen]) rfl)
  clear hRES ht
  go_enter Tryd.func7, Tryd.ntmps7
  go_wp2_with fail
  go_loopw [5, 6] (fun v i wr => ∃ (k : Nat) (acc : List Wd) (A : Option Addr) (m c : Nat), k ≤ t.size ∧ m ≤ k ∧ i = .int .i64 k ∧ v = .slice A m c ∧ Hid (acc.length = m) ∧ Hid (lto t k acc = RES) ∧ wr.ownsRow w.heap.size 38 4 (.slice A m c) m (lcs acc) ∧ Below w.heap.size w wr) (fun _ i _ => t.size - (intOf i).toNat)
  case atStart => exact ⟨0, [], _, 0, 0, Nat.zero_le _, Nat.le_refl _, rfl, rfl, Lib.hid rfl, HP0, R0.out, (Below.refl _ w).alloc (Nat.le_refl _) _⟩
  case round =>
    clear R0
    obtain ⟨k, acc, A, m, c, hk, hm, rfl, rfl, HLEN, HP, hrow, hb⟩ := hrel
    rcases Nat.lt_or_ge k t.size with hlt | hge
    · have d1 : decide ((k : Int) < (t.size : Int)) = true := by simp; omega
      by_cases h32 : (t[k]).toNat = 32
      · have b1 : (((t[k]).toNat : Int) == 32) = true := by rw [h32]; rfl
        have HN : Hid (lto t (k + 1) acc = RES) := Lib.hid (by rw [← HP.out]; exact (lto_blank t k _ hlt h32).symm)
        have HB := Lib.hid hb
        have HR := Lib.hid hrow
        clear h32 hb hrow
        go_wp2_with fail
        go_roundw
        case rel => exact ⟨k + 1, acc, A, m, c, by omega, by omega, by go_num, rfl, HLEN, HN, HR.out, HB.out⟩
        case measure => simp [intOf]; omega
      · have b1 : (((t[k]).toNat : Int) == 32) = false := by rw [beq_eq_false_iff_ne]; omega
        cases hw : wone t k with
        | none =>
          have HW := Lib.hid (fun (wx : World) (hb : Below w.heap.size w wx) => (word_no t k wx hlt hs (HT.out.later hb) hw).2)
          have HE : Hid (RES = (none, k)) := Lib.hid (by rw [← HP.out]; exact lto_bad t k _ hlt h32 hw)
          clear hw h32
          go_wp2_with fail
          refine (HW.out _ hb).mono ?_
          rintro y w2 ⟨rfl, hb2⟩
          obtain ⟨W3, hW3, TH, F3, B3, z3⟩ := word_put w2 38 zw
          subst hW3
          have ON := wcells4_one zw
          have hb3 := hb.trans (hb2.mono hb.size)
          have BE := Lib.hid (hb3.trans (B3.mono hb3.size))
          clear hb2 hb3 F3 B3 z3
          go_wp2_with (first
            | (refine wpList_store_mid rfl 38 (.tmp 7) (.tmp 27) rfl w2.heap.size 0 (wcells4 zw).toArray rfl rfl TH info_rlw ON ?_
               simp only [Act.put]
               generalize hw4 : World.setCells _ w2.heap.size 0 (wcells4 zw).toArray.toList = w4
               have BE1 : Below w.heap.size w w4 := hw4 ▸ BE.out
               clear hw4 TH BE)
            | fail)
          go_ret3
          exact .inr ⟨k, HE.out, rfl, BE1⟩
        | some xe =>
          obtain ⟨x, e⟩ := xe
          obtain ⟨hje, het⟩ := wone_past hw
          dsimp only at hje het
          have HW := Lib.hid (fun (wx : World) (hb : Below w.heap.size w wx) => (word_yes t k wx hlt hs (HT.out.later hb) x e hw).2)
          have HN0 : Hid (lto t e (acc ++ [x]) = RES) := Lib.hid (by rw [← HP.out]; exact (lto_word t k _ hlt h32 _ hw).symm)
          obtain ⟨x0, x1, x2, x3⟩ := x
          obtain ⟨acc2, hacc2⟩ : ∃ a, a = acc ++ [(x0, x1, x2, x3)] := ⟨_, rfl⟩
          have HLEN2 : Hid (acc2.length = m + 1) := Lib.hid (by rw [hacc2, List.length_append, HLEN.out]; rfl)
          have HNC : Hid (lcs acc ++ [.int .i64 x0, .int .i64 x1, .int .i64 x2, .string x3] = lcs acc2) := Lib.hid (by rw [hacc2, lcs_snoc]; rfl)
          have HN : Hid (lto t e acc2 = RES) := Lib.hid (by rw [hacc2]; exact HN0.out)
          have n0 : (((e : Nat) : Int) == 0) = false := by rw [beq_eq_false_iff_ne]; omega
          clear hw hacc2 HN0 h32
          go_wp2_with fail
          refine (HW.out _ hb).mono ?_
          rintro y w2 ⟨rfl, hb2⟩
          obtain ⟨W3, hW3, TH, F3, B3, z3⟩ := word_put w2 38 (x0, x1, x2, x3)
          subst hW3
          have ON := wcells4_one (x0, x1, x2, x3)
          have hb3 := hb.trans (hb2.mono hb.size)
          have BE := Lib.hid (hb3.trans (B3.mono hb3.size))
          have RE := Lib.hid (row_later (row_later hrow hb2) B3)
          clear hb2 hb3 B3 z3 HW
          go_wp2_with (first
            | (refine wpList_store_mid rfl 38 (.tmp 7) (.tmp 27) rfl w2.heap.size 0 (wcells4 (x0, x1, x2, x3)).toArray rfl rfl TH info_rlw ON ?_
               simp only [Act.put]
               generalize hw4 : World.setCells _ w2.heap.size 0 (wcells4 (x0, x1, x2, x3)).toArray.toList = w4
               have F4 : Blk w4 w2.heap.size (wcells4 (x0, x1, x2, x3)) := hw4 ▸ F3
               have BE1 : Below w.heap.size w w4 := hw4 ▸ BE.out
               have RE1 : w4.ownsRow w.heap.size 38 4 (.slice A m c) m (lcs acc) := hw4 ▸ RE.out
               have R4 : w4.rangeAt w2.heap.size 0 [.int .i64 x0, .int .i64 x1, .int .i64 x2, .string x3] := F4.range 0 _ rfl
               have RE2 := Lib.hid (World.ownsRow.alloc RE1 (.cells #[.int .i64 x0, .int .i64 x1, .int .i64 x2, .string x3] 38))
               have hz4 := BE1.size
               clear hw4 TH BE F3 RE F4 RE1)
            | (refine wpList_load_mid rfl 38 (.tmp 7) rfl w2.heap.size 0 rfl [.int .i64 x0, .int .i64 x1, .int .i64 x2, .string x3] _ R4 hu rfl info_rlw ?_)
            | (at_builtin
               refine wpList_appk _ rfl (.tmp 32) (.tmp 34) 27 rfl w.heap.size 38 i1 _ 4 40 Tryd.underlying27 ji jz0 jz1 jz2 rfl (by decide) (.slice A m c) m (lcs acc) rfl RE2.out (w4.heap.size + 1) (some ⟨w4.heap.size, 0, none⟩) 1 [.int .i64 x0, .int .i64 x1, .int .i64 x2, .string x3] 1 rfl rfl (sees_lit w4 #[.int .i64 x0, .int .i64 x1, .int .i64 x2, .string x3] 38 (0, 0) [.int .i64 x0, .int .i64 x1, .int .i64 x2, .string x3] rfl) (by simp [Value.oneCell']) (by unfold maxLen; omega) (by omega) (by simp; omega) ?_
               intro A3 c3 w5 hr3 hb5 hg3 hat3)
            | fail)
          rw [HNC.out] at hr3
          have BZ := Lib.hid (BE1.trans (((Below.refl w4.heap.size w4).alloc (Nat.le_refl _) (.cells #[.int .i64 x0, .int .i64 x1, .int .i64 x2, .string x3] 38)).mono hz4 |>.trans hb5))
          clear hb5 hg3 hat3 R4 RE2 BE1
          go_roundw
          case rel => exact ⟨e, acc2, A3, _, c3, het, by omega, rfl, rfl, HLEN2, HN, hr3, BZ.out⟩
          case measure => simp [intOf]; omega
    · have d1 : decide ((k : Int) < (t.size : Int)) = false := by simp; omega
      have HE : Hid (RES = (some acc, 0)) := Lib.hid (by rw [← HP.out]; exact lto_end t k _ hge)
      have BE := Lib.hid hb
      have RE := Lib.hid hrow
      clear hb hrow
      go_wp2_with fail
      go_ret3
      exact .inl ⟨acc, HE.out, _, _, by rw [HLEN.out]; rfl, by rw [HLEN.out]; exact RE.out, BE.out, by rw [HLEN.out]; omega⟩
end Go.Proofs.YtdpghoobdkhilaaDoor
