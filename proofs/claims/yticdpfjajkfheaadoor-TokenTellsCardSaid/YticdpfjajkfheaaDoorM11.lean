/- TokenTells: the walk. -/
import Derived.Test.YticdpfjajkfheaaDoorM8
import Derived.Test.YticdpfjajkfheaaDoorM10
import Derived.Test.YticdpfjajkfheaaDoorM6
import Derived.Test.YticdpfjajkfheaaDoorM4
namespace Go.Proofs.YticdpfjajkfheaaDoor
set_option linter.unusedVariables false
set_option linter.unusedSimpArgs false
open Go Go.RowKit BitM MskM OctM

theorem conv_gives {a : Act} {op : Oper} (x : Operand) (ho : op.op = .convert 9 48 x) (t : ByteArray) (hx : a.eval x = .string t) (w : World) : gives Tryd.prog op a (relSee t.size t.data.toList).rel w := by
  obtain ⟨c, w1, h, hb, hs⟩ := bytes_conv w t
  unfold gives
  rw [exec_convw x _ _ ho _ hx _ h]
  exact ⟨hb, _, c, rfl, hs⟩
theorem sees_see {w : World} {xs : List UInt8} {n : Nat} (hn : xs.length = n) {e : Ending} {w' : World} (h : SeesBytes w xs e w') : ∃ v, e = .returned v ∧ Below w.heap.size w w' ∧ (relSee n xs).rel v w' := by
  obtain ⟨A, c, rfl, ho, hb⟩ := h
  subst hn
  exact ⟨_, rfl, hb, A, c, rfl, ho⟩

set_option maxRecDepth 100000 in
set_option maxHeartbeats 6400000 in
theorem walk_toktells (d p s c d' p' s' c' : Int) (t : ByteArray) (mm : Int) (w : World) (hmm : w.cell? ⟨0, 0, none⟩ = some (.int .i64 mm)) (ht : Tab w) :
    Calls Tryd.prog 5 #[.agg (tks d p s c).toArray, .agg (tks d' p' s' c').toArray, .string t] w fun e w' => e = .returned (.bool true) ∧ Below w.heap.size w w' := by
  have HAW := Lib.hid (fun (wx : World) (hb : Below w.heap.size w wx) => tok_awake wx (ht.later hb))
  have hu := Tryd.underlying42
  have B0 := Blk.new w (tks d p s c) 42
  have B1 := Blk.new (w.alloc (.cells (tks d p s c).toArray 42)) (tks d' p' s' c') 42
  have hb := ((Below.refl w.heap.size w).alloc (Nat.le_refl _) (.cells (tks d p s c).toArray 42)).alloc (by simp) (.cells (tks d' p' s' c').toArray 42)
  replace B0 := B0.alloc (.cells (tks d' p' s' c').toArray 42)
  have hs1 : (w.alloc (.cells (tks d p s c).toArray 42)).heap.size = w.heap.size + 1 := by simp
  rw [hs1] at B1
  have HP : Hid (∀ wx, Blk wx w.heap.size (tks d p s c) → wx.cell? ⟨w.heap.size, 0, none⟩ = some (.int .i64 d) ∧ wx.cell? ⟨w.heap.size, 1, none⟩ = some (.int .i64 p) ∧ wx.cell? ⟨w.heap.size, 2, none⟩ = some (.int .i64 s) ∧ wx.cell? ⟨w.heap.size, 3, none⟩ = some (.int .i64 c)) := Lib.hid fun wx h => ⟨h.cell rfl, h.cell rfl, h.cell rfl, h.cell rfl⟩
  by_cases h5 : t.size ≤ 500
  · have d3 : decide ((500 : Int) < (t.size : Int)) = false := by simp; omega
    have HPA := Lib.hid (fun (wx : World) (hx : Below w.heap.size w wx) => tparse_any t mm wx (by omega) (max_later (B := 0) hmm hx) (ht.later hx))
    have HPB := Lib.hid (fun (wx : World) => rtparse_any t wx (by omega))
    obtain ⟨⟨⟨x0, x1, x2, x3⟩, xo⟩, hq⟩ : ∃ q, q = tpv t.data.toList := ⟨_, rfl⟩
    rw [rpv_tpv, ← hq] at HPB
    rw [← hq] at HPA
    simp only [tq] at HPA HPB
    clear hq
    have HC := Lib.hid (fun wx : World => tcheck_any d p s c wx)
    have HRC := Lib.hid (fun wx : World => rtcheck_any d p s c wx)
    have HF := Lib.hid (fun wx : World => tfirst_any d p s wx)
    have HW := Lib.hid (fun wx : World => twhole_any d p s c wx)
    have HGO := Lib.hid (fun wx : World => tgoes_any d p s c d' p' s' c' wx)
    have HRG := Lib.hid (fun wx : World => rtgoes_any d p s c d' p' s' c' wx)
    obtain ⟨go, hgo⟩ : ∃ z, z = tgo d p s c d' p' s' c' := ⟨_, rfl⟩
    rw [← hgo] at HGO HRG
    clear hgo
    have hTN : t.data.toList.length = t.size := by simp
    have HPU := Lib.hid (fun (A : Option Addr) (c0 : Nat) (wx : World) (hs : Sees wx wx.heap.size A (bvs t.data.toList)) => tput_any d p s c A t.size c0 t.data.toList wx hTN hs (by omega))
    have HRP := Lib.hid (fun wx : World => rtput_any d p s c wx)
    have HS := Lib.hid (fun (wx : World) (hx : Below w.heap.size w wx) => tshow_any d p s c wx (ht.later hx))
    have HRS := Lib.hid (fun wx : World => rtshow_any d p s c wx)
    obtain ⟨sh, hsh⟩ : ∃ z, z = str (tsh d p s c) := ⟨_, rfl⟩
    rw [← hsh] at HS HRS
    obtain ⟨lv, hlv⟩ : ∃ z, z = t.data.toList ++ tbs d p s c := ⟨_, rfl⟩
    obtain ⟨rp, hrp⟩ : ∃ z, z = str (tbs d p s c) := ⟨_, rfl⟩
    obtain ⟨sv, hsv⟩ : ∃ z, z = str lv := ⟨_, rfl⟩
    have adv : t ++ rp = sv := by rw [hsv, hlv, hrp, ← str_append, str_eta]
    have zr : rp.size ≤ 24 := by rw [hrp, str_size]; exact tbs_len d p s c
    rw [← hlv] at HPU
    rw [← hrp] at HRP
    obtain ⟨nv, hnv⟩ : ∃ z, z = lv.length := ⟨_, rfl⟩
    have HLV := Lib.hid hnv.symm
    have HCB : Hid (∀ (wx : World) (A' : Option Addr) (c' : Nat), Sees wx wx.heap.size A' (bvs lv) → (convert 48 9 (.slice A' nv c')).run Tryd.prog wx = .ok (.string sv) wx) := Lib.hid (fun wx A' c' h => str_conv' wx wx.heap.size A' nv c' lv sv hnv.symm h hsv)
    obtain ⟨ok, hok⟩ : ∃ z, z = tchk d p s c := ⟨_, rfl⟩
    obtain ⟨q, hq⟩ : ∃ q, q = (c == 1073741824) := ⟨_, rfl⟩
    have kq : (c == 1073741824) = q := hq.symm
    rw [← hok] at HC HRC HW
    rw [← hq] at HW
    obtain ⟨pa, hpa⟩ : ∃ z, z = tks d p s c := ⟨_, rfl⟩
    obtain ⟨pb, hpb⟩ : ∃ z, z = tks d' p' s' c' := ⟨_, rfl⟩
    rw [← hpa] at B0 B1 hb HC HRC HW HGO HRG HPU HRP HS HRS HP ⊢
    rw [← hpb] at B0 B1 hb HGO HRG ⊢
    have HLA : Hid (pa.length = 4) := Lib.hid (by rw [hpa]; rfl)
    have HLB : Hid (pb.length = 4) := Lib.hid (by rw [hpb]; rfl)
    have z5 : (t.size : Int) ≤ 500 := by omega
    clear hpa hpb hok hq hnv hsv hrp hlv hsh hs1 hTN h5 hmm ht
    cases ok
    · simp only [Bool.false_and] at HW
      go_enter Tryd.func5, Tryd.ntmps5
      go_wp2_with fail
      refine (HPA.out _ hb).mono ?_
      rintro e w1 ⟨rfl, hb1⟩
      replace B0 := B0.later hb1
      replace B1 := B1.later hb1
      replace hb := hb.trans (hb1.mono hb.size)
      have O7 := tks_one x0 x1 x2 x3
      obtain ⟨g7, hg7⟩ : ∃ z, z = w1.heap.size := ⟨_, rfl⟩
      have hx7 := hb.size
      have ne7x0 : g7 ≠ w.heap.size := by have := B0.lt; omega
      have ne7x1 : g7 ≠ w.heap.size + 1 := by have := B1.lt; omega
      have N7 := Blk.new w1 (tks 0 0 0 0) 42
      rw [← hg7] at N7
      have T7 := N7.there 0 4 (Nat.le_refl _)
      replace N7 := N7.wholeT (ds := (tks x0 x1 x2 x3)) rfl
      have M7x0 := (B0.alloc (.cells (tks 0 0 0 0).toArray 42)).setsOther (b := g7) ne7x0 (tks x0 x1 x2 x3) 0
      have M7x1 := (B1.alloc (.cells (tks 0 0 0 0).toArray 42)).setsOther (b := g7) ne7x1 (tks x0 x1 x2 x3) 0
      have MB7 := below_sets (b := g7) (by omega) (tks x0 x1 x2 x3) 0 (hb.alloc hb.size (.cells (tks 0 0 0 0).toArray 42))
      have HG7 := Lib.hid hg7
      clear hg7 hx7 hb ne7x0 B0 ne7x1 B1
      go_wp2_with (first
        | (rw [← HG7.out]
           refine wpList_store_mid rfl 42 (.tmp 7) (.tmp 19) rfl g7 0 (tks x0 x1 x2 x3).toArray rfl rfl T7 info_tok O7 ?_
           simp only [Act.put]
           generalize hw7 : World.setCells _ g7 0 (tks x0 x1 x2 x3).toArray.toList = u7
           have B7 : Blk u7 g7 (tks x0 x1 x2 x3) := hw7 ▸ N7
           have B0 : Blk u7 (w.heap.size) pa := hw7 ▸ M7x0
           have B1 : Blk u7 (w.heap.size + 1) pb := hw7 ▸ M7x1
           have hb : Below w.heap.size w u7 := hw7 ▸ MB7
           clear hw7 N7 T7 MB7 M7x0 M7x1)
        | fail)
      refine (HPB.out _).mono ?_
      rintro e w2 ⟨rfl, hb2⟩
      replace B0 := B0.later hb2
      replace B1 := B1.later hb2
      replace B7 := B7.later hb2
      replace hb := hb.trans (hb2.mono hb.size)
      have O9 := tks_one x0 x1 x2 x3
      have O11 := tks_one d p s 0
      obtain ⟨g9, hg9⟩ : ∃ z, z = w2.heap.size := ⟨_, rfl⟩
      have hx9 := hb.size
      have ne9x0 : g9 ≠ w.heap.size := by have := B0.lt; omega
      have ne9x1 : g9 ≠ w.heap.size + 1 := by have := B1.lt; omega
      have ne9x7 : g9 ≠ g7 := by have := B7.lt; omega
      have N9 := Blk.new w2 (tks 0 0 0 0) 42
      rw [← hg9] at N9
      have T9 := N9.there 0 4 (Nat.le_refl _)
      replace N9 := N9.wholeT (ds := (tks x0 x1 x2 x3)) rfl
      have M9x0 := (B0.alloc (.cells (tks 0 0 0 0).toArray 42)).setsOther (b := g9) ne9x0 (tks x0 x1 x2 x3) 0
      have M9x1 := (B1.alloc (.cells (tks 0 0 0 0).toArray 42)).setsOther (b := g9) ne9x1 (tks x0 x1 x2 x3) 0
      have M9x7 := (B7.alloc (.cells (tks 0 0 0 0).toArray 42)).setsOther (b := g9) ne9x7 (tks x0 x1 x2 x3) 0
      have MB9 := below_sets (b := g9) (by omega) (tks x0 x1 x2 x3) 0 (hb.alloc hb.size (.cells (tks 0 0 0 0).toArray 42))
      have HG9 := Lib.hid hg9
      clear hg9 hx9 hb ne9x0 B0 ne9x1 B1 ne9x7 B7
      go_wp2_with (first
        | (rw [← HG9.out]
           refine wpList_store_mid rfl 42 (.tmp 9) (.tmp 24) rfl g9 0 (tks x0 x1 x2 x3).toArray rfl rfl T9 info_tok O9 ?_
           simp only [Act.put]
           generalize hw9 : World.setCells _ g9 0 (tks x0 x1 x2 x3).toArray.toList = u9
           have B9 : Blk u9 g9 (tks x0 x1 x2 x3) := hw9 ▸ N9
           have B0 : Blk u9 (w.heap.size) pa := hw9 ▸ M9x0
           have B1 : Blk u9 (w.heap.size + 1) pb := hw9 ▸ M9x1
           have B7 : Blk u9 (g7) (tks x0 x1 x2 x3) := hw9 ▸ M9x7
           have hb : Below w.heap.size w u9 := hw9 ▸ MB9
           clear hw9 N9 T9 MB9 M9x0 M9x1 M9x7
           obtain ⟨p0, p1, p2, p3⟩ := HP.out _ B0
           obtain ⟨g11, hg11⟩ : ∃ z, z = u9.heap.size := ⟨_, rfl⟩
           have hx11 := hb.size
           have ne11x0 : g11 ≠ w.heap.size := by have := B0.lt; omega
           have ne11x1 : g11 ≠ w.heap.size + 1 := by have := B1.lt; omega
           have ne11x7 : g11 ≠ g7 := by have := B7.lt; omega
           have ne11x9 : g11 ≠ g9 := by have := B9.lt; omega
           have N11 := Blk.new u9 (tks 0 0 0 0) 42
           rw [← hg11] at N11
           have T11 := N11.there 0 4 (Nat.le_refl _)
           replace N11 := N11.wholeT (ds := (tks d p s 0)) rfl
           have M11x0 := (B0.alloc (.cells (tks 0 0 0 0).toArray 42)).setsOther (b := g11) ne11x0 (tks d p s 0) 0
           have M11x1 := (B1.alloc (.cells (tks 0 0 0 0).toArray 42)).setsOther (b := g11) ne11x1 (tks d p s 0) 0
           have M11x7 := (B7.alloc (.cells (tks 0 0 0 0).toArray 42)).setsOther (b := g11) ne11x7 (tks d p s 0) 0
           have M11x9 := (B9.alloc (.cells (tks 0 0 0 0).toArray 42)).setsOther (b := g11) ne11x9 (tks d p s 0) 0
           have MB11 := below_sets (b := g11) (by omega) (tks d p s 0) 0 (hb.alloc hb.size (.cells (tks 0 0 0 0).toArray 42))
           have HG11 := Lib.hid hg11
           clear hg11 hx11 hb ne11x0 B0 ne11x1 B1 ne11x7 B7 ne11x9 B9)
        | (rw [← HG11.out]
           refine wpList_store_mid rfl 42 (.tmp 11) (.tmp 32) rfl g11 0 (tks d p s 0).toArray rfl rfl T11 info_tok O11 ?_
           simp only [Act.put]
           generalize hw11 : World.setCells _ g11 0 (tks d p s 0).toArray.toList = u11
           have B11 : Blk u11 g11 (tks d p s 0) := hw11 ▸ N11
           have B0 : Blk u11 (w.heap.size) pa := hw11 ▸ M11x0
           have B1 : Blk u11 (w.heap.size + 1) pb := hw11 ▸ M11x1
           have B7 : Blk u11 (g7) (tks x0 x1 x2 x3) := hw11 ▸ M11x7
           have B9 : Blk u11 (g9) (tks x0 x1 x2 x3) := hw11 ▸ M11x9
           have hb : Below w.heap.size w u11 := hw11 ▸ MB11
           clear hw11 N11 T11 MB11 M11x0 M11x1 M11x7 M11x9
           clear p0 p1 p2 p3)
        | fail)
      have HR0 : Hid (∀ wx, Le u11 wx → wx.rangeAt (w.heap.size) 0 pa) := Lib.hid (fun wx hl => (B0.later hl).range 0 pa (by rw [List.drop_zero, List.take_length]))
      have HR1 : Hid (∀ wx, Le u11 wx → wx.rangeAt (w.heap.size + 1) 0 pb) := Lib.hid (fun wx hl => (B1.later hl).range 0 pb (by rw [List.drop_zero, List.take_length]))
      have HR7 : Hid (∀ wx, Le u11 wx → wx.rangeAt (g7) 0 (tks x0 x1 x2 x3)) := Lib.hid (fun wx hl => (B7.later hl).range 0 (tks x0 x1 x2 x3) rfl)
      have HR9 : Hid (∀ wx, Le u11 wx → wx.rangeAt (g9) 0 (tks x0 x1 x2 x3)) := Lib.hid (fun wx hl => (B9.later hl).range 0 (tks x0 x1 x2 x3) rfl)
      have HR11 : Hid (∀ wx, Le u11 wx → wx.rangeAt (g11) 0 (tks d p s 0)) := Lib.hid (fun wx hl => (B11.later hl).range 0 (tks d p s 0) rfl)
      have k0 : ∀ kk : LW u11, kk.val.cell? ⟨w.heap.size, 0, none⟩ = some (.int .i64 d) := fun kk => (HP.out _ (B0.later kk.le)).1
      have k1 : ∀ kk : LW u11, kk.val.cell? ⟨w.heap.size, 1, none⟩ = some (.int .i64 p) := fun kk => (HP.out _ (B0.later kk.le)).2.1
      have k2 : ∀ kk : LW u11, kk.val.cell? ⟨w.heap.size, 2, none⟩ = some (.int .i64 s) := fun kk => (HP.out _ (B0.later kk.le)).2.2.1
      have k3 : ∀ kk : LW u11, kk.val.cell? ⟨w.heap.size, 3, none⟩ = some (.int .i64 c) := fun kk => (HP.out _ (B0.later kk.le)).2.2.2
      have HBU := Lib.hid (fun (wx : World) (hl : Le u11 wx) => hb.trans (hl.mono hb.size))
      clear hb B0 B1 B7 B9 B11
      refine wp_region_steady [(72, relSee t.size t.data.toList), (74, relSee nv lv)] 102 (by kernel_rfl) (by kernel_rfl) (by kernel_rfl) (by rfl) ?_
      refine wpG_run (by rfl) (by rfl) (.agg pa.toArray) (fun w1 hl => exec_load 42 (.tmp 3) rfl (w.heap.size) 0 rfl pa _ (HR0.out w1 hl.1) hu rfl (by rw [HLA.out]; exact info_tok)) ?_
      simp only [Act.put, List.setIfInBounds_toArray, List.set_cons_zero, List.set_cons_succ]
      refine wpG_call (by rfl) (by rfl) 17 #[.agg pa.toArray] (.bool false) (by intro _; simp [go_sem]) (by kernel_rfl) (fun w1 hl => HC.out w1) ?_
      simp only [Act.put, List.setIfInBounds_toArray, List.set_cons_zero, List.set_cons_succ]
      refine wpG_run (by rfl) (by rfl) (.agg pa.toArray) (fun w1 hl => exec_load 42 (.tmp 3) rfl (w.heap.size) 0 rfl pa _ (HR0.out w1 hl.1) hu rfl (by rw [HLA.out]; exact info_tok)) ?_
      simp only [Act.put, List.setIfInBounds_toArray, List.set_cons_zero, List.set_cons_succ]
      refine wpG_call (by rfl) (by rfl) 18 #[.agg pa.toArray] (.bool false) (by intro _; simp [go_sem]) (by kernel_rfl) (fun w1 hl => HRC.out w1) ?_
      simp only [Act.put, List.setIfInBounds_toArray, List.set_cons_zero, List.set_cons_succ]
      iterate 8 (refine wpG_quiet (by rfl) (by rfl) (by rfl) (fun K hK => ?_); go_big_quiet_op; refine hK _ ?_; clear hK K)
      refine wpG_call (by rfl) (by rfl) 19 #[.int .i64 d, .int .i64 p, .int .i64 s] (.agg (tks d p s 0).toArray) (by intro _; simp [go_sem]) (by kernel_rfl) (fun w1 hl => HF.out w1) ?_
      simp only [Act.put, List.setIfInBounds_toArray, List.set_cons_zero, List.set_cons_succ]
      refine wpG_run (by rfl) (by rfl) (.agg (tks d p s 0).toArray) (fun w1 hl => exec_load 42 (.tmp 11) rfl (g11) 0 rfl (tks d p s 0) _ (HR11.out w1 hl.1) hu rfl info_tok) ?_
      simp only [Act.put, List.setIfInBounds_toArray, List.set_cons_zero, List.set_cons_succ]
      refine wpG_run (by rfl) (by rfl) (.bool true) (fun w1 hl => exec_eql 42 _ (.tmp 45) (.tmp 46) rfl _ _ rfl rfl guard_tok true (eq_tok 9998 d p s 0 w1)) ?_
      simp only [Act.put, List.setIfInBounds_toArray, List.set_cons_zero, List.set_cons_succ]
      iterate 2 (refine wpG_quiet (by rfl) (by rfl) (by rfl) (fun K hK => ?_); go_big_quiet_op; refine hK _ ?_; clear hK K)
      refine wpG_run (by rfl) (by rfl) (.agg pa.toArray) (fun w1 hl => exec_load 42 (.tmp 3) rfl (w.heap.size) 0 rfl pa _ (HR0.out w1 hl.1) hu rfl (by rw [HLA.out]; exact info_tok)) ?_
      simp only [Act.put, List.setIfInBounds_toArray, List.set_cons_zero, List.set_cons_succ]
      refine wpG_call (by rfl) (by rfl) 20 #[.agg pa.toArray] (.bool false) (by intro _; simp [go_sem]) (by kernel_rfl) (fun w1 hl => HW.out w1) ?_
      simp only [Act.put, List.setIfInBounds_toArray, List.set_cons_zero, List.set_cons_succ]
      refine wpG_run (by rfl) (by rfl) (.agg pa.toArray) (fun w1 hl => exec_load 42 (.tmp 3) rfl (w.heap.size) 0 rfl pa _ (HR0.out w1 hl.1) hu rfl (by rw [HLA.out]; exact info_tok)) ?_
      simp only [Act.put, List.setIfInBounds_toArray, List.set_cons_zero, List.set_cons_succ]
      refine wpG_call (by rfl) (by rfl) 18 #[.agg pa.toArray] (.bool false) (by intro _; simp [go_sem]) (by kernel_rfl) (fun w1 hl => HRC.out w1) ?_
      simp only [Act.put, List.setIfInBounds_toArray, List.set_cons_zero, List.set_cons_succ]
      iterate 1 (refine wpG_quiet (by rfl) (by rfl) (by rfl) (fun K hK => ?_); go_big_quiet_op; refine hK _ ?_; clear hK K)
      iterate 3 (refine wpG_skip (by rfl) ?_; simp only [Act.put, List.setIfInBounds_toArray, List.set_cons_zero, List.set_cons_succ])
      iterate 4 (refine wpG_quiet (by rfl) (by rfl) (by rfl) (fun K hK => ?_); go_big_quiet_op; refine hK _ ?_; clear hK K)
      refine wpG_run (by rfl) (by rfl) (.agg pa.toArray) (fun w1 hl => exec_load 42 (.tmp 3) rfl (w.heap.size) 0 rfl pa _ (HR0.out w1 hl.1) hu rfl (by rw [HLA.out]; exact info_tok)) ?_
      simp only [Act.put, List.setIfInBounds_toArray, List.set_cons_zero, List.set_cons_succ]
      refine wpG_run (by rfl) (by rfl) (.agg pb.toArray) (fun w1 hl => exec_load 42 (.tmp 4) rfl (w.heap.size + 1) 0 rfl pb _ (HR1.out w1 hl.1) hu rfl (by rw [HLB.out]; exact info_tok)) ?_
      simp only [Act.put, List.setIfInBounds_toArray, List.set_cons_zero, List.set_cons_succ]
      refine wpG_call (by rfl) (by rfl) 21 #[.agg pa.toArray, .agg pb.toArray] (.bool go) (by intro _; simp [go_sem]) (by kernel_rfl) (fun w1 hl => HGO.out w1) ?_
      simp only [Act.put, List.setIfInBounds_toArray, List.set_cons_zero, List.set_cons_succ]
      refine wpG_run (by rfl) (by rfl) (.agg pa.toArray) (fun w1 hl => exec_load 42 (.tmp 3) rfl (w.heap.size) 0 rfl pa _ (HR0.out w1 hl.1) hu rfl (by rw [HLA.out]; exact info_tok)) ?_
      simp only [Act.put, List.setIfInBounds_toArray, List.set_cons_zero, List.set_cons_succ]
      refine wpG_run (by rfl) (by rfl) (.agg pb.toArray) (fun w1 hl => exec_load 42 (.tmp 4) rfl (w.heap.size + 1) 0 rfl pb _ (HR1.out w1 hl.1) hu rfl (by rw [HLB.out]; exact info_tok)) ?_
      simp only [Act.put, List.setIfInBounds_toArray, List.set_cons_zero, List.set_cons_succ]
      refine wpG_call (by rfl) (by rfl) 22 #[.agg pa.toArray, .agg pb.toArray] (.bool go) (by intro _; simp [go_sem]) (by kernel_rfl) (fun w1 hl => HRG.out w1) ?_
      simp only [Act.put, List.setIfInBounds_toArray, List.set_cons_zero, List.set_cons_succ]
      iterate 4 (refine wpG_quiet (by rfl) (by rfl) (by rfl) (fun K hK => ?_); go_big_quiet_op; refine hK _ ?_; clear hK K)
      refine wpG_open (relSee t.size t.data.toList) (by rfl) (by rfl) (fun w1 hl => conv_gives (.tmp 71) rfl t rfl w1) ?_
      rintro _ ⟨_, _, _, ⟨A1, c1, rfl, _⟩⟩
      simp only [Act.put, List.setIfInBounds_toArray, List.set_cons_zero, List.set_cons_succ]
      refine wpG_run (by rfl) (by rfl) (.agg pa.toArray) (fun w1 hl => exec_load 42 (.tmp 3) rfl (w.heap.size) 0 rfl pa _ (HR0.out w1 hl.1) hu rfl (by rw [HLA.out]; exact info_tok)) ?_
      simp only [Act.put, List.setIfInBounds_toArray, List.set_cons_zero, List.set_cons_succ]
      refine wpG_calls (relSee nv lv) (by rfl) (by rfl) 23 #[.slice A1 t.size c1, .agg pa.toArray] (by intro _; simp [go_sem]) (fun w1 hl => ?_) ?_
      · obtain ⟨A2, c2, h2, s2⟩ := hl.2 72 _ (by simp [Op.operands, Call.operands]) rfl (by intro h; cases h)
        cases h2
        exact (HPU.out _ _ _ s2).mono fun e w' h => sees_see HLV.out h
      rintro _ ⟨_, _, _, ⟨A2, c2, rfl, _⟩⟩
      simp only [Act.put, List.setIfInBounds_toArray, List.set_cons_zero, List.set_cons_succ]
      refine wpG_run (by rfl) (by rfl) (.string sv) (fun w1 hl => ?_) ?_
      · obtain ⟨A3, c3, h2, s2⟩ := hl.2 74 _ (by simp [Op.operands]) rfl (by intro h; cases h)
        cases h2
        exact exec_convw (.tmp 74) 48 9 rfl _ rfl _ (HCB.out _ _ _ s2)
      simp only [Act.put, List.setIfInBounds_toArray, List.set_cons_zero, List.set_cons_succ]
      iterate 1 (refine wpG_quiet (by rfl) (by rfl) (by rfl) (fun K hK => ?_); go_big_quiet_op; refine hK _ ?_; clear hK K)
      refine wpG_run (by rfl) (by rfl) (.agg pa.toArray) (fun w1 hl => exec_load 42 (.tmp 3) rfl (w.heap.size) 0 rfl pa _ (HR0.out w1 hl.1) hu rfl (by rw [HLA.out]; exact info_tok)) ?_
      simp only [Act.put, List.setIfInBounds_toArray, List.set_cons_zero, List.set_cons_succ]
      refine wpG_call (by rfl) (by rfl) 24 #[.agg pa.toArray] (.string rp) (by intro _; simp [go_sem]) (by kernel_rfl) (fun w1 hl => HRP.out w1) ?_
      simp only [Act.put, List.setIfInBounds_toArray, List.set_cons_zero, List.set_cons_succ]
      iterate 4 (refine wpG_quiet (by rfl) (by rfl) (by rfl) (fun K hK => ?_); go_big_quiet_op; refine hK _ ?_; clear hK K)
      refine wpG_run (by rfl) (by rfl) (.agg pa.toArray) (fun w1 hl => exec_load 42 (.tmp 3) rfl (w.heap.size) 0 rfl pa _ (HR0.out w1 hl.1) hu rfl (by rw [HLA.out]; exact info_tok)) ?_
      simp only [Act.put, List.setIfInBounds_toArray, List.set_cons_zero, List.set_cons_succ]
      refine wpG_call (by rfl) (by rfl) 25 #[.agg pa.toArray] (.string sh) (by intro _; simp [go_sem]) (by kernel_rfl) (fun w1 hl => HS.out w1 (HBU.out w1 hl.1)) ?_
      simp only [Act.put, List.setIfInBounds_toArray, List.set_cons_zero, List.set_cons_succ]
      refine wpG_run (by rfl) (by rfl) (.agg pa.toArray) (fun w1 hl => exec_load 42 (.tmp 3) rfl (w.heap.size) 0 rfl pa _ (HR0.out w1 hl.1) hu rfl (by rw [HLA.out]; exact info_tok)) ?_
      simp only [Act.put, List.setIfInBounds_toArray, List.set_cons_zero, List.set_cons_succ]
      refine wpG_call (by rfl) (by rfl) 26 #[.agg pa.toArray] (.string sh) (by intro _; simp [go_sem]) (by kernel_rfl) (fun w1 hl => HRS.out w1) ?_
      simp only [Act.put, List.setIfInBounds_toArray, List.set_cons_zero, List.set_cons_succ]
      iterate 3 (refine wpG_quiet (by rfl) (by rfl) (by rfl) (fun K hK => ?_); go_big_quiet_op; refine hK _ ?_; clear hK K)
      refine wpG_run (by rfl) (by rfl) (.agg (tks x0 x1 x2 x3).toArray) (fun w1 hl => exec_load 42 (.tmp 7) rfl (g7) 0 rfl (tks x0 x1 x2 x3) _ (HR7.out w1 hl.1) hu rfl info_tok) ?_
      simp only [Act.put, List.setIfInBounds_toArray, List.set_cons_zero, List.set_cons_succ]
      refine wpG_run (by rfl) (by rfl) (.agg (tks x0 x1 x2 x3).toArray) (fun w1 hl => exec_load 42 (.tmp 9) rfl (g9) 0 rfl (tks x0 x1 x2 x3) _ (HR9.out w1 hl.1) hu rfl info_tok) ?_
      simp only [Act.put, List.setIfInBounds_toArray, List.set_cons_zero, List.set_cons_succ]
      refine wpG_run (by rfl) (by rfl) (.bool true) (fun w1 hl => exec_eql 42 _ (.tmp 90) (.tmp 91) rfl _ _ rfl rfl guard_tok true (eq_tok 9998 x0 x1 x2 x3 w1)) ?_
      simp only [Act.put, List.setIfInBounds_toArray, List.set_cons_zero, List.set_cons_succ]
      iterate 7 (refine wpG_quiet (by rfl) (by rfl) (by rfl) (fun K hK => ?_); go_big_quiet_op; refine hK _ ?_; clear hK K)
      refine wpG_call (by rfl) (by rfl) 14 #[] (.bool true) (by intro _; simp [go_sem]) (by kernel_rfl) (fun w1 hl => HAW.out w1 (HBU.out w1 hl.1)) ?_
      simp only [Act.put, List.setIfInBounds_toArray, List.set_cons_zero, List.set_cons_succ]
      iterate 2 (refine wpG_quiet (by rfl) (by rfl) (by rfl) (fun K hK => ?_); go_big_quiet_op; refine hK _ ?_; clear hK K)
      refine wpG_nil fun w2 hl _ => ?_
      go_wp2_with fail
      go_ret
      exact ⟨rfl, HBU.out w2 hl⟩
    · simp only [Bool.true_and] at HW
      go_enter Tryd.func5, Tryd.ntmps5
      go_wp2_with fail
      refine (HPA.out _ hb).mono ?_
      rintro e w1 ⟨rfl, hb1⟩
      replace B0 := B0.later hb1
      replace B1 := B1.later hb1
      replace hb := hb.trans (hb1.mono hb.size)
      have O7 := tks_one x0 x1 x2 x3
      obtain ⟨g7, hg7⟩ : ∃ z, z = w1.heap.size := ⟨_, rfl⟩
      have hx7 := hb.size
      have ne7x0 : g7 ≠ w.heap.size := by have := B0.lt; omega
      have ne7x1 : g7 ≠ w.heap.size + 1 := by have := B1.lt; omega
      have N7 := Blk.new w1 (tks 0 0 0 0) 42
      rw [← hg7] at N7
      have T7 := N7.there 0 4 (Nat.le_refl _)
      replace N7 := N7.wholeT (ds := (tks x0 x1 x2 x3)) rfl
      have M7x0 := (B0.alloc (.cells (tks 0 0 0 0).toArray 42)).setsOther (b := g7) ne7x0 (tks x0 x1 x2 x3) 0
      have M7x1 := (B1.alloc (.cells (tks 0 0 0 0).toArray 42)).setsOther (b := g7) ne7x1 (tks x0 x1 x2 x3) 0
      have MB7 := below_sets (b := g7) (by omega) (tks x0 x1 x2 x3) 0 (hb.alloc hb.size (.cells (tks 0 0 0 0).toArray 42))
      have HG7 := Lib.hid hg7
      clear hg7 hx7 hb ne7x0 B0 ne7x1 B1
      go_wp2_with (first
        | (rw [← HG7.out]
           refine wpList_store_mid rfl 42 (.tmp 7) (.tmp 19) rfl g7 0 (tks x0 x1 x2 x3).toArray rfl rfl T7 info_tok O7 ?_
           simp only [Act.put]
           generalize hw7 : World.setCells _ g7 0 (tks x0 x1 x2 x3).toArray.toList = u7
           have B7 : Blk u7 g7 (tks x0 x1 x2 x3) := hw7 ▸ N7
           have B0 : Blk u7 (w.heap.size) pa := hw7 ▸ M7x0
           have B1 : Blk u7 (w.heap.size + 1) pb := hw7 ▸ M7x1
           have hb : Below w.heap.size w u7 := hw7 ▸ MB7
           clear hw7 N7 T7 MB7 M7x0 M7x1)
        | fail)
      refine (HPB.out _).mono ?_
      rintro e w2 ⟨rfl, hb2⟩
      replace B0 := B0.later hb2
      replace B1 := B1.later hb2
      replace B7 := B7.later hb2
      replace hb := hb.trans (hb2.mono hb.size)
      have O9 := tks_one x0 x1 x2 x3
      have O11 := tks_one d p s 0
      obtain ⟨g9, hg9⟩ : ∃ z, z = w2.heap.size := ⟨_, rfl⟩
      have hx9 := hb.size
      have ne9x0 : g9 ≠ w.heap.size := by have := B0.lt; omega
      have ne9x1 : g9 ≠ w.heap.size + 1 := by have := B1.lt; omega
      have ne9x7 : g9 ≠ g7 := by have := B7.lt; omega
      have N9 := Blk.new w2 (tks 0 0 0 0) 42
      rw [← hg9] at N9
      have T9 := N9.there 0 4 (Nat.le_refl _)
      replace N9 := N9.wholeT (ds := (tks x0 x1 x2 x3)) rfl
      have M9x0 := (B0.alloc (.cells (tks 0 0 0 0).toArray 42)).setsOther (b := g9) ne9x0 (tks x0 x1 x2 x3) 0
      have M9x1 := (B1.alloc (.cells (tks 0 0 0 0).toArray 42)).setsOther (b := g9) ne9x1 (tks x0 x1 x2 x3) 0
      have M9x7 := (B7.alloc (.cells (tks 0 0 0 0).toArray 42)).setsOther (b := g9) ne9x7 (tks x0 x1 x2 x3) 0
      have MB9 := below_sets (b := g9) (by omega) (tks x0 x1 x2 x3) 0 (hb.alloc hb.size (.cells (tks 0 0 0 0).toArray 42))
      have HG9 := Lib.hid hg9
      clear hg9 hx9 hb ne9x0 B0 ne9x1 B1 ne9x7 B7
      go_wp2_with (first
        | (rw [← HG9.out]
           refine wpList_store_mid rfl 42 (.tmp 9) (.tmp 24) rfl g9 0 (tks x0 x1 x2 x3).toArray rfl rfl T9 info_tok O9 ?_
           simp only [Act.put]
           generalize hw9 : World.setCells _ g9 0 (tks x0 x1 x2 x3).toArray.toList = u9
           have B9 : Blk u9 g9 (tks x0 x1 x2 x3) := hw9 ▸ N9
           have B0 : Blk u9 (w.heap.size) pa := hw9 ▸ M9x0
           have B1 : Blk u9 (w.heap.size + 1) pb := hw9 ▸ M9x1
           have B7 : Blk u9 (g7) (tks x0 x1 x2 x3) := hw9 ▸ M9x7
           have hb : Below w.heap.size w u9 := hw9 ▸ MB9
           clear hw9 N9 T9 MB9 M9x0 M9x1 M9x7
           obtain ⟨p0, p1, p2, p3⟩ := HP.out _ B0
           obtain ⟨g11, hg11⟩ : ∃ z, z = u9.heap.size := ⟨_, rfl⟩
           have hx11 := hb.size
           have ne11x0 : g11 ≠ w.heap.size := by have := B0.lt; omega
           have ne11x1 : g11 ≠ w.heap.size + 1 := by have := B1.lt; omega
           have ne11x7 : g11 ≠ g7 := by have := B7.lt; omega
           have ne11x9 : g11 ≠ g9 := by have := B9.lt; omega
           have N11 := Blk.new u9 (tks 0 0 0 0) 42
           rw [← hg11] at N11
           have T11 := N11.there 0 4 (Nat.le_refl _)
           replace N11 := N11.wholeT (ds := (tks d p s 0)) rfl
           have M11x0 := (B0.alloc (.cells (tks 0 0 0 0).toArray 42)).setsOther (b := g11) ne11x0 (tks d p s 0) 0
           have M11x1 := (B1.alloc (.cells (tks 0 0 0 0).toArray 42)).setsOther (b := g11) ne11x1 (tks d p s 0) 0
           have M11x7 := (B7.alloc (.cells (tks 0 0 0 0).toArray 42)).setsOther (b := g11) ne11x7 (tks d p s 0) 0
           have M11x9 := (B9.alloc (.cells (tks 0 0 0 0).toArray 42)).setsOther (b := g11) ne11x9 (tks d p s 0) 0
           have MB11 := below_sets (b := g11) (by omega) (tks d p s 0) 0 (hb.alloc hb.size (.cells (tks 0 0 0 0).toArray 42))
           have HG11 := Lib.hid hg11
           clear hg11 hx11 hb ne11x0 B0 ne11x1 B1 ne11x7 B7 ne11x9 B9)
        | (rw [← HG11.out]
           refine wpList_store_mid rfl 42 (.tmp 11) (.tmp 32) rfl g11 0 (tks d p s 0).toArray rfl rfl T11 info_tok O11 ?_
           simp only [Act.put]
           generalize hw11 : World.setCells _ g11 0 (tks d p s 0).toArray.toList = u11
           have B11 : Blk u11 g11 (tks d p s 0) := hw11 ▸ N11
           have B0 : Blk u11 (w.heap.size) pa := hw11 ▸ M11x0
           have B1 : Blk u11 (w.heap.size + 1) pb := hw11 ▸ M11x1
           have B7 : Blk u11 (g7) (tks x0 x1 x2 x3) := hw11 ▸ M11x7
           have B9 : Blk u11 (g9) (tks x0 x1 x2 x3) := hw11 ▸ M11x9
           have hb : Below w.heap.size w u11 := hw11 ▸ MB11
           clear hw11 N11 T11 MB11 M11x0 M11x1 M11x7 M11x9
           clear p0 p1 p2 p3)
        | fail)
      have HR0 : Hid (∀ wx, Le u11 wx → wx.rangeAt (w.heap.size) 0 pa) := Lib.hid (fun wx hl => (B0.later hl).range 0 pa (by rw [List.drop_zero, List.take_length]))
      have HR1 : Hid (∀ wx, Le u11 wx → wx.rangeAt (w.heap.size + 1) 0 pb) := Lib.hid (fun wx hl => (B1.later hl).range 0 pb (by rw [List.drop_zero, List.take_length]))
      have HR7 : Hid (∀ wx, Le u11 wx → wx.rangeAt (g7) 0 (tks x0 x1 x2 x3)) := Lib.hid (fun wx hl => (B7.later hl).range 0 (tks x0 x1 x2 x3) rfl)
      have HR9 : Hid (∀ wx, Le u11 wx → wx.rangeAt (g9) 0 (tks x0 x1 x2 x3)) := Lib.hid (fun wx hl => (B9.later hl).range 0 (tks x0 x1 x2 x3) rfl)
      have HR11 : Hid (∀ wx, Le u11 wx → wx.rangeAt (g11) 0 (tks d p s 0)) := Lib.hid (fun wx hl => (B11.later hl).range 0 (tks d p s 0) rfl)
      have k0 : ∀ kk : LW u11, kk.val.cell? ⟨w.heap.size, 0, none⟩ = some (.int .i64 d) := fun kk => (HP.out _ (B0.later kk.le)).1
      have k1 : ∀ kk : LW u11, kk.val.cell? ⟨w.heap.size, 1, none⟩ = some (.int .i64 p) := fun kk => (HP.out _ (B0.later kk.le)).2.1
      have k2 : ∀ kk : LW u11, kk.val.cell? ⟨w.heap.size, 2, none⟩ = some (.int .i64 s) := fun kk => (HP.out _ (B0.later kk.le)).2.2.1
      have k3 : ∀ kk : LW u11, kk.val.cell? ⟨w.heap.size, 3, none⟩ = some (.int .i64 c) := fun kk => (HP.out _ (B0.later kk.le)).2.2.2
      have HBU := Lib.hid (fun (wx : World) (hl : Le u11 wx) => hb.trans (hl.mono hb.size))
      clear hb B0 B1 B7 B9 B11
      refine wp_region_steady [(72, relSee t.size t.data.toList), (74, relSee nv lv)] 102 (by kernel_rfl) (by kernel_rfl) (by kernel_rfl) (by rfl) ?_
      refine wpG_run (by rfl) (by rfl) (.agg pa.toArray) (fun w1 hl => exec_load 42 (.tmp 3) rfl (w.heap.size) 0 rfl pa _ (HR0.out w1 hl.1) hu rfl (by rw [HLA.out]; exact info_tok)) ?_
      simp only [Act.put, List.setIfInBounds_toArray, List.set_cons_zero, List.set_cons_succ]
      refine wpG_call (by rfl) (by rfl) 17 #[.agg pa.toArray] (.bool true) (by intro _; simp [go_sem]) (by kernel_rfl) (fun w1 hl => HC.out w1) ?_
      simp only [Act.put, List.setIfInBounds_toArray, List.set_cons_zero, List.set_cons_succ]
      refine wpG_run (by rfl) (by rfl) (.agg pa.toArray) (fun w1 hl => exec_load 42 (.tmp 3) rfl (w.heap.size) 0 rfl pa _ (HR0.out w1 hl.1) hu rfl (by rw [HLA.out]; exact info_tok)) ?_
      simp only [Act.put, List.setIfInBounds_toArray, List.set_cons_zero, List.set_cons_succ]
      refine wpG_call (by rfl) (by rfl) 18 #[.agg pa.toArray] (.bool true) (by intro _; simp [go_sem]) (by kernel_rfl) (fun w1 hl => HRC.out w1) ?_
      simp only [Act.put, List.setIfInBounds_toArray, List.set_cons_zero, List.set_cons_succ]
      iterate 8 (refine wpG_quiet (by rfl) (by rfl) (by rfl) (fun K hK => ?_); go_big_quiet_op; refine hK _ ?_; clear hK K)
      refine wpG_call (by rfl) (by rfl) 19 #[.int .i64 d, .int .i64 p, .int .i64 s] (.agg (tks d p s 0).toArray) (by intro _; simp [go_sem]) (by kernel_rfl) (fun w1 hl => HF.out w1) ?_
      simp only [Act.put, List.setIfInBounds_toArray, List.set_cons_zero, List.set_cons_succ]
      refine wpG_run (by rfl) (by rfl) (.agg (tks d p s 0).toArray) (fun w1 hl => exec_load 42 (.tmp 11) rfl (g11) 0 rfl (tks d p s 0) _ (HR11.out w1 hl.1) hu rfl info_tok) ?_
      simp only [Act.put, List.setIfInBounds_toArray, List.set_cons_zero, List.set_cons_succ]
      refine wpG_run (by rfl) (by rfl) (.bool true) (fun w1 hl => exec_eql 42 _ (.tmp 45) (.tmp 46) rfl _ _ rfl rfl guard_tok true (eq_tok 9998 d p s 0 w1)) ?_
      simp only [Act.put, List.setIfInBounds_toArray, List.set_cons_zero, List.set_cons_succ]
      iterate 2 (refine wpG_quiet (by rfl) (by rfl) (by rfl) (fun K hK => ?_); go_big_quiet_op; refine hK _ ?_; clear hK K)
      refine wpG_run (by rfl) (by rfl) (.agg pa.toArray) (fun w1 hl => exec_load 42 (.tmp 3) rfl (w.heap.size) 0 rfl pa _ (HR0.out w1 hl.1) hu rfl (by rw [HLA.out]; exact info_tok)) ?_
      simp only [Act.put, List.setIfInBounds_toArray, List.set_cons_zero, List.set_cons_succ]
      refine wpG_call (by rfl) (by rfl) 20 #[.agg pa.toArray] (.bool q) (by intro _; simp [go_sem]) (by kernel_rfl) (fun w1 hl => HW.out w1) ?_
      simp only [Act.put, List.setIfInBounds_toArray, List.set_cons_zero, List.set_cons_succ]
      refine wpG_run (by rfl) (by rfl) (.agg pa.toArray) (fun w1 hl => exec_load 42 (.tmp 3) rfl (w.heap.size) 0 rfl pa _ (HR0.out w1 hl.1) hu rfl (by rw [HLA.out]; exact info_tok)) ?_
      simp only [Act.put, List.setIfInBounds_toArray, List.set_cons_zero, List.set_cons_succ]
      refine wpG_call (by rfl) (by rfl) 18 #[.agg pa.toArray] (.bool true) (by intro _; simp [go_sem]) (by kernel_rfl) (fun w1 hl => HRC.out w1) ?_
      simp only [Act.put, List.setIfInBounds_toArray, List.set_cons_zero, List.set_cons_succ]
      iterate 1 (refine wpG_quiet (by rfl) (by rfl) (by rfl) (fun K hK => ?_); go_big_quiet_op; refine hK _ ?_; clear hK K)
      iterate 3 (refine wpG_quiet (by rfl) (by rfl) (by rfl) (fun K hK => ?_); go_big_quiet_op; refine hK _ ?_; clear hK K)
      iterate 4 (refine wpG_quiet (by rfl) (by rfl) (by rfl) (fun K hK => ?_); go_big_quiet_op; refine hK _ ?_; clear hK K)
      refine wpG_run (by rfl) (by rfl) (.agg pa.toArray) (fun w1 hl => exec_load 42 (.tmp 3) rfl (w.heap.size) 0 rfl pa _ (HR0.out w1 hl.1) hu rfl (by rw [HLA.out]; exact info_tok)) ?_
      simp only [Act.put, List.setIfInBounds_toArray, List.set_cons_zero, List.set_cons_succ]
      refine wpG_run (by rfl) (by rfl) (.agg pb.toArray) (fun w1 hl => exec_load 42 (.tmp 4) rfl (w.heap.size + 1) 0 rfl pb _ (HR1.out w1 hl.1) hu rfl (by rw [HLB.out]; exact info_tok)) ?_
      simp only [Act.put, List.setIfInBounds_toArray, List.set_cons_zero, List.set_cons_succ]
      refine wpG_call (by rfl) (by rfl) 21 #[.agg pa.toArray, .agg pb.toArray] (.bool go) (by intro _; simp [go_sem]) (by kernel_rfl) (fun w1 hl => HGO.out w1) ?_
      simp only [Act.put, List.setIfInBounds_toArray, List.set_cons_zero, List.set_cons_succ]
      refine wpG_run (by rfl) (by rfl) (.agg pa.toArray) (fun w1 hl => exec_load 42 (.tmp 3) rfl (w.heap.size) 0 rfl pa _ (HR0.out w1 hl.1) hu rfl (by rw [HLA.out]; exact info_tok)) ?_
      simp only [Act.put, List.setIfInBounds_toArray, List.set_cons_zero, List.set_cons_succ]
      refine wpG_run (by rfl) (by rfl) (.agg pb.toArray) (fun w1 hl => exec_load 42 (.tmp 4) rfl (w.heap.size + 1) 0 rfl pb _ (HR1.out w1 hl.1) hu rfl (by rw [HLB.out]; exact info_tok)) ?_
      simp only [Act.put, List.setIfInBounds_toArray, List.set_cons_zero, List.set_cons_succ]
      refine wpG_call (by rfl) (by rfl) 22 #[.agg pa.toArray, .agg pb.toArray] (.bool go) (by intro _; simp [go_sem]) (by kernel_rfl) (fun w1 hl => HRG.out w1) ?_
      simp only [Act.put, List.setIfInBounds_toArray, List.set_cons_zero, List.set_cons_succ]
      iterate 4 (refine wpG_quiet (by rfl) (by rfl) (by rfl) (fun K hK => ?_); go_big_quiet_op; refine hK _ ?_; clear hK K)
      refine wpG_open (relSee t.size t.data.toList) (by rfl) (by rfl) (fun w1 hl => conv_gives (.tmp 71) rfl t rfl w1) ?_
      rintro _ ⟨_, _, _, ⟨A1, c1, rfl, _⟩⟩
      simp only [Act.put, List.setIfInBounds_toArray, List.set_cons_zero, List.set_cons_succ]
      refine wpG_run (by rfl) (by rfl) (.agg pa.toArray) (fun w1 hl => exec_load 42 (.tmp 3) rfl (w.heap.size) 0 rfl pa _ (HR0.out w1 hl.1) hu rfl (by rw [HLA.out]; exact info_tok)) ?_
      simp only [Act.put, List.setIfInBounds_toArray, List.set_cons_zero, List.set_cons_succ]
      refine wpG_calls (relSee nv lv) (by rfl) (by rfl) 23 #[.slice A1 t.size c1, .agg pa.toArray] (by intro _; simp [go_sem]) (fun w1 hl => ?_) ?_
      · obtain ⟨A2, c2, h2, s2⟩ := hl.2 72 _ (by simp [Op.operands, Call.operands]) rfl (by intro h; cases h)
        cases h2
        exact (HPU.out _ _ _ s2).mono fun e w' h => sees_see HLV.out h
      rintro _ ⟨_, _, _, ⟨A2, c2, rfl, _⟩⟩
      simp only [Act.put, List.setIfInBounds_toArray, List.set_cons_zero, List.set_cons_succ]
      refine wpG_run (by rfl) (by rfl) (.string sv) (fun w1 hl => ?_) ?_
      · obtain ⟨A3, c3, h2, s2⟩ := hl.2 74 _ (by simp [Op.operands]) rfl (by intro h; cases h)
        cases h2
        exact exec_convw (.tmp 74) 48 9 rfl _ rfl _ (HCB.out _ _ _ s2)
      simp only [Act.put, List.setIfInBounds_toArray, List.set_cons_zero, List.set_cons_succ]
      iterate 1 (refine wpG_quiet (by rfl) (by rfl) (by rfl) (fun K hK => ?_); go_big_quiet_op; refine hK _ ?_; clear hK K)
      refine wpG_run (by rfl) (by rfl) (.agg pa.toArray) (fun w1 hl => exec_load 42 (.tmp 3) rfl (w.heap.size) 0 rfl pa _ (HR0.out w1 hl.1) hu rfl (by rw [HLA.out]; exact info_tok)) ?_
      simp only [Act.put, List.setIfInBounds_toArray, List.set_cons_zero, List.set_cons_succ]
      refine wpG_call (by rfl) (by rfl) 24 #[.agg pa.toArray] (.string rp) (by intro _; simp [go_sem]) (by kernel_rfl) (fun w1 hl => HRP.out w1) ?_
      simp only [Act.put, List.setIfInBounds_toArray, List.set_cons_zero, List.set_cons_succ]
      iterate 4 (refine wpG_quiet (by rfl) (by rfl) (by rfl) (fun K hK => ?_); go_big_quiet_op; refine hK _ ?_; clear hK K)
      refine wpG_run (by rfl) (by rfl) (.agg pa.toArray) (fun w1 hl => exec_load 42 (.tmp 3) rfl (w.heap.size) 0 rfl pa _ (HR0.out w1 hl.1) hu rfl (by rw [HLA.out]; exact info_tok)) ?_
      simp only [Act.put, List.setIfInBounds_toArray, List.set_cons_zero, List.set_cons_succ]
      refine wpG_call (by rfl) (by rfl) 25 #[.agg pa.toArray] (.string sh) (by intro _; simp [go_sem]) (by kernel_rfl) (fun w1 hl => HS.out w1 (HBU.out w1 hl.1)) ?_
      simp only [Act.put, List.setIfInBounds_toArray, List.set_cons_zero, List.set_cons_succ]
      refine wpG_run (by rfl) (by rfl) (.agg pa.toArray) (fun w1 hl => exec_load 42 (.tmp 3) rfl (w.heap.size) 0 rfl pa _ (HR0.out w1 hl.1) hu rfl (by rw [HLA.out]; exact info_tok)) ?_
      simp only [Act.put, List.setIfInBounds_toArray, List.set_cons_zero, List.set_cons_succ]
      refine wpG_call (by rfl) (by rfl) 26 #[.agg pa.toArray] (.string sh) (by intro _; simp [go_sem]) (by kernel_rfl) (fun w1 hl => HRS.out w1) ?_
      simp only [Act.put, List.setIfInBounds_toArray, List.set_cons_zero, List.set_cons_succ]
      iterate 3 (refine wpG_quiet (by rfl) (by rfl) (by rfl) (fun K hK => ?_); go_big_quiet_op; refine hK _ ?_; clear hK K)
      refine wpG_run (by rfl) (by rfl) (.agg (tks x0 x1 x2 x3).toArray) (fun w1 hl => exec_load 42 (.tmp 7) rfl (g7) 0 rfl (tks x0 x1 x2 x3) _ (HR7.out w1 hl.1) hu rfl info_tok) ?_
      simp only [Act.put, List.setIfInBounds_toArray, List.set_cons_zero, List.set_cons_succ]
      refine wpG_run (by rfl) (by rfl) (.agg (tks x0 x1 x2 x3).toArray) (fun w1 hl => exec_load 42 (.tmp 9) rfl (g9) 0 rfl (tks x0 x1 x2 x3) _ (HR9.out w1 hl.1) hu rfl info_tok) ?_
      simp only [Act.put, List.setIfInBounds_toArray, List.set_cons_zero, List.set_cons_succ]
      refine wpG_run (by rfl) (by rfl) (.bool true) (fun w1 hl => exec_eql 42 _ (.tmp 90) (.tmp 91) rfl _ _ rfl rfl guard_tok true (eq_tok 9998 x0 x1 x2 x3 w1)) ?_
      simp only [Act.put, List.setIfInBounds_toArray, List.set_cons_zero, List.set_cons_succ]
      iterate 7 (refine wpG_quiet (by rfl) (by rfl) (by rfl) (fun K hK => ?_); go_big_quiet_op; refine hK _ ?_; clear hK K)
      refine wpG_call (by rfl) (by rfl) 14 #[] (.bool true) (by intro _; simp [go_sem]) (by kernel_rfl) (fun w1 hl => HAW.out w1 (HBU.out w1 hl.1)) ?_
      simp only [Act.put, List.setIfInBounds_toArray, List.set_cons_zero, List.set_cons_succ]
      iterate 2 (refine wpG_quiet (by rfl) (by rfl) (by rfl) (fun K hK => ?_); go_big_quiet_op; refine hK _ ?_; clear hK K)
      refine wpG_nil fun w2 hl _ => ?_
      go_wp2_with fail
      go_ret
      exact ⟨rfl, HBU.out w2 hl⟩
  · have d3 : decide ((500 : Int) < (t.size : Int)) = true := by simp; omega
    clear HP B0 B1 hs1
    go_enter Tryd.func5, Tryd.ntmps5
    go_wp2_with fail
    refine (HAW.out _ hb).mono ?_
    rintro e' w3 ⟨rfl, b3⟩
    go_wp2_with fail
    go_ret
    exact ⟨rfl, hb.trans (b3.mono hb.size)⟩
end Go.Proofs.YticdpfjajkfheaaDoor

/- The laid tables of TokenTells' and TokenBack's rows. -/
namespace Go.Proofs.YticdpfjajkfheaaDoor
open Go Go.ChangeShapes Go.WideShapes Go.ChangeAt Go.RowKit

theorem tells_met (os : Os) (args : Array Value) : laidMet Tryd.prog Rows.tokenTellsRow.laid ((tabWorld os).forCall (fun _ _ => 0) ⟨#[], args, []⟩).memory :=
  laidMet_of_run' 8 (by kernel_rfl) (by kernel_rfl)
theorem tab_oft {W : World} (h : laidMetH Tryd.prog Rows.tokenTellsRow.laid W) : Tab W := by
  have h1 : laidMet Tryd.prog Rows.tokenTellsRow.laid W := h
  have h2 := h1.filter (fun x => x.1 == "internal/strconv.uint64pow10")
  have e : (Rows.tokenTellsRow.laid.filter fun x => x.1 == "internal/strconv.uint64pow10") = [("internal/strconv.uint64pow10", Lib.tabData .u64 Lib.pow10Tab)] := by kernel_rfl
  rw [e] at h2
  obtain ⟨g, hg, hty⟩ := pow_at
  exact Lib.tabIs_of_head hg hty Tryd.underlying135 Tryd.underlying122 (by kernel_rfl) (by kernel_rfl) h2
end Go.Proofs.YticdpfjajkfheaaDoor

/- TokenBack: the mathematics, and the walk. -/
namespace Go.Proofs.YticdpfjajkfheaaDoor
set_option linter.unusedVariables false
set_option linter.unusedSimpArgs false
open Go Go.RowKit BitM MskM OctM

theorem held_nat {z : Int} (h0 : 0 ≤ z) (h1 : z ≤ 1099511627776) : held z = z.toNat := by
  unfold held
  simp only [Int.min_def, Int.max_def]
  split <;> (try split) <;> omega
theorem tokOut_tbs {d p s c : Int} (h : tchk d p s c = true) : tokOut (tbs d p s c) 0 0 = ((d.toNat, p.toNat, s.toNat, c.toNat), (tbs d p s c).length, 0) := by
  have h2 := of_decide_eq_true h
  have hb : tbs d p s c = enc d.toNat ++ (enc p.toNat ++ (enc s.toNat ++ (enc c.toNat ++ []))) := by
    unfold tbs
    rw [if_neg (by rw [h]; simp), held_nat (z := d) (by omega) (by omega), held_nat (z := p) (by omega) (by omega), held_nat (z := s) (by omega) (by omega), held_nat (z := c) (by omega) (by omega)]
    simp only [List.append_assoc, List.append_nil]
  have n1 := num_put [] (enc p.toNat ++ (enc s.toNat ++ (enc c.toNat ++ []))) d.toNat 5 (by omega) (by omega)
  have n2 := num_put (enc d.toNat) (enc s.toNat ++ (enc c.toNat ++ [])) p.toNat 1099511627776 (by omega) (by omega)
  have n3 := num_put (enc d.toNat ++ enc p.toNat) (enc c.toNat ++ []) s.toNat 1099511627776 (by omega) (by omega)
  have n4 := num_put (enc d.toNat ++ enc p.toNat ++ enc s.toNat) [] c.toNat 1073741824 (by omega) (by omega)
  simp only [List.append_assoc, List.nil_append, List.append_nil, List.length_nil, Nat.zero_add, List.length_append] at n1 n2 n3 n4 hb
  rw [← hb] at n1 n2 n3 n4
  have hl : (tbs d p s c).length = (enc d.toNat).length + ((enc p.toNat).length + ((enc s.toNat).length + (enc c.toNat).length)) := by rw [hb]; simp only [List.length_append]
  unfold tokOut
  simp only [n1, n2]
  rw [if_neg (show ¬ p.toNat = 0 by omega)]
  simp only [Nat.add_assoc] at n3 n4 ⊢
  simp only [n3, n4, if_true, hl]
theorem tk4_nat {d p s c : Int} (h : tchk d p s c = true) : tk4 (d.toNat, p.toNat, s.toNat, c.toNat) = tks d p s c := by
  have h2 := of_decide_eq_true h
  show tks ((d.toNat : Nat) : Int) ((p.toNat : Nat) : Int) ((s.toNat : Nat) : Int) ((c.toNat : Nat) : Int) = tks d p s c
  rw [Int.toNat_of_nonneg (by omega), Int.toNat_of_nonneg (by omega), Int.toNat_of_nonneg (by omega), Int.toNat_of_nonneg (by omega)]
theorem tgo_self {d p s c : Int} (h : tchk d p s c = true) : tgo d p s c d p s c = true := by
  unfold tgo
  simp [h]
theorem tgo_trans {d p s c d' p' s' c' d'' p'' s'' c'' : Int} (h1 : tgo d p s c d' p' s' c' = true) (h2 : tgo d' p' s' c' d'' p'' s'' c'' = true) : tgo d p s c d'' p'' s'' c'' = true := by
  unfold tgo at *
  simp only [Bool.and_eq_true, beq_iff_eq, decide_eq_true_eq] at *
  refine ⟨h1.1, h2.2.1, ?_⟩
  omega
end Go.Proofs.YticdpfjajkfheaaDoor
