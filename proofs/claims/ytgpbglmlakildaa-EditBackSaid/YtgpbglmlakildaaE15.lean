/- Edits as bytes: what the document's Put returns. -/
import Derived.Test.YtgpbglmlakildaaE7
import Derived.Test.YtgpbglmlakildaaE13
import Derived.Test.YtgpbglmlakildaaE14
import Derived.Test.YtgpbglmlakildaaE6
import Derived.Lib.SmallJoins
import Derived.Deep.Strs
namespace Go.Proofs.Ytgpbglmlakildaa
set_option linter.unusedVariables false
set_option linter.unusedSimpArgs false
open Go Go.RowKit OctM BitM

set_option maxRecDepth 100000 in
set_option maxHeartbeats 3200000 in
theorem reput_001 (k id gr lab : Int) (x : BitVec 32) (f : List V3) (w : World) (hf : f.length = 8) (hlb : 0 ≤ lab) (h0 : echk k id gr x lab f = 0) (hg : grp k = false) (hi : idk k = false) (hp : ptk k = true) :
    Calls Try.prog 47 #[.agg (ecells k id gr (x.toNat : Int) lab f).toArray] w fun e w' => e = .returned (.string (str (ebs k id gr x lab f))) ∧ Below w.heap.size w w' := by
  have HCK := Lib.hid (fun wx : World => recheck_any k id gr lab x f wx hf)
  have B0 := Blk.new w (ecells k id gr (x.toNat : Int) lab f) 63
  have HEL := Lib.hid (ecells_len k id gr (x.toNat : Int) lab hf)
  have HPL := Lib.hid (pcells_len (x.toNat : Int) lab hf)
  have hb := (Below.refl w.heap.size w).alloc (Nat.le_refl _) (.cells (ecells k id gr (x.toNat : Int) lab f).toArray 63)
  have HQ : Hid (∀ wx : World, Blk wx w.heap.size (ecells k id gr (x.toNat : Int) lab f) → (wx.cell? ⟨w.heap.size, 0, none⟩ = some (.int .i64 k) ∧ wx.cell? ⟨w.heap.size, 1, none⟩ = some (.int .i64 id) ∧ wx.cell? ⟨w.heap.size, 2, none⟩ = some (.int .i64 gr)) ∧ wx.rangeAt w.heap.size 3 (pcells (x.toNat : Int) lab f)) := Lib.hid (fun wx h => ⟨h.edit, h.patchE⟩)
  have hue := Try.underlying63
  have hup := Try.underlying61
  rw [h0] at HCK
  have HG := Lib.hid (fun wx : World => rgrp_any k wx)
  have HI := Lib.hid (fun wx : World => ridk_any k wx)
  have HP := Lib.hid (fun wx : World => rptk_any k wx)
  have hbs := ebs_of h0 hg hi hp
  rw [hg] at HG
  rw [hi] at HI
  rw [hp] at HP
  have H1 := Lib.hid (fun wx : World => ref_num k wx)
  obtain ⟨t1, ht1⟩ : ∃ t, t = str (enc (held k)) := ⟨_, rfl⟩
  rw [← ht1] at H1
  have z1 : t1.size ≤ 6 := by rw [ht1, str_size]; exact held_len k
  have y1 : t1.size ≤ 6 := z1
  have H4 := Lib.hid (fun wx : World => rputpatch_any x lab f wx hf hlb)
  obtain ⟨t4, ht4⟩ : ∃ t, t = str (pbs x lab f) := ⟨_, rfl⟩
  rw [← ht4] at H4
  have z4 : t4.size ≤ 400 := by rw [ht4, str_size]; exact pbs_len x lab f
  obtain ⟨u4, hu4⟩ : ∃ u, u = t1 ++ t4 := ⟨_, rfl⟩
  have a4 : t1 ++ t4 = u4 := hu4.symm
  have hR : str (ebs k id gr x lab f) = u4 := by
    rw [hbs, hu4, ht1, ht4]
    simp [str_append]
  rw [hR]
  obtain ⟨pc, hpc⟩ : ∃ pc, pc = pcells (x.toNat : Int) lab f := ⟨_, rfl⟩
  obtain ⟨ec, hec⟩ : ∃ ec, ec = ecells k id gr (x.toNat : Int) lab f := ⟨_, rfl⟩
  rw [← hpc] at HQ HPL H4
  rw [← hec] at B0 HEL hb HQ HCK ⊢
  have RG := B0.wholeC
  clear hpc hec hbs hR hf hlb h0 hg hi hp hu4 ht1 ht4
  go_enter Try.func47, Try.ntmps47
  go_wp2_with (first
    | (refine wpList_load_mid rfl 63 (.tmp 1) rfl w.heap.size 0 rfl ec _ RG hue rfl (by rw [HEL.out]; exact info_edit) ?_)
    | fail)
  refine (HCK.out _).mono ?_
  rintro e w2 ⟨rfl, hb2⟩
  replace B0 := B0.later hb2
  replace hb := hb.trans (hb2.mono hb.size)
  clear hb2 RG
  obtain ⟨⟨q0, q1, q2⟩, RP⟩ := HQ.out _ B0
  go_wp2_with fail
  refine (H1.out _).mono ?_
  rintro e wa ⟨rfl, hb2⟩
  replace B0 := B0.later hb2
  replace hb := hb.trans (hb2.mono hb.size)
  clear hb2 q0 q1 q2 RP
  obtain ⟨⟨q0, q1, q2⟩, RP⟩ := HQ.out _ B0
  go_wp2_with fail
  refine (HG.out _).mono ?_
  rintro e w' ⟨rfl, rfl⟩
  go_wp2_with fail
  refine (HI.out _).mono ?_
  rintro e w' ⟨rfl, rfl⟩
  go_wp2_with fail
  refine (HP.out _).mono ?_
  rintro e w' ⟨rfl, rfl⟩
  go_wp2_with (first
    | (refine wpList_load_mid rfl 61 (.tmp 30) rfl w.heap.size 3 rfl pc _ RP hup rfl (by rw [HPL.out]; exact info_patch) ?_)
    | fail)
  refine (H4.out _).mono ?_
  rintro e wd ⟨rfl, hb2⟩
  replace hb := hb.trans (hb2.mono hb.size)
  go_wp2_with fail
  go_ret
  exact ⟨rfl, hb⟩
set_option maxRecDepth 100000 in
set_option maxHeartbeats 3200000 in
theorem reput_011 (k id gr lab : Int) (x : BitVec 32) (f : List V3) (w : World) (hf : f.length = 8) (hlb : 0 ≤ lab) (h0 : echk k id gr x lab f = 0) (hg : grp k = false) (hi : idk k = true) (hp : ptk k = true) :
    Calls Try.prog 47 #[.agg (ecells k id gr (x.toNat : Int) lab f).toArray] w fun e w' => e = .returned (.string (str (ebs k id gr x lab f))) ∧ Below w.heap.size w w' := by
  have HCK := Lib.hid (fun wx : World => recheck_any k id gr lab x f wx hf)
  have B0 := Blk.new w (ecells k id gr (x.toNat : Int) lab f) 63
  have HEL := Lib.hid (ecells_len k id gr (x.toNat : Int) lab hf)
  have HPL := Lib.hid (pcells_len (x.toNat : Int) lab hf)
  have hb := (Below.refl w.heap.size w).alloc (Nat.le_refl _) (.cells (ecells k id gr (x.toNat : Int) lab f).toArray 63)
  have HQ : Hid (∀ wx : World, Blk wx w.heap.size (ecells k id gr (x.toNat : Int) lab f) → (wx.cell? ⟨w.heap.size, 0, none⟩ = some (.int .i64 k) ∧ wx.cell? ⟨w.heap.size, 1, none⟩ = some (.int .i64 id) ∧ wx.cell? ⟨w.heap.size, 2, none⟩ = some (.int .i64 gr)) ∧ wx.rangeAt w.heap.size 3 (pcells (x.toNat : Int) lab f)) := Lib.hid (fun wx h => ⟨h.edit, h.patchE⟩)
  have hue := Try.underlying63
  have hup := Try.underlying61
  rw [h0] at HCK
  have HG := Lib.hid (fun wx : World => rgrp_any k wx)
  have HI := Lib.hid (fun wx : World => ridk_any k wx)
  have HP := Lib.hid (fun wx : World => rptk_any k wx)
  have hbs := ebs_of h0 hg hi hp
  rw [hg] at HG
  rw [hi] at HI
  rw [hp] at HP
  have H1 := Lib.hid (fun wx : World => ref_num k wx)
  obtain ⟨t1, ht1⟩ : ∃ t, t = str (enc (held k)) := ⟨_, rfl⟩
  rw [← ht1] at H1
  have z1 : t1.size ≤ 6 := by rw [ht1, str_size]; exact held_len k
  have y1 : t1.size ≤ 6 := z1
  have H3 := Lib.hid (fun wx : World => ref_num id wx)
  obtain ⟨t3, ht3⟩ : ∃ t, t = str (enc (held id)) := ⟨_, rfl⟩
  rw [← ht3] at H3
  have z3 : t3.size ≤ 6 := by rw [ht3, str_size]; exact held_len id
  obtain ⟨u3, hu3⟩ : ∃ u, u = t1 ++ t3 := ⟨_, rfl⟩
  have a3 : t1 ++ t3 = u3 := hu3.symm
  have y3 : u3.size ≤ 12 := by rw [hu3, ByteArray.size_append]; omega
  have H4 := Lib.hid (fun wx : World => rputpatch_any x lab f wx hf hlb)
  obtain ⟨t4, ht4⟩ : ∃ t, t = str (pbs x lab f) := ⟨_, rfl⟩
  rw [← ht4] at H4
  have z4 : t4.size ≤ 400 := by rw [ht4, str_size]; exact pbs_len x lab f
  obtain ⟨u4, hu4⟩ : ∃ u, u = u3 ++ t4 := ⟨_, rfl⟩
  have a4 : u3 ++ t4 = u4 := hu4.symm
  have hR : str (ebs k id gr x lab f) = u4 := by
    rw [hbs, hu4, hu3, ht1, ht3, ht4]
    simp [str_append]
  rw [hR]
  obtain ⟨pc, hpc⟩ : ∃ pc, pc = pcells (x.toNat : Int) lab f := ⟨_, rfl⟩
  obtain ⟨ec, hec⟩ : ∃ ec, ec = ecells k id gr (x.toNat : Int) lab f := ⟨_, rfl⟩
  rw [← hpc] at HQ HPL H4
  rw [← hec] at B0 HEL hb HQ HCK ⊢
  have RG := B0.wholeC
  clear hpc hec hbs hR hf hlb h0 hg hi hp hu3 hu4 ht1 ht3 ht4
  go_enter Try.func47, Try.ntmps47
  go_wp2_with (first
    | (refine wpList_load_mid rfl 63 (.tmp 1) rfl w.heap.size 0 rfl ec _ RG hue rfl (by rw [HEL.out]; exact info_edit) ?_)
    | fail)
  refine (HCK.out _).mono ?_
  rintro e w2 ⟨rfl, hb2⟩
  replace B0 := B0.later hb2
  replace hb := hb.trans (hb2.mono hb.size)
  clear hb2 RG
  obtain ⟨⟨q0, q1, q2⟩, RP⟩ := HQ.out _ B0
  go_wp2_with fail
  refine (H1.out _).mono ?_
  rintro e wa ⟨rfl, hb2⟩
  replace B0 := B0.later hb2
  replace hb := hb.trans (hb2.mono hb.size)
  clear hb2 q0 q1 q2 RP
  obtain ⟨⟨q0, q1, q2⟩, RP⟩ := HQ.out _ B0
  go_wp2_with fail
  refine (HG.out _).mono ?_
  rintro e w' ⟨rfl, rfl⟩
  go_wp2_with fail
  refine (HI.out _).mono ?_
  rintro e w' ⟨rfl, rfl⟩
  go_wp2_with fail
  refine (H3.out _).mono ?_
  rintro e wc ⟨rfl, hb2⟩
  replace B0 := B0.later hb2
  replace hb := hb.trans (hb2.mono hb.size)
  clear hb2 q0 q1 q2 RP
  obtain ⟨⟨q0, q1, q2⟩, RP⟩ := HQ.out _ B0
  go_wp2_with fail
  refine (HP.out _).mono ?_
  rintro e w' ⟨rfl, rfl⟩
  go_wp2_with (first
    | (refine wpList_load_mid rfl 61 (.tmp 30) rfl w.heap.size 3 rfl pc _ RP hup rfl (by rw [HPL.out]; exact info_patch) ?_)
    | fail)
  refine (H4.out _).mono ?_
  rintro e wd ⟨rfl, hb2⟩
  replace hb := hb.trans (hb2.mono hb.size)
  go_wp2_with fail
  go_ret
  exact ⟨rfl, hb⟩
set_option maxRecDepth 100000 in
set_option maxHeartbeats 3200000 in
theorem reput_010 (k id gr lab : Int) (x : BitVec 32) (f : List V3) (w : World) (hf : f.length = 8) (hlb : 0 ≤ lab) (h0 : echk k id gr x lab f = 0) (hg : grp k = false) (hi : idk k = true) (hp : ptk k = false) :
    Calls Try.prog 47 #[.agg (ecells k id gr (x.toNat : Int) lab f).toArray] w fun e w' => e = .returned (.string (str (ebs k id gr x lab f))) ∧ Below w.heap.size w w' := by
  have HCK := Lib.hid (fun wx : World => recheck_any k id gr lab x f wx hf)
  have B0 := Blk.new w (ecells k id gr (x.toNat : Int) lab f) 63
  have HEL := Lib.hid (ecells_len k id gr (x.toNat : Int) lab hf)
  have HPL := Lib.hid (pcells_len (x.toNat : Int) lab hf)
  have hb := (Below.refl w.heap.size w).alloc (Nat.le_refl _) (.cells (ecells k id gr (x.toNat : Int) lab f).toArray 63)
  have HQ : Hid (∀ wx : World, Blk wx w.heap.size (ecells k id gr (x.toNat : Int) lab f) → (wx.cell? ⟨w.heap.size, 0, none⟩ = some (.int .i64 k) ∧ wx.cell? ⟨w.heap.size, 1, none⟩ = some (.int .i64 id) ∧ wx.cell? ⟨w.heap.size, 2, none⟩ = some (.int .i64 gr)) ∧ wx.rangeAt w.heap.size 3 (pcells (x.toNat : Int) lab f)) := Lib.hid (fun wx h => ⟨h.edit, h.patchE⟩)
  have hue := Try.underlying63
  have hup := Try.underlying61
  rw [h0] at HCK
  have HG := Lib.hid (fun wx : World => rgrp_any k wx)
  have HI := Lib.hid (fun wx : World => ridk_any k wx)
  have HP := Lib.hid (fun wx : World => rptk_any k wx)
  have hbs := ebs_of h0 hg hi hp
  rw [hg] at HG
  rw [hi] at HI
  rw [hp] at HP
  have H1 := Lib.hid (fun wx : World => ref_num k wx)
  obtain ⟨t1, ht1⟩ : ∃ t, t = str (enc (held k)) := ⟨_, rfl⟩
  rw [← ht1] at H1
  have z1 : t1.size ≤ 6 := by rw [ht1, str_size]; exact held_len k
  have y1 : t1.size ≤ 6 := z1
  have H3 := Lib.hid (fun wx : World => ref_num id wx)
  obtain ⟨t3, ht3⟩ : ∃ t, t = str (enc (held id)) := ⟨_, rfl⟩
  rw [← ht3] at H3
  have z3 : t3.size ≤ 6 := by rw [ht3, str_size]; exact held_len id
  obtain ⟨u3, hu3⟩ : ∃ u, u = t1 ++ t3 := ⟨_, rfl⟩
  have a3 : t1 ++ t3 = u3 := hu3.symm
  have y3 : u3.size ≤ 12 := by rw [hu3, ByteArray.size_append]; omega
  have hR : str (ebs k id gr x lab f) = u3 := by
    rw [hbs, hu3, ht1, ht3]
    simp [str_append]
  rw [hR]
  obtain ⟨pc, hpc⟩ : ∃ pc, pc = pcells (x.toNat : Int) lab f := ⟨_, rfl⟩
  obtain ⟨ec, hec⟩ : ∃ ec, ec = ecells k id gr (x.toNat : Int) lab f := ⟨_, rfl⟩
  rw [← hpc] at HQ HPL
  rw [← hec] at B0 HEL hb HQ HCK ⊢
  have RG := B0.wholeC
  clear hpc hec hbs hR hf hlb h0 hg hi hp hu3 ht1 ht3
  go_enter Try.func47, Try.ntmps47
  go_wp2_with (first
    | (refine wpList_load_mid rfl 63 (.tmp 1) rfl w.heap.size 0 rfl ec _ RG hue rfl (by rw [HEL.out]; exact info_edit) ?_)
    | fail)
  refine (HCK.out _).mono ?_
  rintro e w2 ⟨rfl, hb2⟩
  replace B0 := B0.later hb2
  replace hb := hb.trans (hb2.mono hb.size)
  clear hb2 RG
  obtain ⟨⟨q0, q1, q2⟩, RP⟩ := HQ.out _ B0
  go_wp2_with fail
  refine (H1.out _).mono ?_
  rintro e wa ⟨rfl, hb2⟩
  replace B0 := B0.later hb2
  replace hb := hb.trans (hb2.mono hb.size)
  clear hb2 q0 q1 q2 RP
  obtain ⟨⟨q0, q1, q2⟩, RP⟩ := HQ.out _ B0
  go_wp2_with fail
  refine (HG.out _).mono ?_
  rintro e w' ⟨rfl, rfl⟩
  go_wp2_with fail
  refine (HI.out _).mono ?_
  rintro e w' ⟨rfl, rfl⟩
  go_wp2_with fail
  refine (H3.out _).mono ?_
  rintro e wc ⟨rfl, hb2⟩
  replace B0 := B0.later hb2
  replace hb := hb.trans (hb2.mono hb.size)
  clear hb2 q0 q1 q2 RP
  obtain ⟨⟨q0, q1, q2⟩, RP⟩ := HQ.out _ B0
  go_wp2_with fail
  refine (HP.out _).mono ?_
  rintro e w' ⟨rfl, rfl⟩
  go_wp2_with fail
  go_ret
  exact ⟨rfl, hb⟩
set_option maxRecDepth 100000 in
set_option maxHeartbeats 3200000 in
theorem reput_100 (k id gr lab : Int) (x : BitVec 32) (f : List V3) (w : World) (hf : f.length = 8) (hlb : 0 ≤ lab) (h0 : echk k id gr x lab f = 0) (hg : grp k = true) (hi : idk k = false) (hp : ptk k = false) :
    Calls Try.prog 47 #[.agg (ecells k id gr (x.toNat : Int) lab f).toArray] w fun e w' => e = .returned (.string (str (ebs k id gr x lab f))) ∧ Below w.heap.size w w' := by
  have HCK := Lib.hid (fun wx : World => recheck_any k id gr lab x f wx hf)
  have B0 := Blk.new w (ecells k id gr (x.toNat : Int) lab f) 63
  have HEL := Lib.hid (ecells_len k id gr (x.toNat : Int) lab hf)
  have HPL := Lib.hid (pcells_len (x.toNat : Int) lab hf)
  have hb := (Below.refl w.heap.size w).alloc (Nat.le_refl _) (.cells (ecells k id gr (x.toNat : Int) lab f).toArray 63)
  have HQ : Hid (∀ wx : World, Blk wx w.heap.size (ecells k id gr (x.toNat : Int) lab f) → (wx.cell? ⟨w.heap.size, 0, none⟩ = some (.int .i64 k) ∧ wx.cell? ⟨w.heap.size, 1, none⟩ = some (.int .i64 id) ∧ wx.cell? ⟨w.heap.size, 2, none⟩ = some (.int .i64 gr)) ∧ wx.rangeAt w.heap.size 3 (pcells (x.toNat : Int) lab f)) := Lib.hid (fun wx h => ⟨h.edit, h.patchE⟩)
  have hue := Try.underlying63
  have hup := Try.underlying61
  rw [h0] at HCK
  have HG := Lib.hid (fun wx : World => rgrp_any k wx)
  have HI := Lib.hid (fun wx : World => ridk_any k wx)
  have HP := Lib.hid (fun wx : World => rptk_any k wx)
  have hbs := ebs_of h0 hg hi hp
  rw [hg] at HG
  rw [hi] at HI
  rw [hp] at HP
  have H1 := Lib.hid (fun wx : World => ref_num k wx)
  obtain ⟨t1, ht1⟩ : ∃ t, t = str (enc (held k)) := ⟨_, rfl⟩
  rw [← ht1] at H1
  have z1 : t1.size ≤ 6 := by rw [ht1, str_size]; exact held_len k
  have y1 : t1.size ≤ 6 := z1
  have H2 := Lib.hid (fun wx : World => ref_num gr wx)
  obtain ⟨t2, ht2⟩ : ∃ t, t = str (enc (held gr)) := ⟨_, rfl⟩
  rw [← ht2] at H2
  have z2 : t2.size ≤ 6 := by rw [ht2, str_size]; exact held_len gr
  obtain ⟨u2, hu2⟩ : ∃ u, u = t1 ++ t2 := ⟨_, rfl⟩
  have a2 : t1 ++ t2 = u2 := hu2.symm
  have y2 : u2.size ≤ 12 := by rw [hu2, ByteArray.size_append]; omega
  have hR : str (ebs k id gr x lab f) = u2 := by
    rw [hbs, hu2, ht1, ht2]
    simp [str_append]
  rw [hR]
  obtain ⟨pc, hpc⟩ : ∃ pc, pc = pcells (x.toNat : Int) lab f := ⟨_, rfl⟩
  obtain ⟨ec, hec⟩ : ∃ ec, ec = ecells k id gr (x.toNat : Int) lab f := ⟨_, rfl⟩
  rw [← hpc] at HQ HPL
  rw [← hec] at B0 HEL hb HQ HCK ⊢
  have RG := B0.wholeC
  clear hpc hec hbs hR hf hlb h0 hg hi hp hu2 ht1 ht2
  go_enter Try.func47, Try.ntmps47
  go_wp2_with (first
    | (refine wpList_load_mid rfl 63 (.tmp 1) rfl w.heap.size 0 rfl ec _ RG hue rfl (by rw [HEL.out]; exact info_edit) ?_)
    | fail)
  refine (HCK.out _).mono ?_
  rintro e w2 ⟨rfl, hb2⟩
  replace B0 := B0.later hb2
  replace hb := hb.trans (hb2.mono hb.size)
  clear hb2 RG
  obtain ⟨⟨q0, q1, q2⟩, RP⟩ := HQ.out _ B0
  go_wp2_with fail
  refine (H1.out _).mono ?_
  rintro e wa ⟨rfl, hb2⟩
  replace B0 := B0.later hb2
  replace hb := hb.trans (hb2.mono hb.size)
  clear hb2 q0 q1 q2 RP
  obtain ⟨⟨q0, q1, q2⟩, RP⟩ := HQ.out _ B0
  go_wp2_with fail
  refine (HG.out _).mono ?_
  rintro e w' ⟨rfl, rfl⟩
  go_wp2_with fail
  refine (H2.out _).mono ?_
  rintro e wb ⟨rfl, hb2⟩
  replace B0 := B0.later hb2
  replace hb := hb.trans (hb2.mono hb.size)
  clear hb2 q0 q1 q2 RP
  obtain ⟨⟨q0, q1, q2⟩, RP⟩ := HQ.out _ B0
  go_wp2_with fail
  refine (HI.out _).mono ?_
  rintro e w' ⟨rfl, rfl⟩
  go_wp2_with fail
  refine (HP.out _).mono ?_
  rintro e w' ⟨rfl, rfl⟩
  go_wp2_with fail
  go_ret
  exact ⟨rfl, hb⟩
set_option maxRecDepth 100000 in
set_option maxHeartbeats 3200000 in
theorem reput_110 (k id gr lab : Int) (x : BitVec 32) (f : List V3) (w : World) (hf : f.length = 8) (hlb : 0 ≤ lab) (h0 : echk k id gr x lab f = 0) (hg : grp k = true) (hi : idk k = true) (hp : ptk k = false) :
    Calls Try.prog 47 #[.agg (ecells k id gr (x.toNat : Int) lab f).toArray] w fun e w' => e = .returned (.string (str (ebs k id gr x lab f))) ∧ Below w.heap.size w w' := by
  have HCK := Lib.hid (fun wx : World => recheck_any k id gr lab x f wx hf)
  have B0 := Blk.new w (ecells k id gr (x.toNat : Int) lab f) 63
  have HEL := Lib.hid (ecells_len k id gr (x.toNat : Int) lab hf)
  have HPL := Lib.hid (pcells_len (x.toNat : Int) lab hf)
  have hb := (Below.refl w.heap.size w).alloc (Nat.le_refl _) (.cells (ecells k id gr (x.toNat : Int) lab f).toArray 63)
  have HQ : Hid (∀ wx : World, Blk wx w.heap.size (ecells k id gr (x.toNat : Int) lab f) → (wx.cell? ⟨w.heap.size, 0, none⟩ = some (.int .i64 k) ∧ wx.cell? ⟨w.heap.size, 1, none⟩ = some (.int .i64 id) ∧ wx.cell? ⟨w.heap.size, 2, none⟩ = some (.int .i64 gr)) ∧ wx.rangeAt w.heap.size 3 (pcells (x.toNat : Int) lab f)) := Lib.hid (fun wx h => ⟨h.edit, h.patchE⟩)
  have hue := Try.underlying63
  have hup := Try.underlying61
  rw [h0] at HCK
  have HG := Lib.hid (fun wx : World => rgrp_any k wx)
  have HI := Lib.hid (fun wx : World => ridk_any k wx)
  have HP := Lib.hid (fun wx : World => rptk_any k wx)
  have hbs := ebs_of h0 hg hi hp
  rw [hg] at HG
  rw [hi] at HI
  rw [hp] at HP
  have H1 := Lib.hid (fun wx : World => ref_num k wx)
  obtain ⟨t1, ht1⟩ : ∃ t, t = str (enc (held k)) := ⟨_, rfl⟩
  rw [← ht1] at H1
  have z1 : t1.size ≤ 6 := by rw [ht1, str_size]; exact held_len k
  have y1 : t1.size ≤ 6 := z1
  have H2 := Lib.hid (fun wx : World => ref_num gr wx)
  obtain ⟨t2, ht2⟩ : ∃ t, t = str (enc (held gr)) := ⟨_, rfl⟩
  rw [← ht2] at H2
  have z2 : t2.size ≤ 6 := by rw [ht2, str_size]; exact held_len gr
  obtain ⟨u2, hu2⟩ : ∃ u, u = t1 ++ t2 := ⟨_, rfl⟩
  have a2 : t1 ++ t2 = u2 := hu2.symm
  have y2 : u2.size ≤ 12 := by rw [hu2, ByteArray.size_append]; omega
  have H3 := Lib.hid (fun wx : World => ref_num id wx)
  obtain ⟨t3, ht3⟩ : ∃ t, t = str (enc (held id)) := ⟨_, rfl⟩
  rw [← ht3] at H3
  have z3 : t3.size ≤ 6 := by rw [ht3, str_size]; exact held_len id
  obtain ⟨u3, hu3⟩ : ∃ u, u = u2 ++ t3 := ⟨_, rfl⟩
  have a3 : u2 ++ t3 = u3 := hu3.symm
  have y3 : u3.size ≤ 18 := by rw [hu3, ByteArray.size_append]; omega
  have hR : str (ebs k id gr x lab f) = u3 := by
    rw [hbs, hu3, hu2, ht1, ht2, ht3]
    simp [str_append]
  rw [hR]
  obtain ⟨pc, hpc⟩ : ∃ pc, pc = pcells (x.toNat : Int) lab f := ⟨_, rfl⟩
  obtain ⟨ec, hec⟩ : ∃ ec, ec = ecells k id gr (x.toNat : Int) lab f := ⟨_, rfl⟩
  rw [← hpc] at HQ HPL
  rw [← hec] at B0 HEL hb HQ HCK ⊢
  have RG := B0.wholeC
  clear hpc hec hbs hR hf hlb h0 hg hi hp hu2 hu3 ht1 ht2 ht3
  go_enter Try.func47, Try.ntmps47
  go_wp2_with (first
    | (refine wpList_load_mid rfl 63 (.tmp 1) rfl w.heap.size 0 rfl ec _ RG hue rfl (by rw [HEL.out]; exact info_edit) ?_)
    | fail)
  refine (HCK.out _).mono ?_
  rintro e w2 ⟨rfl, hb2⟩
  replace B0 := B0.later hb2
  replace hb := hb.trans (hb2.mono hb.size)
  clear hb2 RG
  obtain ⟨⟨q0, q1, q2⟩, RP⟩ := HQ.out _ B0
  go_wp2_with fail
  refine (H1.out _).mono ?_
  rintro e wa ⟨rfl, hb2⟩
  replace B0 := B0.later hb2
  replace hb := hb.trans (hb2.mono hb.size)
  clear hb2 q0 q1 q2 RP
  obtain ⟨⟨q0, q1, q2⟩, RP⟩ := HQ.out _ B0
  go_wp2_with fail
  refine (HG.out _).mono ?_
  rintro e w' ⟨rfl, rfl⟩
  go_wp2_with fail
  refine (H2.out _).mono ?_
  rintro e wb ⟨rfl, hb2⟩
  replace B0 := B0.later hb2
  replace hb := hb.trans (hb2.mono hb.size)
  clear hb2 q0 q1 q2 RP
  obtain ⟨⟨q0, q1, q2⟩, RP⟩ := HQ.out _ B0
  go_wp2_with fail
  refine (HI.out _).mono ?_
  rintro e w' ⟨rfl, rfl⟩
  go_wp2_with fail
  refine (H3.out _).mono ?_
  rintro e wc ⟨rfl, hb2⟩
  replace B0 := B0.later hb2
  replace hb := hb.trans (hb2.mono hb.size)
  clear hb2 q0 q1 q2 RP
  obtain ⟨⟨q0, q1, q2⟩, RP⟩ := HQ.out _ B0
  go_wp2_with fail
  refine (HP.out _).mono ?_
  rintro e w' ⟨rfl, rfl⟩
  go_wp2_with fail
  go_ret
  exact ⟨rfl, hb⟩
set_option maxRecDepth 100000 in
set_option maxHeartbeats 1600000 in
theorem reput_any (k id gr lab : Int) (x : BitVec 32) (f : List V3) (w : World) (hf : f.length = 8) (hlb : 0 ≤ lab) :
    Calls Try.prog 47 #[.agg (ecells k id gr (x.toNat : Int) lab f).toArray] w fun e w' => e = .returned (.string (str (ebs k id gr x lab f))) ∧ Below w.heap.size w w' := by
  by_cases h0 : echk k id gr x lab f = 0
  · obtain ⟨h1, h2, _⟩ := echk_ok h0
    have hc : k = 1 ∨ k = 2 ∨ k = 3 ∨ k = 4 ∨ k = 5 ∨ k = 6 ∨ k = 7 := by omega
    rcases hc with rfl | rfl | rfl | rfl | rfl | rfl | rfl
    · exact reput_001 _ id gr lab x f w hf hlb h0 rfl rfl rfl
    · exact reput_011 _ id gr lab x f w hf hlb h0 rfl rfl rfl
    · exact reput_010 _ id gr lab x f w hf hlb h0 rfl rfl rfl
    · exact reput_100 _ id gr lab x f w hf hlb h0 rfl rfl rfl
    · exact reput_100 _ id gr lab x f w hf hlb h0 rfl rfl rfl
    · exact reput_110 _ id gr lab x f w hf hlb h0 rfl rfl rfl
    · exact reput_110 _ id gr lab x f w hf hlb h0 rfl rfl rfl
  · have hR : str (ebs k id gr x lab f) = ⟨#[]⟩ := by unfold ebs; rw [if_pos h0]; rfl
    rw [hR]
    have HCK := Lib.hid (fun wx : World => recheck_any k id gr lab x f wx hf)
    have B0 := Blk.new w (ecells k id gr (x.toNat : Int) lab f) 63
    have HEL := Lib.hid (ecells_len k id gr (x.toNat : Int) lab hf)
    have HPL := Lib.hid (pcells_len (x.toNat : Int) lab hf)
    have hb := (Below.refl w.heap.size w).alloc (Nat.le_refl _) (.cells (ecells k id gr (x.toNat : Int) lab f).toArray 63)
    have HQ : Hid (∀ wx : World, Blk wx w.heap.size (ecells k id gr (x.toNat : Int) lab f) → (wx.cell? ⟨w.heap.size, 0, none⟩ = some (.int .i64 k) ∧ wx.cell? ⟨w.heap.size, 1, none⟩ = some (.int .i64 id) ∧ wx.cell? ⟨w.heap.size, 2, none⟩ = some (.int .i64 gr)) ∧ wx.rangeAt w.heap.size 3 (pcells (x.toNat : Int) lab f)) := Lib.hid (fun wx h => ⟨h.edit, h.patchE⟩)
    have hue := Try.underlying63
    have hup := Try.underlying61
    obtain ⟨er, her⟩ : ∃ z, z = echk k id gr x lab f := ⟨_, rfl⟩
    rw [← her] at HCK h0
    have be : (er != 0) = true := by simpa using h0
    obtain ⟨ec, hec⟩ : ∃ ec, ec = ecells k id gr (x.toNat : Int) lab f := ⟨_, rfl⟩
    rw [← hec] at B0 HEL hb HCK ⊢
    have RG := B0.wholeC
    clear hec her h0 hR B0 HQ HPL hup
    go_enter Try.func47, Try.ntmps47
    go_wp2_with (first
      | (refine wpList_load_mid rfl 63 (.tmp 1) rfl w.heap.size 0 rfl ec _ RG hue rfl (by rw [HEL.out]; exact info_edit) ?_)
      | fail)
    refine (HCK.out _).mono ?_
    rintro e w2 ⟨rfl, hb2⟩
    go_wp2_with fail
    go_ret
    exact ⟨rfl, hb.trans (hb2.mono hb.size)⟩
end Go.Proofs.Ytgpbglmlakildaa

/- Edits as bytes: what an edit touches. -/
namespace Go.Proofs.Ytgpbglmlakildaa
set_option linter.unusedVariables false
set_option linter.unusedSimpArgs false
open Go Go.RowKit OctM BitM

set_option maxRecDepth 100000 in
set_option maxHeartbeats 1600000 in
theorem etouch_any (k id gr lab : Int) (x : BitVec 32) (f : List V3) (w : World) (hf : f.length = 8) :
    Calls Try.prog 44 #[.agg (ecells k id gr (x.toNat : Int) lab f).toArray] w fun e w' => e = .returned (.int .i64 (if echk k id gr x lab f = 0 then id else 0)) ∧ Below w.heap.size w w' := by
  have HCK := Lib.hid (fun wx : World => echeck_any k id gr lab x f wx hf)
  have B0 := Blk.new w (ecells k id gr (x.toNat : Int) lab f) 63
  have HEL := Lib.hid (ecells_len k id gr (x.toNat : Int) lab hf)
  have HPL := Lib.hid (pcells_len (x.toNat : Int) lab hf)
  have hb := (Below.refl w.heap.size w).alloc (Nat.le_refl _) (.cells (ecells k id gr (x.toNat : Int) lab f).toArray 63)
  have HQ : Hid (∀ wx : World, Blk wx w.heap.size (ecells k id gr (x.toNat : Int) lab f) → (wx.cell? ⟨w.heap.size, 0, none⟩ = some (.int .i64 k) ∧ wx.cell? ⟨w.heap.size, 1, none⟩ = some (.int .i64 id) ∧ wx.cell? ⟨w.heap.size, 2, none⟩ = some (.int .i64 gr)) ∧ wx.rangeAt w.heap.size 3 (pcells (x.toNat : Int) lab f)) := Lib.hid (fun wx h => ⟨h.edit, h.patchE⟩)
  have hue := Try.underlying63
  have hup := Try.underlying61
  obtain ⟨er, her⟩ : ∃ z, z = echk k id gr x lab f := ⟨_, rfl⟩
  rw [← her] at HCK ⊢
  obtain ⟨ec, hec⟩ : ∃ ec, ec = ecells k id gr (x.toNat : Int) lab f := ⟨_, rfl⟩
  rw [← hec] at B0 HEL hb HQ HCK ⊢
  have RG := B0.wholeC
  clear hec her HPL hup
  by_cases h0 : er = 0
  · have be : (er != 0) = false := by simpa using h0
    rw [if_pos h0]
    clear h0
    go_enter Try.func44, Try.ntmps44
    go_wp2_with (first
      | (refine wpList_load_mid rfl 63 (.tmp 1) rfl w.heap.size 0 rfl ec _ RG hue rfl (by rw [HEL.out]; exact info_edit) ?_)
      | fail)
    refine (HCK.out _).mono ?_
    rintro e w2 ⟨rfl, hb2⟩
    have B2 := B0.later hb2
    obtain ⟨⟨q0, q1, q2⟩, RP⟩ := HQ.out _ B2
    go_wp2_with fail
    go_ret
    exact ⟨rfl, hb.trans (hb2.mono hb.size)⟩
  · have be : (er != 0) = true := by simpa using h0
    rw [if_neg h0]
    clear h0
    go_enter Try.func44, Try.ntmps44
    go_wp2_with (first
      | (refine wpList_load_mid rfl 63 (.tmp 1) rfl w.heap.size 0 rfl ec _ RG hue rfl (by rw [HEL.out]; exact info_edit) ?_)
      | fail)
    refine (HCK.out _).mono ?_
    rintro e w2 ⟨rfl, hb2⟩
    have B2 := B0.later hb2
    obtain ⟨⟨q0, q1, q2⟩, RP⟩ := HQ.out _ B2
    go_wp2_with fail
    go_ret
    exact ⟨rfl, hb.trans (hb2.mono hb.size)⟩
set_option maxRecDepth 100000 in
set_option maxHeartbeats 1600000 in
theorem retouch_any (k id gr lab : Int) (x : BitVec 32) (f : List V3) (w : World) (hf : f.length = 8) :
    Calls Try.prog 45 #[.agg (ecells k id gr (x.toNat : Int) lab f).toArray] w fun e w' => e = .returned (.int .i64 (if echk k id gr x lab f = 0 then id else 0)) ∧ Below w.heap.size w w' := by
  have HCK := Lib.hid (fun wx : World => recheck_any k id gr lab x f wx hf)
  have B0 := Blk.new w (ecells k id gr (x.toNat : Int) lab f) 63
  have HEL := Lib.hid (ecells_len k id gr (x.toNat : Int) lab hf)
  have HPL := Lib.hid (pcells_len (x.toNat : Int) lab hf)
  have hb := (Below.refl w.heap.size w).alloc (Nat.le_refl _) (.cells (ecells k id gr (x.toNat : Int) lab f).toArray 63)
  have HQ : Hid (∀ wx : World, Blk wx w.heap.size (ecells k id gr (x.toNat : Int) lab f) → (wx.cell? ⟨w.heap.size, 0, none⟩ = some (.int .i64 k) ∧ wx.cell? ⟨w.heap.size, 1, none⟩ = some (.int .i64 id) ∧ wx.cell? ⟨w.heap.size, 2, none⟩ = some (.int .i64 gr)) ∧ wx.rangeAt w.heap.size 3 (pcells (x.toNat : Int) lab f)) := Lib.hid (fun wx h => ⟨h.edit, h.patchE⟩)
  have hue := Try.underlying63
  have hup := Try.underlying61
  obtain ⟨er, her⟩ : ∃ z, z = echk k id gr x lab f := ⟨_, rfl⟩
  rw [← her] at HCK ⊢
  obtain ⟨ec, hec⟩ : ∃ ec, ec = ecells k id gr (x.toNat : Int) lab f := ⟨_, rfl⟩
  rw [← hec] at B0 HEL hb HQ HCK ⊢
  have RG := B0.wholeC
  clear hec her HPL hup
  by_cases h0 : er = 0
  · have be : (er != 0) = false := by simpa using h0
    rw [if_pos h0]
    clear h0
    go_enter Try.func45, Try.ntmps45
    go_wp2_with (first
      | (refine wpList_load_mid rfl 63 (.tmp 1) rfl w.heap.size 0 rfl ec _ RG hue rfl (by rw [HEL.out]; exact info_edit) ?_)
      | fail)
    refine (HCK.out _).mono ?_
    rintro e w2 ⟨rfl, hb2⟩
    have B2 := B0.later hb2
    obtain ⟨⟨q0, q1, q2⟩, RP⟩ := HQ.out _ B2
    go_wp2_with fail
    go_ret
    exact ⟨rfl, hb.trans (hb2.mono hb.size)⟩
  · have be : (er != 0) = true := by simpa using h0
    rw [if_neg h0]
    clear h0
    go_enter Try.func45, Try.ntmps45
    go_wp2_with (first
      | (refine wpList_load_mid rfl 63 (.tmp 1) rfl w.heap.size 0 rfl ec _ RG hue rfl (by rw [HEL.out]; exact info_edit) ?_)
      | fail)
    refine (HCK.out _).mono ?_
    rintro e w2 ⟨rfl, hb2⟩
    have B2 := B0.later hb2
    obtain ⟨⟨q0, q1, q2⟩, RP⟩ := HQ.out _ B2
    go_wp2_with fail
    go_ret
    exact ⟨rfl, hb.trans (hb2.mono hb.size)⟩
end Go.Proofs.Ytgpbglmlakildaa

/- EditTells: the walk. -/
namespace Go.Proofs.Ytgpbglmlakildaa
set_option linter.unusedVariables false
set_option linter.unusedSimpArgs false
open Go Go.RowKit BitM OctM

theorem eawk_bytes : ebs 6 5 2 0#32 0 zeros = [6, 2, 5] := by decide +kernel
set_option maxRecDepth 100000 in
set_option maxHeartbeats 1600000 in
theorem edit_awake (w : World) : Calls Try.prog 41 #[] w fun e w' => e = .returned (.bool true) ∧ Below w.heap.size w w' := by
  have HPC := Lib.hid (fun wx : World => eput_any 6 5 2 0 0#32 zeros none 0 0 [] wx zeros_len (by decide) rfl Sees.nil_ (by omega))
  rw [List.nil_append, eawk_bytes] at HPC
  go_enter Try.func41, Try.ntmps41
  go_wp2_with fail
  refine (HPC.out _).mono ?_
  rintro e w8 ⟨A8, c8, rfl, o8, b8⟩
  have hr := str_conv w8 w8.heap.size A8 3 c8 _ ⟨#[6, 2, 5]⟩ rfl o8.sees rfl
  clear o8
  go_wp2_with (first
    | (refine wpList_exec (by rfl) (.string ⟨#[6, 2, 5]⟩) (exec_conv (.tmp 2) 44 9 rfl _ rfl _ hr) ?_)
    | fail)
  go_ret
  exact ⟨rfl, b8⟩
theorem Blk.fieldsE {w : World} {g : Nat} {k id gr m lab : Int} {f : List V3} (h : Blk w g (ecells k id gr m lab f)) : w.rangeAt g 5 (fcells f) :=
  h.range 5 _ (by
    unfold ecells pcells
    rw [← List.append_assoc, List.drop_left' (by rfl), List.take_length])

set_option maxRecDepth 100000 in
set_option maxHeartbeats 6400000 in
theorem walk_etells (k id gr lab : Int) (x : BitVec 32) (f : List V3) (A : Option Addr) (n c : Nat) (l : List UInt8) (w : World) (hf : f.length = 8) (hlb : 0 ≤ lab) (hn : l.length = n) (hs : Sees w w.heap.size A (bvs l)) :
    Calls Try.prog 9 #[.agg (ecells k id gr (x.toNat : Int) lab f).toArray, .slice A n c] w fun e w' => e = .returned (.bool true) ∧ Below w.heap.size w w' := by
  have HEL : Hid ((ecells k id gr (x.toNat : Int) lab f).length = 29) := Lib.hid (ecells_len k id gr (x.toNat : Int) lab hf)
  have HFC : Hid ((fcells f).length = 24) := Lib.hid (by rw [fcells_len, hf])
  have HA := Lib.hid (fun wx : World => large_any f wx hf)
  have HAW := Lib.hid (fun wx : World => edit_awake wx)
  have B0 := Blk.new w (ecells k id gr (x.toNat : Int) lab f) 63
  have hw0 := (Below.refl w.heap.size w).alloc (Nat.le_refl _) (.cells (ecells k id gr (x.toNat : Int) lab f).toArray 63)
  have RF := B0.fieldsE
  obtain ⟨ss, hss⟩ : ∃ z, z = str l := ⟨_, rfl⟩
  have zs : ss.size = n := by rw [hss, str_size, hn]
  obtain ⟨lp, hlp⟩ : ∃ z, z = l ++ ebs k id gr x lab f := ⟨_, rfl⟩
  obtain ⟨kp, hkp⟩ : ∃ z, z = lp.length := ⟨_, rfl⟩
  obtain ⟨rp, hrp⟩ : ∃ z, z = str (ebs k id gr x lab f) := ⟨_, rfl⟩
  obtain ⟨sp, hsp⟩ : ∃ z, z = str lp := ⟨_, rfl⟩
  have addp : ss ++ rp = sp := by rw [hss, hrp, str_append, hsp, hlp]
  have zp : rp.size ≤ 420 := by rw [hrp, str_size]; exact ebs_len k id gr x lab f
  have KP : Hid (lp.length = kp) := Lib.hid hkp.symm
  have CP : Hid (∀ (wx : World) (A' : Option Addr) (c' : Nat) (h : Sees wx wx.heap.size A' (bvs lp)), (convert 44 9 (.slice A' kp c')).run Try.prog wx = .ok (.string sp) wx) := Lib.hid (fun wx A' c' h => str_conv wx wx.heap.size A' kp c' lp sp hkp.symm h hsp)
  have HP : Hid (n ≤ 500 → ∀ wx : World, Le w wx → Calls Try.prog 46 #[.slice A n c, .agg (ecells k id gr (x.toNat : Int) lab f).toArray] wx (GivesBytes wx lp)) := Lib.hid (fun h5 wx hb => by rw [hlp]; exact eput_any k id gr lab x f A n c l wx hf hlb hn ((hs.below hb).more hb.size) (by omega))
  have RP : Hid (∀ wx : World, Calls Try.prog 47 #[.agg (ecells k id gr (x.toNat : Int) lab f).toArray] wx fun e w' => e = .returned (.string rp) ∧ Below wx.heap.size wx w') := Lib.hid (fun wx => by rw [hrp]; exact reput_any k id gr lab x f wx hf hlb)
  have H1 := Lib.hid (fun wx : World => echeck_any k id gr lab x f wx hf)
  have H2 := Lib.hid (fun wx : World => recheck_any k id gr lab x f wx hf)
  have H3 := Lib.hid (fun wx : World => etouch_any k id gr lab x f wx hf)
  have H4 := Lib.hid (fun wx : World => retouch_any k id gr lab x f wx hf)
  obtain ⟨tv, htv⟩ : ∃ z : Int, z = if echk k id gr x lab f = 0 then id else 0 := ⟨_, rfl⟩
  rw [← htv] at H3 H4
  clear htv
  obtain ⟨ck, hck⟩ : ∃ z, z = echk k id gr x lab f := ⟨_, rfl⟩
  rw [← hck] at H1 H2
  have HSS : Hid (∀ wx : World, Le w wx → (convert 44 9 (.slice A n c)).run Try.prog wx = .ok (.string ss) wx) := Lib.hid (fun wx hb => str_conv wx w.heap.size A n c l ss hn (hs.below hb) hss)
  obtain ⟨ec, hec⟩ : ∃ z, z = ecells k id gr (x.toNat : Int) lab f := ⟨_, rfl⟩
  rw [← hec] at HEL B0 RF hw0 HP RP H1 H2 H3 H4 ⊢
  clear hec hrp hsp hlp hkp hss hs hn hf hck
  generalize hW : w.alloc (.cells ec.toArray 63) = W at *
  have HW := Lib.hid hW
  have HBW := Lib.hid hw0
  clear hW hw0
  have hu8 := Try.underlying59
  have hue := Try.underlying63
  rw [← HW.out] at RF
  obtain ⟨t1, ht1⟩ : ∃ t, t = tooLong f := ⟨_, rfl⟩
  rw [← ht1] at HA
  clear ht1
  cases t1
  all_goals
    go_enter Try.func9, Try.ntmps9
    go_wp2_with (first
      | (refine wpList_load_mid rfl 59 (.tmp 6) rfl w.heap.size 5 rfl (fcells f) _ RF hu8 rfl (by rw [HFC.out]; exact info_fields) ?_)
      | fail)
    rw [HW.out]
    refine (HA.out W).mono ?_
    rintro e w1 ⟨rfl, hb⟩
    have hb1 := HBW.out.trans (hb.mono HBW.out.size)
    have C0 := B0.later hb
    clear RF B0 HA hb HBW HW
  · by_cases h5 : n ≤ 500
    · have d5 : decide ((500 : Int) < (n : Int)) = false := by simp; omega
      replace HP : Hid (∀ wx : World, Le w1 wx → Calls Try.prog 46 #[.slice A n c, .agg ec.toArray] wx (GivesBytes wx lp)) := Lib.hid (fun wx hl => HP.out h5 wx (hb1.trans (hl.mono hb1.size)))
      replace HSS : Hid (∀ wx : World, Le w1 wx → (convert 44 9 (.slice A n c)).run Try.prog wx = .ok (.string ss) wx) := Lib.hid (fun wx hl => HSS.out wx (hb1.trans (hl.mono hb1.size)))
      have HLE : Hid (∀ wx, Le w1 wx → wx.rangeAt w.heap.size 0 ec) := Lib.hid (fun wx hl => (C0.later hl).wholeC)
      clear C0
      go_wp2_with fail
      refine wp_region_steady [(30, relSee kp lp)] 42 (by kernel_rfl) (by kernel_rfl) (by kernel_rfl) (by rfl) ?_
      refine wpG_run (by rfl) (by rfl) (.agg ec.toArray) (fun w1 hl => exec_load 63 (.tmp 2) rfl w.heap.size 0 rfl ec _ (HLE.out w1 hl.1) hue rfl (by rw [HEL.out]; exact info_edit)) ?_
      simp only [Act.put, List.setIfInBounds_toArray, List.set_cons_zero, List.set_cons_succ]
      refine wpG_call (by rfl) (by rfl) 42 #[.agg ec.toArray] (.int .i64 ck) (by intro _; simp [go_sem]) (by kernel_rfl) (fun w1 hl => H1.out w1) ?_
      simp only [Act.put, List.setIfInBounds_toArray, List.set_cons_zero, List.set_cons_succ]
      refine wpG_run (by rfl) (by rfl) (.agg ec.toArray) (fun w1 hl => exec_load 63 (.tmp 2) rfl w.heap.size 0 rfl ec _ (HLE.out w1 hl.1) hue rfl (by rw [HEL.out]; exact info_edit)) ?_
      simp only [Act.put, List.setIfInBounds_toArray, List.set_cons_zero, List.set_cons_succ]
      refine wpG_call (by rfl) (by rfl) 43 #[.agg ec.toArray] (.int .i64 ck) (by intro _; simp [go_sem]) (by kernel_rfl) (fun w1 hl => H2.out w1) ?_
      simp only [Act.put, List.setIfInBounds_toArray, List.set_cons_zero, List.set_cons_succ]
      refine wpG_run (by rfl) (by rfl) (.bool true) (fun w1 hl => by simp [go_sem]) ?_
      simp only [Act.put, List.setIfInBounds_toArray, List.set_cons_zero, List.set_cons_succ]
      iterate 1 (refine wpG_quiet (by rfl) (by rfl) (by rfl) (fun K hK => ?_); go_big_quiet_op; refine hK _ ?_; clear hK K)
      refine wpG_run (by rfl) (by rfl) (.agg ec.toArray) (fun w1 hl => exec_load 63 (.tmp 2) rfl w.heap.size 0 rfl ec _ (HLE.out w1 hl.1) hue rfl (by rw [HEL.out]; exact info_edit)) ?_
      simp only [Act.put, List.setIfInBounds_toArray, List.set_cons_zero, List.set_cons_succ]
      refine wpG_call (by rfl) (by rfl) 44 #[.agg ec.toArray] (.int .i64 tv) (by intro _; simp [go_sem]) (by kernel_rfl) (fun w1 hl => H3.out w1) ?_
      simp only [Act.put, List.setIfInBounds_toArray, List.set_cons_zero, List.set_cons_succ]
      refine wpG_run (by rfl) (by rfl) (.agg ec.toArray) (fun w1 hl => exec_load 63 (.tmp 2) rfl w.heap.size 0 rfl ec _ (HLE.out w1 hl.1) hue rfl (by rw [HEL.out]; exact info_edit)) ?_
      simp only [Act.put, List.setIfInBounds_toArray, List.set_cons_zero, List.set_cons_succ]
      refine wpG_call (by rfl) (by rfl) 45 #[.agg ec.toArray] (.int .i64 tv) (by intro _; simp [go_sem]) (by kernel_rfl) (fun w1 hl => H4.out w1) ?_
      simp only [Act.put, List.setIfInBounds_toArray, List.set_cons_zero, List.set_cons_succ]
      refine wpG_run (by rfl) (by rfl) (.bool true) (fun w1 hl => by simp [go_sem]) ?_
      simp only [Act.put, List.setIfInBounds_toArray, List.set_cons_zero, List.set_cons_succ]
      iterate 3 (refine wpG_quiet (by rfl) (by rfl) (by rfl) (fun K hK => ?_); go_big_quiet_op; refine hK _ ?_; clear hK K)
      refine wpG_run (by rfl) (by rfl) (.agg ec.toArray) (fun w1 hl => exec_load 63 (.tmp 2) rfl w.heap.size 0 rfl ec _ (HLE.out w1 hl.1) hue rfl (by rw [HEL.out]; exact info_edit)) ?_
      simp only [Act.put, List.setIfInBounds_toArray, List.set_cons_zero, List.set_cons_succ]
      refine wpG_calls (relSee kp lp) (by rfl) (by rfl) 46 #[.slice A n c, .agg ec.toArray] (by intro _; simp [go_sem]) (fun w1 hl => (HP.out w1 hl.1).mono ?_) ?_
      · intro e w2 h
        exact gives_see KP.out h
      rintro _ ⟨_, _, _, ⟨A1, c1, rfl, _⟩⟩
      simp only [Act.put, List.setIfInBounds_toArray, List.set_cons_zero, List.set_cons_succ]
      refine wpG_run (by rfl) (by rfl) (.string sp) (fun w1 hl => ?_) ?_
      · obtain ⟨A2, c2, h2, s2⟩ := hl.2 30 _ (by simp [Op.operands]) rfl (by intro h; cases h)
        cases h2
        exact exec_conv (.tmp 30) 44 9 rfl _ rfl _ (CP.out w1 A1 c1 s2)
      simp only [Act.put, List.setIfInBounds_toArray, List.set_cons_zero, List.set_cons_succ]
      iterate 1 (refine wpG_quiet (by rfl) (by rfl) (by rfl) (fun K hK => ?_); go_big_quiet_op; refine hK _ ?_; clear hK K)
      refine wpG_run (by rfl) (by rfl) (.string ss) (fun w1 hl => exec_conv (.tmp 32) 44 9 rfl _ rfl _ (HSS.out w1 hl.1)) ?_
      simp only [Act.put, List.setIfInBounds_toArray, List.set_cons_zero, List.set_cons_succ]
      refine wpG_run (by rfl) (by rfl) (.agg ec.toArray) (fun w1 hl => exec_load 63 (.tmp 2) rfl w.heap.size 0 rfl ec _ (HLE.out w1 hl.1) hue rfl (by rw [HEL.out]; exact info_edit)) ?_
      simp only [Act.put, List.setIfInBounds_toArray, List.set_cons_zero, List.set_cons_succ]
      refine wpG_call (by rfl) (by rfl) 47 #[.agg ec.toArray] (.string rp) (by intro _; simp [go_sem]) (by kernel_rfl) (fun w1 hl => RP.out w1) ?_
      simp only [Act.put, List.setIfInBounds_toArray, List.set_cons_zero, List.set_cons_succ]
      iterate 4 (refine wpG_quiet (by rfl) (by rfl) (by rfl) (fun K hK => ?_); go_big_quiet_op; refine hK _ ?_; clear hK K)
      refine wpG_call (by rfl) (by rfl) 41 #[] (.bool true) (by intro _; simp [go_sem]) (by kernel_rfl) (fun w1 hl => HAW.out w1) ?_
      simp only [Act.put, List.setIfInBounds_toArray, List.set_cons_zero, List.set_cons_succ]
      iterate 2 (refine wpG_quiet (by rfl) (by rfl) (by rfl) (fun K hK => ?_); go_big_quiet_op; refine hK _ ?_; clear hK K)
      refine wpG_nil fun w1 hl _ => ?_
      have hb3 := hb1.trans (hl.mono hb1.size)
      go_wp2_with fail
      go_ret
      exact ⟨rfl, hb3⟩
    · have d5 : decide ((500 : Int) < (n : Int)) = true := by simp; omega
      clear HP CP addp C0
      go_wp2_with fail
      refine (HAW.out _).mono ?_
      rintro e w9 ⟨rfl, b9⟩
      go_wp2_with fail
      go_ret
      exact ⟨rfl, hb1.trans (b9.mono hb1.size)⟩
  · clear HP CP addp C0
    go_wp2_with fail
    refine (HAW.out _).mono ?_
    rintro e w9 ⟨rfl, b9⟩
    go_wp2_with fail
    go_ret
    exact ⟨rfl, hb1.trans (b9.mono hb1.size)⟩
end Go.Proofs.Ytgpbglmlakildaa

/- What the frame gives of a value, of fields, of a card, of a patch. -/
namespace Go.Proofs.Ytgpbglmlakildaa
set_option linter.unusedVariables false
open Go Go.RowKit BitM

section
variable {H : Type} {enc : TypeId × Value → H} {W : World}

theorem list3 {α : Type} {l : List α} {a b c : α} (hl : l.length = 3) (h0 : (l.drop 0).take 1 = [a]) (h1 : (l.drop 1).take 1 = [b]) (h2 : (l.drop 2).take 1 = [c]) : l = [a, b, c] := by
  match l, hl with
  | [x, y, z], _ => simp at h0 h1 h2; rw [h0, h1, h2]
/-- What a number, a text in an input is. -/
def okV (v : V3) : Prop := (-9223372036854775808 ≤ v.1 ∧ v.1 ≤ 9223372036854775807) ∧ (-9223372036854775808 ≤ v.2.1 ∧ v.2.1 ≤ 9223372036854775807) ∧ v.2.2.size ≤ maxLen
theorem trod_val {sp : Nat → Bool} {held : Bool} {n : Nat} {cs : List Value} {x : DataW H × List MemPlace} (h : DataW.trod enc Try.prog W 0 sp held n 27 cs = some x) : ∃ v : V3, cs = vcells v ∧ okV v := by
  obtain ⟨y0, y1, y2, m, _, hl, h0, h1, h2⟩ := Go.Deep.trod_struct3 Try.underlying27 h
  have c1 : Try.prog.cellsOf 3 = 1 := by kernel_rfl
  have c2 : Try.prog.cellsOf 9 = 1 := by kernel_rfl
  have c3 : Try.prog.cellsOf 27 = 3 := by kernel_rfl
  rw [c3] at hl
  simp only [c1] at h0 h1
  simp only [c2] at h2
  obtain ⟨a, e0, _, w0⟩ := DataW.trod_int Try.underlying3 h0
  obtain ⟨b, e1, _, w1⟩ := DataW.trod_int Try.underlying3 h1
  obtain ⟨s, e2, _, w2⟩ := DataW.trod_string Try.underlying9 h2
  exact ⟨(a, b, s), list3 hl e0 e1 e2, i64_wf w0, i64_wf w1, w2⟩
theorem cut3 : ∀ (l : List Value) (n : Nat), l.length = n * 3 → (∀ i, i < n → ∃ v : V3, (l.drop (i * 3)).take 3 = vcells v ∧ okV v) → ∃ f : List V3, l = fcells f ∧ f.length = n ∧ ∀ v ∈ f, okV v
  | l, 0, hl, _ => ⟨[], List.length_eq_zero_iff.1 (by rw [hl]), rfl, by simp⟩
  | l, n + 1, hl, h => by
    obtain ⟨v, hv, ok⟩ := h 0 (by omega)
    obtain ⟨f, hf, hn, hok⟩ := cut3 (l.drop 3) n (by rw [List.length_drop, hl]; omega) (fun i hi => by
      have := h (i + 1) (by omega)
      rw [List.drop_drop, show 3 + i * 3 = (i + 1) * 3 by omega]
      exact this)
    refine ⟨v :: f, ?_, by simp [hn], ?_⟩
    · rw [fcells_cons, ← hf, ← hv]
      simp
    · intro u hu
      rcases List.mem_cons.1 hu with rfl | hu
      · exact ok
      · exact hok u hu
theorem trod_fields {sp : Nat → Bool} {held : Bool} {n : Nat} {cs : List Value} {x : DataW H × List MemPlace} (h : DataW.trod enc Try.prog W 0 sp held n 59 cs = some x) : ∃ f : List V3, cs = fcells f ∧ f.length = 8 ∧ ∀ v ∈ f, okV v := by
  obtain ⟨xs, m, _, _, hl, hxl, heach⟩ := DataW.trod_array Try.underlying59 h
  have c3 : Try.prog.cellsOf 27 = 3 := by kernel_rfl
  have c8 : Try.prog.cellsOf 59 = 24 := by kernel_rfl
  rw [c8] at hl
  simp only [c3] at heach
  refine cut3 cs 8 hl fun i hi => ?_
  have h1 := heach i hi
  rw [List.getElem?_eq_getElem (by rw [hxl]; exact hi)] at h1
  exact trod_val h1
theorem list2 {α : Type} {l : List α} {a b : α} (hl : l.length = 2) (h0 : (l.drop 0).take 1 = [a]) (h1 : (l.drop 1).take 1 = [b]) : l = [a, b] := by
  match l, hl with
  | [x, y], _ => simp at h0 h1; rw [h0, h1]
set_option maxRecDepth 100000 in
theorem open_patch {r : Reach} {base : Nat} {v : Value} {d : DataW H} {ps : List MemPlace}
    (hv : Value.okWide Try.prog W r base 61 v) (h : DataW.Trod enc Try.prog W 0 (fun _ => true) true 61 v d ps) :
    ∃ (m lab : BitVec 32) (f : List V3), v = .agg (pcells (m.toNat : Int) (lab.toNat : Int) f).toArray ∧ f.length = 8 ∧ (∀ v ∈ f, okV v) := by
  simp only [Value.okWide, Try.underlying61] at hv
  obtain ⟨cs, rfl, hrest⟩ := hv
  obtain ⟨fuel, hf⟩ := h
  obtain ⟨y0, y1, y2, m, _, hl, h0, h1, h2⟩ := Go.Deep.trod_struct3 Try.underlying61 hf
  have c2 : Try.prog.cellsOf 58 = 1 := by kernel_rfl
  have c8 : Try.prog.cellsOf 59 = 24 := by kernel_rfl
  have c26 : Try.prog.cellsOf 61 = 26 := by kernel_rfl
  rw [c26] at hl
  simp only [c2, Value.cells] at h0 h1
  simp only [c8, Value.cells] at h2
  simp only [Value.cells] at hl
  obtain ⟨a, e0, _, w0⟩ := DataW.trod_int Try.underlying58 h0
  obtain ⟨b, e1, _, w1⟩ := DataW.trod_int Try.underlying58 h1
  obtain ⟨f, e3, hf8, hok⟩ := trod_fields h2
  obtain ⟨x, rfl⟩ := u32_wf w0
  obtain ⟨y, rfl⟩ := u32_wf w1
  refine ⟨x, y, f, ?_, hf8, hok⟩
  congr 1
  apply Array.toList_inj.1
  have e4 : cs.toList.take 2 = [.int .u32 (x.toNat : Int), .int .u32 (y.toNat : Int)] := list2 (by rw [List.length_take, hl]; rfl) (by simpa [List.take_take, List.drop_take] using e0) (by simpa [List.take_take, List.drop_take] using e1)
  rw [← List.take_append_drop 2 cs.toList, e4]
  unfold pcells
  rw [← e3, List.take_of_length_le (by rw [List.length_drop, hl]; omega)]
end
end Go.Proofs.Ytgpbglmlakildaa

/- What the frame gives of an edit. -/
namespace Go.Proofs.Ytgpbglmlakildaa
set_option linter.unusedVariables false
open Go Go.RowKit BitM

section
variable {H : Type} {enc : TypeId × Value → H} {W : World}
set_option maxRecDepth 100000 in
theorem trod_patch {sp : Nat → Bool} {held : Bool} {n : Nat} {cs : List Value} {x : DataW H × List MemPlace} (h : DataW.trod enc Try.prog W 0 sp held n 61 cs = some x) : ∃ (m lab : BitVec 32) (f : List V3), cs = pcells (m.toNat : Int) (lab.toNat : Int) f ∧ f.length = 8 ∧ (∀ v ∈ f, okV v) := by
  obtain ⟨y0, y1, y2, m, _, hl, h0, h1, h2⟩ := Go.Deep.trod_struct3 Try.underlying61 h
  have c2 : Try.prog.cellsOf 58 = 1 := by kernel_rfl
  have c8 : Try.prog.cellsOf 59 = 24 := by kernel_rfl
  have c26 : Try.prog.cellsOf 61 = 26 := by kernel_rfl
  rw [c26] at hl
  simp only [c2] at h0 h1
  simp only [c8] at h2
  obtain ⟨a, e0, _, w0⟩ := DataW.trod_int Try.underlying58 h0
  obtain ⟨b, e1, _, w1⟩ := DataW.trod_int Try.underlying58 h1
  obtain ⟨f, e3, hf8, hok⟩ := trod_fields h2
  obtain ⟨x, rfl⟩ := u32_wf w0
  obtain ⟨y, rfl⟩ := u32_wf w1
  refine ⟨x, y, f, ?_, hf8, hok⟩
  have e4 : cs.take 2 = [.int .u32 (x.toNat : Int), .int .u32 (y.toNat : Int)] := list2 (by rw [List.length_take, hl]; rfl) (by simpa [List.take_take, List.drop_take] using e0) (by simpa [List.take_take, List.drop_take] using e1)
  rw [← List.take_append_drop 2 cs, e4]
  unfold pcells
  rw [← e3, List.take_of_length_le (by rw [List.length_drop, hl]; omega)]
set_option maxRecDepth 100000 in
theorem open_edit {r : Reach} {base : Nat} {v : Value} {d : DataW H} {ps : List MemPlace}
    (hv : Value.okWide Try.prog W r base 63 v) (h : DataW.Trod enc Try.prog W 0 (fun _ => true) true 63 v d ps) :
    ∃ (k id gr : Int) (m lab : BitVec 32) (f : List V3), v = .agg (ecells k id gr (m.toNat : Int) (lab.toNat : Int) f).toArray ∧ f.length = 8 ∧ (∀ v ∈ f, okV v) ∧ (-9223372036854775808 ≤ k ∧ k ≤ 9223372036854775807) ∧ (-9223372036854775808 ≤ id ∧ id ≤ 9223372036854775807) ∧ (-9223372036854775808 ≤ gr ∧ gr ≤ 9223372036854775807) := by
  simp only [Value.okWide, Try.underlying63] at hv
  obtain ⟨cs, rfl, hrest⟩ := hv
  obtain ⟨fuel, hf⟩ := h
  obtain ⟨y0, y1, y2, y3, m, _, hl, h0, h1, h2, h3⟩ := Go.Joins.trod_struct4 Try.underlying63 hf
  have c1 : Try.prog.cellsOf 3 = 1 := by kernel_rfl
  have c26 : Try.prog.cellsOf 61 = 26 := by kernel_rfl
  have c29 : Try.prog.cellsOf 63 = 29 := by kernel_rfl
  rw [c29] at hl
  simp only [c1, Value.cells] at h0 h1 h2
  simp only [c26, Value.cells] at h3
  simp only [Value.cells] at hl
  obtain ⟨a, e0, _, w0⟩ := DataW.trod_int Try.underlying3 h0
  obtain ⟨b, e1, _, w1⟩ := DataW.trod_int Try.underlying3 h1
  obtain ⟨c, e2, _, w2⟩ := DataW.trod_int Try.underlying3 h2
  obtain ⟨x, y, f, e3, hf8, hok⟩ := trod_patch h3
  refine ⟨a, b, c, x, y, f, ?_, hf8, hok, i64_wf w0, i64_wf w1, i64_wf w2⟩
  congr 1
  apply Array.toList_inj.1
  have e4 : cs.toList.take 3 = [.int .i64 a, .int .i64 b, .int .i64 c] := list3 (by rw [List.length_take, hl]; rfl) (by simpa [List.take_take, List.drop_take] using e0) (by simpa [List.take_take, List.drop_take] using e1) (by simpa [List.take_take, List.drop_take] using e2)
  rw [← List.take_append_drop 3 cs.toList, e4]
  unfold ecells
  rw [← e3, List.take_of_length_le (by rw [List.length_drop, hl]; omega)]
end
end Go.Proofs.Ytgpbglmlakildaa
