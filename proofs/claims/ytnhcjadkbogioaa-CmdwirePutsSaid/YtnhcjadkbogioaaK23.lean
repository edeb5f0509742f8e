/- Edits as bytes: what the document's Put returns. -/
import Derived.Test.YtnhcjadkbogioaaK7
import Derived.Test.YtnhcjadkbogioaaK13
import Derived.Test.YtnhcjadkbogioaaK14
import Derived.Test.YtnhcjadkbogioaaK11
import Derived.Test.YtnhcjadkbogioaaK21
import Derived.Test.YtnhcjadkbogioaaK20
namespace Go.Proofs.Ytnhcjadkbogioaa
set_option linter.unusedVariables false
set_option linter.unusedSimpArgs false
open Go Go.RowKit OctM BitM

set_option maxRecDepth 100000 in
set_option maxHeartbeats 3200000 in
theorem reput_001 (k id gr lab : Int) (x : BitVec 32) (f : List V3) (w : World) (hf : f.length = 8) (hlb : 0 ≤ lab) (h0 : echk k id gr x lab f = 0) (hg : grp k = false) (hi : idk k = false) (hp : ptk k = true) :
    Calls Try.prog 27 #[.agg (ecells k id gr (x.toNat : Int) lab f).toArray] w fun e w' => e = .returned (.string (str (ebs k id gr x lab f))) ∧ Below w.heap.size w w' := by
  have HCK := Lib.hid (fun wx : World => recheck_any k id gr lab x f wx hf)
  have B0 := Blk.new w (ecells k id gr (x.toNat : Int) lab f) 29
  have HEL := Lib.hid (ecells_len k id gr (x.toNat : Int) lab hf)
  have HPL := Lib.hid (pcells_len (x.toNat : Int) lab hf)
  have hb := (Below.refl w.heap.size w).alloc (Nat.le_refl _) (.cells (ecells k id gr (x.toNat : Int) lab f).toArray 29)
  have HQ : Hid (∀ wx : World, Blk wx w.heap.size (ecells k id gr (x.toNat : Int) lab f) → (wx.cell? ⟨w.heap.size, 0, none⟩ = some (.int .i64 k) ∧ wx.cell? ⟨w.heap.size, 1, none⟩ = some (.int .i64 id) ∧ wx.cell? ⟨w.heap.size, 2, none⟩ = some (.int .i64 gr)) ∧ wx.rangeAt w.heap.size 3 (pcells (x.toNat : Int) lab f)) := Lib.hid (fun wx h => ⟨h.edit, h.patchE⟩)
  have hue := Try.underlying29
  have hup := Try.underlying27
  rw [h0] at HCK
  have HG := Lib.hid (fun wx : World => rgrp_any k wx)
  have HI := Lib.hid (fun wx : World => ridk_any k wx)
  have HP := Lib.hid (fun wx : World => rptk_any k wx)
  have hbs := ebs_of h0 hg hi hp
  rw [hg] at HG
  rw [hi] at HI
  rw [hp] at HP
  have H1 := Lib.hid (fun wx : World => ref_num k wx)
  obtain ⟨t1, ht1⟩ : ∃ t, t = str (enc (held k)) := ⟨_, rfl⟩
  rw [← ht1] at H1
  have z1 : t1.size ≤ 6 := by rw [ht1, str_size]; exact held_len k
  have y1 : t1.size ≤ 6 := z1
  have H4 := Lib.hid (fun wx : World => rputpatch_any x lab f wx hf hlb)
  obtain ⟨t4, ht4⟩ : ∃ t, t = str (pbs x lab f) := ⟨_, rfl⟩
  rw [← ht4] at H4
  have z4 : t4.size ≤ 400 := by rw [ht4, str_size]; exact pbs_len x lab f
  obtain ⟨u4, hu4⟩ : ∃ u, u = t1 ++ t4 := ⟨_, rfl⟩
  have a4 : t1 ++ t4 = u4 := hu4.symm
  have hR : str (ebs k id gr x lab f) = u4 := by
    rw [hbs, hu4, ht1, ht4]
    simp [str_append]
  rw [hR]
  obtain ⟨pc, hpc⟩ : ∃ pc, pc = pcells (x.toNat : Int) lab f := ⟨_, rfl⟩
  obtain ⟨ec, hec⟩ : ∃ ec, ec = ecells k id gr (x.toNat : Int) lab f := ⟨_, rfl⟩
  rw [← hpc] at HQ HPL H4
  rw [← hec] at B0 HEL hb HQ HCK ⊢
  have RG := B0.wholeC
  clear hpc hec hbs hR hf hlb h0 hg hi hp hu4 ht1 ht4
  go_enter Try.func27, Try.ntmps27
  go_wp2_with (first
    | (refine wpList_load_mid rfl 29 (.tmp 1) rfl w.heap.size 0 rfl ec _ RG hue rfl (by rw [HEL.out]; exact info_edit) ?_)
    | fail)
  refine (HCK.out _).mono ?_
  rintro e w2 ⟨rfl, hb2⟩
  replace B0 := B0.later hb2
  replace hb := hb.trans (hb2.mono hb.size)
  clear hb2 RG
  obtain ⟨⟨q0, q1, q2⟩, RP⟩ := HQ.out _ B0
  go_wp2_with fail
  refine (H1.out _).mono ?_
  rintro e wa ⟨rfl, hb2⟩
  replace B0 := B0.later hb2
  replace hb := hb.trans (hb2.mono hb.size)
  clear hb2 q0 q1 q2 RP
  obtain ⟨⟨q0, q1, q2⟩, RP⟩ := HQ.out _ B0
  go_wp2_with fail
  refine (HG.out _).mono ?_
  rintro e w' ⟨rfl, rfl⟩
  go_wp2_with fail
  refine (HI.out _).mono ?_
  rintro e w' ⟨rfl, rfl⟩
  go_wp2_with fail
  refine (HP.out _).mono ?_
  rintro e w' ⟨rfl, rfl⟩
  go_wp2_with (first
    | (refine wpList_load_mid rfl 27 (.tmp 30) rfl w.heap.size 3 rfl pc _ RP hup rfl (by rw [HPL.out]; exact info_patch) ?_)
    | fail)
  refine (H4.out _).mono ?_
  rintro e wd ⟨rfl, hb2⟩
  replace hb := hb.trans (hb2.mono hb.size)
  go_wp2_with fail
  go_ret
  exact ⟨rfl, hb⟩
set_option maxRecDepth 100000 in
set_option maxHeartbeats 3200000 in
theorem reput_011 (k id gr lab : Int) (x : BitVec 32) (f : List V3) (w : World) (hf : f.length = 8) (hlb : 0 ≤ lab) (h0 : echk k id gr x lab f = 0) (hg : grp k = false) (hi : idk k = true) (hp : ptk k = true) :
    Calls Try.prog 27 #[.agg (ecells k id gr (x.toNat : Int) lab f).toArray] w fun e w' => e = .returned (.string (str (ebs k id gr x lab f))) ∧ Below w.heap.size w w' := by
  have HCK := Lib.hid (fun wx : World => recheck_any k id gr lab x f wx hf)
  have B0 := Blk.new w (ecells k id gr (x.toNat : Int) lab f) 29
  have HEL := Lib.hid (ecells_len k id gr (x.toNat : Int) lab hf)
  have HPL := Lib.hid (pcells_len (x.toNat : Int) lab hf)
  have hb := (Below.refl w.heap.size w).alloc (Nat.le_refl _) (.cells (ecells k id gr (x.toNat : Int) lab f).toArray 29)
  have HQ : Hid (∀ wx : World, Blk wx w.heap.size (ecells k id gr (x.toNat : Int) lab f) → (wx.cell? ⟨w.heap.size, 0, none⟩ = some (.int .i64 k) ∧ wx.cell? ⟨w.heap.size, 1, none⟩ = some (.int .i64 id) ∧ wx.cell? ⟨w.heap.size, 2, none⟩ = some (.int .i64 gr)) ∧ wx.rangeAt w.heap.size 3 (pcells (x.toNat : Int) lab f)) := Lib.hid (fun wx h => ⟨h.edit, h.patchE⟩)
  have hue := Try.underlying29
  have hup := Try.underlying27
  rw [h0] at HCK
  have HG := Lib.hid (fun wx : World => rgrp_any k wx)
  have HI := Lib.hid (fun wx : World => ridk_any k wx)
  have HP := Lib.hid (fun wx : World => rptk_any k wx)
  have hbs := ebs_of h0 hg hi hp
  rw [hg] at HG
  rw [hi] at HI
  rw [hp] at HP
  have H1 := Lib.hid (fun wx : World => ref_num k wx)
  obtain ⟨t1, ht1⟩ : ∃ t, t = str (enc (held k)) := ⟨_, rfl⟩
  rw [← ht1] at H1
  have z1 : t1.size ≤ 6 := by rw [ht1, str_size]; exact held_len k
  have y1 : t1.size ≤ 6 := z1
  have H3 := Lib.hid (fun wx : World => ref_num id wx)
  obtain ⟨t3, ht3⟩ : ∃ t, t = str (enc (held id)) := ⟨_, rfl⟩
  rw [← ht3] at H3
  have z3 : t3.size ≤ 6 := by rw [ht3, str_size]; exact held_len id
  obtain ⟨u3, hu3⟩ : ∃ u, u = t1 ++ t3 := ⟨_, rfl⟩
  have a3 : t1 ++ t3 = u3 := hu3.symm
  have y3 : u3.size ≤ 12 := by rw [hu3, ByteArray.size_append]; omega
  have H4 := Lib.hid (fun wx : World => rputpatch_any x lab f wx hf hlb)
  obtain ⟨t4, ht4⟩ : ∃ t, t = str (pbs x lab f) := ⟨_, rfl⟩
  rw [← ht4] at H4
  have z4 : t4.size ≤ 400 := by rw [ht4, str_size]; exact pbs_len x lab f
  obtain ⟨u4, hu4⟩ : ∃ u, u = u3 ++ t4 := ⟨_, rfl⟩
  have a4 : u3 ++ t4 = u4 := hu4.symm
  have hR : str (ebs k id gr x lab f) = u4 := by
    rw [hbs, hu4, hu3, ht1, ht3, ht4]
    simp [str_append]
  rw [hR]
  obtain ⟨pc, hpc⟩ : ∃ pc, pc = pcells (x.toNat : Int) lab f := ⟨_, rfl⟩
  obtain ⟨ec, hec⟩ : ∃ ec, ec = ecells k id gr (x.toNat : Int) lab f := ⟨_, rfl⟩
  rw [← hpc] at HQ HPL H4
  rw [← hec] at B0 HEL hb HQ HCK ⊢
  have RG := B0.wholeC
  clear hpc hec hbs hR hf hlb h0 hg hi hp hu3 hu4 ht1 ht3 ht4
  go_enter Try.func27, Try.ntmps27
  go_wp2_with (first
    | (refine wpList_load_mid rfl 29 (.tmp 1) rfl w.heap.size 0 rfl ec _ RG hue rfl (by rw [HEL.out]; exact info_edit) ?_)
    | fail)
  refine (HCK.out _).mono ?_
  rintro e w2 ⟨rfl, hb2⟩
  replace B0 := B0.later hb2
  replace hb := hb.trans (hb2.mono hb.size)
  clear hb2 RG
  obtain ⟨⟨q0, q1, q2⟩, RP⟩ := HQ.out _ B0
  go_wp2_with fail
  refine (H1.out _).mono ?_
  rintro e wa ⟨rfl, hb2⟩
  replace B0 := B0.later hb2
  replace hb := hb.trans (hb2.mono hb.size)
  clear hb2 q0 q1 q2 RP
  obtain ⟨⟨q0, q1, q2⟩, RP⟩ := HQ.out _ B0
  go_wp2_with fail
  refine (HG.out _).mono ?_
  rintro e w' ⟨rfl, rfl⟩
  go_wp2_with fail
  refine (HI.out _).mono ?_
  rintro e w' ⟨rfl, rfl⟩
  go_wp2_with fail
  refine (H3.out _).mono ?_
  rintro e wc ⟨rfl, hb2⟩
  replace B0 := B0.later hb2
  replace hb := hb.trans (hb2.mono hb.size)
  clear hb2 q0 q1 q2 RP
  obtain ⟨⟨q0, q1, q2⟩, RP⟩ := HQ.out _ B0
  go_wp2_with fail
  refine (HP.out _).mono ?_
  rintro e w' ⟨rfl, rfl⟩
  go_wp2_with (first
    | (refine wpList_load_mid rfl 27 (.tmp 30) rfl w.heap.size 3 rfl pc _ RP hup rfl (by rw [HPL.out]; exact info_patch) ?_)
    | fail)
  refine (H4.out _).mono ?_
  rintro e wd ⟨rfl, hb2⟩
  replace hb := hb.trans (hb2.mono hb.size)
  go_wp2_with fail
  go_ret
  exact ⟨rfl, hb⟩
set_option maxRecDepth 100000 in
set_option maxHeartbeats 3200000 in
theorem reput_010 (k id gr lab : Int) (x : BitVec 32) (f : List V3) (w : World) (hf : f.length = 8) (hlb : 0 ≤ lab) (h0 : echk k id gr x lab f = 0) (hg : grp k = false) (hi : idk k = true) (hp : ptk k = false) :
    Calls Try.prog 27 #[.agg (ecells k id gr (x.toNat : Int) lab f).toArray] w fun e w' => e = .returned (.string (str (ebs k id gr x lab f))) ∧ Below w.heap.size w w' := by
  have HCK := Lib.hid (fun wx : World => recheck_any k id gr lab x f wx hf)
  have B0 := Blk.new w (ecells k id gr (x.toNat : Int) lab f) 29
  have HEL := Lib.hid (ecells_len k id gr (x.toNat : Int) lab hf)
  have HPL := Lib.hid (pcells_len (x.toNat : Int) lab hf)
  have hb := (Below.refl w.heap.size w).alloc (Nat.le_refl _) (.cells (ecells k id gr (x.toNat : Int) lab f).toArray 29)
  have HQ : Hid (∀ wx : World, Blk wx w.heap.size (ecells k id gr (x.toNat : Int) lab f) → (wx.cell? ⟨w.heap.size, 0, none⟩ = some (.int .i64 k) ∧ wx.cell? ⟨w.heap.size, 1, none⟩ = some (.int .i64 id) ∧ wx.cell? ⟨w.heap.size, 2, none⟩ = some (.int .i64 gr)) ∧ wx.rangeAt w.heap.size 3 (pcells (x.toNat : Int) lab f)) := Lib.hid (fun wx h => ⟨h.edit, h.patchE⟩)
  have hue := Try.underlying29
  have hup := Try.underlying27
  rw [h0] at HCK
  have HG := Lib.hid (fun wx : World => rgrp_any k wx)
  have HI := Lib.hid (fun wx : World => ridk_any k wx)
  have HP := Lib.hid (fun wx : World => rptk_any k wx)
  have hbs := ebs_of h0 hg hi hp
  rw [hg] at HG
  rw [hi] at HI
  rw [hp] at HP
  have H1 := Lib.hid (fun wx : World => ref_num k wx)
  obtain ⟨t1, ht1⟩ : ∃ t, t = str (enc (held k)) := ⟨_, rfl⟩
  rw [← ht1] at H1
  have z1 : t1.size ≤ 6 := by rw [ht1, str_size]; exact held_len k
  have y1 : t1.size ≤ 6 := z1
  have H3 := Lib.hid (fun wx : World => ref_num id wx)
  obtain ⟨t3, ht3⟩ : ∃ t, t = str (enc (held id)) := ⟨_, rfl⟩
  rw [← ht3] at H3
  have z3 : t3.size ≤ 6 := by rw [ht3, str_size]; exact held_len id
  obtain ⟨u3, hu3⟩ : ∃ u, u = t1 ++ t3 := ⟨_, rfl⟩
  have a3 : t1 ++ t3 = u3 := hu3.symm
  have y3 : u3.size ≤ 12 := by rw [hu3, ByteArray.size_append]; omega
  have hR : str (ebs k id gr x lab f) = u3 := by
    rw [hbs, hu3, ht1, ht3]
    simp [str_append]
  rw [hR]
  obtain ⟨pc, hpc⟩ : ∃ pc, pc = pcells (x.toNat : Int) lab f := ⟨_, rfl⟩
  obtain ⟨ec, hec⟩ : ∃ ec, ec = ecells k id gr (x.toNat : Int) lab f := ⟨_, rfl⟩
  rw [← hpc] at HQ HPL
  rw [← hec] at B0 HEL hb HQ HCK ⊢
  have RG := B0.wholeC
  clear hpc hec hbs hR hf hlb h0 hg hi hp hu3 ht1 ht3
  go_enter Try.func27, Try.ntmps27
  go_wp2_with (first
    | (refine wpList_load_mid rfl 29 (.tmp 1) rfl w.heap.size 0 rfl ec _ RG hue rfl (by rw [HEL.out]; exact info_edit) ?_)
    | fail)
  refine (HCK.out _).mono ?_
  rintro e w2 ⟨rfl, hb2⟩
  replace B0 := B0.later hb2
  replace hb := hb.trans (hb2.mono hb.size)
  clear hb2 RG
  obtain ⟨⟨q0, q1, q2⟩, RP⟩ := HQ.out _ B0
  go_wp2_with fail
  refine (H1.out _).mono ?_
  rintro e wa ⟨rfl, hb2⟩
  replace B0 := B0.later hb2
  replace hb := hb.trans (hb2.mono hb.size)
  clear hb2 q0 q1 q2 RP
  obtain ⟨⟨q0, q1, q2⟩, RP⟩ := HQ.out _ B0
  go_wp2_with fail
  refine (HG.out _).mono ?_
  rintro e w' ⟨rfl, rfl⟩
  go_wp2_with fail
  refine (HI.out _).mono ?_
  rintro e w' ⟨rfl, rfl⟩
  go_wp2_with fail
  refine (H3.out _).mono ?_
  rintro e wc ⟨rfl, hb2⟩
  replace B0 := B0.later hb2
  replace hb := hb.trans (hb2.mono hb.size)
  clear hb2 q0 q1 q2 RP
  obtain ⟨⟨q0, q1, q2⟩, RP⟩ := HQ.out _ B0
  go_wp2_with fail
  refine (HP.out _).mono ?_
  rintro e w' ⟨rfl, rfl⟩
  go_wp2_with fail
  go_ret
  exact ⟨rfl, hb⟩
set_option maxRecDepth 100000 in
set_option maxHeartbeats 3200000 in
theorem reput_100 (k id gr lab : Int) (x : BitVec 32) (f : List V3) (w : World) (hf : f.length = 8) (hlb : 0 ≤ lab) (h0 : echk k id gr x lab f = 0) (hg : grp k = true) (hi : idk k = false) (hp : ptk k = false) :
    Calls Try.prog 27 #[.agg (ecells k id gr (x.toNat : Int) lab f).toArray] w fun e w' => e = .returned (.string (str (ebs k id gr x lab f))) ∧ Below w.heap.size w w' := by
  have HCK := Lib.hid (fun wx : World => recheck_any k id gr lab x f wx hf)
  have B0 := Blk.new w (ecells k id gr (x.toNat : Int) lab f) 29
  have HEL := Lib.hid (ecells_len k id gr (x.toNat : Int) lab hf)
  have HPL := Lib.hid (pcells_len (x.toNat : Int) lab hf)
  have hb := (Below.refl w.heap.size w).alloc (Nat.le_refl _) (.cells (ecells k id gr (x.toNat : Int) lab f).toArray 29)
  have HQ : Hid (∀ wx : World, Blk wx w.heap.size (ecells k id gr (x.toNat : Int) lab f) → (wx.cell? ⟨w.heap.size, 0, none⟩ = some (.int .i64 k) ∧ wx.cell? ⟨w.heap.size, 1, none⟩ = some (.int .i64 id) ∧ wx.cell? ⟨w.heap.size, 2, none⟩ = some (.int .i64 gr)) ∧ wx.rangeAt w.heap.size 3 (pcells (x.toNat : Int) lab f)) := Lib.hid (fun wx h => ⟨h.edit, h.patchE⟩)
  have hue := Try.underlying29
  have hup := Try.underlying27
  rw [h0] at HCK
  have HG := Lib.hid (fun wx : World => rgrp_any k wx)
  have HI := Lib.hid (fun wx : World => ridk_any k wx)
  have HP := Lib.hid (fun wx : World => rptk_any k wx)
  have hbs := ebs_of h0 hg hi hp
  rw [hg] at HG
  rw [hi] at HI
  rw [hp] at HP
  have H1 := Lib.hid (fun wx : World => ref_num k wx)
  obtain ⟨t1, ht1⟩ : ∃ t, t = str (enc (held k)) := ⟨_, rfl⟩
  rw [← ht1] at H1
  have z1 : t1.size ≤ 6 := by rw [ht1, str_size]; exact held_len k
  have y1 : t1.size ≤ 6 := z1
  have H2 := Lib.hid (fun wx : World => ref_num gr wx)
  obtain ⟨t2, ht2⟩ : ∃ t, t = str (enc (held gr)) := ⟨_, rfl⟩
  rw [← ht2] at H2
  have z2 : t2.size ≤ 6 := by rw [ht2, str_size]; exact held_len gr
  obtain ⟨u2, hu2⟩ : ∃ u, u = t1 ++ t2 := ⟨_, rfl⟩
  have a2 : t1 ++ t2 = u2 := hu2.symm
  have y2 : u2.size ≤ 12 := by rw [hu2, ByteArray.size_append]; omega
  have hR : str (ebs k id gr x lab f) = u2 := by
    rw [hbs, hu2, ht1, ht2]
    simp [str_append]
  rw [hR]
  obtain ⟨pc, hpc⟩ : ∃ pc, pc = pcells (x.toNat : Int) lab f := ⟨_, rfl⟩
  obtain ⟨ec, hec⟩ : ∃ ec, ec = ecells k id gr (x.toNat : Int) lab f := ⟨_, rfl⟩
  rw [← hpc] at HQ HPL
  rw [← hec] at B0 HEL hb HQ HCK ⊢
  have RG := B0.wholeC
  clear hpc hec hbs hR hf hlb h0 hg hi hp hu2 ht1 ht2
  go_enter Try.func27, Try.ntmps27
  go_wp2_with (first
    | (refine wpList_load_mid rfl 29 (.tmp 1) rfl w.heap.size 0 rfl ec _ RG hue rfl (by rw [HEL.out]; exact info_edit) ?_)
    | fail)
  refine (HCK.out _).mono ?_
  rintro e w2 ⟨rfl, hb2⟩
  replace B0 := B0.later hb2
  replace hb := hb.trans (hb2.mono hb.size)
  clear hb2 RG
  obtain ⟨⟨q0, q1, q2⟩, RP⟩ := HQ.out _ B0
  go_wp2_with fail
  refine (H1.out _).mono ?_
  rintro e wa ⟨rfl, hb2⟩
  replace B0 := B0.later hb2
  replace hb := hb.trans (hb2.mono hb.size)
  clear hb2 q0 q1 q2 RP
  obtain ⟨⟨q0, q1, q2⟩, RP⟩ := HQ.out _ B0
  go_wp2_with fail
  refine (HG.out _).mono ?_
  rintro e w' ⟨rfl, rfl⟩
  go_wp2_with fail
  refine (H2.out _).mono ?_
  rintro e wb ⟨rfl, hb2⟩
  replace B0 := B0.later hb2
  replace hb := hb.trans (hb2.mono hb.size)
  clear hb2 q0 q1 q2 RP
  obtain ⟨⟨q0, q1, q2⟩, RP⟩ := HQ.out _ B0
  go_wp2_with fail
  refine (HI.out _).mono ?_
  rintro e w' ⟨rfl, rfl⟩
  go_wp2_with fail
  refine (HP.out _).mono ?_
  rintro e w' ⟨rfl, rfl⟩
  go_wp2_with fail
  go_ret
  exact ⟨rfl, hb⟩
set_option maxRecDepth 100000 in
set_option maxHeartbeats 3200000 in
theorem reput_110 (k id gr lab : Int) (x : BitVec 32) (f : List V3) (w : World) (hf : f.length = 8) (hlb : 0 ≤ lab) (h0 : echk k id gr x lab f = 0) (hg : grp k = true) (hi : idk k = true) (hp : ptk k = false) :
    Calls Try.prog 27 #[.agg (ecells k id gr (x.toNat : Int) lab f).toArray] w fun e w' => e = .returned (.string (str (ebs k id gr x lab f))) ∧ Below w.heap.size w w' := by
  have HCK := Lib.hid (fun wx : World => recheck_any k id gr lab x f wx hf)
  have B0 := Blk.new w (ecells k id gr (x.toNat : Int) lab f) 29
  have HEL := Lib.hid (ecells_len k id gr (x.toNat : Int) lab hf)
  have HPL := Lib.hid (pcells_len (x.toNat : Int) lab hf)
  have hb := (Below.refl w.heap.size w).alloc (Nat.le_refl _) (.cells (ecells k id gr (x.toNat : Int) lab f).toArray 29)
  have HQ : Hid (∀ wx : World, Blk wx w.heap.size (ecells k id gr (x.toNat : Int) lab f) → (wx.cell? ⟨w.heap.size, 0, none⟩ = some (.int .i64 k) ∧ wx.cell? ⟨w.heap.size, 1, none⟩ = some (.int .i64 id) ∧ wx.cell? ⟨w.heap.size, 2, none⟩ = some (.int .i64 gr)) ∧ wx.rangeAt w.heap.size 3 (pcells (x.toNat : Int) lab f)) := Lib.hid (fun wx h => ⟨h.edit, h.patchE⟩)
  have hue := Try.underlying29
  have hup := Try.underlying27
  rw [h0] at HCK
  have HG := Lib.hid (fun wx : World => rgrp_any k wx)
  have HI := Lib.hid (fun wx : World => ridk_any k wx)
  have HP := Lib.hid (fun wx : World => rptk_any k wx)
  have hbs := ebs_of h0 hg hi hp
  rw [hg] at HG
  rw [hi] at HI
  rw [hp] at HP
  have H1 := Lib.hid (fun wx : World => ref_num k wx)
  obtain ⟨t1, ht1⟩ : ∃ t, t = str (enc (held k)) := ⟨_, rfl⟩
  rw [← ht1] at H1
  have z1 : t1.size ≤ 6 := by rw [ht1, str_size]; exact held_len k
  have y1 : t1.size ≤ 6 := z1
  have H2 := Lib.hid (fun wx : World => ref_num gr wx)
  obtain ⟨t2, ht2⟩ : ∃ t, t = str (enc (held gr)) := ⟨_, rfl⟩
  rw [← ht2] at H2
  have z2 : t2.size ≤ 6 := by rw [ht2, str_size]; exact held_len gr
  obtain ⟨u2, hu2⟩ : ∃ u, u = t1 ++ t2 := ⟨_, rfl⟩
  have a2 : t1 ++ t2 = u2 := hu2.symm
  have y2 : u2.size ≤ 12 := by rw [hu2, ByteArray.size_append]; omega
  have H3 := Lib.hid (fun wx : World => ref_num id wx)
  obtain ⟨t3, ht3⟩ : ∃ t, t = str (enc (held id)) := ⟨_, rfl⟩
  rw [← ht3] at H3
  have z3 : t3.size ≤ 6 := by rw [ht3, str_size]; exact held_len id
  obtain ⟨u3, hu3⟩ : ∃ u, u = u2 ++ t3 := ⟨_, rfl⟩
  have a3 : u2 ++ t3 = u3 := hu3.symm
  have y3 : u3.size ≤ 18 := by rw [hu3, ByteArray.size_append]; omega
  have hR : str (ebs k id gr x lab f) = u3 := by
    rw [hbs, hu3, hu2, ht1, ht2, ht3]
    simp [str_append]
  rw [hR]
  obtain ⟨pc, hpc⟩ : ∃ pc, pc = pcells (x.toNat : Int) lab f := ⟨_, rfl⟩
  obtain ⟨ec, hec⟩ : ∃ ec, ec = ecells k id gr (x.toNat : Int) lab f := ⟨_, rfl⟩
  rw [← hpc] at HQ HPL
  rw [← hec] at B0 HEL hb HQ HCK ⊢
  have RG := B0.wholeC
  clear hpc hec hbs hR hf hlb h0 hg hi hp hu2 hu3 ht1 ht2 ht3
  go_enter Try.func27, Try.ntmps27
  go_wp2_with (first
    | (refine wpList_load_mid rfl 29 (.tmp 1) rfl w.heap.size 0 rfl ec _ RG hue rfl (by rw [HEL.out]; exact info_edit) ?_)
    | fail)
  refine (HCK.out _).mono ?_
  rintro e w2 ⟨rfl, hb2⟩
  replace B0 := B0.later hb2
  replace hb := hb.trans (hb2.mono hb.size)
  clear hb2 RG
  obtain ⟨⟨q0, q1, q2⟩, RP⟩ := HQ.out _ B0
  go_wp2_with fail
  refine (H1.out _).mono ?_
  rintro e wa ⟨rfl, hb2⟩
  replace B0 := B0.later hb2
  replace hb := hb.trans (hb2.mono hb.size)
  clear hb2 q0 q1 q2 RP
  obtain ⟨⟨q0, q1, q2⟩, RP⟩ := HQ.out _ B0
  go_wp2_with fail
  refine (HG.out _).mono ?_
  rintro e w' ⟨rfl, rfl⟩
  go_wp2_with fail
  refine (H2.out _).mono ?_
  rintro e wb ⟨rfl, hb2⟩
  replace B0 := B0.later hb2
  replace hb := hb.trans (hb2.mono hb.size)
  clear hb2 q0 q1 q2 RP
  obtain ⟨⟨q0, q1, q2⟩, RP⟩ := HQ.out _ B0
  go_wp2_with fail
  refine (HI.out _).mono ?_
  rintro e w' ⟨rfl, rfl⟩
  go_wp2_with fail
  refine (H3.out _).mono ?_
  rintro e wc ⟨rfl, hb2⟩
  replace B0 := B0.later hb2
  replace hb := hb.trans (hb2.mono hb.size)
  clear hb2 q0 q1 q2 RP
  obtain ⟨⟨q0, q1, q2⟩, RP⟩ := HQ.out _ B0
  go_wp2_with fail
  refine (HP.out _).mono ?_
  rintro e w' ⟨rfl, rfl⟩
  go_wp2_with fail
  go_ret
  exact ⟨rfl, hb⟩
set_option maxRecDepth 100000 in
set_option maxHeartbeats 1600000 in
theorem reput_any (k id gr lab : Int) (x : BitVec 32) (f : List V3) (w : World) (hf : f.length = 8) (hlb : 0 ≤ lab) :
    Calls Try.prog 27 #[.agg (ecells k id gr (x.toNat : Int) lab f).toArray] w fun e w' => e = .returned (.string (str (ebs k id gr x lab f))) ∧ Below w.heap.size w w' := by
  by_cases h0 : echk k id gr x lab f = 0
  · obtain ⟨h1, h2, _⟩ := echk_ok h0
    have hc : k = 1 ∨ k = 2 ∨ k = 3 ∨ k = 4 ∨ k = 5 ∨ k = 6 ∨ k = 7 := by omega
    rcases hc with rfl | rfl | rfl | rfl | rfl | rfl | rfl
    · exact reput_001 _ id gr lab x f w hf hlb h0 rfl rfl rfl
    · exact reput_011 _ id gr lab x f w hf hlb h0 rfl rfl rfl
    · exact reput_010 _ id gr lab x f w hf hlb h0 rfl rfl rfl
    · exact reput_100 _ id gr lab x f w hf hlb h0 rfl rfl rfl
    · exact reput_100 _ id gr lab x f w hf hlb h0 rfl rfl rfl
    · exact reput_110 _ id gr lab x f w hf hlb h0 rfl rfl rfl
    · exact reput_110 _ id gr lab x f w hf hlb h0 rfl rfl rfl
  · have hR : str (ebs k id gr x lab f) = ⟨#[]⟩ := by unfold ebs; rw [if_pos h0]; rfl
    rw [hR]
    have HCK := Lib.hid (fun wx : World => recheck_any k id gr lab x f wx hf)
    have B0 := Blk.new w (ecells k id gr (x.toNat : Int) lab f) 29
    have HEL := Lib.hid (ecells_len k id gr (x.toNat : Int) lab hf)
    have HPL := Lib.hid (pcells_len (x.toNat : Int) lab hf)
    have hb := (Below.refl w.heap.size w).alloc (Nat.le_refl _) (.cells (ecells k id gr (x.toNat : Int) lab f).toArray 29)
    have HQ : Hid (∀ wx : World, Blk wx w.heap.size (ecells k id gr (x.toNat : Int) lab f) → (wx.cell? ⟨w.heap.size, 0, none⟩ = some (.int .i64 k) ∧ wx.cell? ⟨w.heap.size, 1, none⟩ = some (.int .i64 id) ∧ wx.cell? ⟨w.heap.size, 2, none⟩ = some (.int .i64 gr)) ∧ wx.rangeAt w.heap.size 3 (pcells (x.toNat : Int) lab f)) := Lib.hid (fun wx h => ⟨h.edit, h.patchE⟩)
    have hue := Try.underlying29
    have hup := Try.underlying27
    obtain ⟨er, her⟩ : ∃ z, z = echk k id gr x lab f := ⟨_, rfl⟩
    rw [← her] at HCK h0
    have be : (er != 0) = true := by simpa using h0
    obtain ⟨ec, hec⟩ : ∃ ec, ec = ecells k id gr (x.toNat : Int) lab f := ⟨_, rfl⟩
    rw [← hec] at B0 HEL hb HCK ⊢
    have RG := B0.wholeC
    clear hec her h0 hR B0 HQ HPL hup
    go_enter Try.func27, Try.ntmps27
    go_wp2_with (first
      | (refine wpList_load_mid rfl 29 (.tmp 1) rfl w.heap.size 0 rfl ec _ RG hue rfl (by rw [HEL.out]; exact info_edit) ?_)
      | fail)
    refine (HCK.out _).mono ?_
    rintro e w2 ⟨rfl, hb2⟩
    go_wp2_with fail
    go_ret
    exact ⟨rfl, hb.trans (hb2.mono hb.size)⟩
end Go.Proofs.Ytnhcjadkbogioaa

/- Filters as bytes: what the document's Put returns. -/
namespace Go.Proofs.Ytnhcjadkbogioaa
set_option linter.unusedVariables false
set_option linter.unusedSimpArgs false
open Go Go.RowKit OctM

set_option maxRecDepth 100000 in
set_option maxHeartbeats 6400000 in
theorem rput_nodes (A : Option Addr) (n c : Nat) (l : List Nd) (w : World) (hn : l.length = n) (hs : Sees w w.heap.size A (ncs l)) (hc : n ≤ c) :
    Calls Try.prog 29 #[.slice A n c] w fun e w' => e = .returned (.string (str (lbs l))) ∧ Below w.heap.size w w' := by
  have HC := Lib.hid (rlcheck_any A n c l w hn hs hc)
  by_cases hok : lchk l = 0
  · rw [hok] at HC
    have hu := Try.underlying76
    have huv := Try.underlying24
    have hn31 : n ≤ 31 := by rw [← hn]; exact (lchk_ok hok).1
    have HB : Hid (lbs l = enc (held (n : Int)) ++ l.flatMap nbs) := Lib.hid (by unfold lbs; rw [if_pos hok, hn])
    obtain ⟨R, hR⟩ : ∃ R, R = str (lbs l) := ⟨_, rfl⟩
    have HR := Lib.hid hR
    rw [← hR]
    have HN := Lib.hid hn
    have HS := Lib.hid (show Sees w w.heap.size A (ncs l) from hs)
    have HNUM0 := Lib.hid (fun wx : World => ref_num (n : Int) wx)
    obtain ⟨r0, hr0⟩ : ∃ r, r = enc (held (n : Int)) := ⟨_, rfl⟩
    obtain ⟨t0, ht0⟩ : ∃ t, t = str r0 := ⟨_, rfl⟩
    rw [← hr0, ← ht0] at HNUM0
    have hr06 : t0.size ≤ 6 := by rw [ht0, str_size, hr0]; exact held_len _
    have HR0 := Lib.hid hr0
    have HT0 := Lib.hid ht0
    clear hR hok hn hs hr0 ht0
    go_enter Try.func29, Try.ntmps29
    go_wp2_with fail
    refine HC.out.mono ?_
    rintro e w1 ⟨rfl, hb1⟩
    clear HC
    go_wp2_with fail
    refine (HNUM0.out _).mono ?_
    rintro e w2 ⟨rfl, b2⟩
    have hbw := hb1.trans (b2.mono hb1.size)
    clear b2 hb1
    go_wp2_with fail
    go_loopw [4, 3] (fun i v wr => ∃ (k : Nat) (acc : List UInt8), k ≤ n ∧ i = .int .i64 k ∧ (∃ t : ByteArray, v = .string t ∧ Hid (t = str acc) ∧ t.size ≤ 6 + 52 * k) ∧ Hid (acc = r0 ++ (l.take k).flatMap nbs) ∧ Below w.heap.size w wr) (fun i _ _ => n - (intOf i).toNat)
    case atStart => exact ⟨0, r0, Nat.zero_le _, rfl, ⟨t0, rfl, HT0, by omega⟩, Lib.hid (by simp), hbw⟩
    case round =>
      obtain ⟨k, acc, hk, rfl, ⟨t, rfl, HT, ht⟩, HACC, hbr⟩ := hrel
      clear hbw
      by_cases hlt : k < n
      · have hkl : k < l.length := by rw [HN.out]; exact hlt
        have d1 : decide ((k : Int) < (n : Int)) = true := by simp; omega
        obtain ⟨b, o, rfl, hb, hcc, hc2, hrg⟩ := sees_node (HS.out.below hbr) k hkl
        clear hcc hc2
        have HSTEP := Lib.hid (nbs_take l k hkl)
        have BN := Blk.new wr (ncells zn) 76
        have TH := BN.there 0 5 (by rw [ncells_len]; exact Nat.le_refl 5)
        have FIN := BN.sets (ncells l[k]) 0 (by rw [ncells_len, ncells_len]; exact Nat.le_refl 5)
        have e1 : (ncells zn).take 0 ++ ncells l[k] ++ (ncells zn).drop (0 + (ncells l[k]).length) = ncells l[k] := by simp [ncells]
        rw [e1] at FIN
        have HB2 := below_sets hbr.size (ncells l[k]) 0 (hbr.alloc hbr.size (.cells (ncells zn).toArray 76))
        have HONE := Lib.hid (show ∀ v ∈ ncells l[k], v.oneCell' = true from fun v hv => ncs_one [l[k]] v (by simpa [ncs] using hv))
        obtain ⟨⟨op, m, v0, v1, v2⟩, hnd⟩ : ∃ nd, nd = l[k] := ⟨_, rfl⟩
        have HNBS : Hid (nbs l[k] = enc (held op) ++ ((if hasN op = true then enc (held m) else []) ++ (if hasV op = true then vbs (v0, v1, v2) else []))) := Lib.hid (by rw [← hnd]; rfl)
        obtain ⟨nc, hnc⟩ : ∃ nc, nc = ncells l[k] := ⟨_, rfl⟩
        have HSZ := Lib.hid (show nc.length = 5 by rw [hnc]; rfl)
        have HNC : Hid (nc = [.int .i64 op, .int .i64 m, .int .i64 v0, .int .i64 v1, .string v2]) := Lib.hid (by rw [hnc, ← hnd]; rfl)
        rw [← hnc] at hrg FIN HB2 HONE
        clear e1 hnc BN hnd
        rw [zc5] at TH HB2 FIN
        rw [HNC.out] at FIN
        obtain ⟨W2, hW2⟩ : ∃ W2, W2 = (wr.alloc (.cells #[.int .i64 0, .int .i64 0, .int .i64 0, .int .i64 0, .string ⟨#[]⟩] 76)).setCells wr.heap.size 0 nc := ⟨_, rfl⟩
        have HW2 := Lib.hid hW2
        have FIN2 : Blk W2 wr.heap.size [.int .i64 op, .int .i64 m, .int .i64 v0, .int .i64 v1, .string v2] := by rw [hW2, HNC.out]; exact FIN
        have HB3 : Below w.heap.size w W2 := by rw [hW2]; exact HB2
        have HN1 := Lib.hid (fun wx : World => ref_num op wx)
        have HN2 := Lib.hid (fun wx : World => ref_num m wx)
        have HN3 := Lib.hid (fun wx : World => rputval_any v0 v1 v2 wx)
        obtain ⟨u1, hu1⟩ : ∃ u, u = str (enc (held op)) := ⟨_, rfl⟩
        obtain ⟨u2, hu2⟩ : ∃ u, u = str (enc (held m)) := ⟨_, rfl⟩
        obtain ⟨u3, hu3⟩ : ∃ u, u = str (vbs (v0, v1, v2)) := ⟨_, rfl⟩
        rw [← hu1] at HN1
        rw [← hu2] at HN2
        rw [← hu3] at HN3
        have z1 : u1.size ≤ 6 := by rw [hu1, str_size]; exact held_len _
        have z2 : u2.size ≤ 6 := by rw [hu2, str_size]; exact held_len _
        have z3 : u3.size ≤ 40 := by rw [hu3, str_size]; exact vbs_len _
        have y1 : (t ++ u1).size = t.size + u1.size := by simp
        have y2 : (t ++ u1 ++ u2).size = t.size + u1.size + u2.size := by simp
        have y3 : (t ++ u1 ++ u2 ++ u3).size = t.size + u1.size + u2.size + u3.size := by simp
        have Y1 := Lib.hid y1
        have Y2 := Lib.hid y2
        have Y3 := Lib.hid y3
        have E1 : Hid (t ++ u1 = str (acc ++ enc (held op))) := Lib.hid (by rw [HT.out, hu1]; first | exact (str_append _ _).symm | exact str_append _ _)
        have E2 : Hid (t ++ u1 ++ u2 = str (acc ++ enc (held op) ++ enc (held m))) := Lib.hid (by rw [E1.out, hu2]; first | exact (str_append _ _).symm | exact str_append _ _)
        have E3 : Hid (t ++ u1 ++ u2 ++ u3 = str (acc ++ enc (held op) ++ enc (held m) ++ vbs (v0, v1, v2))) := Lib.hid (by rw [E2.out, hu3]; first | exact (str_append _ _).symm | exact str_append _ _)
        clear hW2 FIN HB2 hu1 hu2 hu3 y1 y2 y3
        go_wp2_with (first
          | (refine wpList_load_mid rfl 76 (.tmp 20) rfl b (o + k * 5) rfl nc _ hrg hu rfl (by rw [HSZ.out]; exact info_node) ?_)
          | (refine wpList_store_mid rfl 76 (.tmp 5) (.tmp 21) rfl wr.heap.size 0 nc.toArray rfl rfl (by simpa [HSZ.out] using TH) (by simpa [HSZ.out] using info_node) (all_oneCell_toArray HONE.out) ?_
             rw [show (wr.alloc (.cells #[.int .i64 0, .int .i64 0, .int .i64 0, .int .i64 0, .string ⟨#[]⟩] 76)).setCells wr.heap.size 0 nc.toArray.toList = W2 from HW2.out.symm]
             have q0 := FIN2.cell (j := 0) rfl)
          | fail)
        refine (HN1.out _).mono ?_
        rintro e w3 ⟨rfl, b3⟩
        have hb3 := HB3.trans (b3.mono HB3.size)
        have F3 := FIN2.later b3
        have q0 := F3.cell (j := 0) rfl
        have q1 := F3.cell (j := 1) rfl
        clear b3 HB3 FIN2 TH hrg HN1
        by_cases g3 : 3 ≤ op
        · by_cases g9 : op ≤ 9
          · skip
            have e3 : decide (3 ≤ op) = true := by simpa using g3
            have e9 : decide (op ≤ 9) = true := by simpa using g9
            by_cases g6 : 6 ≤ op
            · have e6 : decide (6 ≤ op) = true := by simpa using g6
              have BN2 : Hid (hasN op = true) := Lib.hid (by unfold hasN; exact decide_eq_true ⟨g3, g9⟩)
              have BV2 : Hid (hasV op = true) := Lib.hid (by unfold hasV; exact decide_eq_true ⟨g6, g9⟩)
              clear g3 g6 g9
              go_wp2_with fail
              refine (HN2.out _).mono ?_
              rintro e w4 ⟨rfl, b4⟩
              have hb4 := hb3.trans (b4.mono hb3.size)
              have F4 := F3.later b4
              have q0 := F4.cell (j := 0) rfl
              clear b4 HN2 q1
              have RV := F4.range 2 [.int .i64 v0, .int .i64 v1, .string v2] rfl
              go_wp2_with (first
                | (refine wpList_load_mid rfl 24 (.tmp 49) rfl wr.heap.size 2 rfl [.int .i64 v0, .int .i64 v1, .string v2] _ RV huv rfl info_val3 ?_)
                | fail)
              refine (HN3.out _).mono ?_
              rintro e w5 ⟨rfl, b5⟩
              have hb5 := hb4.trans (b5.mono hb4.size)
              clear b5 RV HN3
              go_wp2_with fail
              go_roundw
              case rel => exact ⟨k + 1, acc ++ enc (held op) ++ enc (held m) ++ vbs (v0, v1, v2), by omega, by go_num, ⟨_, rfl, E3, by rw [Y3.out]; omega⟩, Lib.hid (by rw [HSTEP.out, HNBS.out, BN2.out, BV2.out, ← List.append_assoc, ← HACC.out]; simp only [List.append_assoc, List.append_nil, if_true, if_false, reduceCtorEq, List.nil_append, Bool.false_eq_true, ite_true, ite_false]), hb5⟩
              case measure => simp [intOf]; omega
            · have e6 : decide (6 ≤ op) = false := by simpa using g6
              have BN2 : Hid (hasN op = true) := Lib.hid (by unfold hasN; exact decide_eq_true ⟨g3, g9⟩)
              have BV2 : Hid (hasV op = false) := Lib.hid (by unfold hasV; exact decide_eq_false (by omega))
              clear g3 g6 g9
              go_wp2_with fail
              refine (HN2.out _).mono ?_
              rintro e w4 ⟨rfl, b4⟩
              have hb4 := hb3.trans (b4.mono hb3.size)
              have F4 := F3.later b4
              have q0 := F4.cell (j := 0) rfl
              clear b4 HN2 q1
              go_wp2_with fail
              go_roundw
              case rel => exact ⟨k + 1, acc ++ enc (held op) ++ enc (held m), by omega, by go_num, ⟨_, rfl, E2, by rw [Y2.out]; omega⟩, Lib.hid (by rw [HSTEP.out, HNBS.out, BN2.out, BV2.out, ← List.append_assoc, ← HACC.out]; simp only [List.append_assoc, List.append_nil, if_true, if_false, reduceCtorEq, List.nil_append, Bool.false_eq_true, ite_true, ite_false]), hb4⟩
              case measure => simp [intOf]; omega
          · skip
            have e3 : decide (3 ≤ op) = true := by simpa using g3
            have e9 : decide (op ≤ 9) = false := by simpa using g9
            have e6 : decide (6 ≤ op) = true := by simp; omega
            have BN2 : Hid (hasN op = false) := Lib.hid (by unfold hasN; exact decide_eq_false (by omega))
            have BV2 : Hid (hasV op = false) := Lib.hid (by unfold hasV; exact decide_eq_false (by omega))
            clear g3 g9
            go_wp2_with fail
            go_roundw
            case rel => exact ⟨k + 1, acc ++ enc (held op), by omega, by go_num, ⟨_, rfl, E1, by rw [Y1.out]; omega⟩, Lib.hid (by rw [HSTEP.out, HNBS.out, BN2.out, BV2.out, ← List.append_assoc, ← HACC.out]; simp only [List.append_assoc, List.append_nil, if_true, if_false, reduceCtorEq, List.nil_append, Bool.false_eq_true, ite_true, ite_false]), hb3⟩
            case measure => simp [intOf]; omega
        · have e3 : decide (3 ≤ op) = false := by simpa using g3
          have e6 : decide (6 ≤ op) = false := by simp; omega
          have BN2 : Hid (hasN op = false) := Lib.hid (by unfold hasN; exact decide_eq_false (by omega))
          have BV2 : Hid (hasV op = false) := Lib.hid (by unfold hasV; exact decide_eq_false (by omega))
          clear g3
          go_wp2_with fail
          go_roundw
          case rel => exact ⟨k + 1, acc ++ enc (held op), by omega, by go_num, ⟨_, rfl, E1, by rw [Y1.out]; omega⟩, Lib.hid (by rw [HSTEP.out, HNBS.out, BN2.out, BV2.out, ← List.append_assoc, ← HACC.out]; simp only [List.append_assoc, List.append_nil, if_true, if_false, reduceCtorEq, List.nil_append, Bool.false_eq_true, ite_true, ite_false]), hb3⟩
          case measure => simp [intOf]; omega
      · obtain rfl : k = n := by omega
        have HA2 : Hid (t = R) := Lib.hid (by rw [HT.out, HACC.out, HR.out, HB.out, HR0.out, List.take_of_length_le (by rw [HN.out]; exact Nat.le_refl _)])
        go_wp2_with fail
        go_ret
        exact ⟨by rw [← HA2.out]; rfl, hbr⟩
  · have HB : Hid (lbs l = []) := Lib.hid (by unfold lbs; rw [if_neg hok])
    rw [HB.out]
    obtain ⟨er, her⟩ : ∃ er, er = lchk l := ⟨_, rfl⟩
    rw [← her] at HC hok
    have be : (er != 0) = true := by simp [hok]
    clear HB her hok hn hs
    go_enter Try.func29, Try.ntmps29
    go_wp2_with fail
    refine HC.out.mono ?_
    rintro e w1 ⟨rfl, hb1⟩
    clear HC
    go_wp2_with fail
    go_ret
    exact ⟨rfl, hb1⟩
end Go.Proofs.Ytnhcjadkbogioaa

/- Commands: what Put gives, by the document: one that may not be. -/
namespace Go.Proofs.Ytnhcjadkbogioaa
set_option linter.unusedVariables false
set_option linter.unusedSimpArgs false
open Go Go.RowKit OctM

set_option maxRecDepth 100000 in
set_option maxHeartbeats 6400000 in
theorem rcput_0 (x : Cm) (w : World) (h : okCm w x) (hk : ¬ cok x) :
    Calls Try.prog 8 #[.agg (cmc x).toArray] w fun e w' => e = .returned (.string (str (putC x))) ∧ Below w.heap.size w w' := by
  have huc := Try.underlying32
  have B0 := Blk.new w (cmc x) 32
  have hb0 := below_a1C w (.cells (cmc x).toArray 32)
  have hck := rccheck_any x (w.alloc (.cells (cmc x).toArray 32)) (h.later hb0)
  have RG0 := B0.range 0 (cmc x) (by rw [List.drop_zero, List.take_length])
  have HLC := Lib.hid (cmc_len h.e8 h.p8)
  have HPX := Lib.hid (cm_at h.e8 h.p8)
  obtain ⟨xc, hxc⟩ : ∃ c, c = cmc x := ⟨_, rfl⟩
  rw [← hxc] at B0 hb0 hck RG0 HLC HPX ⊢
  have HB0 := Lib.hid B0
  have HBE := Lib.hid hb0
  rw [decide_eq_false hk] at hck
  have HCK := Lib.hid hck
  rw [show str (putC x) = ⟨#[]⟩ by unfold putC; rw [if_neg hk]; rfl]
  clear hck hxc B0 hb0 hk
  go_enter Try.func8, Try.ntmps8
  go_wp2_with (first
    | (refine wpList_load_mid rfl 32 (.tmp 1) rfl w.heap.size 0 rfl xc _ RG0 huc rfl (by rw [HLC.out]; exact info_cm) ?_; simp only [Act.put, List.setIfInBounds_toArray, List.set_cons_zero, List.set_cons_succ])
    | fail)
  refine HCK.out.mono ?_
  rintro e w1 ⟨rfl, hb1⟩
  have HB1 := Lib.hid (HB0.out.later hb1)
  have HBE1 := Lib.hid (HBE.out.trans (hb1.mono HBE.out.size))
  clear hb1 RG0
  go_wp2_with fail
  go_ret
  exact ⟨rfl, HBE1.out⟩
end Go.Proofs.Ytnhcjadkbogioaa

/- Commands: what Put gives, by the document: a change. -/
namespace Go.Proofs.Ytnhcjadkbogioaa
set_option linter.unusedVariables false
set_option linter.unusedSimpArgs false
open Go Go.RowKit OctM

set_option maxRecDepth 100000 in
set_option maxHeartbeats 6400000 in
theorem rcput_1 (x : Cm) (w : World) (h : okCm w x) (hk : cok x) (h5 : x.kd = 1) :
    Calls Try.prog 8 #[.agg (cmc x).toArray] w fun e w' => e = .returned (.string (str (putC x))) ∧ Below w.heap.size w w' := by
  have huc := Try.underlying32
  have hue := Try.underlying29
  have HEL := Lib.hid (cmE_len h.e8)
  have HCE := Lib.hid (cm_edit h.e8 h.p8)
  have B0 := Blk.new w (cmc x) 32
  have hb0 := below_a1C w (.cells (cmc x).toArray 32)
  have hck := rccheck_any x (w.alloc (.cells (cmc x).toArray 32)) (h.later hb0)
  have RG0 := B0.range 0 (cmc x) (by rw [List.drop_zero, List.take_length])
  have HLC := Lib.hid (cmc_len h.e8 h.p8)
  have HPX := Lib.hid (cm_at h.e8 h.p8)
  obtain ⟨xc, hxc⟩ : ∃ c, c = cmc x := ⟨_, rfl⟩
  rw [← hxc] at B0 hb0 hck RG0 HLC HPX ⊢
  have HB0 := Lib.hid B0
  have HBE := Lib.hid hb0
  rw [decide_eq_true hk] at hck
  have HCK := Lib.hid hck
  have H1 := Lib.hid (fun wx : World => ref_num x.kd wx)
  obtain ⟨t1, ht1⟩ : ∃ t, t = str (enc (held x.kd)) := ⟨_, rfl⟩
  rw [← ht1] at H1
  have z1 : t1.size ≤ 6 := by rw [ht1, str_size]; exact held_len _
  have H7 := Lib.hid (fun wx : World => reput_any x.ek x.eid x.eg (x.el.toNat : Int) x.em x.ef wx h.e8 (Int.natCast_nonneg _))
  obtain ⟨t7, ht7⟩ : ∃ t, t = str (ebs x.ek x.eid x.eg x.em (x.el.toNat : Int) x.ef) := ⟨_, rfl⟩
  rw [← ht7] at H7
  have z7 : t7.size ≤ 420 := by rw [ht7, str_size]; exact ebs_len _ _ _ _ _ _
  obtain ⟨u7, hu7⟩ : ∃ u, u = t1 ++ t7 := ⟨_, rfl⟩
  have au7 : t1 ++ t7 = u7 := hu7.symm
  have zu7 : u7.size ≤ 440 := by rw [hu7, ByteArray.size_append]; omega
  have hR : str (putC x) = u7 := by
    unfold putC cmb
    rw [if_pos hk, if_pos h5]
    simp only [hu7, ht1, ht7]
    simp [str_append, ByteArray.append_assoc]
  rw [hR]
  clear hR hu7 ht1 ht7
  have e1 : (x.kd == 1) = true := by rw [h5]; rfl
  have e5 : (x.kd == 5) = false := by rw [h5]; rfl
  have e2 : (x.kd == 2) = false := by rw [h5]; rfl
  have e3 : (x.kd == 3) = false := by rw [h5]; rfl
  obtain ⟨xe, hxe⟩ : ∃ c, c = cmE x := ⟨_, rfl⟩
  have H7 : Hid (∀ wx : World, Calls Try.prog 27 #[.agg xe.toArray] wx fun e w' => e = .returned (.string t7) ∧ Below wx.heap.size wx w') := Lib.hid (by rw [hxe]; exact H7.out)
  rw [← hxe] at HEL HCE
  rw [← hxc] at HCE
  clear hxe
  clear hck hxc B0 hb0 hk h5
  go_enter Try.func8, Try.ntmps8
  go_wp2_with (first
    | (refine wpList_load_mid rfl 32 (.tmp 1) rfl w.heap.size 0 rfl xc _ RG0 huc rfl (by rw [HLC.out]; exact info_cm) ?_; simp only [Act.put, List.setIfInBounds_toArray, List.set_cons_zero, List.set_cons_succ])
    | fail)
  refine HCK.out.mono ?_
  rintro e w1 ⟨rfl, hb1⟩
  have HB1 := Lib.hid (HB0.out.later hb1)
  have HBE1 := Lib.hid (HBE.out.trans (hb1.mono HBE.out.size))
  clear hb1 RG0
  have k1_0 := HB1.out.cell HPX.out.1
  go_wp2_with fail
  refine (H1.out _).mono ?_
  rintro e w2 ⟨rfl, hb2⟩
  have HB2 := Lib.hid (HB1.out.later hb2)
  have HBE2 := Lib.hid (HBE1.out.trans (hb2.mono HBE1.out.size))
  clear hb2 k1_0
  have k2_0 := HB2.out.cell HPX.out.1
  have RE := HB2.out.range 1 xe HCE.out
  go_wp2_with (first
    | (refine wpList_load_mid rfl 29 (.tmp 14) rfl w.heap.size 1 rfl xe _ RE hue rfl (by rw [HEL.out]; exact info_edit) ?_; simp only [Act.put, List.setIfInBounds_toArray, List.set_cons_zero, List.set_cons_succ])
    | fail)
  refine (H7.out _).mono ?_
  rintro e w3 ⟨rfl, hb3⟩
  have HB3 := Lib.hid (HB2.out.later hb3)
  have HBE3 := Lib.hid (HBE2.out.trans (hb3.mono HBE2.out.size))
  clear hb3 k2_0 RE
  go_wp2_with fail
  go_ret
  exact ⟨rfl, HBE3.out⟩
end Go.Proofs.Ytnhcjadkbogioaa

/- Commands: what Put gives, by the document: a put. -/
namespace Go.Proofs.Ytnhcjadkbogioaa
set_option linter.unusedVariables false
set_option linter.unusedSimpArgs false
open Go Go.RowKit OctM

set_option maxRecDepth 100000 in
set_option maxHeartbeats 6400000 in
theorem rcput_2 (x : Cm) (w : World) (h : okCm w x) (hk : cok x) (h5 : x.kd = 2) :
    Calls Try.prog 8 #[.agg (cmc x).toArray] w fun e w' => e = .returned (.string (str (putC x))) ∧ Below w.heap.size w w' := by
  have huc := Try.underlying32
  have hup := Try.underlying27
  have HEL := Lib.hid (cmP_len h.p8)
  have HCE := Lib.hid (cm_patch h.e8 h.p8)
  have B0 := Blk.new w (cmc x) 32
  have hb0 := below_a1C w (.cells (cmc x).toArray 32)
  have hck := rccheck_any x (w.alloc (.cells (cmc x).toArray 32)) (h.later hb0)
  have RG0 := B0.range 0 (cmc x) (by rw [List.drop_zero, List.take_length])
  have HLC := Lib.hid (cmc_len h.e8 h.p8)
  have HPX := Lib.hid (cm_at h.e8 h.p8)
  obtain ⟨xc, hxc⟩ : ∃ c, c = cmc x := ⟨_, rfl⟩
  rw [← hxc] at B0 hb0 hck RG0 HLC HPX ⊢
  have HB0 := Lib.hid B0
  have HBE := Lib.hid hb0
  rw [decide_eq_true hk] at hck
  have HCK := Lib.hid hck
  have H1 := Lib.hid (fun wx : World => ref_num x.kd wx)
  obtain ⟨t1, ht1⟩ : ∃ t, t = str (enc (held x.kd)) := ⟨_, rfl⟩
  rw [← ht1] at H1
  have z1 : t1.size ≤ 6 := by rw [ht1, str_size]; exact held_len _
  have H2 := Lib.hid (fun wx : World => ref_num x.dv wx)
  obtain ⟨t2, ht2⟩ : ∃ t, t = str (enc (held x.dv)) := ⟨_, rfl⟩
  rw [← ht2] at H2
  have z2 : t2.size ≤ 6 := by rw [ht2, str_size]; exact held_len _
  have H3 := Lib.hid (fun wx : World => ref_num x.rq wx)
  obtain ⟨t3, ht3⟩ : ∃ t, t = str (enc (held x.rq)) := ⟨_, rfl⟩
  rw [← ht3] at H3
  have z3 : t3.size ≤ 6 := by rw [ht3, str_size]; exact held_len _
  have H4 := Lib.hid (fun wx : World => ref_num x.id wx)
  obtain ⟨t4, ht4⟩ : ∃ t, t = str (enc (held x.id)) := ⟨_, rfl⟩
  rw [← ht4] at H4
  have z4 : t4.size ≤ 6 := by rw [ht4, str_size]; exact held_len _
  have H5 := Lib.hid (fun wx : World => ref_num x.bs wx)
  obtain ⟨t5, ht5⟩ : ∃ t, t = str (enc (held x.bs)) := ⟨_, rfl⟩
  rw [← ht5] at H5
  have z5 : t5.size ≤ 6 := by rw [ht5, str_size]; exact held_len _
  have H6 := Lib.hid (fun wx : World => rputpatch_any x.pm (x.pl.toNat : Int) x.pf wx h.p8 (Int.natCast_nonneg _))
  obtain ⟨t6, ht6⟩ : ∃ t, t = str (pbs x.pm (x.pl.toNat : Int) x.pf) := ⟨_, rfl⟩
  rw [← ht6] at H6
  have z6 : t6.size ≤ 400 := by rw [ht6, str_size]; exact pbs_len _ _ _
  obtain ⟨u2, hu2⟩ : ∃ u, u = t1 ++ t2 := ⟨_, rfl⟩
  have au2 : t1 ++ t2 = u2 := hu2.symm
  have zu2 : u2.size ≤ 12 := by rw [hu2, ByteArray.size_append]; omega
  obtain ⟨u3, hu3⟩ : ∃ u, u = u2 ++ t3 := ⟨_, rfl⟩
  have au3 : u2 ++ t3 = u3 := hu3.symm
  have zu3 : u3.size ≤ 18 := by rw [hu3, ByteArray.size_append]; omega
  obtain ⟨u4, hu4⟩ : ∃ u, u = u3 ++ t4 := ⟨_, rfl⟩
  have au4 : u3 ++ t4 = u4 := hu4.symm
  have zu4 : u4.size ≤ 24 := by rw [hu4, ByteArray.size_append]; omega
  obtain ⟨u5, hu5⟩ : ∃ u, u = u4 ++ t5 := ⟨_, rfl⟩
  have au5 : u4 ++ t5 = u5 := hu5.symm
  have zu5 : u5.size ≤ 30 := by rw [hu5, ByteArray.size_append]; omega
  obtain ⟨u6, hu6⟩ : ∃ u, u = u5 ++ t6 := ⟨_, rfl⟩
  have au6 : u5 ++ t6 = u6 := hu6.symm
  have zu6 : u6.size ≤ 430 := by rw [hu6, ByteArray.size_append]; omega
  have hR : str (putC x) = u6 := by
    unfold putC cmb
    rw [if_pos hk, if_neg (by omega), if_neg (by omega), if_pos h5]
    simp only [hu6, hu5, hu4, hu3, hu2, ht1, ht2, ht3, ht4, ht5, ht6]
    simp [str_append, ByteArray.append_assoc]
  rw [hR]
  clear hR hu2 hu3 hu4 hu5 hu6 ht1 ht2 ht3 ht4 ht5 ht6
  have e1 : (x.kd == 1) = false := by rw [h5]; rfl
  have e5 : (x.kd == 5) = false := by rw [h5]; rfl
  have e2 : (x.kd == 2) = true := by rw [h5]; rfl
  have e3 : (x.kd == 3) = false := by rw [h5]; rfl
  obtain ⟨xe, hxe⟩ : ∃ c, c = cmP x := ⟨_, rfl⟩
  have H6 : Hid (∀ wx : World, Calls Try.prog 28 #[.agg xe.toArray] wx fun e w' => e = .returned (.string t6) ∧ Below wx.heap.size wx w') := Lib.hid (by rw [hxe]; exact H6.out)
  rw [← hxe] at HEL HCE
  rw [← hxc] at HCE
  clear hxe
  clear hck hxc B0 hb0 hk h5
  go_enter Try.func8, Try.ntmps8
  go_wp2_with (first
    | (refine wpList_load_mid rfl 32 (.tmp 1) rfl w.heap.size 0 rfl xc _ RG0 huc rfl (by rw [HLC.out]; exact info_cm) ?_; simp only [Act.put, List.setIfInBounds_toArray, List.set_cons_zero, List.set_cons_succ])
    | fail)
  refine HCK.out.mono ?_
  rintro e w1 ⟨rfl, hb1⟩
  have HB1 := Lib.hid (HB0.out.later hb1)
  have HBE1 := Lib.hid (HBE.out.trans (hb1.mono HBE.out.size))
  clear hb1 RG0
  have k1_0 := HB1.out.cell HPX.out.1
  go_wp2_with fail
  refine (H1.out _).mono ?_
  rintro e w2 ⟨rfl, hb2⟩
  have HB2 := Lib.hid (HB1.out.later hb2)
  have HBE2 := Lib.hid (HBE1.out.trans (hb2.mono HBE1.out.size))
  clear hb2 k1_0
  have k2_0 := HB2.out.cell HPX.out.1
  have kx1 : ∀ kk : LW w2, kk.val.cell? ⟨w.heap.size, 30, none⟩ = some (.int .i64 x.dv) := fun kk => (kk.le.cell (p := ⟨w.heap.size, 30, none⟩) HB2.out.lt).trans (HB2.out.cell HPX.out.2.1)
  have kx2 : ∀ kk : LW w2, kk.val.cell? ⟨w.heap.size, 31, none⟩ = some (.int .i64 x.rq) := fun kk => (kk.le.cell (p := ⟨w.heap.size, 31, none⟩) HB2.out.lt).trans (HB2.out.cell HPX.out.2.2.1)
  go_wp2_with fail
  refine wp_region_steady [] 65 (by kernel_rfl) (by kernel_rfl) (by kernel_rfl) (by rfl) ?_
  iterate 3 (refine wpG_quiet (by rfl) (by rfl) (by rfl) (fun K hK => ?_); go_big_quiet_op; refine hK _ ?_; clear hK K)
  refine wpG_call (by rfl) (by rfl) 26 #[.int .i64 x.dv] (.string t2) (by intro _; simp [go_sem]) (by kernel_rfl) (fun wx hl => H2.out wx) ?_
  simp only [Act.put, List.setIfInBounds_toArray, List.set_cons_zero, List.set_cons_succ]
  iterate 3 (refine wpG_quiet (by rfl) (by rfl) (by rfl) (fun K hK => ?_); go_big_quiet_op; refine hK _ ?_; clear hK K)
  refine wpG_call (by rfl) (by rfl) 26 #[.int .i64 x.rq] (.string t3) (by intro _; simp [go_sem]) (by kernel_rfl) (fun wx hl => H3.out wx) ?_
  simp only [Act.put, List.setIfInBounds_toArray, List.set_cons_zero, List.set_cons_succ]
  iterate 2 (refine wpG_quiet (by rfl) (by rfl) (by rfl) (fun K hK => ?_); go_big_quiet_op; refine hK _ ?_; clear hK K)
  refine wpG_nil fun w3 hl _ => ?_
  have HB3 := Lib.hid (HB2.out.later hl)
  have HBE3 := Lib.hid (HBE2.out.trans (hl.mono HBE2.out.size))
  clear hl kx1 kx2 k2_0
  have k3_0 := HB3.out.cell HPX.out.1
  have kx1 : ∀ kk : LW w3, kk.val.cell? ⟨w.heap.size, 32, none⟩ = some (.int .i64 x.id) := fun kk => (kk.le.cell (p := ⟨w.heap.size, 32, none⟩) HB3.out.lt).trans (HB3.out.cell HPX.out.2.2.2.1)
  have kx2 : ∀ kk : LW w3, kk.val.cell? ⟨w.heap.size, 33, none⟩ = some (.int .i64 x.bs) := fun kk => (kk.le.cell (p := ⟨w.heap.size, 33, none⟩) HB3.out.lt).trans (HB3.out.cell HPX.out.2.2.2.2.1)
  go_wp2_with fail
  refine wp_region_steady [] 65 (by kernel_rfl) (by kernel_rfl) (by kernel_rfl) (by rfl) ?_
  iterate 3 (refine wpG_quiet (by rfl) (by rfl) (by rfl) (fun K hK => ?_); go_big_quiet_op; refine hK _ ?_; clear hK K)
  refine wpG_call (by rfl) (by rfl) 26 #[.int .i64 x.id] (.string t4) (by intro _; simp [go_sem]) (by kernel_rfl) (fun wx hl => H4.out wx) ?_
  simp only [Act.put, List.setIfInBounds_toArray, List.set_cons_zero, List.set_cons_succ]
  iterate 3 (refine wpG_quiet (by rfl) (by rfl) (by rfl) (fun K hK => ?_); go_big_quiet_op; refine hK _ ?_; clear hK K)
  refine wpG_call (by rfl) (by rfl) 26 #[.int .i64 x.bs] (.string t5) (by intro _; simp [go_sem]) (by kernel_rfl) (fun wx hl => H5.out wx) ?_
  simp only [Act.put, List.setIfInBounds_toArray, List.set_cons_zero, List.set_cons_succ]
  iterate 2 (refine wpG_quiet (by rfl) (by rfl) (by rfl) (fun K hK => ?_); go_big_quiet_op; refine hK _ ?_; clear hK K)
  refine wpG_run (by rfl) (by rfl) (.agg xe.toArray) (fun wx hl => exec_load 27 (.tmp 47) rfl w.heap.size 35 rfl xe _ ((HB3.out.later hl.1).range 35 xe HCE.out) hup rfl (by rw [HEL.out]; exact info_patch)) ?_
  simp only [Act.put, List.setIfInBounds_toArray, List.set_cons_zero, List.set_cons_succ]
  refine wpG_call (by rfl) (by rfl) 28 #[.agg xe.toArray] (.string t6) (by intro _; simp [go_sem]) (by kernel_rfl) (fun wx hl => H6.out wx) ?_
  simp only [Act.put, List.setIfInBounds_toArray, List.set_cons_zero, List.set_cons_succ]
  iterate 2 (refine wpG_quiet (by rfl) (by rfl) (by rfl) (fun K hK => ?_); go_big_quiet_op; refine hK _ ?_; clear hK K)
  refine wpG_nil fun w4 hl _ => ?_
  have HB4 := Lib.hid (HB3.out.later hl)
  have HBE4 := Lib.hid (HBE3.out.trans (hl.mono HBE3.out.size))
  clear hl kx1 kx2 k3_0
  have k4_0 := HB4.out.cell HPX.out.1
  go_wp2_with fail
  go_ret
  exact ⟨rfl, HBE4.out⟩
end Go.Proofs.Ytnhcjadkbogioaa

/- Commands: what Put gives, by the document: a sub. -/
namespace Go.Proofs.Ytnhcjadkbogioaa
set_option linter.unusedVariables false
set_option linter.unusedSimpArgs false
open Go Go.RowKit OctM

set_option maxRecDepth 100000 in
set_option maxHeartbeats 6400000 in
theorem rcput_3 (x : Cm) (w : World) (h : okCm w x) (hk : cok x) (h5 : x.kd = 3) :
    Calls Try.prog 8 #[.agg (cmc x).toArray] w fun e w' => e = .returned (.string (str (putC x))) ∧ Below w.heap.size w w' := by
  have huc := Try.underlying32
  have HNX := Lib.hid h.len
  have HCX := Lib.hid h.cap
  have HSX := Lib.hid h.see
  have B0 := Blk.new w (cmc x) 32
  have hb0 := below_a1C w (.cells (cmc x).toArray 32)
  have hck := rccheck_any x (w.alloc (.cells (cmc x).toArray 32)) (h.later hb0)
  have RG0 := B0.range 0 (cmc x) (by rw [List.drop_zero, List.take_length])
  have HLC := Lib.hid (cmc_len h.e8 h.p8)
  have HPX := Lib.hid (cm_at h.e8 h.p8)
  obtain ⟨xc, hxc⟩ : ∃ c, c = cmc x := ⟨_, rfl⟩
  rw [← hxc] at B0 hb0 hck RG0 HLC HPX ⊢
  have HB0 := Lib.hid B0
  have HBE := Lib.hid hb0
  rw [decide_eq_true hk] at hck
  have HCK := Lib.hid hck
  have H1 := Lib.hid (fun wx : World => ref_num x.kd wx)
  obtain ⟨t1, ht1⟩ : ∃ t, t = str (enc (held x.kd)) := ⟨_, rfl⟩
  rw [← ht1] at H1
  have z1 : t1.size ≤ 6 := by rw [ht1, str_size]; exact held_len _
  have H2 := Lib.hid (fun wx : World => ref_num x.dv wx)
  obtain ⟨t2, ht2⟩ : ∃ t, t = str (enc (held x.dv)) := ⟨_, rfl⟩
  rw [← ht2] at H2
  have z2 : t2.size ≤ 6 := by rw [ht2, str_size]; exact held_len _
  have H3 := Lib.hid (fun wx : World => ref_num x.rq wx)
  obtain ⟨t3, ht3⟩ : ∃ t, t = str (enc (held x.rq)) := ⟨_, rfl⟩
  rw [← ht3] at H3
  have z3 : t3.size ≤ 6 := by rw [ht3, str_size]; exact held_len _
  have H5 := Lib.hid (fun wx : World => ref_num (x.ms.toNat : Int) wx)
  obtain ⟨t5, ht5⟩ : ∃ t, t = str (enc (held (x.ms.toNat : Int))) := ⟨_, rfl⟩
  rw [← ht5] at H5
  have z5 : t5.size ≤ 6 := by rw [ht5, str_size]; exact held_len _
  have H4 : Hid (∀ wx : World, Below w.heap.size w wx → Calls Try.prog 29 #[.slice x.A x.n x.c] wx fun e w' => e = .returned (.string (str (lbs x.f))) ∧ Below wx.heap.size wx w') := Lib.hid (fun wx hb => rput_nodes x.A x.n x.c x.f wx HNX.out ((HSX.out.below hb).more hb.size) HCX.out)
  obtain ⟨t4, ht4⟩ : ∃ t, t = str (lbs x.f) := ⟨_, rfl⟩
  rw [← ht4] at H4
  have z4 : t4.size ≤ 1700 := by rw [ht4, str_size]; have := lbs_len x.f; omega
  obtain ⟨u2, hu2⟩ : ∃ u, u = t1 ++ t2 := ⟨_, rfl⟩
  have au2 : t1 ++ t2 = u2 := hu2.symm
  have zu2 : u2.size ≤ 12 := by rw [hu2, ByteArray.size_append]; omega
  obtain ⟨u3, hu3⟩ : ∃ u, u = u2 ++ t3 := ⟨_, rfl⟩
  have au3 : u2 ++ t3 = u3 := hu3.symm
  have zu3 : u3.size ≤ 18 := by rw [hu3, ByteArray.size_append]; omega
  obtain ⟨u4, hu4⟩ : ∃ u, u = u3 ++ t4 := ⟨_, rfl⟩
  have au4 : u3 ++ t4 = u4 := hu4.symm
  have zu4 : u4.size ≤ 1720 := by rw [hu4, ByteArray.size_append]; omega
  obtain ⟨u5, hu5⟩ : ∃ u, u = u4 ++ t5 := ⟨_, rfl⟩
  have au5 : u4 ++ t5 = u5 := hu5.symm
  have zu5 : u5.size ≤ 1730 := by rw [hu5, ByteArray.size_append]; omega
  have hR : str (putC x) = u5 := by
    unfold putC cmb
    rw [if_pos hk, if_neg (by omega), if_neg (by omega), if_neg (by omega), if_pos h5]
    simp only [hu5, hu4, hu3, hu2, ht1, ht2, ht3, ht4, ht5]
    simp [str_append, ByteArray.append_assoc]
  rw [hR]
  clear hR hu2 hu3 hu4 hu5 ht1 ht2 ht3 ht4 ht5
  have e1 : (x.kd == 1) = false := by rw [h5]; rfl
  have e5 : (x.kd == 5) = false := by rw [h5]; rfl
  have e2 : (x.kd == 2) = false := by rw [h5]; rfl
  have e3 : (x.kd == 3) = true := by rw [h5]; rfl
  have hms0 : (0 : Int) ≤ (x.ms.toNat : Int) := Int.natCast_nonneg _
  have hmlt : (x.ms.toNat : Int) < 4294967296 := by have := x.ms.isLt; omega
  obtain ⟨mz, hmz⟩ : ∃ z, z = (x.ms.toNat : Int) := ⟨_, rfl⟩
  rw [← hmz] at H5 HPX hms0 hmlt
  clear hmz
  clear hck hxc B0 hb0 hk h5
  go_enter Try.func8, Try.ntmps8
  go_wp2_with (first
    | (refine wpList_load_mid rfl 32 (.tmp 1) rfl w.heap.size 0 rfl xc _ RG0 huc rfl (by rw [HLC.out]; exact info_cm) ?_; simp only [Act.put, List.setIfInBounds_toArray, List.set_cons_zero, List.set_cons_succ])
    | fail)
  refine HCK.out.mono ?_
  rintro e w1 ⟨rfl, hb1⟩
  have HB1 := Lib.hid (HB0.out.later hb1)
  have HBE1 := Lib.hid (HBE.out.trans (hb1.mono HBE.out.size))
  clear hb1 RG0
  have k1_0 := HB1.out.cell HPX.out.1
  go_wp2_with fail
  refine (H1.out _).mono ?_
  rintro e w2 ⟨rfl, hb2⟩
  have HB2 := Lib.hid (HB1.out.later hb2)
  have HBE2 := Lib.hid (HBE1.out.trans (hb2.mono HBE1.out.size))
  clear hb2 k1_0
  have k2_0 := HB2.out.cell HPX.out.1
  have kx1 : ∀ kk : LW w2, kk.val.cell? ⟨w.heap.size, 30, none⟩ = some (.int .i64 x.dv) := fun kk => (kk.le.cell (p := ⟨w.heap.size, 30, none⟩) HB2.out.lt).trans (HB2.out.cell HPX.out.2.1)
  have kx2 : ∀ kk : LW w2, kk.val.cell? ⟨w.heap.size, 31, none⟩ = some (.int .i64 x.rq) := fun kk => (kk.le.cell (p := ⟨w.heap.size, 31, none⟩) HB2.out.lt).trans (HB2.out.cell HPX.out.2.2.1)
  go_wp2_with fail
  refine wp_region_steady [] 65 (by kernel_rfl) (by kernel_rfl) (by kernel_rfl) (by rfl) ?_
  iterate 3 (refine wpG_quiet (by rfl) (by rfl) (by rfl) (fun K hK => ?_); go_big_quiet_op; refine hK _ ?_; clear hK K)
  refine wpG_call (by rfl) (by rfl) 26 #[.int .i64 x.dv] (.string t2) (by intro _; simp [go_sem]) (by kernel_rfl) (fun wx hl => H2.out wx) ?_
  simp only [Act.put, List.setIfInBounds_toArray, List.set_cons_zero, List.set_cons_succ]
  iterate 3 (refine wpG_quiet (by rfl) (by rfl) (by rfl) (fun K hK => ?_); go_big_quiet_op; refine hK _ ?_; clear hK K)
  refine wpG_call (by rfl) (by rfl) 26 #[.int .i64 x.rq] (.string t3) (by intro _; simp [go_sem]) (by kernel_rfl) (fun wx hl => H3.out wx) ?_
  simp only [Act.put, List.setIfInBounds_toArray, List.set_cons_zero, List.set_cons_succ]
  iterate 2 (refine wpG_quiet (by rfl) (by rfl) (by rfl) (fun K hK => ?_); go_big_quiet_op; refine hK _ ?_; clear hK K)
  refine wpG_nil fun w3 hl _ => ?_
  have HB3 := Lib.hid (HB2.out.later hl)
  have HBE3 := Lib.hid (HBE2.out.trans (hl.mono HBE2.out.size))
  clear hl kx1 kx2 k2_0
  have k3_0 := HB3.out.cell HPX.out.1
  have kx1 : ∀ kk : LW w3, kk.val.cell? ⟨w.heap.size, 61, none⟩ = some (.slice x.A x.n x.c) := fun kk => (kk.le.cell (p := ⟨w.heap.size, 61, none⟩) HB3.out.lt).trans (HB3.out.cell HPX.out.2.2.2.2.2.2.1)
  have kx2 : ∀ kk : LW w3, kk.val.cell? ⟨w.heap.size, 62, none⟩ = some (.int .u32 mz) := fun kk => (kk.le.cell (p := ⟨w.heap.size, 62, none⟩) HB3.out.lt).trans (HB3.out.cell HPX.out.2.2.2.2.2.2.2)
  go_wp2_with fail
  refine wp_region_steady [] 65 (by kernel_rfl) (by kernel_rfl) (by kernel_rfl) (by rfl) ?_
  iterate 3 (refine wpG_quiet (by rfl) (by rfl) (by rfl) (fun K hK => ?_); go_big_quiet_op; refine hK _ ?_; clear hK K)
  refine wpG_call (by rfl) (by rfl) 29 #[.slice x.A x.n x.c] (.string t4) (by intro _; simp [go_sem]) (by kernel_rfl) (fun wx hl => H4.out wx (HBE3.out.trans (hl.1.mono HBE3.out.size))) ?_
  simp only [Act.put, List.setIfInBounds_toArray, List.set_cons_zero, List.set_cons_succ]
  iterate 4 (refine wpG_quiet (by rfl) (by rfl) (by rfl) (fun K hK => ?_); go_big_quiet_op; refine hK _ ?_; clear hK K)
  refine wpG_call (by rfl) (by rfl) 26 #[.int .i64 mz] (.string t5) (by intro _; simp [go_sem]) (by kernel_rfl) (fun wx hl => H5.out wx) ?_
  simp only [Act.put, List.setIfInBounds_toArray, List.set_cons_zero, List.set_cons_succ]
  iterate 2 (refine wpG_quiet (by rfl) (by rfl) (by rfl) (fun K hK => ?_); go_big_quiet_op; refine hK _ ?_; clear hK K)
  refine wpG_nil fun w4 hl _ => ?_
  have HB4 := Lib.hid (HB3.out.later hl)
  have HBE4 := Lib.hid (HBE3.out.trans (hl.mono HBE3.out.size))
  clear hl kx1 kx2 k3_0
  have k4_0 := HB4.out.cell HPX.out.1
  go_wp2_with fail
  go_ret
  exact ⟨rfl, HBE4.out⟩
end Go.Proofs.Ytnhcjadkbogioaa

/- Commands: what Put gives, by the document: a leave. -/
namespace Go.Proofs.Ytnhcjadkbogioaa
set_option linter.unusedVariables false
set_option linter.unusedSimpArgs false
open Go Go.RowKit OctM

set_option maxRecDepth 100000 in
set_option maxHeartbeats 6400000 in
theorem rcput_4 (x : Cm) (w : World) (h : okCm w x) (hk : cok x) (h5 : x.kd = 4) :
    Calls Try.prog 8 #[.agg (cmc x).toArray] w fun e w' => e = .returned (.string (str (putC x))) ∧ Below w.heap.size w w' := by
  have huc := Try.underlying32
  have B0 := Blk.new w (cmc x) 32
  have hb0 := below_a1C w (.cells (cmc x).toArray 32)
  have hck := rccheck_any x (w.alloc (.cells (cmc x).toArray 32)) (h.later hb0)
  have RG0 := B0.range 0 (cmc x) (by rw [List.drop_zero, List.take_length])
  have HLC := Lib.hid (cmc_len h.e8 h.p8)
  have HPX := Lib.hid (cm_at h.e8 h.p8)
  obtain ⟨xc, hxc⟩ : ∃ c, c = cmc x := ⟨_, rfl⟩
  rw [← hxc] at B0 hb0 hck RG0 HLC HPX ⊢
  have HB0 := Lib.hid B0
  have HBE := Lib.hid hb0
  rw [decide_eq_true hk] at hck
  have HCK := Lib.hid hck
  have H1 := Lib.hid (fun wx : World => ref_num x.kd wx)
  obtain ⟨t1, ht1⟩ : ∃ t, t = str (enc (held x.kd)) := ⟨_, rfl⟩
  rw [← ht1] at H1
  have z1 : t1.size ≤ 6 := by rw [ht1, str_size]; exact held_len _
  have H2 := Lib.hid (fun wx : World => ref_num x.dv wx)
  obtain ⟨t2, ht2⟩ : ∃ t, t = str (enc (held x.dv)) := ⟨_, rfl⟩
  rw [← ht2] at H2
  have z2 : t2.size ≤ 6 := by rw [ht2, str_size]; exact held_len _
  have H3 := Lib.hid (fun wx : World => ref_num x.rq wx)
  obtain ⟨t3, ht3⟩ : ∃ t, t = str (enc (held x.rq)) := ⟨_, rfl⟩
  rw [← ht3] at H3
  have z3 : t3.size ≤ 6 := by rw [ht3, str_size]; exact held_len _
  obtain ⟨u2, hu2⟩ : ∃ u, u = t1 ++ t2 := ⟨_, rfl⟩
  have au2 : t1 ++ t2 = u2 := hu2.symm
  have zu2 : u2.size ≤ 12 := by rw [hu2, ByteArray.size_append]; omega
  obtain ⟨u3, hu3⟩ : ∃ u, u = u2 ++ t3 := ⟨_, rfl⟩
  have au3 : u2 ++ t3 = u3 := hu3.symm
  have zu3 : u3.size ≤ 18 := by rw [hu3, ByteArray.size_append]; omega
  have hR : str (putC x) = u3 := by
    unfold putC cmb
    rw [if_pos hk, if_neg (by omega), if_neg (by omega), if_neg (by omega), if_neg (by omega), List.append_nil]
    simp only [hu3, hu2, ht1, ht2, ht3]
    simp [str_append, ByteArray.append_assoc]
  rw [hR]
  clear hR hu2 hu3 ht1 ht2 ht3
  have e1 : (x.kd == 1) = false := by rw [h5]; rfl
  have e5 : (x.kd == 5) = false := by rw [h5]; rfl
  have e2 : (x.kd == 2) = false := by rw [h5]; rfl
  have e3 : (x.kd == 3) = false := by rw [h5]; rfl
  clear hck hxc B0 hb0 hk h5
  go_enter Try.func8, Try.ntmps8
  go_wp2_with (first
    | (refine wpList_load_mid rfl 32 (.tmp 1) rfl w.heap.size 0 rfl xc _ RG0 huc rfl (by rw [HLC.out]; exact info_cm) ?_; simp only [Act.put, List.setIfInBounds_toArray, List.set_cons_zero, List.set_cons_succ])
    | fail)
  refine HCK.out.mono ?_
  rintro e w1 ⟨rfl, hb1⟩
  have HB1 := Lib.hid (HB0.out.later hb1)
  have HBE1 := Lib.hid (HBE.out.trans (hb1.mono HBE.out.size))
  clear hb1 RG0
  have k1_0 := HB1.out.cell HPX.out.1
  go_wp2_with fail
  refine (H1.out _).mono ?_
  rintro e w2 ⟨rfl, hb2⟩
  have HB2 := Lib.hid (HB1.out.later hb2)
  have HBE2 := Lib.hid (HBE1.out.trans (hb2.mono HBE1.out.size))
  clear hb2 k1_0
  have k2_0 := HB2.out.cell HPX.out.1
  have kx1 : ∀ kk : LW w2, kk.val.cell? ⟨w.heap.size, 30, none⟩ = some (.int .i64 x.dv) := fun kk => (kk.le.cell (p := ⟨w.heap.size, 30, none⟩) HB2.out.lt).trans (HB2.out.cell HPX.out.2.1)
  have kx2 : ∀ kk : LW w2, kk.val.cell? ⟨w.heap.size, 31, none⟩ = some (.int .i64 x.rq) := fun kk => (kk.le.cell (p := ⟨w.heap.size, 31, none⟩) HB2.out.lt).trans (HB2.out.cell HPX.out.2.2.1)
  go_wp2_with fail
  refine wp_region_steady [] 65 (by kernel_rfl) (by kernel_rfl) (by kernel_rfl) (by rfl) ?_
  iterate 3 (refine wpG_quiet (by rfl) (by rfl) (by rfl) (fun K hK => ?_); go_big_quiet_op; refine hK _ ?_; clear hK K)
  refine wpG_call (by rfl) (by rfl) 26 #[.int .i64 x.dv] (.string t2) (by intro _; simp [go_sem]) (by kernel_rfl) (fun wx hl => H2.out wx) ?_
  simp only [Act.put, List.setIfInBounds_toArray, List.set_cons_zero, List.set_cons_succ]
  iterate 3 (refine wpG_quiet (by rfl) (by rfl) (by rfl) (fun K hK => ?_); go_big_quiet_op; refine hK _ ?_; clear hK K)
  refine wpG_call (by rfl) (by rfl) 26 #[.int .i64 x.rq] (.string t3) (by intro _; simp [go_sem]) (by kernel_rfl) (fun wx hl => H3.out wx) ?_
  simp only [Act.put, List.setIfInBounds_toArray, List.set_cons_zero, List.set_cons_succ]
  iterate 2 (refine wpG_quiet (by rfl) (by rfl) (by rfl) (fun K hK => ?_); go_big_quiet_op; refine hK _ ?_; clear hK K)
  refine wpG_nil fun w3 hl _ => ?_
  have HB3 := Lib.hid (HB2.out.later hl)
  have HBE3 := Lib.hid (HBE2.out.trans (hl.mono HBE2.out.size))
  clear hl kx1 kx2 k2_0
  have k3_0 := HB3.out.cell HPX.out.1
  go_wp2_with fail
  go_ret
  exact ⟨rfl, HBE3.out⟩
end Go.Proofs.Ytnhcjadkbogioaa

/- Commands: what Put gives, by the document: a trim. -/
namespace Go.Proofs.Ytnhcjadkbogioaa
set_option linter.unusedVariables false
set_option linter.unusedSimpArgs false
open Go Go.RowKit OctM

set_option maxRecDepth 100000 in
set_option maxHeartbeats 6400000 in
theorem rcput_5 (x : Cm) (w : World) (h : okCm w x) (hk : cok x) (h5 : x.kd = 5) :
    Calls Try.prog 8 #[.agg (cmc x).toArray] w fun e w' => e = .returned (.string (str (putC x))) ∧ Below w.heap.size w w' := by
  have huc := Try.underlying32
  have B0 := Blk.new w (cmc x) 32
  have hb0 := below_a1C w (.cells (cmc x).toArray 32)
  have hck := rccheck_any x (w.alloc (.cells (cmc x).toArray 32)) (h.later hb0)
  have RG0 := B0.range 0 (cmc x) (by rw [List.drop_zero, List.take_length])
  have HLC := Lib.hid (cmc_len h.e8 h.p8)
  have HPX := Lib.hid (cm_at h.e8 h.p8)
  obtain ⟨xc, hxc⟩ : ∃ c, c = cmc x := ⟨_, rfl⟩
  rw [← hxc] at B0 hb0 hck RG0 HLC HPX ⊢
  have HB0 := Lib.hid B0
  have HBE := Lib.hid hb0
  rw [decide_eq_true hk] at hck
  have HCK := Lib.hid hck
  have H1 := Lib.hid (fun wx : World => ref_num x.kd wx)
  obtain ⟨t1, ht1⟩ : ∃ t, t = str (enc (held x.kd)) := ⟨_, rfl⟩
  rw [← ht1] at H1
  have z1 : t1.size ≤ 6 := by rw [ht1, str_size]; exact held_len _
  have H6 := Lib.hid (fun wx : World => ref_num x.kp wx)
  obtain ⟨t6, ht6⟩ : ∃ t, t = str (enc (held x.kp)) := ⟨_, rfl⟩
  rw [← ht6] at H6
  have z6 : t6.size ≤ 6 := by rw [ht6, str_size]; exact held_len _
  obtain ⟨u6, hu6⟩ : ∃ u, u = t1 ++ t6 := ⟨_, rfl⟩
  have au6 : t1 ++ t6 = u6 := hu6.symm
  have zu6 : u6.size ≤ 12 := by rw [hu6, ByteArray.size_append]; omega
  have hR : str (putC x) = u6 := by
    unfold putC cmb
    rw [if_pos hk, if_neg (by omega), if_pos h5]
    simp only [hu6, ht1, ht6]
    simp [str_append, ByteArray.append_assoc]
  rw [hR]
  clear hR hu6 ht1 ht6
  have e1 : (x.kd == 1) = false := by rw [h5]; rfl
  have e5 : (x.kd == 5) = true := by rw [h5]; rfl
  have e2 : (x.kd == 2) = false := by rw [h5]; rfl
  have e3 : (x.kd == 3) = false := by rw [h5]; rfl
  clear hck hxc B0 hb0 hk h5
  go_enter Try.func8, Try.ntmps8
  go_wp2_with (first
    | (refine wpList_load_mid rfl 32 (.tmp 1) rfl w.heap.size 0 rfl xc _ RG0 huc rfl (by rw [HLC.out]; exact info_cm) ?_; simp only [Act.put, List.setIfInBounds_toArray, List.set_cons_zero, List.set_cons_succ])
    | fail)
  refine HCK.out.mono ?_
  rintro e w1 ⟨rfl, hb1⟩
  have HB1 := Lib.hid (HB0.out.later hb1)
  have HBE1 := Lib.hid (HBE.out.trans (hb1.mono HBE.out.size))
  clear hb1 RG0
  have k1_0 := HB1.out.cell HPX.out.1
  go_wp2_with fail
  refine (H1.out _).mono ?_
  rintro e w2 ⟨rfl, hb2⟩
  have HB2 := Lib.hid (HB1.out.later hb2)
  have HBE2 := Lib.hid (HBE1.out.trans (hb2.mono HBE1.out.size))
  clear hb2 k1_0
  have k2_0 := HB2.out.cell HPX.out.1
  have k2_34 := HB2.out.cell HPX.out.2.2.2.2.2.1
  go_wp2_with fail
  refine (H6.out _).mono ?_
  rintro e w3 ⟨rfl, hb3⟩
  have HB3 := Lib.hid (HB2.out.later hb3)
  have HBE3 := Lib.hid (HBE2.out.trans (hb3.mono HBE2.out.size))
  clear hb3 k2_0 k2_34
  go_wp2_with fail
  go_ret
  exact ⟨rfl, HBE3.out⟩
end Go.Proofs.Ytnhcjadkbogioaa

/- Commands: what Put gives, by the document: all of it. -/
namespace Go.Proofs.Ytnhcjadkbogioaa
set_option linter.unusedVariables false
set_option linter.unusedSimpArgs false
open Go Go.RowKit OctM

theorem rcput_any (x : Cm) (w : World) (h : okCm w x) :
    Calls Try.prog 8 #[.agg (cmc x).toArray] w fun e w' => e = .returned (.string (str (putC x))) ∧ Below w.heap.size w w' := by
  by_cases hk : cok x
  · rcases hk.1 with h5 | h5 | h5 | h5 | h5
    · exact rcput_1 x w h hk h5
    · exact rcput_2 x w h hk h5
    · exact rcput_3 x w h hk h5
    · exact rcput_4 x w h hk h5
    · exact rcput_5 x w h hk h5
  · exact rcput_0 x w h hk
end Go.Proofs.Ytnhcjadkbogioaa
