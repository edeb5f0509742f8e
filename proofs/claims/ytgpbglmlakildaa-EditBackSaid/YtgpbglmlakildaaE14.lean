/- Edits as bytes: what Put returns. -/
import Derived.Test.YtgpbglmlakildaaE7
import Derived.Test.YtgpbglmlakildaaE13
namespace Go.Proofs.Ytgpbglmlakildaa
set_option linter.unusedVariables false
set_option linter.unusedSimpArgs false
open Go Go.RowKit OctM BitM

set_option maxRecDepth 100000 in
set_option maxHeartbeats 3200000 in
theorem eput_001 (k id gr lab : Int) (x : BitVec 32) (f : List V3) (A : Option Addr) (n c : Nat) (l : List UInt8) (w : World) (hf : f.length = 8) (hlb : 0 ≤ lab) (hn : l.length = n) (hs : Sees w w.heap.size A (bvs l)) (hm : n ≤ 5000) (h0 : echk k id gr x lab f = 0) (hg : grp k = false) (hi : idk k = false) (hp : ptk k = true) :
    Calls Try.prog 46 #[.slice A n c, .agg (ecells k id gr (x.toNat : Int) lab f).toArray] w (GivesBytes w (l ++ ebs k id gr x lab f)) := by
  have HCK := Lib.hid (fun wx : World => echeck_any k id gr lab x f wx hf)
  have B0 := Blk.new w (ecells k id gr (x.toNat : Int) lab f) 63
  have HEL := Lib.hid (ecells_len k id gr (x.toNat : Int) lab hf)
  have HPL := Lib.hid (pcells_len (x.toNat : Int) lab hf)
  have hb := (Below.refl w.heap.size w).alloc (Nat.le_refl _) (.cells (ecells k id gr (x.toNat : Int) lab f).toArray 63)
  have HQ : Hid (∀ wx : World, Blk wx w.heap.size (ecells k id gr (x.toNat : Int) lab f) → (wx.cell? ⟨w.heap.size, 0, none⟩ = some (.int .i64 k) ∧ wx.cell? ⟨w.heap.size, 1, none⟩ = some (.int .i64 id) ∧ wx.cell? ⟨w.heap.size, 2, none⟩ = some (.int .i64 gr)) ∧ wx.rangeAt w.heap.size 3 (pcells (x.toNat : Int) lab f)) := Lib.hid (fun wx h => ⟨h.edit, h.patchE⟩)
  have hue := Try.underlying63
  have hup := Try.underlying61
  rw [h0] at HCK
  have HG := Lib.hid (fun wx : World => has_grp k wx)
  have HI := Lib.hid (fun wx : World => has_idk k wx)
  have HP := Lib.hid (fun wx : World => has_ptk k wx)
  have hbs := ebs_of h0 hg hi hp
  rw [hg] at HG
  rw [hi] at HI
  rw [hp] at HP
  obtain ⟨r1, hr1⟩ : ∃ r, r = l ++ enc (held k) := ⟨_, rfl⟩
  obtain ⟨n1, hn1⟩ : ∃ n, n = r1.length := ⟨_, rfl⟩
  have b1 : n1 ≤ 5000 + 6 := by rw [hn1, hr1, List.length_append]; have := held_len k; omega
  have H1 : Hid (∀ (A' : Option Addr) (c' : Nat) (wx : World), Sees wx wx.heap.size A' (bvs l) → Calls Try.prog 61 #[.slice A' n c', .int .i64 k] wx (GivesBytes wx r1)) := Lib.hid (fun A' c' wx h => by rw [hr1]; exact oct_num A' n c' l k wx hn h (by omega))
  have M1 := Lib.hid hn1
  obtain ⟨r4, hr4⟩ : ∃ r, r = r1 ++ pbs x lab f := ⟨_, rfl⟩
  obtain ⟨n4, hn4⟩ : ∃ n, n = r4.length := ⟨_, rfl⟩
  have H4 : Hid (∀ (A' : Option Addr) (c' : Nat) (wx : World), Sees wx wx.heap.size A' (bvs r1) → Calls Try.prog 81 #[.slice A' n1 c', .agg (pcells (x.toNat : Int) lab f).toArray] wx (GivesBytes wx r4)) := Lib.hid (fun A' c' wx h => by rw [hr4]; exact putpatch_any x lab f A' n1 c' r1 wx hf hlb hn1.symm h (by omega))
  have M4 := Lib.hid hn4
  have hR : l ++ ebs k id gr x lab f = r4 := by
    rw [hbs, hr4, hr1]
    simp
  rw [hR]
  obtain ⟨pc, hpc⟩ : ∃ pc, pc = pcells (x.toNat : Int) lab f := ⟨_, rfl⟩
  obtain ⟨ec, hec⟩ : ∃ ec, ec = ecells k id gr (x.toNat : Int) lab f := ⟨_, rfl⟩
  rw [← hpc] at HQ HPL H4
  rw [← hec] at B0 HEL hb HQ HCK ⊢
  have RG := B0.wholeC
  clear hpc hec hbs hR hf hlb hn h0 hg hi hp hr1 hn1 hr4 hn4 b1
  go_enter Try.func46, Try.ntmps46
  go_wp2_with (first
    | (refine wpList_load_mid rfl 63 (.tmp 3) rfl w.heap.size 0 rfl ec _ RG hue rfl (by rw [HEL.out]; exact info_edit) ?_)
    | fail)
  refine (HCK.out _).mono ?_
  rintro e w2 ⟨rfl, hb2⟩
  replace B0 := B0.later hb2
  replace hb := hb.trans (hb2.mono hb.size)
  have s0 : Sees w2 w2.heap.size A (bvs l) := (hs.below hb).more hb.size
  clear hb2 RG
  obtain ⟨⟨q0, q1, q2⟩, RP⟩ := HQ.out _ B0
  go_wp2_with fail
  refine (H1.out _ _ _ s0).mono ?_
  rintro e w2 ⟨A1, c1, rfl, o1, hb2⟩
  have s1 := o1.sees
  have hz1 := hb.size
  rw [← M1.out] at o1 ⊢
  replace B0 := B0.later hb2
  replace hb := hb.trans (hb2.mono hb.size)
  clear hb2 q0 q1 q2 RP
  obtain ⟨⟨q0, q1, q2⟩, RP⟩ := HQ.out _ B0
  go_wp2_with fail
  refine (HG.out _).mono ?_
  rintro e w' ⟨rfl, rfl⟩
  go_wp2_with fail
  refine (HI.out _).mono ?_
  rintro e w' ⟨rfl, rfl⟩
  go_wp2_with fail
  refine (HP.out _).mono ?_
  rintro e w' ⟨rfl, rfl⟩
  go_wp2_with (first
    | (refine wpList_load_mid rfl 61 (.tmp 33) rfl w.heap.size 3 rfl pc _ RP hup rfl (by rw [HPL.out]; exact info_patch) ?_)
    | fail)
  refine (H4.out _ _ _ s1).mono ?_
  rintro e w4x ⟨A4, c4, rfl, o4, hb2⟩
  rw [← M4.out] at o4 ⊢
  have hsz := hb.size
  replace hb := hb.trans (hb2.mono hb.size)
  go_wp2_with fail
  go_ret
  exact ⟨A4, c4, by rw [← M4.out]; rfl, by rw [← M4.out]; exact o4.lower hsz, hb⟩
set_option maxRecDepth 100000 in
set_option maxHeartbeats 3200000 in
theorem eput_011 (k id gr lab : Int) (x : BitVec 32) (f : List V3) (A : Option Addr) (n c : Nat) (l : List UInt8) (w : World) (hf : f.length = 8) (hlb : 0 ≤ lab) (hn : l.length = n) (hs : Sees w w.heap.size A (bvs l)) (hm : n ≤ 5000) (h0 : echk k id gr x lab f = 0) (hg : grp k = false) (hi : idk k = true) (hp : ptk k = true) :
    Calls Try.prog 46 #[.slice A n c, .agg (ecells k id gr (x.toNat : Int) lab f).toArray] w (GivesBytes w (l ++ ebs k id gr x lab f)) := by
  have HCK := Lib.hid (fun wx : World => echeck_any k id gr lab x f wx hf)
  have B0 := Blk.new w (ecells k id gr (x.toNat : Int) lab f) 63
  have HEL := Lib.hid (ecells_len k id gr (x.toNat : Int) lab hf)
  have HPL := Lib.hid (pcells_len (x.toNat : Int) lab hf)
  have hb := (Below.refl w.heap.size w).alloc (Nat.le_refl _) (.cells (ecells k id gr (x.toNat : Int) lab f).toArray 63)
  have HQ : Hid (∀ wx : World, Blk wx w.heap.size (ecells k id gr (x.toNat : Int) lab f) → (wx.cell? ⟨w.heap.size, 0, none⟩ = some (.int .i64 k) ∧ wx.cell? ⟨w.heap.size, 1, none⟩ = some (.int .i64 id) ∧ wx.cell? ⟨w.heap.size, 2, none⟩ = some (.int .i64 gr)) ∧ wx.rangeAt w.heap.size 3 (pcells (x.toNat : Int) lab f)) := Lib.hid (fun wx h => ⟨h.edit, h.patchE⟩)
  have hue := Try.underlying63
  have hup := Try.underlying61
  rw [h0] at HCK
  have HG := Lib.hid (fun wx : World => has_grp k wx)
  have HI := Lib.hid (fun wx : World => has_idk k wx)
  have HP := Lib.hid (fun wx : World => has_ptk k wx)
  have hbs := ebs_of h0 hg hi hp
  rw [hg] at HG
  rw [hi] at HI
  rw [hp] at HP
  obtain ⟨r1, hr1⟩ : ∃ r, r = l ++ enc (held k) := ⟨_, rfl⟩
  obtain ⟨n1, hn1⟩ : ∃ n, n = r1.length := ⟨_, rfl⟩
  have b1 : n1 ≤ 5000 + 6 := by rw [hn1, hr1, List.length_append]; have := held_len k; omega
  have H1 : Hid (∀ (A' : Option Addr) (c' : Nat) (wx : World), Sees wx wx.heap.size A' (bvs l) → Calls Try.prog 61 #[.slice A' n c', .int .i64 k] wx (GivesBytes wx r1)) := Lib.hid (fun A' c' wx h => by rw [hr1]; exact oct_num A' n c' l k wx hn h (by omega))
  have M1 := Lib.hid hn1
  obtain ⟨r3, hr3⟩ : ∃ r, r = r1 ++ enc (held id) := ⟨_, rfl⟩
  obtain ⟨n3, hn3⟩ : ∃ n, n = r3.length := ⟨_, rfl⟩
  have b3 : n3 ≤ 5000 + 12 := by rw [hn3, hr3, List.length_append]; have := held_len id; omega
  have H3 : Hid (∀ (A' : Option Addr) (c' : Nat) (wx : World), Sees wx wx.heap.size A' (bvs r1) → Calls Try.prog 61 #[.slice A' n1 c', .int .i64 id] wx (GivesBytes wx r3)) := Lib.hid (fun A' c' wx h => by rw [hr3]; exact oct_num A' n1 c' r1 id wx hn1.symm h (by omega))
  have M3 := Lib.hid hn3
  obtain ⟨r4, hr4⟩ : ∃ r, r = r3 ++ pbs x lab f := ⟨_, rfl⟩
  obtain ⟨n4, hn4⟩ : ∃ n, n = r4.length := ⟨_, rfl⟩
  have H4 : Hid (∀ (A' : Option Addr) (c' : Nat) (wx : World), Sees wx wx.heap.size A' (bvs r3) → Calls Try.prog 81 #[.slice A' n3 c', .agg (pcells (x.toNat : Int) lab f).toArray] wx (GivesBytes wx r4)) := Lib.hid (fun A' c' wx h => by rw [hr4]; exact putpatch_any x lab f A' n3 c' r3 wx hf hlb hn3.symm h (by omega))
  have M4 := Lib.hid hn4
  have hR : l ++ ebs k id gr x lab f = r4 := by
    rw [hbs, hr4, hr3, hr1]
    simp
  rw [hR]
  obtain ⟨pc, hpc⟩ : ∃ pc, pc = pcells (x.toNat : Int) lab f := ⟨_, rfl⟩
  obtain ⟨ec, hec⟩ : ∃ ec, ec = ecells k id gr (x.toNat : Int) lab f := ⟨_, rfl⟩
  rw [← hpc] at HQ HPL H4
  rw [← hec] at B0 HEL hb HQ HCK ⊢
  have RG := B0.wholeC
  clear hpc hec hbs hR hf hlb hn h0 hg hi hp hr1 hn1 hr3 hn3 hr4 hn4 b1 b3
  go_enter Try.func46, Try.ntmps46
  go_wp2_with (first
    | (refine wpList_load_mid rfl 63 (.tmp 3) rfl w.heap.size 0 rfl ec _ RG hue rfl (by rw [HEL.out]; exact info_edit) ?_)
    | fail)
  refine (HCK.out _).mono ?_
  rintro e w2 ⟨rfl, hb2⟩
  replace B0 := B0.later hb2
  replace hb := hb.trans (hb2.mono hb.size)
  have s0 : Sees w2 w2.heap.size A (bvs l) := (hs.below hb).more hb.size
  clear hb2 RG
  obtain ⟨⟨q0, q1, q2⟩, RP⟩ := HQ.out _ B0
  go_wp2_with fail
  refine (H1.out _ _ _ s0).mono ?_
  rintro e w2 ⟨A1, c1, rfl, o1, hb2⟩
  have s1 := o1.sees
  have hz1 := hb.size
  rw [← M1.out] at o1 ⊢
  replace B0 := B0.later hb2
  replace hb := hb.trans (hb2.mono hb.size)
  clear hb2 q0 q1 q2 RP
  obtain ⟨⟨q0, q1, q2⟩, RP⟩ := HQ.out _ B0
  go_wp2_with fail
  refine (HG.out _).mono ?_
  rintro e w' ⟨rfl, rfl⟩
  go_wp2_with fail
  refine (HI.out _).mono ?_
  rintro e w' ⟨rfl, rfl⟩
  go_wp2_with fail
  refine (H3.out _ _ _ s1).mono ?_
  rintro e w3x ⟨A3, c3, rfl, o3, hb2⟩
  have s3 := o3.sees
  have hz3 := hb.size
  rw [← M3.out] at o3 ⊢
  replace B0 := B0.later hb2
  replace hb := hb.trans (hb2.mono hb.size)
  clear hb2 q0 q1 q2 RP
  obtain ⟨⟨q0, q1, q2⟩, RP⟩ := HQ.out _ B0
  go_wp2_with fail
  refine (HP.out _).mono ?_
  rintro e w' ⟨rfl, rfl⟩
  go_wp2_with (first
    | (refine wpList_load_mid rfl 61 (.tmp 33) rfl w.heap.size 3 rfl pc _ RP hup rfl (by rw [HPL.out]; exact info_patch) ?_)
    | fail)
  refine (H4.out _ _ _ s3).mono ?_
  rintro e w4x ⟨A4, c4, rfl, o4, hb2⟩
  rw [← M4.out] at o4 ⊢
  have hsz := hb.size
  replace hb := hb.trans (hb2.mono hb.size)
  go_wp2_with fail
  go_ret
  exact ⟨A4, c4, by rw [← M4.out]; rfl, by rw [← M4.out]; exact o4.lower hsz, hb⟩
set_option maxRecDepth 100000 in
set_option maxHeartbeats 3200000 in
theorem eput_010 (k id gr lab : Int) (x : BitVec 32) (f : List V3) (A : Option Addr) (n c : Nat) (l : List UInt8) (w : World) (hf : f.length = 8) (hlb : 0 ≤ lab) (hn : l.length = n) (hs : Sees w w.heap.size A (bvs l)) (hm : n ≤ 5000) (h0 : echk k id gr x lab f = 0) (hg : grp k = false) (hi : idk k = true) (hp : ptk k = false) :
    Calls Try.prog 46 #[.slice A n c, .agg (ecells k id gr (x.toNat : Int) lab f).toArray] w (GivesBytes w (l ++ ebs k id gr x lab f)) := by
  have HCK := Lib.hid (fun wx : World => echeck_any k id gr lab x f wx hf)
  have B0 := Blk.new w (ecells k id gr (x.toNat : Int) lab f) 63
  have HEL := Lib.hid (ecells_len k id gr (x.toNat : Int) lab hf)
  have HPL := Lib.hid (pcells_len (x.toNat : Int) lab hf)
  have hb := (Below.refl w.heap.size w).alloc (Nat.le_refl _) (.cells (ecells k id gr (x.toNat : Int) lab f).toArray 63)
  have HQ : Hid (∀ wx : World, Blk wx w.heap.size (ecells k id gr (x.toNat : Int) lab f) → (wx.cell? ⟨w.heap.size, 0, none⟩ = some (.int .i64 k) ∧ wx.cell? ⟨w.heap.size, 1, none⟩ = some (.int .i64 id) ∧ wx.cell? ⟨w.heap.size, 2, none⟩ = some (.int .i64 gr)) ∧ wx.rangeAt w.heap.size 3 (pcells (x.toNat : Int) lab f)) := Lib.hid (fun wx h => ⟨h.edit, h.patchE⟩)
  have hue := Try.underlying63
  have hup := Try.underlying61
  rw [h0] at HCK
  have HG := Lib.hid (fun wx : World => has_grp k wx)
  have HI := Lib.hid (fun wx : World => has_idk k wx)
  have HP := Lib.hid (fun wx : World => has_ptk k wx)
  have hbs := ebs_of h0 hg hi hp
  rw [hg] at HG
  rw [hi] at HI
  rw [hp] at HP
  obtain ⟨r1, hr1⟩ : ∃ r, r = l ++ enc (held k) := ⟨_, rfl⟩
  obtain ⟨n1, hn1⟩ : ∃ n, n = r1.length := ⟨_, rfl⟩
  have b1 : n1 ≤ 5000 + 6 := by rw [hn1, hr1, List.length_append]; have := held_len k; omega
  have H1 : Hid (∀ (A' : Option Addr) (c' : Nat) (wx : World), Sees wx wx.heap.size A' (bvs l) → Calls Try.prog 61 #[.slice A' n c', .int .i64 k] wx (GivesBytes wx r1)) := Lib.hid (fun A' c' wx h => by rw [hr1]; exact oct_num A' n c' l k wx hn h (by omega))
  have M1 := Lib.hid hn1
  obtain ⟨r3, hr3⟩ : ∃ r, r = r1 ++ enc (held id) := ⟨_, rfl⟩
  obtain ⟨n3, hn3⟩ : ∃ n, n = r3.length := ⟨_, rfl⟩
  have b3 : n3 ≤ 5000 + 12 := by rw [hn3, hr3, List.length_append]; have := held_len id; omega
  have H3 : Hid (∀ (A' : Option Addr) (c' : Nat) (wx : World), Sees wx wx.heap.size A' (bvs r1) → Calls Try.prog 61 #[.slice A' n1 c', .int .i64 id] wx (GivesBytes wx r3)) := Lib.hid (fun A' c' wx h => by rw [hr3]; exact oct_num A' n1 c' r1 id wx hn1.symm h (by omega))
  have M3 := Lib.hid hn3
  have hR : l ++ ebs k id gr x lab f = r3 := by
    rw [hbs, hr3, hr1]
    simp
  rw [hR]
  obtain ⟨pc, hpc⟩ : ∃ pc, pc = pcells (x.toNat : Int) lab f := ⟨_, rfl⟩
  obtain ⟨ec, hec⟩ : ∃ ec, ec = ecells k id gr (x.toNat : Int) lab f := ⟨_, rfl⟩
  rw [← hpc] at HQ HPL
  rw [← hec] at B0 HEL hb HQ HCK ⊢
  have RG := B0.wholeC
  clear hpc hec hbs hR hf hlb hn h0 hg hi hp hr1 hn1 hr3 hn3 b1 b3
  go_enter Try.func46, Try.ntmps46
  go_wp2_with (first
    | (refine wpList_load_mid rfl 63 (.tmp 3) rfl w.heap.size 0 rfl ec _ RG hue rfl (by rw [HEL.out]; exact info_edit) ?_)
    | fail)
  refine (HCK.out _).mono ?_
  rintro e w2 ⟨rfl, hb2⟩
  replace B0 := B0.later hb2
  replace hb := hb.trans (hb2.mono hb.size)
  have s0 : Sees w2 w2.heap.size A (bvs l) := (hs.below hb).more hb.size
  clear hb2 RG
  obtain ⟨⟨q0, q1, q2⟩, RP⟩ := HQ.out _ B0
  go_wp2_with fail
  refine (H1.out _ _ _ s0).mono ?_
  rintro e w2 ⟨A1, c1, rfl, o1, hb2⟩
  have s1 := o1.sees
  have hz1 := hb.size
  rw [← M1.out] at o1 ⊢
  replace B0 := B0.later hb2
  replace hb := hb.trans (hb2.mono hb.size)
  clear hb2 q0 q1 q2 RP
  obtain ⟨⟨q0, q1, q2⟩, RP⟩ := HQ.out _ B0
  go_wp2_with fail
  refine (HG.out _).mono ?_
  rintro e w' ⟨rfl, rfl⟩
  go_wp2_with fail
  refine (HI.out _).mono ?_
  rintro e w' ⟨rfl, rfl⟩
  go_wp2_with fail
  refine (H3.out _ _ _ s1).mono ?_
  rintro e w3x ⟨A3, c3, rfl, o3, hb2⟩
  have s3 := o3.sees
  have hz3 := hb.size
  rw [← M3.out] at o3 ⊢
  replace B0 := B0.later hb2
  replace hb := hb.trans (hb2.mono hb.size)
  clear hb2 q0 q1 q2 RP
  obtain ⟨⟨q0, q1, q2⟩, RP⟩ := HQ.out _ B0
  go_wp2_with fail
  refine (HP.out _).mono ?_
  rintro e w' ⟨rfl, rfl⟩
  go_wp2_with fail
  go_ret
  exact ⟨A3, c3, by rw [← M3.out]; rfl, by rw [← M3.out]; exact o3.lower hz3, hb⟩
set_option maxRecDepth 100000 in
set_option maxHeartbeats 3200000 in
theorem eput_100 (k id gr lab : Int) (x : BitVec 32) (f : List V3) (A : Option Addr) (n c : Nat) (l : List UInt8) (w : World) (hf : f.length = 8) (hlb : 0 ≤ lab) (hn : l.length = n) (hs : Sees w w.heap.size A (bvs l)) (hm : n ≤ 5000) (h0 : echk k id gr x lab f = 0) (hg : grp k = true) (hi : idk k = false) (hp : ptk k = false) :
    Calls Try.prog 46 #[.slice A n c, .agg (ecells k id gr (x.toNat : Int) lab f).toArray] w (GivesBytes w (l ++ ebs k id gr x lab f)) := by
  have HCK := Lib.hid (fun wx : World => echeck_any k id gr lab x f wx hf)
  have B0 := Blk.new w (ecells k id gr (x.toNat : Int) lab f) 63
  have HEL := Lib.hid (ecells_len k id gr (x.toNat : Int) lab hf)
  have HPL := Lib.hid (pcells_len (x.toNat : Int) lab hf)
  have hb := (Below.refl w.heap.size w).alloc (Nat.le_refl _) (.cells (ecells k id gr (x.toNat : Int) lab f).toArray 63)
  have HQ : Hid (∀ wx : World, Blk wx w.heap.size (ecells k id gr (x.toNat : Int) lab f) → (wx.cell? ⟨w.heap.size, 0, none⟩ = some (.int .i64 k) ∧ wx.cell? ⟨w.heap.size, 1, none⟩ = some (.int .i64 id) ∧ wx.cell? ⟨w.heap.size, 2, none⟩ = some (.int .i64 gr)) ∧ wx.rangeAt w.heap.size 3 (pcells (x.toNat : Int) lab f)) := Lib.hid (fun wx h => ⟨h.edit, h.patchE⟩)
  have hue := Try.underlying63
  have hup := Try.underlying61
  rw [h0] at HCK
  have HG := Lib.hid (fun wx : World => has_grp k wx)
  have HI := Lib.hid (fun wx : World => has_idk k wx)
  have HP := Lib.hid (fun wx : World => has_ptk k wx)
  have hbs := ebs_of h0 hg hi hp
  rw [hg] at HG
  rw [hi] at HI
  rw [hp] at HP
  obtain ⟨r1, hr1⟩ : ∃ r, r = l ++ enc (held k) := ⟨_, rfl⟩
  obtain ⟨n1, hn1⟩ : ∃ n, n = r1.length := ⟨_, rfl⟩
  have b1 : n1 ≤ 5000 + 6 := by rw [hn1, hr1, List.length_append]; have := held_len k; omega
  have H1 : Hid (∀ (A' : Option Addr) (c' : Nat) (wx : World), Sees wx wx.heap.size A' (bvs l) → Calls Try.prog 61 #[.slice A' n c', .int .i64 k] wx (GivesBytes wx r1)) := Lib.hid (fun A' c' wx h => by rw [hr1]; exact oct_num A' n c' l k wx hn h (by omega))
  have M1 := Lib.hid hn1
  obtain ⟨r2, hr2⟩ : ∃ r, r = r1 ++ enc (held gr) := ⟨_, rfl⟩
  obtain ⟨n2, hn2⟩ : ∃ n, n = r2.length := ⟨_, rfl⟩
  have b2 : n2 ≤ 5000 + 12 := by rw [hn2, hr2, List.length_append]; have := held_len gr; omega
  have H2 : Hid (∀ (A' : Option Addr) (c' : Nat) (wx : World), Sees wx wx.heap.size A' (bvs r1) → Calls Try.prog 61 #[.slice A' n1 c', .int .i64 gr] wx (GivesBytes wx r2)) := Lib.hid (fun A' c' wx h => by rw [hr2]; exact oct_num A' n1 c' r1 gr wx hn1.symm h (by omega))
  have M2 := Lib.hid hn2
  have hR : l ++ ebs k id gr x lab f = r2 := by
    rw [hbs, hr2, hr1]
    simp
  rw [hR]
  obtain ⟨pc, hpc⟩ : ∃ pc, pc = pcells (x.toNat : Int) lab f := ⟨_, rfl⟩
  obtain ⟨ec, hec⟩ : ∃ ec, ec = ecells k id gr (x.toNat : Int) lab f := ⟨_, rfl⟩
  rw [← hpc] at HQ HPL
  rw [← hec] at B0 HEL hb HQ HCK ⊢
  have RG := B0.wholeC
  clear hpc hec hbs hR hf hlb hn h0 hg hi hp hr1 hn1 hr2 hn2 b1 b2
  go_enter Try.func46, Try.ntmps46
  go_wp2_with (first
    | (refine wpList_load_mid rfl 63 (.tmp 3) rfl w.heap.size 0 rfl ec _ RG hue rfl (by rw [HEL.out]; exact info_edit) ?_)
    | fail)
  refine (HCK.out _).mono ?_
  rintro e w2 ⟨rfl, hb2⟩
  replace B0 := B0.later hb2
  replace hb := hb.trans (hb2.mono hb.size)
  have s0 : Sees w2 w2.heap.size A (bvs l) := (hs.below hb).more hb.size
  clear hb2 RG
  obtain ⟨⟨q0, q1, q2⟩, RP⟩ := HQ.out _ B0
  go_wp2_with fail
  refine (H1.out _ _ _ s0).mono ?_
  rintro e w2 ⟨A1, c1, rfl, o1, hb2⟩
  have s1 := o1.sees
  have hz1 := hb.size
  rw [← M1.out] at o1 ⊢
  replace B0 := B0.later hb2
  replace hb := hb.trans (hb2.mono hb.size)
  clear hb2 q0 q1 q2 RP
  obtain ⟨⟨q0, q1, q2⟩, RP⟩ := HQ.out _ B0
  go_wp2_with fail
  refine (HG.out _).mono ?_
  rintro e w' ⟨rfl, rfl⟩
  go_wp2_with fail
  refine (H2.out _ _ _ s1).mono ?_
  rintro e w2x ⟨A2, c2, rfl, o2, hb2⟩
  have s2 := o2.sees
  have hz2 := hb.size
  rw [← M2.out] at o2 ⊢
  replace B0 := B0.later hb2
  replace hb := hb.trans (hb2.mono hb.size)
  clear hb2 q0 q1 q2 RP
  obtain ⟨⟨q0, q1, q2⟩, RP⟩ := HQ.out _ B0
  go_wp2_with fail
  refine (HI.out _).mono ?_
  rintro e w' ⟨rfl, rfl⟩
  go_wp2_with fail
  refine (HP.out _).mono ?_
  rintro e w' ⟨rfl, rfl⟩
  go_wp2_with fail
  go_ret
  exact ⟨A2, c2, by rw [← M2.out]; rfl, by rw [← M2.out]; exact o2.lower hz2, hb⟩
set_option maxRecDepth 100000 in
set_option maxHeartbeats 3200000 in
theorem eput_110 (k id gr lab : Int) (x : BitVec 32) (f : List V3) (A : Option Addr) (n c : Nat) (l : List UInt8) (w : World) (hf : f.length = 8) (hlb : 0 ≤ lab) (hn : l.length = n) (hs : Sees w w.heap.size A (bvs l)) (hm : n ≤ 5000) (h0 : echk k id gr x lab f = 0) (hg : grp k = true) (hi : idk k = true) (hp : ptk k = false) :
    Calls Try.prog 46 #[.slice A n c, .agg (ecells k id gr (x.toNat : Int) lab f).toArray] w (GivesBytes w (l ++ ebs k id gr x lab f)) := by
  have HCK := Lib.hid (fun wx : World => echeck_any k id gr lab x f wx hf)
  have B0 := Blk.new w (ecells k id gr (x.toNat : Int) lab f) 63
  have HEL := Lib.hid (ecells_len k id gr (x.toNat : Int) lab hf)
  have HPL := Lib.hid (pcells_len (x.toNat : Int) lab hf)
  have hb := (Below.refl w.heap.size w).alloc (Nat.le_refl _) (.cells (ecells k id gr (x.toNat : Int) lab f).toArray 63)
  have HQ : Hid (∀ wx : World, Blk wx w.heap.size (ecells k id gr (x.toNat : Int) lab f) → (wx.cell? ⟨w.heap.size, 0, none⟩ = some (.int .i64 k) ∧ wx.cell? ⟨w.heap.size, 1, none⟩ = some (.int .i64 id) ∧ wx.cell? ⟨w.heap.size, 2, none⟩ = some (.int .i64 gr)) ∧ wx.rangeAt w.heap.size 3 (pcells (x.toNat : Int) lab f)) := Lib.hid (fun wx h => ⟨h.edit, h.patchE⟩)
  have hue := Try.underlying63
  have hup := Try.underlying61
  rw [h0] at HCK
  have HG := Lib.hid (fun wx : World => has_grp k wx)
  have HI := Lib.hid (fun wx : World => has_idk k wx)
  have HP := Lib.hid (fun wx : World => has_ptk k wx)
  have hbs := ebs_of h0 hg hi hp
  rw [hg] at HG
  rw [hi] at HI
  rw [hp] at HP
  obtain ⟨r1, hr1⟩ : ∃ r, r = l ++ enc (held k) := ⟨_, rfl⟩
  obtain ⟨n1, hn1⟩ : ∃ n, n = r1.length := ⟨_, rfl⟩
  have b1 : n1 ≤ 5000 + 6 := by rw [hn1, hr1, List.length_append]; have := held_len k; omega
  have H1 : Hid (∀ (A' : Option Addr) (c' : Nat) (wx : World), Sees wx wx.heap.size A' (bvs l) → Calls Try.prog 61 #[.slice A' n c', .int .i64 k] wx (GivesBytes wx r1)) := Lib.hid (fun A' c' wx h => by rw [hr1]; exact oct_num A' n c' l k wx hn h (by omega))
  have M1 := Lib.hid hn1
  obtain ⟨r2, hr2⟩ : ∃ r, r = r1 ++ enc (held gr) := ⟨_, rfl⟩
  obtain ⟨n2, hn2⟩ : ∃ n, n = r2.length := ⟨_, rfl⟩
  have b2 : n2 ≤ 5000 + 12 := by rw [hn2, hr2, List.length_append]; have := held_len gr; omega
  have H2 : Hid (∀ (A' : Option Addr) (c' : Nat) (wx : World), Sees wx wx.heap.size A' (bvs r1) → Calls Try.prog 61 #[.slice A' n1 c', .int .i64 gr] wx (GivesBytes wx r2)) := Lib.hid (fun A' c' wx h => by rw [hr2]; exact oct_num A' n1 c' r1 gr wx hn1.symm h (by omega))
  have M2 := Lib.hid hn2
  obtain ⟨r3, hr3⟩ : ∃ r, r = r2 ++ enc (held id) := ⟨_, rfl⟩
  obtain ⟨n3, hn3⟩ : ∃ n, n = r3.length := ⟨_, rfl⟩
  have b3 : n3 ≤ 5000 + 18 := by rw [hn3, hr3, List.length_append]; have := held_len id; omega
  have H3 : Hid (∀ (A' : Option Addr) (c' : Nat) (wx : World), Sees wx wx.heap.size A' (bvs r2) → Calls Try.prog 61 #[.slice A' n2 c', .int .i64 id] wx (GivesBytes wx r3)) := Lib.hid (fun A' c' wx h => by rw [hr3]; exact oct_num A' n2 c' r2 id wx hn2.symm h (by omega))
  have M3 := Lib.hid hn3
  have hR : l ++ ebs k id gr x lab f = r3 := by
    rw [hbs, hr3, hr2, hr1]
    simp
  rw [hR]
  obtain ⟨pc, hpc⟩ : ∃ pc, pc = pcells (x.toNat : Int) lab f := ⟨_, rfl⟩
  obtain ⟨ec, hec⟩ : ∃ ec, ec = ecells k id gr (x.toNat : Int) lab f := ⟨_, rfl⟩
  rw [← hpc] at HQ HPL
  rw [← hec] at B0 HEL hb HQ HCK ⊢
  have RG := B0.wholeC
  clear hpc hec hbs hR hf hlb hn h0 hg hi hp hr1 hn1 hr2 hn2 hr3 hn3 b1 b2 b3
  go_enter Try.func46, Try.ntmps46
  go_wp2_with (first
    | (refine wpList_load_mid rfl 63 (.tmp 3) rfl w.heap.size 0 rfl ec _ RG hue rfl (by rw [HEL.out]; exact info_edit) ?_)
    | fail)
  refine (HCK.out _).mono ?_
  rintro e w2 ⟨rfl, hb2⟩
  replace B0 := B0.later hb2
  replace hb := hb.trans (hb2.mono hb.size)
  have s0 : Sees w2 w2.heap.size A (bvs l) := (hs.below hb).more hb.size
  clear hb2 RG
  obtain ⟨⟨q0, q1, q2⟩, RP⟩ := HQ.out _ B0
  go_wp2_with fail
  refine (H1.out _ _ _ s0).mono ?_
  rintro e w2 ⟨A1, c1, rfl, o1, hb2⟩
  have s1 := o1.sees
  have hz1 := hb.size
  rw [← M1.out] at o1 ⊢
  replace B0 := B0.later hb2
  replace hb := hb.trans (hb2.mono hb.size)
  clear hb2 q0 q1 q2 RP
  obtain ⟨⟨q0, q1, q2⟩, RP⟩ := HQ.out _ B0
  go_wp2_with fail
  refine (HG.out _).mono ?_
  rintro e w' ⟨rfl, rfl⟩
  go_wp2_with fail
  refine (H2.out _ _ _ s1).mono ?_
  rintro e w2x ⟨A2, c2, rfl, o2, hb2⟩
  have s2 := o2.sees
  have hz2 := hb.size
  rw [← M2.out] at o2 ⊢
  replace B0 := B0.later hb2
  replace hb := hb.trans (hb2.mono hb.size)
  clear hb2 q0 q1 q2 RP
  obtain ⟨⟨q0, q1, q2⟩, RP⟩ := HQ.out _ B0
  go_wp2_with fail
  refine (HI.out _).mono ?_
  rintro e w' ⟨rfl, rfl⟩
  go_wp2_with fail
  refine (H3.out _ _ _ s2).mono ?_
  rintro e w3x ⟨A3, c3, rfl, o3, hb2⟩
  have s3 := o3.sees
  have hz3 := hb.size
  rw [← M3.out] at o3 ⊢
  replace B0 := B0.later hb2
  replace hb := hb.trans (hb2.mono hb.size)
  clear hb2 q0 q1 q2 RP
  obtain ⟨⟨q0, q1, q2⟩, RP⟩ := HQ.out _ B0
  go_wp2_with fail
  refine (HP.out _).mono ?_
  rintro e w' ⟨rfl, rfl⟩
  go_wp2_with fail
  go_ret
  exact ⟨A3, c3, by rw [← M3.out]; rfl, by rw [← M3.out]; exact o3.lower hz3, hb⟩
set_option maxRecDepth 100000 in
set_option maxHeartbeats 1600000 in
theorem eput_any (k id gr lab : Int) (x : BitVec 32) (f : List V3) (A : Option Addr) (n c : Nat) (l : List UInt8) (w : World) (hf : f.length = 8) (hlb : 0 ≤ lab) (hn : l.length = n) (hs : Sees w w.heap.size A (bvs l)) (hm : n ≤ 5000) :
    Calls Try.prog 46 #[.slice A n c, .agg (ecells k id gr (x.toNat : Int) lab f).toArray] w (GivesBytes w (l ++ ebs k id gr x lab f)) := by
  by_cases h0 : echk k id gr x lab f = 0
  · obtain ⟨h1, h2, _⟩ := echk_ok h0
    have hc : k = 1 ∨ k = 2 ∨ k = 3 ∨ k = 4 ∨ k = 5 ∨ k = 6 ∨ k = 7 := by omega
    rcases hc with rfl | rfl | rfl | rfl | rfl | rfl | rfl
    · exact eput_001 _ id gr lab x f A n c l w hf hlb hn hs hm h0 rfl rfl rfl
    · exact eput_011 _ id gr lab x f A n c l w hf hlb hn hs hm h0 rfl rfl rfl
    · exact eput_010 _ id gr lab x f A n c l w hf hlb hn hs hm h0 rfl rfl rfl
    · exact eput_100 _ id gr lab x f A n c l w hf hlb hn hs hm h0 rfl rfl rfl
    · exact eput_100 _ id gr lab x f A n c l w hf hlb hn hs hm h0 rfl rfl rfl
    · exact eput_110 _ id gr lab x f A n c l w hf hlb hn hs hm h0 rfl rfl rfl
    · exact eput_110 _ id gr lab x f A n c l w hf hlb hn hs hm h0 rfl rfl rfl
  · have hR : l ++ ebs k id gr x lab f = l := by unfold ebs; rw [if_pos h0, List.append_nil]
    rw [hR]
    have HCK := Lib.hid (fun wx : World => echeck_any k id gr lab x f wx hf)
    have B0 := Blk.new w (ecells k id gr (x.toNat : Int) lab f) 63
    have HEL := Lib.hid (ecells_len k id gr (x.toNat : Int) lab hf)
    have HPL := Lib.hid (pcells_len (x.toNat : Int) lab hf)
    have hb := (Below.refl w.heap.size w).alloc (Nat.le_refl _) (.cells (ecells k id gr (x.toNat : Int) lab f).toArray 63)
    have HQ : Hid (∀ wx : World, Blk wx w.heap.size (ecells k id gr (x.toNat : Int) lab f) → (wx.cell? ⟨w.heap.size, 0, none⟩ = some (.int .i64 k) ∧ wx.cell? ⟨w.heap.size, 1, none⟩ = some (.int .i64 id) ∧ wx.cell? ⟨w.heap.size, 2, none⟩ = some (.int .i64 gr)) ∧ wx.rangeAt w.heap.size 3 (pcells (x.toNat : Int) lab f)) := Lib.hid (fun wx h => ⟨h.edit, h.patchE⟩)
    have hue := Try.underlying63
    have hup := Try.underlying61
    obtain ⟨er, her⟩ : ∃ z, z = echk k id gr x lab f := ⟨_, rfl⟩
    rw [← her] at HCK h0
    have be : (er != 0) = true := by simpa using h0
    have HCL := Lib.hid (fun (wx : World) (hb : Below w.heap.size w wx) => clone_any A n c l wx hn ((hs.below hb).more hb.size) (by omega))
    obtain ⟨ec, hec⟩ : ∃ ec, ec = ecells k id gr (x.toNat : Int) lab f := ⟨_, rfl⟩
    rw [← hec] at B0 HEL hb HCK ⊢
    have RG := B0.wholeC
    clear hec her h0 hR hs hn B0 HQ HPL hup
    go_enter Try.func46, Try.ntmps46
    go_wp2_with (first
      | (refine wpList_load_mid rfl 63 (.tmp 3) rfl w.heap.size 0 rfl ec _ RG hue rfl (by rw [HEL.out]; exact info_edit) ?_)
      | fail)
    refine (HCK.out _).mono ?_
    rintro e w2 ⟨rfl, hb2⟩
    have hbw := hb.trans (hb2.mono hb.size)
    clear RG hb2 hb
    go_wp2_with fail
    refine (HCL.out _ hbw).mono ?_
    rintro e w2 ⟨A2, c2, rfl, ho, hb2⟩
    go_wp2_with fail
    go_ret
    exact ⟨A2, c2, rfl, ho.lower hbw.size, hbw.trans (hb2.mono hbw.size)⟩
end Go.Proofs.Ytgpbglmlakildaa

/- Edits: which may be, or why not: what Check returns. -/
namespace Go.Proofs.Ytgpbglmlakildaa
set_option linter.unusedVariables false
set_option linter.unusedSimpArgs false
open Go Go.RowKit OctM BitM

set_option maxRecDepth 100000 in
set_option maxHeartbeats 3200000 in
theorem recheck_001 (k id gr lab : Int) (x : BitVec 32) (f : List V3) (w : World) (hf : f.length = 8) (hk1 : 1 ≤ k) (hk2 : k ≤ 7) (hg : grp k = false) (hi : idk k = false) (hp : ptk k = true) :
    Calls Try.prog 43 #[.agg (ecells k id gr (x.toNat : Int) lab f).toArray] w fun e w' => e = .returned (.int .i64 (echk k id gr x lab f)) ∧ Below w.heap.size w w' := by
  have hd1 : decide (k < 1) = false := decide_eq_false (by omega)
  have hd2 : decide (7 < k) = false := decide_eq_false (by omega)
  have HPC := Lib.hid (fun wx : World => rpcheck_any x lab f wx hf)
  have HG := Lib.hid (fun wx : World => rgrp_any k wx)
  have HI := Lib.hid (fun wx : World => ridk_any k wx)
  have HP := Lib.hid (fun wx : World => rptk_any k wx)
  have HR0 := Lib.hid (fun (zg zi bp d1 d2 e1 e2 : Bool) h1 h2 h3 h4 h5 h6 h7 => echk_bool (k := k) (id := id) (gr := gr) (x := x) (lab := lab) (f := f) (zg := zg) (zi := zi) (bp := bp) (d1 := d1) (d2 := d2) (e1 := e1) (e2 := e2) hk1 hk2 hg hi hp h1 h2 h3 h4 h5 h6 h7)
  have B0 := Blk.new w (ecells k id gr (x.toNat : Int) lab f) 63
  obtain ⟨q0, q1, q2⟩ := B0.edit
  have RP := B0.patchE
  have hb := (Below.refl w.heap.size w).alloc (Nat.le_refl _) (.cells (ecells k id gr (x.toNat : Int) lab f).toArray 63)
  obtain ⟨R, hR⟩ : ∃ R, R = echk k id gr x lab f := ⟨_, rfl⟩
  rw [← hR] at HR0 ⊢
  obtain ⟨P, hP⟩ : ∃ P, P = pchk x lab f := ⟨_, rfl⟩
  rw [← hP] at HR0 HPC
  obtain ⟨bp, kbp⟩ : ∃ b, decide ((x.toNat : Int) = 0 ∧ lab = 0 ∧ f = zeros) = b := ⟨_, rfl⟩
  have HEQ : Hid (∀ wx : World, (Op.equalIn 10000 61 (.agg (pcells (x.toNat : Int) lab f).toArray) (.agg (pcells 0 0 zeros).toArray)).run Try.prog wx = .ok bp wx) := Lib.hid (fun wx => by rw [eq_patch 9996 _ _ _ _ f zeros hf zeros_len wx, kbp])
  have HPL := Lib.hid (pcells_len (x.toNat : Int) lab hf)
  obtain ⟨zg, kzg⟩ : ∃ b, (gr != 0) = b := ⟨_, rfl⟩
  obtain ⟨zi, kzi⟩ : ∃ b, (id != 0) = b := ⟨_, rfl⟩
  obtain ⟨d1, kd1⟩ : ∃ b, decide (gr < 0) = b := ⟨_, rfl⟩
  obtain ⟨d2, kd2⟩ : ∃ b, decide (16 ≤ gr) = b := ⟨_, rfl⟩
  obtain ⟨e1, ke1⟩ : ∃ b, decide (id < 1) = b := ⟨_, rfl⟩
  obtain ⟨e2, ke2⟩ : ∃ b, decide (1073741824 ≤ id) = b := ⟨_, rfl⟩
  have HR := Lib.hid (HR0.out zg zi bp d1 d2 e1 e2 kzg kzi kbp kd1 kd2 ke1 ke2)
  rw [hg] at HG
  rw [hi] at HI
  rw [hp] at HP
  have hup := Try.underlying61
  obtain ⟨pc, hpc⟩ : ∃ pc, pc = pcells (x.toNat : Int) lab f := ⟨_, rfl⟩
  rw [← hpc] at RP HEQ HPL HPC
  obtain ⟨ec, hec⟩ : ∃ ec, ec = ecells k id gr (x.toNat : Int) lab f := ⟨_, rfl⟩
  rw [← hec] at q0 q1 q2 RP hb B0 ⊢
  have HEC := Lib.hid hec
  have HPC1 := Lib.hid hpc
  have HEC := Lib.hid hec
  have HPC1 := Lib.hid hpc
  have HEC := Lib.hid hec
  have HPC1 := Lib.hid hpc
  have HEC := Lib.hid hec
  have HPC1 := Lib.hid hpc
  have HEC := Lib.hid hec
  have HPC1 := Lib.hid hpc
  clear HR0 hpc hec hR hP hg hi hp hk1 hk2 kbp hf
  obtain ⟨zs, hzs⟩ : ∃ zs, zs = pcells 0 0 zeros := ⟨_, rfl⟩
  have HZ := Lib.hid zp26
  have HZL := Lib.hid (show zs.length = 26 by rw [hzs]; exact pcells_len 0 0 zeros_len)
  have hone : zs.toArray.all (·.oneCell') = true := all_oneCell_toArray (by rw [hzs]; exact pcells_one _ _ _)
  rw [← hzs] at HEQ HZ
  have HZS := Lib.hid hzs
  clear hzs
  have Bz := Blk.new (w.alloc (.cells ec.toArray 63)) zs 61
  have hs1 : (w.alloc (.cells ec.toArray 63)).heap.size = w.heap.size + 1 := by simp
  rw [hs1] at Bz
  have TZ := Bz.there 0 26 (by rw [HZL.out]; omega)
  have SZ := Bz.wholeT (ds := zs) rfl
  have BE := Blk.setsOther (b := w.heap.size + 1) (g := w.heap.size) (by omega) zs 0 (B0.alloc (.cells zs.toArray 61))
  have hbZ := below_sets (B := w.heap.size) (b := w.heap.size + 1) (by omega) zs 0 (hb.alloc (by simp) (.cells zs.toArray 61))
  clear Bz hs1 B0
  go_enter Try.func43, Try.ntmps43
  go_wp2_with (first
    | (rw [← HZ.out]
       refine wpList_store_mid rfl 61 (.tmp 3) (.tmp 12) rfl (w.heap.size + 1) 0 zs.toArray rfl (by rw [HZS.out]; rfl) (by simpa [HZL.out] using TZ) (by simpa [HZL.out] using info_patch) hone ?_
       simp only [Act.put]
       generalize hw3 : World.setCells _ (w.heap.size + 1) 0 zs.toArray.toList = w3
       replace SZ : Blk w3 (w.heap.size + 1) zs := hw3 ▸ SZ
       replace BE : Blk w3 w.heap.size ec := hw3 ▸ BE
       replace hb : Below w.heap.size w w3 := hw3 ▸ hbZ
       clear hw3 TZ hbZ q0 q1 q2 RP
       rw [HEC.out] at BE
       obtain ⟨q0, q1, q2⟩ := BE.edit
       have RP := BE.patchE
       rw [← HPC1.out] at RP
       have RZ := SZ.wholeC)
    | fail)
  refine (HG.out _).mono ?_
  rintro e' w' ⟨rfl, rfl⟩
  cases zg
  · go_wp2_with fail
    refine (HI.out _).mono ?_
    rintro e' w' ⟨rfl, rfl⟩
    cases zi
    · go_wp2_with fail
      refine (HP.out _).mono ?_
      rintro e' w' ⟨rfl, rfl⟩
      cases d1
      · cases d2
        · go_wp2_with fail
          refine (HI.out _).mono ?_
          rintro e' w' ⟨rfl, rfl⟩
          go_wp2_with fail
          refine (HP.out _).mono ?_
          rintro e' w' ⟨rfl, rfl⟩
          go_wp2_with (first
            | (refine wpList_load_g (by rfl) 61 (.tmp 71) rfl w.heap.size 3 rfl pc _ RP hup rfl (by rw [HPL.out]; exact info_patch) ?_)
            | fail)
          refine (HPC.out _).mono ?_
          rintro e' w' ⟨rfl, hb2⟩
          go_wp2_with fail
          go_ret
          exact ⟨by rw [HR.out]; rfl, hb.trans (hb2.mono hb.size)⟩
        · go_wp2_with fail
          go_ret
          exact ⟨by rw [HR.out]; rfl, hb⟩
      · go_wp2_with fail
        go_ret
        exact ⟨by rw [HR.out]; rfl, hb⟩
    · go_wp2_with fail
      go_ret
      exact ⟨by rw [HR.out]; rfl, hb⟩
  · go_wp2_with fail
    go_ret
    exact ⟨by rw [HR.out]; rfl, hb⟩
set_option maxRecDepth 100000 in
set_option maxHeartbeats 3200000 in
theorem recheck_011 (k id gr lab : Int) (x : BitVec 32) (f : List V3) (w : World) (hf : f.length = 8) (hk1 : 1 ≤ k) (hk2 : k ≤ 7) (hg : grp k = false) (hi : idk k = true) (hp : ptk k = true) :
    Calls Try.prog 43 #[.agg (ecells k id gr (x.toNat : Int) lab f).toArray] w fun e w' => e = .returned (.int .i64 (echk k id gr x lab f)) ∧ Below w.heap.size w w' := by
  have hd1 : decide (k < 1) = false := decide_eq_false (by omega)
  have hd2 : decide (7 < k) = false := decide_eq_false (by omega)
  have HPC := Lib.hid (fun wx : World => rpcheck_any x lab f wx hf)
  have HG := Lib.hid (fun wx : World => rgrp_any k wx)
  have HI := Lib.hid (fun wx : World => ridk_any k wx)
  have HP := Lib.hid (fun wx : World => rptk_any k wx)
  have HR0 := Lib.hid (fun (zg zi bp d1 d2 e1 e2 : Bool) h1 h2 h3 h4 h5 h6 h7 => echk_bool (k := k) (id := id) (gr := gr) (x := x) (lab := lab) (f := f) (zg := zg) (zi := zi) (bp := bp) (d1 := d1) (d2 := d2) (e1 := e1) (e2 := e2) hk1 hk2 hg hi hp h1 h2 h3 h4 h5 h6 h7)
  have B0 := Blk.new w (ecells k id gr (x.toNat : Int) lab f) 63
  obtain ⟨q0, q1, q2⟩ := B0.edit
  have RP := B0.patchE
  have hb := (Below.refl w.heap.size w).alloc (Nat.le_refl _) (.cells (ecells k id gr (x.toNat : Int) lab f).toArray 63)
  obtain ⟨R, hR⟩ : ∃ R, R = echk k id gr x lab f := ⟨_, rfl⟩
  rw [← hR] at HR0 ⊢
  obtain ⟨P, hP⟩ : ∃ P, P = pchk x lab f := ⟨_, rfl⟩
  rw [← hP] at HR0 HPC
  obtain ⟨bp, kbp⟩ : ∃ b, decide ((x.toNat : Int) = 0 ∧ lab = 0 ∧ f = zeros) = b := ⟨_, rfl⟩
  have HEQ : Hid (∀ wx : World, (Op.equalIn 10000 61 (.agg (pcells (x.toNat : Int) lab f).toArray) (.agg (pcells 0 0 zeros).toArray)).run Try.prog wx = .ok bp wx) := Lib.hid (fun wx => by rw [eq_patch 9996 _ _ _ _ f zeros hf zeros_len wx, kbp])
  have HPL := Lib.hid (pcells_len (x.toNat : Int) lab hf)
  obtain ⟨zg, kzg⟩ : ∃ b, (gr != 0) = b := ⟨_, rfl⟩
  obtain ⟨zi, kzi⟩ : ∃ b, (id != 0) = b := ⟨_, rfl⟩
  obtain ⟨d1, kd1⟩ : ∃ b, decide (gr < 0) = b := ⟨_, rfl⟩
  obtain ⟨d2, kd2⟩ : ∃ b, decide (16 ≤ gr) = b := ⟨_, rfl⟩
  obtain ⟨e1, ke1⟩ : ∃ b, decide (id < 1) = b := ⟨_, rfl⟩
  obtain ⟨e2, ke2⟩ : ∃ b, decide (1073741824 ≤ id) = b := ⟨_, rfl⟩
  have HR := Lib.hid (HR0.out zg zi bp d1 d2 e1 e2 kzg kzi kbp kd1 kd2 ke1 ke2)
  rw [hg] at HG
  rw [hi] at HI
  rw [hp] at HP
  have hup := Try.underlying61
  obtain ⟨pc, hpc⟩ : ∃ pc, pc = pcells (x.toNat : Int) lab f := ⟨_, rfl⟩
  rw [← hpc] at RP HEQ HPL HPC
  obtain ⟨ec, hec⟩ : ∃ ec, ec = ecells k id gr (x.toNat : Int) lab f := ⟨_, rfl⟩
  rw [← hec] at q0 q1 q2 RP hb B0 ⊢
  have HEC := Lib.hid hec
  have HPC1 := Lib.hid hpc
  have HEC := Lib.hid hec
  have HPC1 := Lib.hid hpc
  have HEC := Lib.hid hec
  have HPC1 := Lib.hid hpc
  have HEC := Lib.hid hec
  have HPC1 := Lib.hid hpc
  clear HR0 hpc hec hR hP hg hi hp hk1 hk2 kbp hf
  obtain ⟨zs, hzs⟩ : ∃ zs, zs = pcells 0 0 zeros := ⟨_, rfl⟩
  have HZ := Lib.hid zp26
  have HZL := Lib.hid (show zs.length = 26 by rw [hzs]; exact pcells_len 0 0 zeros_len)
  have hone : zs.toArray.all (·.oneCell') = true := all_oneCell_toArray (by rw [hzs]; exact pcells_one _ _ _)
  rw [← hzs] at HEQ HZ
  have HZS := Lib.hid hzs
  clear hzs
  have Bz := Blk.new (w.alloc (.cells ec.toArray 63)) zs 61
  have hs1 : (w.alloc (.cells ec.toArray 63)).heap.size = w.heap.size + 1 := by simp
  rw [hs1] at Bz
  have TZ := Bz.there 0 26 (by rw [HZL.out]; omega)
  have SZ := Bz.wholeT (ds := zs) rfl
  have BE := Blk.setsOther (b := w.heap.size + 1) (g := w.heap.size) (by omega) zs 0 (B0.alloc (.cells zs.toArray 61))
  have hbZ := below_sets (B := w.heap.size) (b := w.heap.size + 1) (by omega) zs 0 (hb.alloc (by simp) (.cells zs.toArray 61))
  clear Bz hs1 B0
  go_enter Try.func43, Try.ntmps43
  go_wp2_with (first
    | (rw [← HZ.out]
       refine wpList_store_mid rfl 61 (.tmp 3) (.tmp 12) rfl (w.heap.size + 1) 0 zs.toArray rfl (by rw [HZS.out]; rfl) (by simpa [HZL.out] using TZ) (by simpa [HZL.out] using info_patch) hone ?_
       simp only [Act.put]
       generalize hw3 : World.setCells _ (w.heap.size + 1) 0 zs.toArray.toList = w3
       replace SZ : Blk w3 (w.heap.size + 1) zs := hw3 ▸ SZ
       replace BE : Blk w3 w.heap.size ec := hw3 ▸ BE
       replace hb : Below w.heap.size w w3 := hw3 ▸ hbZ
       clear hw3 TZ hbZ q0 q1 q2 RP
       rw [HEC.out] at BE
       obtain ⟨q0, q1, q2⟩ := BE.edit
       have RP := BE.patchE
       rw [← HPC1.out] at RP
       have RZ := SZ.wholeC)
    | fail)
  refine (HG.out _).mono ?_
  rintro e' w' ⟨rfl, rfl⟩
  cases zg
  · go_wp2_with fail
    refine (HI.out _).mono ?_
    rintro e' w' ⟨rfl, rfl⟩
    go_wp2_with fail
    refine (HP.out _).mono ?_
    rintro e' w' ⟨rfl, rfl⟩
    cases d1
    · cases d2
      · go_wp2_with fail
        refine (HI.out _).mono ?_
        rintro e' w' ⟨rfl, rfl⟩
        cases e1
        · cases e2
          · go_wp2_with fail
            refine (HP.out _).mono ?_
            rintro e' w' ⟨rfl, rfl⟩
            go_wp2_with (first
              | (refine wpList_load_g (by rfl) 61 (.tmp 71) rfl w.heap.size 3 rfl pc _ RP hup rfl (by rw [HPL.out]; exact info_patch) ?_)
              | fail)
            refine (HPC.out _).mono ?_
            rintro e' w' ⟨rfl, hb2⟩
            go_wp2_with fail
            go_ret
            exact ⟨by rw [HR.out]; rfl, hb.trans (hb2.mono hb.size)⟩
          · go_wp2_with fail
            go_ret
            exact ⟨by rw [HR.out]; rfl, hb⟩
        · go_wp2_with fail
          go_ret
          exact ⟨by rw [HR.out]; rfl, hb⟩
      · go_wp2_with fail
        go_ret
        exact ⟨by rw [HR.out]; rfl, hb⟩
    · go_wp2_with fail
      go_ret
      exact ⟨by rw [HR.out]; rfl, hb⟩
  · go_wp2_with fail
    go_ret
    exact ⟨by rw [HR.out]; rfl, hb⟩
set_option maxRecDepth 100000 in
set_option maxHeartbeats 3200000 in
theorem recheck_010 (k id gr lab : Int) (x : BitVec 32) (f : List V3) (w : World) (hf : f.length = 8) (hk1 : 1 ≤ k) (hk2 : k ≤ 7) (hg : grp k = false) (hi : idk k = true) (hp : ptk k = false) :
    Calls Try.prog 43 #[.agg (ecells k id gr (x.toNat : Int) lab f).toArray] w fun e w' => e = .returned (.int .i64 (echk k id gr x lab f)) ∧ Below w.heap.size w w' := by
  have hd1 : decide (k < 1) = false := decide_eq_false (by omega)
  have hd2 : decide (7 < k) = false := decide_eq_false (by omega)
  have HPC := Lib.hid (fun wx : World => rpcheck_any x lab f wx hf)
  have HG := Lib.hid (fun wx : World => rgrp_any k wx)
  have HI := Lib.hid (fun wx : World => ridk_any k wx)
  have HP := Lib.hid (fun wx : World => rptk_any k wx)
  have HR0 := Lib.hid (fun (zg zi bp d1 d2 e1 e2 : Bool) h1 h2 h3 h4 h5 h6 h7 => echk_bool (k := k) (id := id) (gr := gr) (x := x) (lab := lab) (f := f) (zg := zg) (zi := zi) (bp := bp) (d1 := d1) (d2 := d2) (e1 := e1) (e2 := e2) hk1 hk2 hg hi hp h1 h2 h3 h4 h5 h6 h7)
  have B0 := Blk.new w (ecells k id gr (x.toNat : Int) lab f) 63
  obtain ⟨q0, q1, q2⟩ := B0.edit
  have RP := B0.patchE
  have hb := (Below.refl w.heap.size w).alloc (Nat.le_refl _) (.cells (ecells k id gr (x.toNat : Int) lab f).toArray 63)
  obtain ⟨R, hR⟩ : ∃ R, R = echk k id gr x lab f := ⟨_, rfl⟩
  rw [← hR] at HR0 ⊢
  obtain ⟨P, hP⟩ : ∃ P, P = pchk x lab f := ⟨_, rfl⟩
  rw [← hP] at HR0 HPC
  obtain ⟨bp, kbp⟩ : ∃ b, decide ((x.toNat : Int) = 0 ∧ lab = 0 ∧ f = zeros) = b := ⟨_, rfl⟩
  have HEQ : Hid (∀ wx : World, (Op.equalIn 10000 61 (.agg (pcells (x.toNat : Int) lab f).toArray) (.agg (pcells 0 0 zeros).toArray)).run Try.prog wx = .ok bp wx) := Lib.hid (fun wx => by rw [eq_patch 9996 _ _ _ _ f zeros hf zeros_len wx, kbp])
  have HPL := Lib.hid (pcells_len (x.toNat : Int) lab hf)
  obtain ⟨zg, kzg⟩ : ∃ b, (gr != 0) = b := ⟨_, rfl⟩
  obtain ⟨zi, kzi⟩ : ∃ b, (id != 0) = b := ⟨_, rfl⟩
  obtain ⟨d1, kd1⟩ : ∃ b, decide (gr < 0) = b := ⟨_, rfl⟩
  obtain ⟨d2, kd2⟩ : ∃ b, decide (16 ≤ gr) = b := ⟨_, rfl⟩
  obtain ⟨e1, ke1⟩ : ∃ b, decide (id < 1) = b := ⟨_, rfl⟩
  obtain ⟨e2, ke2⟩ : ∃ b, decide (1073741824 ≤ id) = b := ⟨_, rfl⟩
  have HR := Lib.hid (HR0.out zg zi bp d1 d2 e1 e2 kzg kzi kbp kd1 kd2 ke1 ke2)
  rw [hg] at HG
  rw [hi] at HI
  rw [hp] at HP
  have hup := Try.underlying61
  obtain ⟨pc, hpc⟩ : ∃ pc, pc = pcells (x.toNat : Int) lab f := ⟨_, rfl⟩
  rw [← hpc] at RP HEQ HPL HPC
  obtain ⟨ec, hec⟩ : ∃ ec, ec = ecells k id gr (x.toNat : Int) lab f := ⟨_, rfl⟩
  rw [← hec] at q0 q1 q2 RP hb B0 ⊢
  have HEC := Lib.hid hec
  have HPC1 := Lib.hid hpc
  have HEC := Lib.hid hec
  have HPC1 := Lib.hid hpc
  have HEC := Lib.hid hec
  have HPC1 := Lib.hid hpc
  clear HR0 hpc hec hR hP hg hi hp hk1 hk2 kbp hf
  obtain ⟨zs, hzs⟩ : ∃ zs, zs = pcells 0 0 zeros := ⟨_, rfl⟩
  have HZ := Lib.hid zp26
  have HZL := Lib.hid (show zs.length = 26 by rw [hzs]; exact pcells_len 0 0 zeros_len)
  have hone : zs.toArray.all (·.oneCell') = true := all_oneCell_toArray (by rw [hzs]; exact pcells_one _ _ _)
  rw [← hzs] at HEQ HZ
  have HZS := Lib.hid hzs
  clear hzs
  have Bz := Blk.new (w.alloc (.cells ec.toArray 63)) zs 61
  have hs1 : (w.alloc (.cells ec.toArray 63)).heap.size = w.heap.size + 1 := by simp
  rw [hs1] at Bz
  have TZ := Bz.there 0 26 (by rw [HZL.out]; omega)
  have SZ := Bz.wholeT (ds := zs) rfl
  have BE := Blk.setsOther (b := w.heap.size + 1) (g := w.heap.size) (by omega) zs 0 (B0.alloc (.cells zs.toArray 61))
  have hbZ := below_sets (B := w.heap.size) (b := w.heap.size + 1) (by omega) zs 0 (hb.alloc (by simp) (.cells zs.toArray 61))
  clear Bz hs1 B0
  go_enter Try.func43, Try.ntmps43
  go_wp2_with (first
    | (rw [← HZ.out]
       refine wpList_store_mid rfl 61 (.tmp 3) (.tmp 12) rfl (w.heap.size + 1) 0 zs.toArray rfl (by rw [HZS.out]; rfl) (by simpa [HZL.out] using TZ) (by simpa [HZL.out] using info_patch) hone ?_
       simp only [Act.put]
       generalize hw3 : World.setCells _ (w.heap.size + 1) 0 zs.toArray.toList = w3
       replace SZ : Blk w3 (w.heap.size + 1) zs := hw3 ▸ SZ
       replace BE : Blk w3 w.heap.size ec := hw3 ▸ BE
       replace hb : Below w.heap.size w w3 := hw3 ▸ hbZ
       clear hw3 TZ hbZ q0 q1 q2 RP
       rw [HEC.out] at BE
       obtain ⟨q0, q1, q2⟩ := BE.edit
       have RP := BE.patchE
       rw [← HPC1.out] at RP
       have RZ := SZ.wholeC)
    | fail)
  refine (HG.out _).mono ?_
  rintro e' w' ⟨rfl, rfl⟩
  cases zg
  · go_wp2_with fail
    refine (HI.out _).mono ?_
    rintro e' w' ⟨rfl, rfl⟩
    go_wp2_with fail
    refine (HP.out _).mono ?_
    rintro e' w' ⟨rfl, rfl⟩
    cases bp
    · go_wp2_with (first
        | (have RP1 := RP
           refine wpList_load_g (by rfl) 61 (.tmp 39) rfl w.heap.size 3 rfl pc _ RP hup rfl (by rw [HPL.out]; exact info_patch) ?_
           refine wpList_load_g (by rfl) 61 (.tmp 3) rfl (w.heap.size + 1) 0 rfl zs _ RZ hup rfl (by rw [HZL.out]; exact info_patch) ?_
           refine wpList_exec (by rfl) (.bool (!false)) (exec_neq 61 _ (.tmp 40) (.tmp 41) rfl pc.toArray zs.toArray (by rfl) (by rfl) guard_patchE false (HEQ.out _)) ?_
           clear RP RP1)
        | fail)
      go_ret
      exact ⟨by rw [HR.out]; rfl, hb⟩
    · cases d1
      · cases d2
        · go_wp2_with (first
            | (have RP1 := RP
               refine wpList_load_g (by rfl) 61 (.tmp 39) rfl w.heap.size 3 rfl pc _ RP hup rfl (by rw [HPL.out]; exact info_patch) ?_
               refine wpList_load_g (by rfl) 61 (.tmp 3) rfl (w.heap.size + 1) 0 rfl zs _ RZ hup rfl (by rw [HZL.out]; exact info_patch) ?_
               refine wpList_exec (by rfl) (.bool (!true)) (exec_neq 61 _ (.tmp 40) (.tmp 41) rfl pc.toArray zs.toArray (by rfl) (by rfl) guard_patchE true (HEQ.out _)) ?_
               clear RP RP1)
            | fail)
          refine (HI.out _).mono ?_
          rintro e' w' ⟨rfl, rfl⟩
          cases e1
          · cases e2
            · go_wp2_with fail
              refine (HP.out _).mono ?_
              rintro e' w' ⟨rfl, rfl⟩
              go_wp2_with fail
              go_ret
              exact ⟨by rw [HR.out]; rfl, hb⟩
            · go_wp2_with fail
              go_ret
              exact ⟨by rw [HR.out]; rfl, hb⟩
          · go_wp2_with fail
            go_ret
            exact ⟨by rw [HR.out]; rfl, hb⟩
        · go_wp2_with (first
            | (have RP1 := RP
               refine wpList_load_g (by rfl) 61 (.tmp 39) rfl w.heap.size 3 rfl pc _ RP hup rfl (by rw [HPL.out]; exact info_patch) ?_
               refine wpList_load_g (by rfl) 61 (.tmp 3) rfl (w.heap.size + 1) 0 rfl zs _ RZ hup rfl (by rw [HZL.out]; exact info_patch) ?_
               refine wpList_exec (by rfl) (.bool (!true)) (exec_neq 61 _ (.tmp 40) (.tmp 41) rfl pc.toArray zs.toArray (by rfl) (by rfl) guard_patchE true (HEQ.out _)) ?_
               clear RP RP1)
            | fail)
          go_ret
          exact ⟨by rw [HR.out]; rfl, hb⟩
      · go_wp2_with (first
          | (have RP1 := RP
             refine wpList_load_g (by rfl) 61 (.tmp 39) rfl w.heap.size 3 rfl pc _ RP hup rfl (by rw [HPL.out]; exact info_patch) ?_
             refine wpList_load_g (by rfl) 61 (.tmp 3) rfl (w.heap.size + 1) 0 rfl zs _ RZ hup rfl (by rw [HZL.out]; exact info_patch) ?_
             refine wpList_exec (by rfl) (.bool (!true)) (exec_neq 61 _ (.tmp 40) (.tmp 41) rfl pc.toArray zs.toArray (by rfl) (by rfl) guard_patchE true (HEQ.out _)) ?_
             clear RP RP1)
          | fail)
        go_ret
        exact ⟨by rw [HR.out]; rfl, hb⟩
  · go_wp2_with fail
    go_ret
    exact ⟨by rw [HR.out]; rfl, hb⟩
set_option maxRecDepth 100000 in
set_option maxHeartbeats 3200000 in
theorem recheck_100 (k id gr lab : Int) (x : BitVec 32) (f : List V3) (w : World) (hf : f.length = 8) (hk1 : 1 ≤ k) (hk2 : k ≤ 7) (hg : grp k = true) (hi : idk k = false) (hp : ptk k = false) :
    Calls Try.prog 43 #[.agg (ecells k id gr (x.toNat : Int) lab f).toArray] w fun e w' => e = .returned (.int .i64 (echk k id gr x lab f)) ∧ Below w.heap.size w w' := by
  have hd1 : decide (k < 1) = false := decide_eq_false (by omega)
  have hd2 : decide (7 < k) = false := decide_eq_false (by omega)
  have HPC := Lib.hid (fun wx : World => rpcheck_any x lab f wx hf)
  have HG := Lib.hid (fun wx : World => rgrp_any k wx)
  have HI := Lib.hid (fun wx : World => ridk_any k wx)
  have HP := Lib.hid (fun wx : World => rptk_any k wx)
  have HR0 := Lib.hid (fun (zg zi bp d1 d2 e1 e2 : Bool) h1 h2 h3 h4 h5 h6 h7 => echk_bool (k := k) (id := id) (gr := gr) (x := x) (lab := lab) (f := f) (zg := zg) (zi := zi) (bp := bp) (d1 := d1) (d2 := d2) (e1 := e1) (e2 := e2) hk1 hk2 hg hi hp h1 h2 h3 h4 h5 h6 h7)
  have B0 := Blk.new w (ecells k id gr (x.toNat : Int) lab f) 63
  obtain ⟨q0, q1, q2⟩ := B0.edit
  have RP := B0.patchE
  have hb := (Below.refl w.heap.size w).alloc (Nat.le_refl _) (.cells (ecells k id gr (x.toNat : Int) lab f).toArray 63)
  obtain ⟨R, hR⟩ : ∃ R, R = echk k id gr x lab f := ⟨_, rfl⟩
  rw [← hR] at HR0 ⊢
  obtain ⟨P, hP⟩ : ∃ P, P = pchk x lab f := ⟨_, rfl⟩
  rw [← hP] at HR0 HPC
  obtain ⟨bp, kbp⟩ : ∃ b, decide ((x.toNat : Int) = 0 ∧ lab = 0 ∧ f = zeros) = b := ⟨_, rfl⟩
  have HEQ : Hid (∀ wx : World, (Op.equalIn 10000 61 (.agg (pcells (x.toNat : Int) lab f).toArray) (.agg (pcells 0 0 zeros).toArray)).run Try.prog wx = .ok bp wx) := Lib.hid (fun wx => by rw [eq_patch 9996 _ _ _ _ f zeros hf zeros_len wx, kbp])
  have HPL := Lib.hid (pcells_len (x.toNat : Int) lab hf)
  obtain ⟨zg, kzg⟩ : ∃ b, (gr != 0) = b := ⟨_, rfl⟩
  obtain ⟨zi, kzi⟩ : ∃ b, (id != 0) = b := ⟨_, rfl⟩
  obtain ⟨d1, kd1⟩ : ∃ b, decide (gr < 0) = b := ⟨_, rfl⟩
  obtain ⟨d2, kd2⟩ : ∃ b, decide (16 ≤ gr) = b := ⟨_, rfl⟩
  obtain ⟨e1, ke1⟩ : ∃ b, decide (id < 1) = b := ⟨_, rfl⟩
  obtain ⟨e2, ke2⟩ : ∃ b, decide (1073741824 ≤ id) = b := ⟨_, rfl⟩
  have HR := Lib.hid (HR0.out zg zi bp d1 d2 e1 e2 kzg kzi kbp kd1 kd2 ke1 ke2)
  rw [hg] at HG
  rw [hi] at HI
  rw [hp] at HP
  have hup := Try.underlying61
  obtain ⟨pc, hpc⟩ : ∃ pc, pc = pcells (x.toNat : Int) lab f := ⟨_, rfl⟩
  rw [← hpc] at RP HEQ HPL HPC
  obtain ⟨ec, hec⟩ : ∃ ec, ec = ecells k id gr (x.toNat : Int) lab f := ⟨_, rfl⟩
  rw [← hec] at q0 q1 q2 RP hb B0 ⊢
  have HEC := Lib.hid hec
  have HPC1 := Lib.hid hpc
  have HEC := Lib.hid hec
  have HPC1 := Lib.hid hpc
  clear HR0 hpc hec hR hP hg hi hp hk1 hk2 kbp hf
  obtain ⟨zs, hzs⟩ : ∃ zs, zs = pcells 0 0 zeros := ⟨_, rfl⟩
  have HZ := Lib.hid zp26
  have HZL := Lib.hid (show zs.length = 26 by rw [hzs]; exact pcells_len 0 0 zeros_len)
  have hone : zs.toArray.all (·.oneCell') = true := all_oneCell_toArray (by rw [hzs]; exact pcells_one _ _ _)
  rw [← hzs] at HEQ HZ
  have HZS := Lib.hid hzs
  clear hzs
  have Bz := Blk.new (w.alloc (.cells ec.toArray 63)) zs 61
  have hs1 : (w.alloc (.cells ec.toArray 63)).heap.size = w.heap.size + 1 := by simp
  rw [hs1] at Bz
  have TZ := Bz.there 0 26 (by rw [HZL.out]; omega)
  have SZ := Bz.wholeT (ds := zs) rfl
  have BE := Blk.setsOther (b := w.heap.size + 1) (g := w.heap.size) (by omega) zs 0 (B0.alloc (.cells zs.toArray 61))
  have hbZ := below_sets (B := w.heap.size) (b := w.heap.size + 1) (by omega) zs 0 (hb.alloc (by simp) (.cells zs.toArray 61))
  clear Bz hs1 B0
  go_enter Try.func43, Try.ntmps43
  go_wp2_with (first
    | (rw [← HZ.out]
       refine wpList_store_mid rfl 61 (.tmp 3) (.tmp 12) rfl (w.heap.size + 1) 0 zs.toArray rfl (by rw [HZS.out]; rfl) (by simpa [HZL.out] using TZ) (by simpa [HZL.out] using info_patch) hone ?_
       simp only [Act.put]
       generalize hw3 : World.setCells _ (w.heap.size + 1) 0 zs.toArray.toList = w3
       replace SZ : Blk w3 (w.heap.size + 1) zs := hw3 ▸ SZ
       replace BE : Blk w3 w.heap.size ec := hw3 ▸ BE
       replace hb : Below w.heap.size w w3 := hw3 ▸ hbZ
       clear hw3 TZ hbZ q0 q1 q2 RP
       rw [HEC.out] at BE
       obtain ⟨q0, q1, q2⟩ := BE.edit
       have RP := BE.patchE
       rw [← HPC1.out] at RP
       have RZ := SZ.wholeC)
    | fail)
  refine (HG.out _).mono ?_
  rintro e' w' ⟨rfl, rfl⟩
  go_wp2_with fail
  refine (HI.out _).mono ?_
  rintro e' w' ⟨rfl, rfl⟩
  cases zi
  · go_wp2_with fail
    refine (HP.out _).mono ?_
    rintro e' w' ⟨rfl, rfl⟩
    cases bp
    · go_wp2_with (first
        | (have RP1 := RP
           refine wpList_load_g (by rfl) 61 (.tmp 39) rfl w.heap.size 3 rfl pc _ RP hup rfl (by rw [HPL.out]; exact info_patch) ?_
           refine wpList_load_g (by rfl) 61 (.tmp 3) rfl (w.heap.size + 1) 0 rfl zs _ RZ hup rfl (by rw [HZL.out]; exact info_patch) ?_
           refine wpList_exec (by rfl) (.bool (!false)) (exec_neq 61 _ (.tmp 40) (.tmp 41) rfl pc.toArray zs.toArray (by rfl) (by rfl) guard_patchE false (HEQ.out _)) ?_
           clear RP RP1)
        | fail)
      go_ret
      exact ⟨by rw [HR.out]; rfl, hb⟩
    · cases d1
      · cases d2
        · go_wp2_with (first
            | (have RP1 := RP
               refine wpList_load_g (by rfl) 61 (.tmp 39) rfl w.heap.size 3 rfl pc _ RP hup rfl (by rw [HPL.out]; exact info_patch) ?_
               refine wpList_load_g (by rfl) 61 (.tmp 3) rfl (w.heap.size + 1) 0 rfl zs _ RZ hup rfl (by rw [HZL.out]; exact info_patch) ?_
               refine wpList_exec (by rfl) (.bool (!true)) (exec_neq 61 _ (.tmp 40) (.tmp 41) rfl pc.toArray zs.toArray (by rfl) (by rfl) guard_patchE true (HEQ.out _)) ?_
               clear RP RP1)
            | fail)
          refine (HI.out _).mono ?_
          rintro e' w' ⟨rfl, rfl⟩
          go_wp2_with fail
          refine (HP.out _).mono ?_
          rintro e' w' ⟨rfl, rfl⟩
          go_wp2_with fail
          go_ret
          exact ⟨by rw [HR.out]; rfl, hb⟩
        · go_wp2_with (first
            | (have RP1 := RP
               refine wpList_load_g (by rfl) 61 (.tmp 39) rfl w.heap.size 3 rfl pc _ RP hup rfl (by rw [HPL.out]; exact info_patch) ?_
               refine wpList_load_g (by rfl) 61 (.tmp 3) rfl (w.heap.size + 1) 0 rfl zs _ RZ hup rfl (by rw [HZL.out]; exact info_patch) ?_
               refine wpList_exec (by rfl) (.bool (!true)) (exec_neq 61 _ (.tmp 40) (.tmp 41) rfl pc.toArray zs.toArray (by rfl) (by rfl) guard_patchE true (HEQ.out _)) ?_
               clear RP RP1)
            | fail)
          go_ret
          exact ⟨by rw [HR.out]; rfl, hb⟩
      · go_wp2_with (first
          | (have RP1 := RP
             refine wpList_load_g (by rfl) 61 (.tmp 39) rfl w.heap.size 3 rfl pc _ RP hup rfl (by rw [HPL.out]; exact info_patch) ?_
             refine wpList_load_g (by rfl) 61 (.tmp 3) rfl (w.heap.size + 1) 0 rfl zs _ RZ hup rfl (by rw [HZL.out]; exact info_patch) ?_
             refine wpList_exec (by rfl) (.bool (!true)) (exec_neq 61 _ (.tmp 40) (.tmp 41) rfl pc.toArray zs.toArray (by rfl) (by rfl) guard_patchE true (HEQ.out _)) ?_
             clear RP RP1)
          | fail)
        go_ret
        exact ⟨by rw [HR.out]; rfl, hb⟩
  · go_wp2_with fail
    go_ret
    exact ⟨by rw [HR.out]; rfl, hb⟩
set_option maxRecDepth 100000 in
set_option maxHeartbeats 3200000 in
theorem recheck_110 (k id gr lab : Int) (x : BitVec 32) (f : List V3) (w : World) (hf : f.length = 8) (hk1 : 1 ≤ k) (hk2 : k ≤ 7) (hg : grp k = true) (hi : idk k = true) (hp : ptk k = false) :
    Calls Try.prog 43 #[.agg (ecells k id gr (x.toNat : Int) lab f).toArray] w fun e w' => e = .returned (.int .i64 (echk k id gr x lab f)) ∧ Below w.heap.size w w' := by
  have hd1 : decide (k < 1) = false := decide_eq_false (by omega)
  have hd2 : decide (7 < k) = false := decide_eq_false (by omega)
  have HPC := Lib.hid (fun wx : World => rpcheck_any x lab f wx hf)
  have HG := Lib.hid (fun wx : World => rgrp_any k wx)
  have HI := Lib.hid (fun wx : World => ridk_any k wx)
  have HP := Lib.hid (fun wx : World => rptk_any k wx)
  have HR0 := Lib.hid (fun (zg zi bp d1 d2 e1 e2 : Bool) h1 h2 h3 h4 h5 h6 h7 => echk_bool (k := k) (id := id) (gr := gr) (x := x) (lab := lab) (f := f) (zg := zg) (zi := zi) (bp := bp) (d1 := d1) (d2 := d2) (e1 := e1) (e2 := e2) hk1 hk2 hg hi hp h1 h2 h3 h4 h5 h6 h7)
  have B0 := Blk.new w (ecells k id gr (x.toNat : Int) lab f) 63
  obtain ⟨q0, q1, q2⟩ := B0.edit
  have RP := B0.patchE
  have hb := (Below.refl w.heap.size w).alloc (Nat.le_refl _) (.cells (ecells k id gr (x.toNat : Int) lab f).toArray 63)
  obtain ⟨R, hR⟩ : ∃ R, R = echk k id gr x lab f := ⟨_, rfl⟩
  rw [← hR] at HR0 ⊢
  obtain ⟨P, hP⟩ : ∃ P, P = pchk x lab f := ⟨_, rfl⟩
  rw [← hP] at HR0 HPC
  obtain ⟨bp, kbp⟩ : ∃ b, decide ((x.toNat : Int) = 0 ∧ lab = 0 ∧ f = zeros) = b := ⟨_, rfl⟩
  have HEQ : Hid (∀ wx : World, (Op.equalIn 10000 61 (.agg (pcells (x.toNat : Int) lab f).toArray) (.agg (pcells 0 0 zeros).toArray)).run Try.prog wx = .ok bp wx) := Lib.hid (fun wx => by rw [eq_patch 9996 _ _ _ _ f zeros hf zeros_len wx, kbp])
  have HPL := Lib.hid (pcells_len (x.toNat : Int) lab hf)
  obtain ⟨zg, kzg⟩ : ∃ b, (gr != 0) = b := ⟨_, rfl⟩
  obtain ⟨zi, kzi⟩ : ∃ b, (id != 0) = b := ⟨_, rfl⟩
  obtain ⟨d1, kd1⟩ : ∃ b, decide (gr < 0) = b := ⟨_, rfl⟩
  obtain ⟨d2, kd2⟩ : ∃ b, decide (16 ≤ gr) = b := ⟨_, rfl⟩
  obtain ⟨e1, ke1⟩ : ∃ b, decide (id < 1) = b := ⟨_, rfl⟩
  obtain ⟨e2, ke2⟩ : ∃ b, decide (1073741824 ≤ id) = b := ⟨_, rfl⟩
  have HR := Lib.hid (HR0.out zg zi bp d1 d2 e1 e2 kzg kzi kbp kd1 kd2 ke1 ke2)
  rw [hg] at HG
  rw [hi] at HI
  rw [hp] at HP
  have hup := Try.underlying61
  obtain ⟨pc, hpc⟩ : ∃ pc, pc = pcells (x.toNat : Int) lab f := ⟨_, rfl⟩
  rw [← hpc] at RP HEQ HPL HPC
  obtain ⟨ec, hec⟩ : ∃ ec, ec = ecells k id gr (x.toNat : Int) lab f := ⟨_, rfl⟩
  rw [← hec] at q0 q1 q2 RP hb B0 ⊢
  have HEC := Lib.hid hec
  have HPC1 := Lib.hid hpc
  clear HR0 hpc hec hR hP hg hi hp hk1 hk2 kbp hf
  obtain ⟨zs, hzs⟩ : ∃ zs, zs = pcells 0 0 zeros := ⟨_, rfl⟩
  have HZ := Lib.hid zp26
  have HZL := Lib.hid (show zs.length = 26 by rw [hzs]; exact pcells_len 0 0 zeros_len)
  have hone : zs.toArray.all (·.oneCell') = true := all_oneCell_toArray (by rw [hzs]; exact pcells_one _ _ _)
  rw [← hzs] at HEQ HZ
  have HZS := Lib.hid hzs
  clear hzs
  have Bz := Blk.new (w.alloc (.cells ec.toArray 63)) zs 61
  have hs1 : (w.alloc (.cells ec.toArray 63)).heap.size = w.heap.size + 1 := by simp
  rw [hs1] at Bz
  have TZ := Bz.there 0 26 (by rw [HZL.out]; omega)
  have SZ := Bz.wholeT (ds := zs) rfl
  have BE := Blk.setsOther (b := w.heap.size + 1) (g := w.heap.size) (by omega) zs 0 (B0.alloc (.cells zs.toArray 61))
  have hbZ := below_sets (B := w.heap.size) (b := w.heap.size + 1) (by omega) zs 0 (hb.alloc (by simp) (.cells zs.toArray 61))
  clear Bz hs1 B0
  go_enter Try.func43, Try.ntmps43
  go_wp2_with (first
    | (rw [← HZ.out]
       refine wpList_store_mid rfl 61 (.tmp 3) (.tmp 12) rfl (w.heap.size + 1) 0 zs.toArray rfl (by rw [HZS.out]; rfl) (by simpa [HZL.out] using TZ) (by simpa [HZL.out] using info_patch) hone ?_
       simp only [Act.put]
       generalize hw3 : World.setCells _ (w.heap.size + 1) 0 zs.toArray.toList = w3
       replace SZ : Blk w3 (w.heap.size + 1) zs := hw3 ▸ SZ
       replace BE : Blk w3 w.heap.size ec := hw3 ▸ BE
       replace hb : Below w.heap.size w w3 := hw3 ▸ hbZ
       clear hw3 TZ hbZ q0 q1 q2 RP
       rw [HEC.out] at BE
       obtain ⟨q0, q1, q2⟩ := BE.edit
       have RP := BE.patchE
       rw [← HPC1.out] at RP
       have RZ := SZ.wholeC)
    | fail)
  refine (HG.out _).mono ?_
  rintro e' w' ⟨rfl, rfl⟩
  go_wp2_with fail
  refine (HI.out _).mono ?_
  rintro e' w' ⟨rfl, rfl⟩
  go_wp2_with fail
  refine (HP.out _).mono ?_
  rintro e' w' ⟨rfl, rfl⟩
  cases bp
  · go_wp2_with (first
      | (have RP1 := RP
         refine wpList_load_g (by rfl) 61 (.tmp 39) rfl w.heap.size 3 rfl pc _ RP hup rfl (by rw [HPL.out]; exact info_patch) ?_
         refine wpList_load_g (by rfl) 61 (.tmp 3) rfl (w.heap.size + 1) 0 rfl zs _ RZ hup rfl (by rw [HZL.out]; exact info_patch) ?_
         refine wpList_exec (by rfl) (.bool (!false)) (exec_neq 61 _ (.tmp 40) (.tmp 41) rfl pc.toArray zs.toArray (by rfl) (by rfl) guard_patchE false (HEQ.out _)) ?_
         clear RP RP1)
      | fail)
    go_ret
    exact ⟨by rw [HR.out]; rfl, hb⟩
  · cases d1
    · cases d2
      · go_wp2_with (first
          | (have RP1 := RP
             refine wpList_load_g (by rfl) 61 (.tmp 39) rfl w.heap.size 3 rfl pc _ RP hup rfl (by rw [HPL.out]; exact info_patch) ?_
             refine wpList_load_g (by rfl) 61 (.tmp 3) rfl (w.heap.size + 1) 0 rfl zs _ RZ hup rfl (by rw [HZL.out]; exact info_patch) ?_
             refine wpList_exec (by rfl) (.bool (!true)) (exec_neq 61 _ (.tmp 40) (.tmp 41) rfl pc.toArray zs.toArray (by rfl) (by rfl) guard_patchE true (HEQ.out _)) ?_
             clear RP RP1)
          | fail)
        refine (HI.out _).mono ?_
        rintro e' w' ⟨rfl, rfl⟩
        cases e1
        · cases e2
          · go_wp2_with fail
            refine (HP.out _).mono ?_
            rintro e' w' ⟨rfl, rfl⟩
            go_wp2_with fail
            go_ret
            exact ⟨by rw [HR.out]; rfl, hb⟩
          · go_wp2_with fail
            go_ret
            exact ⟨by rw [HR.out]; rfl, hb⟩
        · go_wp2_with fail
          go_ret
          exact ⟨by rw [HR.out]; rfl, hb⟩
      · go_wp2_with (first
          | (have RP1 := RP
             refine wpList_load_g (by rfl) 61 (.tmp 39) rfl w.heap.size 3 rfl pc _ RP hup rfl (by rw [HPL.out]; exact info_patch) ?_
             refine wpList_load_g (by rfl) 61 (.tmp 3) rfl (w.heap.size + 1) 0 rfl zs _ RZ hup rfl (by rw [HZL.out]; exact info_patch) ?_
             refine wpList_exec (by rfl) (.bool (!true)) (exec_neq 61 _ (.tmp 40) (.tmp 41) rfl pc.toArray zs.toArray (by rfl) (by rfl) guard_patchE true (HEQ.out _)) ?_
             clear RP RP1)
          | fail)
        go_ret
        exact ⟨by rw [HR.out]; rfl, hb⟩
    · go_wp2_with (first
        | (have RP1 := RP
           refine wpList_load_g (by rfl) 61 (.tmp 39) rfl w.heap.size 3 rfl pc _ RP hup rfl (by rw [HPL.out]; exact info_patch) ?_
           refine wpList_load_g (by rfl) 61 (.tmp 3) rfl (w.heap.size + 1) 0 rfl zs _ RZ hup rfl (by rw [HZL.out]; exact info_patch) ?_
           refine wpList_exec (by rfl) (.bool (!true)) (exec_neq 61 _ (.tmp 40) (.tmp 41) rfl pc.toArray zs.toArray (by rfl) (by rfl) guard_patchE true (HEQ.out _)) ?_
           clear RP RP1)
        | fail)
      go_ret
      exact ⟨by rw [HR.out]; rfl, hb⟩
set_option maxRecDepth 100000 in
set_option maxHeartbeats 1600000 in
theorem recheck_any (k id gr lab : Int) (x : BitVec 32) (f : List V3) (w : World) (hf : f.length = 8) :
    Calls Try.prog 43 #[.agg (ecells k id gr (x.toNat : Int) lab f).toArray] w fun e w' => e = .returned (.int .i64 (echk k id gr x lab f)) ∧ Below w.heap.size w w' := by
  by_cases hk : 1 ≤ k ∧ k ≤ 7
  · have hc : k = 1 ∨ k = 2 ∨ k = 3 ∨ k = 4 ∨ k = 5 ∨ k = 6 ∨ k = 7 := by omega
    rcases hc with rfl | rfl | rfl | rfl | rfl | rfl | rfl
    · exact recheck_001 _ id gr lab x f w hf (by omega) (by omega) rfl rfl rfl
    · exact recheck_011 _ id gr lab x f w hf (by omega) (by omega) rfl rfl rfl
    · exact recheck_010 _ id gr lab x f w hf (by omega) (by omega) rfl rfl rfl
    · exact recheck_100 _ id gr lab x f w hf (by omega) (by omega) rfl rfl rfl
    · exact recheck_100 _ id gr lab x f w hf (by omega) (by omega) rfl rfl rfl
    · exact recheck_110 _ id gr lab x f w hf (by omega) (by omega) rfl rfl rfl
    · exact recheck_110 _ id gr lab x f w hf (by omega) (by omega) rfl rfl rfl
  · have hR : echk k id gr x lab f = 1 := by unfold echk; rw [if_pos (by omega)]
    rw [hR]
    have B0 := Blk.new w (ecells k id gr (x.toNat : Int) lab f) 63
    obtain ⟨q0, q1, q2⟩ := B0.edit
    have hb := (Below.refl w.heap.size w).alloc (Nat.le_refl _) (.cells (ecells k id gr (x.toNat : Int) lab f).toArray 63)
    obtain ⟨ec, hec⟩ : ∃ ec, ec = ecells k id gr (x.toNat : Int) lab f := ⟨_, rfl⟩
    rw [← hec] at q0 q1 q2 hb ⊢
    clear hec B0 hR
    by_cases h1 : k < 1
    · have hd1 : decide (k < 1) = true := decide_eq_true h1
      clear hk h1
      go_enter Try.func43, Try.ntmps43
      go_wp2_with fail
      go_ret
      exact ⟨rfl, hb⟩
    · have hd1 : decide (k < 1) = false := decide_eq_false h1
      have hd2 : decide (7 < k) = true := decide_eq_true (by omega)
      clear hk h1
      go_enter Try.func43, Try.ntmps43
      go_wp2_with fail
      go_ret
      exact ⟨rfl, hb⟩
end Go.Proofs.Ytgpbglmlakildaa
