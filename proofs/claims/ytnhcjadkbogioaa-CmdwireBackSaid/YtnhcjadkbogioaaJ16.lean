/- Edits: which may be, or why not: what Check returns. -/
import Derived.Test.YtnhcjadkbogioaaJ9
import Derived.Test.YtnhcjadkbogioaaJ15
import Derived.Test.YtnhcjadkbogioaaJ12
set_option maxRecDepth 100000
set_option linter.unusedVariables false
set_option linter.unusedSimpArgs false
set_option maxHeartbeats 6400000
namespace Go.Proofs.Ytnhcjadkbogioaa
open Go Go.RowKit OctM BitM
theorem recheck_001 (k id gr lab : Int) (x : BitVec 32) (f : List V3) (w : World) (hf : f.length = 8) (hk1 : 1 ≤ k) (hk2 : k ≤ 7) (hg : grp k = false) (hi : idk k = false) (hp : ptk k = true) :
    Calls Try.prog 37 #[.agg (ecells k id gr (x.toNat : Int) lab f).toArray] w fun e w' => e = .returned (.int .i64 (echk k id gr x lab f)) ∧ Below w.heap.size w w' := by
  have hd1 : decide (k < 1) = false := decide_eq_false (by omega)
  have hd2 : decide (7 < k) = false := decide_eq_false (by omega)
  have HPC := hid (fun wx : World => rpcheck_any x lab f wx hf)
  have HG := hid (fun wx : World => rgrp_any k wx)
  have HI := hid (fun wx : World => ridk_any k wx)
  have HP := hid (fun wx : World => rptk_any k wx)
  have HR0 := hid (fun (zg zi bp d1 d2 e1 e2 : Bool) h1 h2 h3 h4 h5 h6 h7 => echk_bool (k := k) (id := id) (gr := gr) (x := x) (lab := lab) (f := f) (zg := zg) (zi := zi) (bp := bp) (d1 := d1) (d2 := d2) (e1 := e1) (e2 := e2) hk1 hk2 hg hi hp h1 h2 h3 h4 h5 h6 h7)
  have B0 := Blk.new w (ecells k id gr (x.toNat : Int) lab f) 29
  obtain ⟨q0, q1, q2⟩ := B0.edit
  have RP := B0.patchE
  have hb := (Below.refl w.heap.size w).alloc (Nat.le_refl _) (.cells (ecells k id gr (x.toNat : Int) lab f).toArray 29)
  obtain ⟨R, hR⟩ : ∃ R, R = echk k id gr x lab f := ⟨_, rfl⟩
  rw [← hR] at HR0 ⊢
  obtain ⟨P, hP⟩ : ∃ P, P = pchk x lab f := ⟨_, rfl⟩
  rw [← hP] at HR0 HPC
  obtain ⟨bp, kbp⟩ : ∃ b, decide ((x.toNat : Int) = 0 ∧ lab = 0 ∧ f = zeros) = b := ⟨_, rfl⟩
  have HEQ : Hid (∀ wx : World, (Op.equalIn 10000 27 (.agg (pcells (x.toNat : Int) lab f).toArray) (.agg (pcells 0 0 zeros).toArray)).run Try.prog wx = .ok bp wx) := hid (fun wx => by rw [eq_patch 9996 _ _ _ _ f zeros hf zeros_len wx, kbp])
  have HPL := hid (pcells_len (x.toNat : Int) lab hf)
  obtain ⟨zg, kzg⟩ : ∃ b, (gr != 0) = b := ⟨_, rfl⟩
  obtain ⟨zi, kzi⟩ : ∃ b, (id != 0) = b := ⟨_, rfl⟩
  obtain ⟨d1, kd1⟩ : ∃ b, decide (gr < 0) = b := ⟨_, rfl⟩
  obtain ⟨d2, kd2⟩ : ∃ b, decide (16 ≤ gr) = b := ⟨_, rfl⟩
  obtain ⟨e1, ke1⟩ : ∃ b, decide (id < 1) = b := ⟨_, rfl⟩
  obtain ⟨e2, ke2⟩ : ∃ b, decide (1073741824 ≤ id) = b := ⟨_, rfl⟩
  have HR := hid (HR0.out zg zi bp d1 d2 e1 e2 kzg kzi kbp kd1 kd2 ke1 ke2)
  rw [hg] at HG
  rw [hi] at HI
  rw [hp] at HP
  have hup := Try.underlying27
  obtain ⟨pc, hpc⟩ : ∃ pc, pc = pcells (x.toNat : Int) lab f := ⟨_, rfl⟩
  rw [← hpc] at RP HEQ HPL HPC
  obtain ⟨ec, hec⟩ : ∃ ec, ec = ecells k id gr (x.toNat : Int) lab f := ⟨_, rfl⟩
  rw [← hec] at q0 q1 q2 RP hb B0 ⊢
  have HEC := hid hec
  have HPC1 := hid hpc
  have HEC := hid hec
  have HPC1 := hid hpc
  have HEC := hid hec
  have HPC1 := hid hpc
  have HEC := hid hec
  have HPC1 := hid hpc
  have HEC := hid hec
  have HPC1 := hid hpc
  clear HR0 hpc hec hR hP hg hi hp hk1 hk2 kbp hf
  obtain ⟨zs, hzs⟩ : ∃ zs, zs = pcells 0 0 zeros := ⟨_, rfl⟩
  have HZ := hid zp26
  have HZL := hid (show zs.length = 26 by rw [hzs]; exact pcells_len 0 0 zeros_len)
  have hone : zs.toArray.all (·.oneCell') = true := all_oneCell_toArray (by rw [hzs]; exact pcells_one _ _ _)
  rw [← hzs] at HEQ HZ
  have HZS := hid hzs
  clear hzs
  have Bz := Blk.new (w.alloc (.cells ec.toArray 29)) zs 27
  have hs1 : (w.alloc (.cells ec.toArray 29)).heap.size = w.heap.size + 1 := by simp
  rw [hs1] at Bz
  have TZ := Bz.there 0 26 (by rw [HZL.out]; omega)
  have SZ := Bz.wholeT (ds := zs) rfl
  have BE := Blk.setsOther (b := w.heap.size + 1) (g := w.heap.size) (by omega) zs 0 (B0.alloc (.cells zs.toArray 27))
  have hbZ := below_sets (B := w.heap.size) (b := w.heap.size + 1) (by omega) zs 0 (hb.alloc (by simp) (.cells zs.toArray 27))
  clear Bz hs1 B0
  go_enter Try.func37, Try.ntmps37
  go_wp2_with (first
    | (rw [← HZ.out]
       refine wpList_store_mid rfl 27 (.tmp 3) (.tmp 12) rfl (w.heap.size + 1) 0 zs.toArray rfl (by rw [HZS.out]; rfl) (by simpa [HZL.out] using TZ) (by simpa [HZL.out] using info_patch) hone ?_
       simp only [Act.put]
       generalize hw3 : World.setCells _ (w.heap.size + 1) 0 zs.toArray.toList = w3
       replace SZ : Blk w3 (w.heap.size + 1) zs := hw3 ▸ SZ
       replace BE : Blk w3 w.heap.size ec := hw3 ▸ BE
       replace hb : Below w.heap.size w w3 := hw3 ▸ hbZ
       clear hw3 TZ hbZ q0 q1 q2 RP
       rw [HEC.out] at BE
       obtain ⟨q0, q1, q2⟩ := BE.edit
       have RP := BE.patchE
       rw [← HPC1.out] at RP
       have RZ := SZ.wholeC)
    | fail)
  refine (HG.out _).mono ?_
  rintro e' w' ⟨rfl, rfl⟩
  cases zg
  · go_wp2_with fail
    refine (HI.out _).mono ?_
    rintro e' w' ⟨rfl, rfl⟩
    cases zi
    · go_wp2_with fail
      refine (HP.out _).mono ?_
      rintro e' w' ⟨rfl, rfl⟩
      cases d1
      · cases d2
        · go_wp2_with fail
          refine (HI.out _).mono ?_
          rintro e' w' ⟨rfl, rfl⟩
          go_wp2_with fail
          refine (HP.out _).mono ?_
          rintro e' w' ⟨rfl, rfl⟩
          go_wp2_with (first
            | (refine wpList_load_g (by rfl) 27 (.tmp 71) rfl w.heap.size 3 rfl pc _ RP hup rfl (by rw [HPL.out]; exact info_patch) ?_)
            | fail)
          refine (HPC.out _).mono ?_
          rintro e' w' ⟨rfl, hb2⟩
          go_wp2_with fail
          go_ret
          exact ⟨by rw [HR.out]; rfl, hb.trans (hb2.mono hb.size)⟩
        · go_wp2_with fail
          go_ret
          exact ⟨by rw [HR.out]; rfl, hb⟩
      · go_wp2_with fail
        go_ret
        exact ⟨by rw [HR.out]; rfl, hb⟩
    · go_wp2_with fail
      go_ret
      exact ⟨by rw [HR.out]; rfl, hb⟩
  · go_wp2_with fail
    go_ret
    exact ⟨by rw [HR.out]; rfl, hb⟩
theorem recheck_011 (k id gr lab : Int) (x : BitVec 32) (f : List V3) (w : World) (hf : f.length = 8) (hk1 : 1 ≤ k) (hk2 : k ≤ 7) (hg : grp k = false) (hi : idk k = true) (hp : ptk k = true) :
    Calls Try.prog 37 #[.agg (ecells k id gr (x.toNat : Int) lab f).toArray] w fun e w' => e = .returned (.int .i64 (echk k id gr x lab f)) ∧ Below w.heap.size w w' := by
  have hd1 : decide (k < 1) = false := decide_eq_false (by omega)
  have hd2 : decide (7 < k) = false := decide_eq_false (by omega)
  have HPC := hid (fun wx : World => rpcheck_any x lab f wx hf)
  have HG := hid (fun wx : World => rgrp_any k wx)
  have HI := hid (fun wx : World => ridk_any k wx)
  have HP := hid (fun wx : World => rptk_any k wx)
  have HR0 := hid (fun (zg zi bp d1 d2 e1 e2 : Bool) h1 h2 h3 h4 h5 h6 h7 => echk_bool (k := k) (id := id) (gr := gr) (x := x) (lab := lab) (f := f) (zg := zg) (zi := zi) (bp := bp) (d1 := d1) (d2 := d2) (e1 := e1) (e2 := e2) hk1 hk2 hg hi hp h1 h2 h3 h4 h5 h6 h7)
  have B0 := Blk.new w (ecells k id gr (x.toNat : Int) lab f) 29
  obtain ⟨q0, q1, q2⟩ := B0.edit
  have RP := B0.patchE
  have hb := (Below.refl w.heap.size w).alloc (Nat.le_refl _) (.cells (ecells k id gr (x.toNat : Int) lab f).toArray 29)
  obtain ⟨R, hR⟩ : ∃ R, R = echk k id gr x lab f := ⟨_, rfl⟩
  rw [← hR] at HR0 ⊢
  obtain ⟨P, hP⟩ : ∃ P, P = pchk x lab f := ⟨_, rfl⟩
  rw [← hP] at HR0 HPC
  obtain ⟨bp, kbp⟩ : ∃ b, decide ((x.toNat : Int) = 0 ∧ lab = 0 ∧ f = zeros) = b := ⟨_, rfl⟩
  have HEQ : Hid (∀ wx : World, (Op.equalIn 10000 27 (.agg (pcells (x.toNat : Int) lab f).toArray) (.agg (pcells 0 0 zeros).toArray)).run Try.prog wx = .ok bp wx) := hid (fun wx => by rw [eq_patch 9996 _ _ _ _ f zeros hf zeros_len wx, kbp])
  have HPL := hid (pcells_len (x.toNat : Int) lab hf)
  obtain ⟨zg, kzg⟩ : ∃ b, (gr != 0) = b := ⟨_, rfl⟩
  obtain ⟨zi, kzi⟩ : ∃ b, (id != 0) = b := ⟨_, rfl⟩
  obtain ⟨d1, kd1⟩ : ∃ b, decide (gr < 0) = b := ⟨_, rfl⟩
  obtain ⟨d2, kd2⟩ : ∃ b, decide (16 ≤ gr) = b := ⟨_, rfl⟩
  obtain ⟨e1, ke1⟩ : ∃ b, decide (id < 1) = b := ⟨_, rfl⟩
  obtain ⟨e2, ke2⟩ : ∃ b, decide (1073741824 ≤ id) = b := ⟨_, rfl⟩
  have HR := hid (HR0.out zg zi bp d1 d2 e1 e2 kzg kzi kbp kd1 kd2 ke1 ke2)
  rw [hg] at HG
  rw [hi] at HI
  rw [hp] at HP
  have hup := Try.underlying27
  obtain ⟨pc, hpc⟩ : ∃ pc, pc = pcells (x.toNat : Int) lab f := ⟨_, rfl⟩
  rw [← hpc] at RP HEQ HPL HPC
  obtain ⟨ec, hec⟩ : ∃ ec, ec = ecells k id gr (x.toNat : Int) lab f := ⟨_, rfl⟩
  rw [← hec] at q0 q1 q2 RP hb B0 ⊢
  have HEC := hid hec
  have HPC1 := hid hpc
  have HEC := hid hec
  have HPC1 := hid hpc
  have HEC := hid hec
  have HPC1 := hid hpc
  have HEC := hid hec
  have HPC1 := hid hpc
  clear HR0 hpc hec hR hP hg hi hp hk1 hk2 kbp hf
  obtain ⟨zs, hzs⟩ : ∃ zs, zs = pcells 0 0 zeros := ⟨_, rfl⟩
  have HZ := hid zp26
  have HZL := hid (show zs.length = 26 by rw [hzs]; exact pcells_len 0 0 zeros_len)
  have hone : zs.toArray.all (·.oneCell') = true := all_oneCell_toArray (by rw [hzs]; exact pcells_one _ _ _)
  rw [← hzs] at HEQ HZ
  have HZS := hid hzs
  clear hzs
  have Bz := Blk.new (w.alloc (.cells ec.toArray 29)) zs 27
  have hs1 : (w.alloc (.cells ec.toArray 29)).heap.size = w.heap.size + 1 := by simp
  rw [hs1] at Bz
  have TZ := Bz.there 0 26 (by rw [HZL.out]; omega)
  have SZ := Bz.wholeT (ds := zs) rfl
  have BE := Blk.setsOther (b := w.heap.size + 1) (g := w.heap.size) (by omega) zs 0 (B0.alloc (.cells zs.toArray 27))
  have hbZ := below_sets (B := w.heap.size) (b := w.heap.size + 1) (by omega) zs 0 (hb.alloc (by simp) (.cells zs.toArray 27))
  clear Bz hs1 B0
  go_enter Try.func37, Try.ntmps37
  go_wp2_with (first
    | (rw [← HZ.out]
       refine wpList_store_mid rfl 27 (.tmp 3) (.tmp 12) rfl (w.heap.size + 1) 0 zs.toArray rfl (by rw [HZS.out]; rfl) (by simpa [HZL.out] using TZ) (by simpa [HZL.out] using info_patch) hone ?_
       simp only [Act.put]
       generalize hw3 : World.setCells _ (w.heap.size + 1) 0 zs.toArray.toList = w3
       replace SZ : Blk w3 (w.heap.size + 1) zs := hw3 ▸ SZ
       replace BE : Blk w3 w.heap.size ec := hw3 ▸ BE
       replace hb : Below w.heap.size w w3 := hw3 ▸ hbZ
       clear hw3 TZ hbZ q0 q1 q2 RP
       rw [HEC.out] at BE
       obtain ⟨q0, q1, q2⟩ := BE.edit
       have RP := BE.patchE
       rw [← HPC1.out] at RP
       have RZ := SZ.wholeC)
    | fail)
  refine (HG.out _).mono ?_
  rintro e' w' ⟨rfl, rfl⟩
  cases zg
  · go_wp2_with fail
    refine (HI.out _).mono ?_
    rintro e' w' ⟨rfl, rfl⟩
    go_wp2_with fail
    refine (HP.out _).mono ?_
    rintro e' w' ⟨rfl, rfl⟩
    cases d1
    · cases d2
      · go_wp2_with fail
        refine (HI.out _).mono ?_
        rintro e' w' ⟨rfl, rfl⟩
        cases e1
        · cases e2
          · go_wp2_with fail
            refine (HP.out _).mono ?_
            rintro e' w' ⟨rfl, rfl⟩
            go_wp2_with (first
              | (refine wpList_load_g (by rfl) 27 (.tmp 71) rfl w.heap.size 3 rfl pc _ RP hup rfl (by rw [HPL.out]; exact info_patch) ?_)
              | fail)
            refine (HPC.out _).mono ?_
            rintro e' w' ⟨rfl, hb2⟩
            go_wp2_with fail
            go_ret
            exact ⟨by rw [HR.out]; rfl, hb.trans (hb2.mono hb.size)⟩
          · go_wp2_with fail
            go_ret
            exact ⟨by rw [HR.out]; rfl, hb⟩
        · go_wp2_with fail
          go_ret
          exact ⟨by rw [HR.out]; rfl, hb⟩
      · go_wp2_with fail
        go_ret
        exact ⟨by rw [HR.out]; rfl, hb⟩
    · go_wp2_with fail
      go_ret
      exact ⟨by rw [HR.out]; rfl, hb⟩
  · go_wp2_with fail
    go_ret
    exact ⟨by rw [HR.out]; rfl, hb⟩
theorem recheck_010 (k id gr lab : Int) (x : BitVec 32) (f : List V3) (w : World) (hf : f.length = 8) (hk1 : 1 ≤ k) (hk2 : k ≤ 7) (hg : grp k = false) (hi : idk k = true) (hp : ptk k = false) :
    Calls Try.prog 37 #[.agg (ecells k id gr (x.toNat : Int) lab f).toArray] w fun e w' => e = .returned (.int .i64 (echk k id gr x lab f)) ∧ Below w.heap.size w w' := by
  have hd1 : decide (k < 1) = false := decide_eq_false (by omega)
  have hd2 : decide (7 < k) = false := decide_eq_false (by omega)
  have HPC := hid (fun wx : World => rpcheck_any x lab f wx hf)
  have HG := hid (fun wx : World => rgrp_any k wx)
  have HI := hid (fun wx : World => ridk_any k wx)
  have HP := hid (fun wx : World => rptk_any k wx)
  have HR0 := hid (fun (zg zi bp d1 d2 e1 e2 : Bool) h1 h2 h3 h4 h5 h6 h7 => echk_bool (k := k) (id := id) (gr := gr) (x := x) (lab := lab) (f := f) (zg := zg) (zi := zi) (bp := bp) (d1 := d1) (d2 := d2) (e1 := e1) (e2 := e2) hk1 hk2 hg hi hp h1 h2 h3 h4 h5 h6 h7)
  have B0 := Blk.new w (ecells k id gr (x.toNat : Int) lab f) 29
  obtain ⟨q0, q1, q2⟩ := B0.edit
  have RP := B0.patchE
  have hb := (Below.refl w.heap.size w).alloc (Nat.le_refl _) (.cells (ecells k id gr (x.toNat : Int) lab f).toArray 29)
  obtain ⟨R, hR⟩ : ∃ R, R = echk k id gr x lab f := ⟨_, rfl⟩
  rw [← hR] at HR0 ⊢
  obtain ⟨P, hP⟩ : ∃ P, P = pchk x lab f := ⟨_, rfl⟩
  rw [← hP] at HR0 HPC
  obtain ⟨bp, kbp⟩ : ∃ b, decide ((x.toNat : Int) = 0 ∧ lab = 0 ∧ f = zeros) = b := ⟨_, rfl⟩
  have HEQ : Hid (∀ wx : World, (Op.equalIn 10000 27 (.agg (pcells (x.toNat : Int) lab f).toArray) (.agg (pcells 0 0 zeros).toArray)).run Try.prog wx = .ok bp wx) := hid (fun wx => by rw [eq_patch 9996 _ _ _ _ f zeros hf zeros_len wx, kbp])
  have HPL := hid (pcells_len (x.toNat : Int) lab hf)
  obtain ⟨zg, kzg⟩ : ∃ b, (gr != 0) = b := ⟨_, rfl⟩
  obtain ⟨zi, kzi⟩ : ∃ b, (id != 0) = b := ⟨_, rfl⟩
  obtain ⟨d1, kd1⟩ : ∃ b, decide (gr < 0) = b := ⟨_, rfl⟩
  obtain ⟨d2, kd2⟩ : ∃ b, decide (16 ≤ gr) = b := ⟨_, rfl⟩
  obtain ⟨e1, ke1⟩ : ∃ b, decide (id < 1) = b := ⟨_, rfl⟩
  obtain ⟨e2, ke2⟩ : ∃ b, decide (1073741824 ≤ id) = b := ⟨_, rfl⟩
  have HR := hid (HR0.out zg zi bp d1 d2 e1 e2 kzg kzi kbp kd1 kd2 ke1 ke2)
  rw [hg] at HG
  rw [hi] at HI
  rw [hp] at HP
  have hup := Try.underlying27
  obtain ⟨pc, hpc⟩ : ∃ pc, pc = pcells (x.toNat : Int) lab f := ⟨_, rfl⟩
  rw [← hpc] at RP HEQ HPL HPC
  obtain ⟨ec, hec⟩ : ∃ ec, ec = ecells k id gr (x.toNat : Int) lab f := ⟨_, rfl⟩
  rw [← hec] at q0 q1 q2 RP hb B0 ⊢
  have HEC := hid hec
  have HPC1 := hid hpc
  have HEC := hid hec
  have HPC1 := hid hpc
  have HEC := hid hec
  have HPC1 := hid hpc
  clear HR0 hpc hec hR hP hg hi hp hk1 hk2 kbp hf
  obtain ⟨zs, hzs⟩ : ∃ zs, zs = pcells 0 0 zeros := ⟨_, rfl⟩
  have HZ := hid zp26
  have HZL := hid (show zs.length = 26 by rw [hzs]; exact pcells_len 0 0 zeros_len)
  have hone : zs.toArray.all (·.oneCell') = true := all_oneCell_toArray (by rw [hzs]; exact pcells_one _ _ _)
  rw [← hzs] at HEQ HZ
  have HZS := hid hzs
  clear hzs
  have Bz := Blk.new (w.alloc (.cells ec.toArray 29)) zs 27
  have hs1 : (w.alloc (.cells ec.toArray 29)).heap.size = w.heap.size + 1 := by simp
  rw [hs1] at Bz
  have TZ := Bz.there 0 26 (by rw [HZL.out]; omega)
  have SZ := Bz.wholeT (ds := zs) rfl
  have BE := Blk.setsOther (b := w.heap.size + 1) (g := w.heap.size) (by omega) zs 0 (B0.alloc (.cells zs.toArray 27))
  have hbZ := below_sets (B := w.heap.size) (b := w.heap.size + 1) (by omega) zs 0 (hb.alloc (by simp) (.cells zs.toArray 27))
  clear Bz hs1 B0
  go_enter Try.func37, Try.ntmps37
  go_wp2_with (first
    | (rw [← HZ.out]
       refine wpList_store_mid rfl 27 (.tmp 3) (.tmp 12) rfl (w.heap.size + 1) 0 zs.toArray rfl (by rw [HZS.out]; rfl) (by simpa [HZL.out] using TZ) (by simpa [HZL.out] using info_patch) hone ?_
       simp only [Act.put]
       generalize hw3 : World.setCells _ (w.heap.size + 1) 0 zs.toArray.toList = w3
       replace SZ : Blk w3 (w.heap.size + 1) zs := hw3 ▸ SZ
       replace BE : Blk w3 w.heap.size ec := hw3 ▸ BE
       replace hb : Below w.heap.size w w3 := hw3 ▸ hbZ
       clear hw3 TZ hbZ q0 q1 q2 RP
       rw [HEC.out] at BE
       obtain ⟨q0, q1, q2⟩ := BE.edit
       have RP := BE.patchE
       rw [← HPC1.out] at RP
       have RZ := SZ.wholeC)
    | fail)
  refine (HG.out _).mono ?_
  rintro e' w' ⟨rfl, rfl⟩
  cases zg
  · go_wp2_with fail
    refine (HI.out _).mono ?_
    rintro e' w' ⟨rfl, rfl⟩
    go_wp2_with fail
    refine (HP.out _).mono ?_
    rintro e' w' ⟨rfl, rfl⟩
    cases bp
    · go_wp2_with (first
        | (have RP1 := RP
           refine wpList_load_g (by rfl) 27 (.tmp 39) rfl w.heap.size 3 rfl pc _ RP hup rfl (by rw [HPL.out]; exact info_patch) ?_
           refine wpList_load_g (by rfl) 27 (.tmp 3) rfl (w.heap.size + 1) 0 rfl zs _ RZ hup rfl (by rw [HZL.out]; exact info_patch) ?_
           refine wpList_exec (by rfl) (.bool (!false)) (exec_neq 27 _ (.tmp 40) (.tmp 41) rfl pc.toArray zs.toArray (by rfl) (by rfl) guard_patchE false (HEQ.out _)) ?_
           clear RP RP1)
        | fail)
      go_ret
      exact ⟨by rw [HR.out]; rfl, hb⟩
    · cases d1
      · cases d2
        · go_wp2_with (first
            | (have RP1 := RP
               refine wpList_load_g (by rfl) 27 (.tmp 39) rfl w.heap.size 3 rfl pc _ RP hup rfl (by rw [HPL.out]; exact info_patch) ?_
               refine wpList_load_g (by rfl) 27 (.tmp 3) rfl (w.heap.size + 1) 0 rfl zs _ RZ hup rfl (by rw [HZL.out]; exact info_patch) ?_
               refine wpList_exec (by rfl) (.bool (!true)) (exec_neq 27 _ (.tmp 40) (.tmp 41) rfl pc.toArray zs.toArray (by rfl) (by rfl) guard_patchE true (HEQ.out _)) ?_
               clear RP RP1)
            | fail)
          refine (HI.out _).mono ?_
          rintro e' w' ⟨rfl, rfl⟩
          cases e1
          · cases e2
            · go_wp2_with fail
              refine (HP.out _).mono ?_
              rintro e' w' ⟨rfl, rfl⟩
              go_wp2_with fail
              go_ret
              exact ⟨by rw [HR.out]; rfl, hb⟩
            · go_wp2_with fail
              go_ret
              exact ⟨by rw [HR.out]; rfl, hb⟩
          · go_wp2_with fail
            go_ret
            exact ⟨by rw [HR.out]; rfl, hb⟩
        · go_wp2_with (first
            | (have RP1 := RP
               refine wpList_load_g (by rfl) 27 (.tmp 39) rfl w.heap.size 3 rfl pc _ RP hup rfl (by rw [HPL.out]; exact info_patch) ?_
               refine wpList_load_g (by rfl) 27 (.tmp 3) rfl (w.heap.size + 1) 0 rfl zs _ RZ hup rfl (by rw [HZL.out]; exact info_patch) ?_
               refine wpList_exec (by rfl) (.bool (!true)) (exec_neq 27 _ (.tmp 40) (.tmp 41) rfl pc.toArray zs.toArray (by rfl) (by rfl) guard_patchE true (HEQ.out _)) ?_
               clear RP RP1)
            | fail)
          go_ret
          exact ⟨by rw [HR.out]; rfl, hb⟩
      · go_wp2_with (first
          | (have RP1 := RP
             refine wpList_load_g (by rfl) 27 (.tmp 39) rfl w.heap.size 3 rfl pc _ RP hup rfl (by rw [HPL.out]; exact info_patch) ?_
             refine wpList_load_g (by rfl) 27 (.tmp 3) rfl (w.heap.size + 1) 0 rfl zs _ RZ hup rfl (by rw [HZL.out]; exact info_patch) ?_
             refine wpList_exec (by rfl) (.bool (!true)) (exec_neq 27 _ (.tmp 40) (.tmp 41) rfl pc.toArray zs.toArray (by rfl) (by rfl) guard_patchE true (HEQ.out _)) ?_
             clear RP RP1)
          | fail)
        go_ret
        exact ⟨by rw [HR.out]; rfl, hb⟩
  · go_wp2_with fail
    go_ret
    exact ⟨by rw [HR.out]; rfl, hb⟩
theorem recheck_100 (k id gr lab : Int) (x : BitVec 32) (f : List V3) (w : World) (hf : f.length = 8) (hk1 : 1 ≤ k) (hk2 : k ≤ 7) (hg : grp k = true) (hi : idk k = false) (hp : ptk k = false) :
    Calls Try.prog 37 #[.agg (ecells k id gr (x.toNat : Int) lab f).toArray] w fun e w' => e = .returned (.int .i64 (echk k id gr x lab f)) ∧ Below w.heap.size w w' := by
  have hd1 : decide (k < 1) = false := decide_eq_false (by omega)
  have hd2 : decide (7 < k) = false := decide_eq_false (by omega)
  have HPC := hid (fun wx : World => rpcheck_any x lab f wx hf)
  have HG := hid (fun wx : World => rgrp_any k wx)
  have HI := hid (fun wx : World => ridk_any k wx)
  have HP := hid (fun wx : World => rptk_any k wx)
  have HR0 := hid (fun (zg zi bp d1 d2 e1 e2 : Bool) h1 h2 h3 h4 h5 h6 h7 => echk_bool (k := k) (id := id) (gr := gr) (x := x) (lab := lab) (f := f) (zg := zg) (zi := zi) (bp := bp) (d1 := d1) (d2 := d2) (e1 := e1) (e2 := e2) hk1 hk2 hg hi hp h1 h2 h3 h4 h5 h6 h7)
  have B0 := Blk.new w (ecells k id gr (x.toNat : Int) lab f) 29
  obtain ⟨q0, q1, q2⟩ := B0.edit
  have RP := B0.patchE
  have hb := (Below.refl w.heap.size w).alloc (Nat.le_refl _) (.cells (ecells k id gr (x.toNat : Int) lab f).toArray 29)
  obtain ⟨R, hR⟩ : ∃ R, R = echk k id gr x lab f := ⟨_, rfl⟩
  rw [← hR] at HR0 ⊢
  obtain ⟨P, hP⟩ : ∃ P, P = pchk x lab f := ⟨_, rfl⟩
  rw [← hP] at HR0 HPC
  obtain ⟨bp, kbp⟩ : ∃ b, decide ((x.toNat : Int) = 0 ∧ lab = 0 ∧ f = zeros) = b := ⟨_, rfl⟩
  have HEQ : Hid (∀ wx : World, (Op.equalIn 10000 27 (.agg (pcells (x.toNat : Int) lab f).toArray) (.agg (pcells 0 0 zeros).toArray)).run Try.prog wx = .ok bp wx) := hid (fun wx => by rw [eq_patch 9996 _ _ _ _ f zeros hf zeros_len wx, kbp])
  have HPL := hid (pcells_len (x.toNat : Int) lab hf)
  obtain ⟨zg, kzg⟩ : ∃ b, (gr != 0) = b := ⟨_, rfl⟩
  obtain ⟨zi, kzi⟩ : ∃ b, (id != 0) = b := ⟨_, rfl⟩
  obtain ⟨d1, kd1⟩ : ∃ b, decide (gr < 0) = b := ⟨_, rfl⟩
  obtain ⟨d2, kd2⟩ : ∃ b, decide (16 ≤ gr) = b := ⟨_, rfl⟩
  obtain ⟨e1, ke1⟩ : ∃ b, decide (id < 1) = b := ⟨_, rfl⟩
  obtain ⟨e2, ke2⟩ : ∃ b, decide (1073741824 ≤ id) = b := ⟨_, rfl⟩
  have HR := hid (HR0.out zg zi bp d1 d2 e1 e2 kzg kzi kbp kd1 kd2 ke1 ke2)
  rw [hg] at HG
  rw [hi] at HI
  rw [hp] at HP
  have hup := Try.underlying27
  obtain ⟨pc, hpc⟩ : ∃ pc, pc = pcells (x.toNat : Int) lab f := ⟨_, rfl⟩
  rw [← hpc] at RP HEQ HPL HPC
  obtain ⟨ec, hec⟩ : ∃ ec, ec = ecells k id gr (x.toNat : Int) lab f := ⟨_, rfl⟩
  rw [← hec] at q0 q1 q2 RP hb B0 ⊢
  have HEC := hid hec
  have HPC1 := hid hpc
  have HEC := hid hec
  have HPC1 := hid hpc
  clear HR0 hpc hec hR hP hg hi hp hk1 hk2 kbp hf
  obtain ⟨zs, hzs⟩ : ∃ zs, zs = pcells 0 0 zeros := ⟨_, rfl⟩
  have HZ := hid zp26
  have HZL := hid (show zs.length = 26 by rw [hzs]; exact pcells_len 0 0 zeros_len)
  have hone : zs.toArray.all (·.oneCell') = true := all_oneCell_toArray (by rw [hzs]; exact pcells_one _ _ _)
  rw [← hzs] at HEQ HZ
  have HZS := hid hzs
  clear hzs
  have Bz := Blk.new (w.alloc (.cells ec.toArray 29)) zs 27
  have hs1 : (w.alloc (.cells ec.toArray 29)).heap.size = w.heap.size + 1 := by simp
  rw [hs1] at Bz
  have TZ := Bz.there 0 26 (by rw [HZL.out]; omega)
  have SZ := Bz.wholeT (ds := zs) rfl
  have BE := Blk.setsOther (b := w.heap.size + 1) (g := w.heap.size) (by omega) zs 0 (B0.alloc (.cells zs.toArray 27))
  have hbZ := below_sets (B := w.heap.size) (b := w.heap.size + 1) (by omega) zs 0 (hb.alloc (by simp) (.cells zs.toArray 27))
  clear Bz hs1 B0
  go_enter Try.func37, Try.ntmps37
  go_wp2_with (first
    | (rw [← HZ.out]
       refine wpList_store_mid rfl 27 (.tmp 3) (.tmp 12) rfl (w.heap.size + 1) 0 zs.toArray rfl (by rw [HZS.out]; rfl) (by simpa [HZL.out] using TZ) (by simpa [HZL.out] using info_patch) hone ?_
       simp only [Act.put]
       generalize hw3 : World.setCells _ (w.heap.size + 1) 0 zs.toArray.toList = w3
       replace SZ : Blk w3 (w.heap.size + 1) zs := hw3 ▸ SZ
       replace BE : Blk w3 w.heap.size ec := hw3 ▸ BE
       replace hb : Below w.heap.size w w3 := hw3 ▸ hbZ
       clear hw3 TZ hbZ q0 q1 q2 RP
       rw [HEC.out] at BE
       obtain ⟨q0, q1, q2⟩ := BE.edit
       have RP := BE.patchE
       rw [← HPC1.out] at RP
       have RZ := SZ.wholeC)
    | fail)
  refine (HG.out _).mono ?_
  rintro e' w' ⟨rfl, rfl⟩
  go_wp2_with fail
  refine (HI.out _).mono ?_
  rintro e' w' ⟨rfl, rfl⟩
  cases zi
  · go_wp2_with fail
    refine (HP.out _).mono ?_
    rintro e' w' ⟨rfl, rfl⟩
    cases bp
    · go_wp2_with (first
        | (have RP1 := RP
           refine wpList_load_g (by rfl) 27 (.tmp 39) rfl w.heap.size 3 rfl pc _ RP hup rfl (by rw [HPL.out]; exact info_patch) ?_
           refine wpList_load_g (by rfl) 27 (.tmp 3) rfl (w.heap.size + 1) 0 rfl zs _ RZ hup rfl (by rw [HZL.out]; exact info_patch) ?_
           refine wpList_exec (by rfl) (.bool (!false)) (exec_neq 27 _ (.tmp 40) (.tmp 41) rfl pc.toArray zs.toArray (by rfl) (by rfl) guard_patchE false (HEQ.out _)) ?_
           clear RP RP1)
        | fail)
      go_ret
      exact ⟨by rw [HR.out]; rfl, hb⟩
    · cases d1
      · cases d2
        · go_wp2_with (first
            | (have RP1 := RP
               refine wpList_load_g (by rfl) 27 (.tmp 39) rfl w.heap.size 3 rfl pc _ RP hup rfl (by rw [HPL.out]; exact info_patch) ?_
               refine wpList_load_g (by rfl) 27 (.tmp 3) rfl (w.heap.size + 1) 0 rfl zs _ RZ hup rfl (by rw [HZL.out]; exact info_patch) ?_
               refine wpList_exec (by rfl) (.bool (!true)) (exec_neq 27 _ (.tmp 40) (.tmp 41) rfl pc.toArray zs.toArray (by rfl) (by rfl) guard_patchE true (HEQ.out _)) ?_
               clear RP RP1)
            | fail)
          refine (HI.out _).mono ?_
          rintro e' w' ⟨rfl, rfl⟩
          go_wp2_with fail
          refine (HP.out _).mono ?_
          rintro e' w' ⟨rfl, rfl⟩
          go_wp2_with fail
          go_ret
          exact ⟨by rw [HR.out]; rfl, hb⟩
        · go_wp2_with (first
            | (have RP1 := RP
               refine wpList_load_g (by rfl) 27 (.tmp 39) rfl w.heap.size 3 rfl pc _ RP hup rfl (by rw [HPL.out]; exact info_patch) ?_
               refine wpList_load_g (by rfl) 27 (.tmp 3) rfl (w.heap.size + 1) 0 rfl zs _ RZ hup rfl (by rw [HZL.out]; exact info_patch) ?_
               refine wpList_exec (by rfl) (.bool (!true)) (exec_neq 27 _ (.tmp 40) (.tmp 41) rfl pc.toArray zs.toArray (by rfl) (by rfl) guard_patchE true (HEQ.out _)) ?_
               clear RP RP1)
            | fail)
          go_ret
          exact ⟨by rw [HR.out]; rfl, hb⟩
      · go_wp2_with (first
          | (have RP1 := RP
             refine wpList_load_g (by rfl) 27 (.tmp 39) rfl w.heap.size 3 rfl pc _ RP hup rfl (by rw [HPL.out]; exact info_patch) ?_
             refine wpList_load_g (by rfl) 27 (.tmp 3) rfl (w.heap.size + 1) 0 rfl zs _ RZ hup rfl (by rw [HZL.out]; exact info_patch) ?_
             refine wpList_exec (by rfl) (.bool (!true)) (exec_neq 27 _ (.tmp 40) (.tmp 41) rfl pc.toArray zs.toArray (by rfl) (by rfl) guard_patchE true (HEQ.out _)) ?_
             clear RP RP1)
          | fail)
        go_ret
        exact ⟨by rw [HR.out]; rfl, hb⟩
  · go_wp2_with fail
    go_ret
    exact ⟨by rw [HR.out]; rfl, hb⟩
theorem recheck_110 (k id gr lab : Int) (x : BitVec 32) (f : List V3) (w : World) (hf : f.length = 8) (hk1 : 1 ≤ k) (hk2 : k ≤ 7) (hg : grp k = true) (hi : idk k = true) (hp : ptk k = false) :
    Calls Try.prog 37 #[.agg (ecells k id gr (x.toNat : Int) lab f).toArray] w fun e w' => e = .returned (.int .i64 (echk k id gr x lab f)) ∧ Below w.heap.size w w' := by
  have hd1 : decide (k < 1) = false := decide_eq_false (by omega)
  have hd2 : decide (7 < k) = false := decide_eq_false (by omega)
  have HPC := hid (fun wx : World => rpcheck_any x lab f wx hf)
  have HG := hid (fun wx : World => rgrp_any k wx)
  have HI := hid (fun wx : World => ridk_any k wx)
  have HP := hid (fun wx : World => rptk_any k wx)
  have HR0 := hid (fun (zg zi bp d1 d2 e1 e2 : Bool) h1 h2 h3 h4 h5 h6 h7 => echk_bool (k := k) (id := id) (gr := gr) (x := x) (lab := lab) (f := f) (zg := zg) (zi := zi) (bp := bp) (d1 := d1) (d2 := d2) (e1 := e1) (e2 := e2) hk1 hk2 hg hi hp h1 h2 h3 h4 h5 h6 h7)
  have B0 := Blk.new w (ecells k id gr (x.toNat : Int) lab f) 29
  obtain ⟨q0, q1, q2⟩ := B0.edit
  have RP := B0.patchE
  have hb := (Below.refl w.heap.size w).alloc (Nat.le_refl _) (.cells (ecells k id gr (x.toNat : Int) lab f).toArray 29)
  obtain ⟨R, hR⟩ : ∃ R, R = echk k id gr x lab f := ⟨_, rfl⟩
  rw [← hR] at HR0 ⊢
  obtain ⟨P, hP⟩ : ∃ P, P = pchk x lab f := ⟨_, rfl⟩
  rw [← hP] at HR0 HPC
  obtain ⟨bp, kbp⟩ : ∃ b, decide ((x.toNat : Int) = 0 ∧ lab = 0 ∧ f = zeros) = b := ⟨_, rfl⟩
  have HEQ : Hid (∀ wx : World, (Op.equalIn 10000 27 (.agg (pcells (x.toNat : Int) lab f).toArray) (.agg (pcells 0 0 zeros).toArray)).run Try.prog wx = .ok bp wx) := hid (fun wx => by rw [eq_patch 9996 _ _ _ _ f zeros hf zeros_len wx, kbp])
  have HPL := hid (pcells_len (x.toNat : Int) lab hf)
  obtain ⟨zg, kzg⟩ : ∃ b, (gr != 0) = b := ⟨_, rfl⟩
  obtain ⟨zi, kzi⟩ : ∃ b, (id != 0) = b := ⟨_, rfl⟩
  obtain ⟨d1, kd1⟩ : ∃ b, decide (gr < 0) = b := ⟨_, rfl⟩
  obtain ⟨d2, kd2⟩ : ∃ b, decide (16 ≤ gr) = b := ⟨_, rfl⟩
  obtain ⟨e1, ke1⟩ : ∃ b, decide (id < 1) = b := ⟨_, rfl⟩
  obtain ⟨e2, ke2⟩ : ∃ b, decide (1073741824 ≤ id) = b := ⟨_, rfl⟩
  have HR := hid (HR0.out zg zi bp d1 d2 e1 e2 kzg kzi kbp kd1 kd2 ke1 ke2)
  rw [hg] at HG
  rw [hi] at HI
  rw [hp] at HP
  have hup := Try.underlying27
  obtain ⟨pc, hpc⟩ : ∃ pc, pc = pcells (x.toNat : Int) lab f := ⟨_, rfl⟩
  rw [← hpc] at RP HEQ HPL HPC
  obtain ⟨ec, hec⟩ : ∃ ec, ec = ecells k id gr (x.toNat : Int) lab f := ⟨_, rfl⟩
  rw [← hec] at q0 q1 q2 RP hb B0 ⊢
  have HEC := hid hec
  have HPC1 := hid hpc
  clear HR0 hpc hec hR hP hg hi hp hk1 hk2 kbp hf
  obtain ⟨zs, hzs⟩ : ∃ zs, zs = pcells 0 0 zeros := ⟨_, rfl⟩
  have HZ := hid zp26
  have HZL := hid (show zs.length = 26 by rw [hzs]; exact pcells_len 0 0 zeros_len)
  have hone : zs.toArray.all (·.oneCell') = true := all_oneCell_toArray (by rw [hzs]; exact pcells_one _ _ _)
  rw [← hzs] at HEQ HZ
  have HZS := hid hzs
  clear hzs
  have Bz := Blk.new (w.alloc (.cells ec.toArray 29)) zs 27
  have hs1 : (w.alloc (.cells ec.toArray 29)).heap.size = w.heap.size + 1 := by simp
  rw [hs1] at Bz
  have TZ := Bz.there 0 26 (by rw [HZL.out]; omega)
  have SZ := Bz.wholeT (ds := zs) rfl
  have BE := Blk.setsOther (b := w.heap.size + 1) (g := w.heap.size) (by omega) zs 0 (B0.alloc (.cells zs.toArray 27))
  have hbZ := below_sets (B := w.heap.size) (b := w.heap.size + 1) (by omega) zs 0 (hb.alloc (by simp) (.cells zs.toArray 27))
  clear Bz hs1 B0
  go_enter Try.func37, Try.ntmps37
  go_wp2_with (first
    | (rw [← HZ.out]
       refine wpList_store_mid rfl 27 (.tmp 3) (.tmp 12) rfl (w.heap.size + 1) 0 zs.toArray rfl (by rw [HZS.out]; rfl) (by simpa [HZL.out] using TZ) (by simpa [HZL.out] using info_patch) hone ?_
       simp only [Act.put]
       generalize hw3 : World.setCells _ (w.heap.size + 1) 0 zs.toArray.toList = w3
       replace SZ : Blk w3 (w.heap.size + 1) zs := hw3 ▸ SZ
       replace BE : Blk w3 w.heap.size ec := hw3 ▸ BE
       replace hb : Below w.heap.size w w3 := hw3 ▸ hbZ
       clear hw3 TZ hbZ q0 q1 q2 RP
       rw [HEC.out] at BE
       obtain ⟨q0, q1, q2⟩ := BE.edit
       have RP := BE.patchE
       rw [← HPC1.out] at RP
       have RZ := SZ.wholeC)
    | fail)
  refine (HG.out _).mono ?_
  rintro e' w' ⟨rfl, rfl⟩
  go_wp2_with fail
  refine (HI.out _).mono ?_
  rintro e' w' ⟨rfl, rfl⟩
  go_wp2_with fail
  refine (HP.out _).mono ?_
  rintro e' w' ⟨rfl, rfl⟩
  cases bp
  · go_wp2_with (first
      | (have RP1 := RP
         refine wpList_load_g (by rfl) 27 (.tmp 39) rfl w.heap.size 3 rfl pc _ RP hup rfl (by rw [HPL.out]; exact info_patch) ?_
         refine wpList_load_g (by rfl) 27 (.tmp 3) rfl (w.heap.size + 1) 0 rfl zs _ RZ hup rfl (by rw [HZL.out]; exact info_patch) ?_
         refine wpList_exec (by rfl) (.bool (!false)) (exec_neq 27 _ (.tmp 40) (.tmp 41) rfl pc.toArray zs.toArray (by rfl) (by rfl) guard_patchE false (HEQ.out _)) ?_
         clear RP RP1)
      | fail)
    go_ret
    exact ⟨by rw [HR.out]; rfl, hb⟩
  · cases d1
    · cases d2
      · go_wp2_with (first
          | (have RP1 := RP
             refine wpList_load_g (by rfl) 27 (.tmp 39) rfl w.heap.size 3 rfl pc _ RP hup rfl (by rw [HPL.out]; exact info_patch) ?_
             refine wpList_load_g (by rfl) 27 (.tmp 3) rfl (w.heap.size + 1) 0 rfl zs _ RZ hup rfl (by rw [HZL.out]; exact info_patch) ?_
             refine wpList_exec (by rfl) (.bool (!true)) (exec_neq 27 _ (.tmp 40) (.tmp 41) rfl pc.toArray zs.toArray (by rfl) (by rfl) guard_patchE true (HEQ.out _)) ?_
             clear RP RP1)
          | fail)
        refine (HI.out _).mono ?_
        rintro e' w' ⟨rfl, rfl⟩
        cases e1
        · cases e2
          · go_wp2_with fail
            refine (HP.out _).mono ?_
            rintro e' w' ⟨rfl, rfl⟩
            go_wp2_with fail
            go_ret
            exact ⟨by rw [HR.out]; rfl, hb⟩
          · go_wp2_with fail
            go_ret
            exact ⟨by rw [HR.out]; rfl, hb⟩
        · go_wp2_with fail
          go_ret
          exact ⟨by rw [HR.out]; rfl, hb⟩
      · go_wp2_with (first
          | (have RP1 := RP
             refine wpList_load_g (by rfl) 27 (.tmp 39) rfl w.heap.size 3 rfl pc _ RP hup rfl (by rw [HPL.out]; exact info_patch) ?_
             refine wpList_load_g (by rfl) 27 (.tmp 3) rfl (w.heap.size + 1) 0 rfl zs _ RZ hup rfl (by rw [HZL.out]; exact info_patch) ?_
             refine wpList_exec (by rfl) (.bool (!true)) (exec_neq 27 _ (.tmp 40) (.tmp 41) rfl pc.toArray zs.toArray (by rfl) (by rfl) guard_patchE true (HEQ.out _)) ?_
             clear RP RP1)
          | fail)
        go_ret
        exact ⟨by rw [HR.out]; rfl, hb⟩
    · go_wp2_with (first
        | (have RP1 := RP
           refine wpList_load_g (by rfl) 27 (.tmp 39) rfl w.heap.size 3 rfl pc _ RP hup rfl (by rw [HPL.out]; exact info_patch) ?_
           refine wpList_load_g (by rfl) 27 (.tmp 3) rfl (w.heap.size + 1) 0 rfl zs _ RZ hup rfl (by rw [HZL.out]; exact info_patch) ?_
           refine wpList_exec (by rfl) (.bool (!true)) (exec_neq 27 _ (.tmp 40) (.tmp 41) rfl pc.toArray zs.toArray (by rfl) (by rfl) guard_patchE true (HEQ.out _)) ?_
           clear RP RP1)
        | fail)
      go_ret
      exact ⟨by rw [HR.out]; rfl, hb⟩
theorem recheck_any (k id gr lab : Int) (x : BitVec 32) (f : List V3) (w : World) (hf : f.length = 8) :
    Calls Try.prog 37 #[.agg (ecells k id gr (x.toNat : Int) lab f).toArray] w fun e w' => e = .returned (.int .i64 (echk k id gr x lab f)) ∧ Below w.heap.size w w' := by
  by_cases hk : 1 ≤ k ∧ k ≤ 7
  · have hc : k = 1 ∨ k = 2 ∨ k = 3 ∨ k = 4 ∨ k = 5 ∨ k = 6 ∨ k = 7 := by omega
    rcases hc with rfl | rfl | rfl | rfl | rfl | rfl | rfl
    · exact recheck_001 _ id gr lab x f w hf (by omega) (by omega) rfl rfl rfl
    · exact recheck_011 _ id gr lab x f w hf (by omega) (by omega) rfl rfl rfl
    · exact recheck_010 _ id gr lab x f w hf (by omega) (by omega) rfl rfl rfl
    · exact recheck_100 _ id gr lab x f w hf (by omega) (by omega) rfl rfl rfl
    · exact recheck_100 _ id gr lab x f w hf (by omega) (by omega) rfl rfl rfl
    · exact recheck_110 _ id gr lab x f w hf (by omega) (by omega) rfl rfl rfl
    · exact recheck_110 _ id gr lab x f w hf (by omega) (by omega) rfl rfl rfl
  · have hR : echk k id gr x lab f = 1 := by unfold echk; rw [if_pos (by omega)]
    rw [hR]
    have B0 := Blk.new w (ecells k id gr (x.toNat : Int) lab f) 29
    obtain ⟨q0, q1, q2⟩ := B0.edit
    have hb := (Below.refl w.heap.size w).alloc (Nat.le_refl _) (.cells (ecells k id gr (x.toNat : Int) lab f).toArray 29)
    obtain ⟨ec, hec⟩ : ∃ ec, ec = ecells k id gr (x.toNat : Int) lab f := ⟨_, rfl⟩
    rw [← hec] at q0 q1 q2 hb ⊢
    clear hec B0 hR
    by_cases h1 : k < 1
    · have hd1 : decide (k < 1) = true := decide_eq_true h1
      clear hk h1
      go_enter Try.func37, Try.ntmps37
      go_wp2_with fail
      go_ret
      exact ⟨rfl, hb⟩
    · have hd1 : decide (k < 1) = false := decide_eq_false h1
      have hd2 : decide (7 < k) = true := decide_eq_true (by omega)
      clear hk h1
      go_enter Try.func37, Try.ntmps37
      go_wp2_with fail
      go_ret
      exact ⟨rfl, hb⟩
end Go.Proofs.Ytnhcjadkbogioaa
namespace Go.Proofs.Ytnhcjadkbogioaa
open Go Go.RowKit OctM
theorem pcells_pre (pre cs : List Value) (n m : Nat) (hp : pre.length = n) (hc : cs.length = m) : (pre ++ cs).toArray.extract n (n + m) = cs.toArray := by
  subst hp hc
  apply Array.toList_inj.1
  simp [List.extract_eq_take_drop]
theorem fieldsE : Try.prog.underlying 29 = some (.struct (Try.prog.fieldsOf 29)) := by kernel_rfl
theorem eq_editC (d : Nat) (k id gr m lab k' id' gr' m' lab' : Int) (f g : List V3) (hf : f.length = 8) (hg : g.length = 8) (w : World) :
    (Op.equalIn (d + 5) 29 (.agg (ecells k id gr m lab f).toArray) (.agg (ecells k' id' gr' m' lab' g).toArray)).run Try.prog w = .ok (decide (k = k' ∧ id = id' ∧ gr = gr' ∧ (m = m' ∧ lab = lab' ∧ f = g))) w := by
  have hsz : ∀ w, (sizeOf 27).run Try.prog w = .ok 26 w := fun w => by kernel_rfl
  have hag : ∀ w, (isAgg 27).run Try.prog w = .ok true w := fun w => by kernel_rfl
  rw [run_equalIn_agg w (d + 4) 29 _ _ fieldsE (by kernel_rfl)]
  have e : (Try.prog.fieldsOf 29).toList = [⟨"Kind", 3, 0, false, "", "", 0⟩, ⟨"ID", 3, 1, false, "", "", 8⟩, ⟨"Group", 3, 2, false, "", "", 16⟩, ⟨"Patch", 27, 3, false, "", "", 24⟩] := by kernel_rfl
  rw [e]
  have px : ∀ (a b c x y : Int) (h : List V3), h.length = 8 → (part 27 (ecells a b c x y h).toArray 3).run Try.prog w = .ok (.agg (pcells x y h).toArray) w := fun a b c x y h hh => by
    simp only [part, Sem.run_bind, hag, Result.andThen_ok, hsz, if_true, Sem.run_pure]
    unfold ecells
    rw [pcells_pre _ _ 3 26 rfl (pcells_len x y hh)]
  have p0 : ∀ (a b c x y : Int) (h : List V3), (part 3 (ecells a b c x y h).toArray 0).run Try.prog w = .ok (.int .i64 a) w := fun a b c x y h => by simp [go_sem, part, isAgg, ecells]
  have p1 : ∀ (a b c x y : Int) (h : List V3), (part 3 (ecells a b c x y h).toArray 1).run Try.prog w = .ok (.int .i64 b) w := fun a b c x y h => by simp [go_sem, part, isAgg, ecells]
  have p2 : ∀ (a b c x y : Int) (h : List V3), (part 3 (ecells a b c x y h).toArray 2).run Try.prog w = .ok (.int .i64 c) w := fun a b c x y h => by simp [go_sem, part, isAgg, ecells]
  have ef := eq_patch d m lab m' lab' f g hf hg w
  have q0 : ∀ a b : Int, (Op.equalIn (d + 4) 3 (.int .i64 a) (.int .i64 b)).run Try.prog w = .ok (a == b) w := fun a b => run_equalIn_int w (d + 3) 3 .i64 .i64 a b Try.underlying3
  simp only [Op.eqFields, if_pos (show ("Kind" : String) ≠ "_" by decide), if_pos (show ("ID" : String) ≠ "_" by decide), if_pos (show ("Group" : String) ≠ "_" by decide), if_pos (show ("Patch" : String) ≠ "_" by decide)]
  simp only [Sem.run_bind, Sem.run_ite, Sem.run_pure, px _ _ _ _ _ f hf, px _ _ _ _ _ g hg, p0, p1, p2, q0, ef, Result.andThen_ok]
  by_cases h1 : k = k' <;> by_cases h2 : id = id' <;> by_cases h3 : gr = gr' <;> by_cases h4 : m = m' ∧ lab = lab' ∧ f = g <;> simp [h1, h2, h3, h4]
def cz (x : Cm) : Prop := x.f.length = 0 ∧ ez x ∧ pz x ∧ x.ms.toNat = 0 ∧ x.dv = 0 ∧ x.rq = 0 ∧ x.id = 0 ∧ x.bs = 0 ∧ x.kp = 0
instance (x : Cm) : Decidable (cz x) := by unfold cz; infer_instance
theorem cmE_len {x : Cm} (h : x.ef.length = 8) : (cmE x).length = 29 := ecells_len _ _ _ _ _ h
theorem cmP_len {x : Cm} (h : x.pf.length = 8) : (cmP x).length = 26 := pcells_len _ _ h
theorem info_cm : (Try.prog.info? 32).map (·.size) = some 63 := by kernel_rfl
theorem below_a1C (w : World) (o : Obj) : Below w.heap.size w (w.alloc o) := (Below.refl _ _).alloc (Nat.le_refl _) _
theorem czero_any (x : Cm) (w : World) (h : okCm w x) :
    Calls Try.prog 47 #[.agg (cmc x).toArray] w fun e w' => e = .returned (.bool (decide (cz x))) ∧ Below w.heap.size w w' := by
  have hue := Try.underlying29
  have hup := Try.underlying27
  have HEQE : Hid (∀ wx : World, (Op.equalIn 10000 29 (.agg (cmE x).toArray) (.agg (ecells 0 0 0 0 0 zeros).toArray)).run Try.prog wx = .ok (decide (ez x)) wx) := hid (fun wx => eq_editC 9995 _ _ _ _ _ 0 0 0 0 0 _ zeros h.e8 zeros_len wx)
  have HEQP : Hid (∀ wx : World, (Op.equalIn 10000 27 (.agg (cmP x).toArray) (.agg (pcells 0 0 zeros).toArray)).run Try.prog wx = .ok (decide (pz x)) wx) := hid (fun wx => eq_patch 9996 _ _ 0 0 _ zeros h.p8 zeros_len wx)
  have HEL := hid (cmE_len h.e8)
  have HPL := hid (cmP_len h.p8)
  have B0 := Blk.new w (cmc x) 32
  have HB := hid (below_a1C w (.cells (cmc x).toArray 32))
  have RE := B0.range 1 (cmE x) (cm_edit h.e8 h.p8)
  have RP := B0.range 35 (cmP x) (cm_patch h.e8 h.p8)
  obtain ⟨a0, a30, a31, a32, a33, a34, a61, a62⟩ := cm_at h.e8 h.p8
  have q30 := B0.cell a30
  have q31 := B0.cell a31
  have q32 := B0.cell a32
  have q33 := B0.cell a33
  have q34 := B0.cell a34
  have q61 := B0.cell a61
  have q62 := B0.cell a62
  have HLN := hid h.len
  obtain ⟨R, hR⟩ : ∃ R, R = decide (cz x) := ⟨_, rfl⟩
  rw [← hR]
  have HR := hid hR
  obtain ⟨pe, hpe⟩ : ∃ p : Bool, p = decide (ez x) := ⟨_, rfl⟩
  obtain ⟨pp, hpp⟩ : ∃ p : Bool, p = decide (pz x) := ⟨_, rfl⟩
  rw [← hpe] at HEQE
  rw [← hpp] at HEQP
  have HPE : Hid (pe = true ↔ ez x) := hid (by rw [hpe]; exact decide_eq_true_iff)
  have HPP : Hid (pp = true ↔ pz x) := hid (by rw [hpp]; exact decide_eq_true_iff)
  obtain ⟨xc, hxc⟩ : ∃ c, c = cmc x := ⟨_, rfl⟩
  obtain ⟨xe, hxe⟩ : ∃ c, c = cmE x := ⟨_, rfl⟩
  obtain ⟨xp, hxp⟩ : ∃ c, c = cmP x := ⟨_, rfl⟩
  rw [← hxc] at B0 HB RE RP q30 q31 q32 q33 q34 q61 q62 ⊢
  rw [← hxe] at HEQE HEL RE
  rw [← hxp] at HEQP HPL RP
  clear hxc hxe hxp hpe hpp hR a0 a30 a31 a32 a33 a34 a61 a62 B0 h
  by_cases c_f : x.n = 0
  · by_cases c_E : ez x
    · by_cases c_P : pz x
      · by_cases c_ms : x.ms.toNat = 0
        · by_cases c_dv : x.dv = 0
          · by_cases c_rq : x.rq = 0
            · by_cases c_id : x.id = 0
              · by_cases c_bs : x.bs = 0
                · by_cases c_kp : x.kp = 0
                  · have HT : R = true := by rw [HR.out]; exact decide_eq_true ⟨HLN.out.trans c_f, c_E, c_P, c_ms, c_dv, c_rq, c_id, c_bs, c_kp⟩
                    have HT := hid HT
                    have t_f : ((x.n : Int) == 0) = true := by simp [c_f]
                    have t_ms : ((x.ms.toNat : Int) == 0) = true := by simp [c_ms]
                    have t_dv : (x.dv == 0) = true := by simp [c_dv]
                    have t_rq : (x.rq == 0) = true := by simp [c_rq]
                    have t_id : (x.id == 0) = true := by simp [c_id]
                    have t_bs : (x.bs == 0) = true := by simp [c_bs]
                    have t_kp : (x.kp == 0) = true := by simp [c_kp]
                    have hpe : pe = true := HPE.out.2 c_E
                    have hpp : pp = true := HPP.out.2 c_P
                    subst hpe hpp
                    clear c_f c_E c_P c_ms c_dv c_rq c_id c_bs c_kp
                    go_enter Try.func47, Try.ntmps47
                    go_wp2_with (first
                      | (refine wpList_load_g (by rfl) 29 (.tmp 8) rfl w.heap.size 1 rfl xe _ RE hue rfl (by rw [HEL.out]; exact info_edit) ?_
                         simp only [pq4])
                      | (refine wpList_load_g (by rfl) 27 (.tmp 14) rfl w.heap.size 35 rfl xp _ RP hup rfl (by rw [HPL.out]; exact info_patch) ?_
                         simp only [pq4])
                      | (refine wpList_exec (by rfl) (.bool true) (exec_eql 29 29 (.tmp 9) (.tmp 10) rfl xe.toArray (ecells 0 0 0 0 0 zeros).toArray rfl rfl (by kernel_rfl) true (HEQE.out _)) ?_
                         simp only [pq4])
                      | (refine wpList_exec (by rfl) (.bool true) (exec_eql 27 27 (.tmp 15) (.tmp 16) rfl xp.toArray (pcells 0 0 zeros).toArray rfl rfl (by kernel_rfl) true (HEQP.out _)) ?_
                         simp only [pq4])
                      | fail)
                    go_ret
                    exact ⟨by first | rfl | (rw [HT.out]; rfl), HB.out⟩
                  · have HT : R = false := by rw [HR.out]; exact decide_eq_false (fun e => c_kp (e.2.2.2.2.2.2.2.2))
                    have HT := hid HT
                    have t_f : ((x.n : Int) == 0) = true := by simp [c_f]
                    have t_ms : ((x.ms.toNat : Int) == 0) = true := by simp [c_ms]
                    have t_dv : (x.dv == 0) = true := by simp [c_dv]
                    have t_rq : (x.rq == 0) = true := by simp [c_rq]
                    have t_id : (x.id == 0) = true := by simp [c_id]
                    have t_bs : (x.bs == 0) = true := by simp [c_bs]
                    have t_kp : (x.kp == 0) = false := by simp [c_kp]
                    have hpe : pe = true := HPE.out.2 c_E
                    subst hpe
                    have hpp : pp = true := HPP.out.2 c_P
                    subst hpp
                    clear c_f c_E c_P c_ms c_dv c_rq c_id c_bs c_kp
                    go_enter Try.func47, Try.ntmps47
                    go_wp2_with (first
                      | (refine wpList_load_g (by rfl) 29 (.tmp 8) rfl w.heap.size 1 rfl xe _ RE hue rfl (by rw [HEL.out]; exact info_edit) ?_
                         simp only [pq4])
                      | (refine wpList_load_g (by rfl) 27 (.tmp 14) rfl w.heap.size 35 rfl xp _ RP hup rfl (by rw [HPL.out]; exact info_patch) ?_
                         simp only [pq4])
                      | (refine wpList_exec (by rfl) (.bool true) (exec_eql 29 29 (.tmp 9) (.tmp 10) rfl xe.toArray (ecells 0 0 0 0 0 zeros).toArray rfl rfl (by kernel_rfl) true (HEQE.out _)) ?_
                         simp only [pq4])
                      | (refine wpList_exec (by rfl) (.bool true) (exec_eql 27 27 (.tmp 15) (.tmp 16) rfl xp.toArray (pcells 0 0 zeros).toArray rfl rfl (by kernel_rfl) true (HEQP.out _)) ?_
                         simp only [pq4])
                      | fail)
                    go_ret
                    exact ⟨by first | rfl | (rw [HT.out]; rfl), HB.out⟩
                · have HT : R = false := by rw [HR.out]; exact decide_eq_false (fun e => c_bs (e.2.2.2.2.2.2.2.1))
                  have HT := hid HT
                  have t_f : ((x.n : Int) == 0) = true := by simp [c_f]
                  have t_ms : ((x.ms.toNat : Int) == 0) = true := by simp [c_ms]
                  have t_dv : (x.dv == 0) = true := by simp [c_dv]
                  have t_rq : (x.rq == 0) = true := by simp [c_rq]
                  have t_id : (x.id == 0) = true := by simp [c_id]
                  have t_bs : (x.bs == 0) = false := by simp [c_bs]
                  have hpe : pe = true := HPE.out.2 c_E
                  subst hpe
                  have hpp : pp = true := HPP.out.2 c_P
                  subst hpp
                  clear c_f c_E c_P c_ms c_dv c_rq c_id c_bs
                  go_enter Try.func47, Try.ntmps47
                  go_wp2_with (first
                    | (refine wpList_load_g (by rfl) 29 (.tmp 8) rfl w.heap.size 1 rfl xe _ RE hue rfl (by rw [HEL.out]; exact info_edit) ?_
                       simp only [pq4])
                    | (refine wpList_load_g (by rfl) 27 (.tmp 14) rfl w.heap.size 35 rfl xp _ RP hup rfl (by rw [HPL.out]; exact info_patch) ?_
                       simp only [pq4])
                    | (refine wpList_exec (by rfl) (.bool true) (exec_eql 29 29 (.tmp 9) (.tmp 10) rfl xe.toArray (ecells 0 0 0 0 0 zeros).toArray rfl rfl (by kernel_rfl) true (HEQE.out _)) ?_
                       simp only [pq4])
                    | (refine wpList_exec (by rfl) (.bool true) (exec_eql 27 27 (.tmp 15) (.tmp 16) rfl xp.toArray (pcells 0 0 zeros).toArray rfl rfl (by kernel_rfl) true (HEQP.out _)) ?_
                       simp only [pq4])
                    | fail)
                  go_ret
                  exact ⟨by first | rfl | (rw [HT.out]; rfl), HB.out⟩
              · have HT : R = false := by rw [HR.out]; exact decide_eq_false (fun e => c_id (e.2.2.2.2.2.2.1))
                have HT := hid HT
                have t_f : ((x.n : Int) == 0) = true := by simp [c_f]
                have t_ms : ((x.ms.toNat : Int) == 0) = true := by simp [c_ms]
                have t_dv : (x.dv == 0) = true := by simp [c_dv]
                have t_rq : (x.rq == 0) = true := by simp [c_rq]
                have t_id : (x.id == 0) = false := by simp [c_id]
                have hpe : pe = true := HPE.out.2 c_E
                subst hpe
                have hpp : pp = true := HPP.out.2 c_P
                subst hpp
                clear c_f c_E c_P c_ms c_dv c_rq c_id
                go_enter Try.func47, Try.ntmps47
                go_wp2_with (first
                  | (refine wpList_load_g (by rfl) 29 (.tmp 8) rfl w.heap.size 1 rfl xe _ RE hue rfl (by rw [HEL.out]; exact info_edit) ?_
                     simp only [pq4])
                  | (refine wpList_load_g (by rfl) 27 (.tmp 14) rfl w.heap.size 35 rfl xp _ RP hup rfl (by rw [HPL.out]; exact info_patch) ?_
                     simp only [pq4])
                  | (refine wpList_exec (by rfl) (.bool true) (exec_eql 29 29 (.tmp 9) (.tmp 10) rfl xe.toArray (ecells 0 0 0 0 0 zeros).toArray rfl rfl (by kernel_rfl) true (HEQE.out _)) ?_
                     simp only [pq4])
                  | (refine wpList_exec (by rfl) (.bool true) (exec_eql 27 27 (.tmp 15) (.tmp 16) rfl xp.toArray (pcells 0 0 zeros).toArray rfl rfl (by kernel_rfl) true (HEQP.out _)) ?_
                     simp only [pq4])
                  | fail)
                go_ret
                exact ⟨by first | rfl | (rw [HT.out]; rfl), HB.out⟩
            · have HT : R = false := by rw [HR.out]; exact decide_eq_false (fun e => c_rq (e.2.2.2.2.2.1))
              have HT := hid HT
              have t_f : ((x.n : Int) == 0) = true := by simp [c_f]
              have t_ms : ((x.ms.toNat : Int) == 0) = true := by simp [c_ms]
              have t_dv : (x.dv == 0) = true := by simp [c_dv]
              have t_rq : (x.rq == 0) = false := by simp [c_rq]
              have hpe : pe = true := HPE.out.2 c_E
              subst hpe
              have hpp : pp = true := HPP.out.2 c_P
              subst hpp
              clear c_f c_E c_P c_ms c_dv c_rq
              go_enter Try.func47, Try.ntmps47
              go_wp2_with (first
                | (refine wpList_load_g (by rfl) 29 (.tmp 8) rfl w.heap.size 1 rfl xe _ RE hue rfl (by rw [HEL.out]; exact info_edit) ?_
                   simp only [pq4])
                | (refine wpList_load_g (by rfl) 27 (.tmp 14) rfl w.heap.size 35 rfl xp _ RP hup rfl (by rw [HPL.out]; exact info_patch) ?_
                   simp only [pq4])
                | (refine wpList_exec (by rfl) (.bool true) (exec_eql 29 29 (.tmp 9) (.tmp 10) rfl xe.toArray (ecells 0 0 0 0 0 zeros).toArray rfl rfl (by kernel_rfl) true (HEQE.out _)) ?_
                   simp only [pq4])
                | (refine wpList_exec (by rfl) (.bool true) (exec_eql 27 27 (.tmp 15) (.tmp 16) rfl xp.toArray (pcells 0 0 zeros).toArray rfl rfl (by kernel_rfl) true (HEQP.out _)) ?_
                   simp only [pq4])
                | fail)
              go_ret
              exact ⟨by first | rfl | (rw [HT.out]; rfl), HB.out⟩
          · have HT : R = false := by rw [HR.out]; exact decide_eq_false (fun e => c_dv (e.2.2.2.2.1))
            have HT := hid HT
            have t_f : ((x.n : Int) == 0) = true := by simp [c_f]
            have t_ms : ((x.ms.toNat : Int) == 0) = true := by simp [c_ms]
            have t_dv : (x.dv == 0) = false := by simp [c_dv]
            have hpe : pe = true := HPE.out.2 c_E
            subst hpe
            have hpp : pp = true := HPP.out.2 c_P
            subst hpp
            clear c_f c_E c_P c_ms c_dv
            go_enter Try.func47, Try.ntmps47
            go_wp2_with (first
              | (refine wpList_load_g (by rfl) 29 (.tmp 8) rfl w.heap.size 1 rfl xe _ RE hue rfl (by rw [HEL.out]; exact info_edit) ?_
                 simp only [pq4])
              | (refine wpList_load_g (by rfl) 27 (.tmp 14) rfl w.heap.size 35 rfl xp _ RP hup rfl (by rw [HPL.out]; exact info_patch) ?_
                 simp only [pq4])
              | (refine wpList_exec (by rfl) (.bool true) (exec_eql 29 29 (.tmp 9) (.tmp 10) rfl xe.toArray (ecells 0 0 0 0 0 zeros).toArray rfl rfl (by kernel_rfl) true (HEQE.out _)) ?_
                 simp only [pq4])
              | (refine wpList_exec (by rfl) (.bool true) (exec_eql 27 27 (.tmp 15) (.tmp 16) rfl xp.toArray (pcells 0 0 zeros).toArray rfl rfl (by kernel_rfl) true (HEQP.out _)) ?_
                 simp only [pq4])
              | fail)
            go_ret
            exact ⟨by first | rfl | (rw [HT.out]; rfl), HB.out⟩
        · have HT : R = false := by rw [HR.out]; exact decide_eq_false (fun e => c_ms (e.2.2.2.1))
          have HT := hid HT
          have t_f : ((x.n : Int) == 0) = true := by simp [c_f]
          have t_ms : ((x.ms.toNat : Int) == 0) = false := by simp [c_ms]
          have hpe : pe = true := HPE.out.2 c_E
          subst hpe
          have hpp : pp = true := HPP.out.2 c_P
          subst hpp
          clear c_f c_E c_P c_ms
          go_enter Try.func47, Try.ntmps47
          go_wp2_with (first
            | (refine wpList_load_g (by rfl) 29 (.tmp 8) rfl w.heap.size 1 rfl xe _ RE hue rfl (by rw [HEL.out]; exact info_edit) ?_
               simp only [pq4])
            | (refine wpList_load_g (by rfl) 27 (.tmp 14) rfl w.heap.size 35 rfl xp _ RP hup rfl (by rw [HPL.out]; exact info_patch) ?_
               simp only [pq4])
            | (refine wpList_exec (by rfl) (.bool true) (exec_eql 29 29 (.tmp 9) (.tmp 10) rfl xe.toArray (ecells 0 0 0 0 0 zeros).toArray rfl rfl (by kernel_rfl) true (HEQE.out _)) ?_
               simp only [pq4])
            | (refine wpList_exec (by rfl) (.bool true) (exec_eql 27 27 (.tmp 15) (.tmp 16) rfl xp.toArray (pcells 0 0 zeros).toArray rfl rfl (by kernel_rfl) true (HEQP.out _)) ?_
               simp only [pq4])
            | fail)
          go_ret
          exact ⟨by first | rfl | (rw [HT.out]; rfl), HB.out⟩
      · have HT : R = false := by rw [HR.out]; exact decide_eq_false (fun e => c_P (e.2.2.1))
        have HT := hid HT
        have t_f : ((x.n : Int) == 0) = true := by simp [c_f]
        have hpe : pe = true := HPE.out.2 c_E
        subst hpe
        have hpp : pp = false := by cases pp with | false => rfl | true => exact absurd (HPP.out.1 rfl) c_P
        subst hpp
        clear c_f c_E c_P
        go_enter Try.func47, Try.ntmps47
        go_wp2_with (first
          | (refine wpList_load_g (by rfl) 29 (.tmp 8) rfl w.heap.size 1 rfl xe _ RE hue rfl (by rw [HEL.out]; exact info_edit) ?_
             simp only [pq4])
          | (refine wpList_load_g (by rfl) 27 (.tmp 14) rfl w.heap.size 35 rfl xp _ RP hup rfl (by rw [HPL.out]; exact info_patch) ?_
             simp only [pq4])
          | (refine wpList_exec (by rfl) (.bool true) (exec_eql 29 29 (.tmp 9) (.tmp 10) rfl xe.toArray (ecells 0 0 0 0 0 zeros).toArray rfl rfl (by kernel_rfl) true (HEQE.out _)) ?_
             simp only [pq4])
          | (refine wpList_exec (by rfl) (.bool false) (exec_eql 27 27 (.tmp 15) (.tmp 16) rfl xp.toArray (pcells 0 0 zeros).toArray rfl rfl (by kernel_rfl) false (HEQP.out _)) ?_
             simp only [pq4])
          | fail)
        go_ret
        exact ⟨by first | rfl | (rw [HT.out]; rfl), HB.out⟩
    · have HT : R = false := by rw [HR.out]; exact decide_eq_false (fun e => c_E (e.2.1))
      have HT := hid HT
      have t_f : ((x.n : Int) == 0) = true := by simp [c_f]
      have hpe : pe = false := by cases pe with | false => rfl | true => exact absurd (HPE.out.1 rfl) c_E
      subst hpe
      clear c_f c_E
      go_enter Try.func47, Try.ntmps47
      go_wp2_with (first
        | (refine wpList_load_g (by rfl) 29 (.tmp 8) rfl w.heap.size 1 rfl xe _ RE hue rfl (by rw [HEL.out]; exact info_edit) ?_
           simp only [pq4])
        | (refine wpList_exec (by rfl) (.bool false) (exec_eql 29 29 (.tmp 9) (.tmp 10) rfl xe.toArray (ecells 0 0 0 0 0 zeros).toArray rfl rfl (by kernel_rfl) false (HEQE.out _)) ?_
           simp only [pq4])
        | fail)
      go_ret
      exact ⟨by first | rfl | (rw [HT.out]; rfl), HB.out⟩
  · have HT : R = false := by rw [HR.out]; exact decide_eq_false (fun e => c_f (HLN.out.symm.trans e.1))
    have HT := hid HT
    have t_f : ((x.n : Int) == 0) = false := by simp [c_f]
    clear c_f
    go_enter Try.func47, Try.ntmps47
    go_wp2_with fail
    go_ret
    exact ⟨by first | rfl | (rw [HT.out]; rfl), HB.out⟩
end Go.Proofs.Ytnhcjadkbogioaa
