/- Edits as they are read of bytes: the document's: the walk. -/
import Derived.Test.YtnhcjadkbogioaaGreatM19
import Derived.Test.YtnhcjadkbogioaaGreatM15
import Derived.Test.YtnhcjadkbogioaaGreatM9
set_option maxRecDepth 100000
set_option maxHeartbeats 6400000
namespace Go.Proofs.YtnhcjadkbogioaaGreat
set_option linter.unusedVariables false
set_option linter.unusedSimpArgs false
open Go Go.RowKit OctM BitM
theorem rr_above (base g : Nat) (l : List UInt8) (a : Nat) (e y : Int) (w : World) (h : Rr w base g (l.drop a) e) (hm : l.length ≤ 4000) :
    Calls Tryz.prog 20 #[.pointer (some ⟨g, 0, none⟩), .int .i64 y] w fun x w' => x = .returned (.int .i64 ((numOut l a e y).1 : Nat)) ∧ Rr w' base g (l.drop (numOut l a e y).2.1) (if (numOut l a e y).1 = 0 then failOut (numOut l a e y).2.2 3 else (numOut l a e y).2.2) ∧ w.grownBy w' (some g) := by
  have H1 := hid (rr_numd base g l a e y w h hm)
  obtain ⟨r1, hr1⟩ : ∃ r, r = numOut l a e y := ⟨_, rfl⟩
  rw [← hr1] at H1 ⊢
  clear hr1 h hm
  obtain ⟨v1, a1, e1⟩ := r1
  simp only at H1 ⊢
  have HF : Hid (∀ wx, Rr wx base g (l.drop a1) e1 → Calls Tryz.prog 49 #[.pointer (some ⟨g, 0, none⟩), .int .i64 3] wx fun x w' => x = .returned (.tuple #[]) ∧ Rr w' base g (l.drop a1) (failOut e1 3) ∧ wx.grownBy w' (some g)) := hid fun wx hx => rr_fail base g (l.drop a1) e1 3 wx hx
  obtain ⟨E, hE⟩ : ∃ z, z = (if v1 = 0 then failOut e1 3 else e1) := ⟨_, rfl⟩
  rw [← hE]
  obtain ⟨bz, hbz⟩ : ∃ b, b = (((v1 : Nat) : Int) == 0) := ⟨_, rfl⟩
  obtain ⟨be, hbe⟩ : ∃ b, b = (e1 == 0) := ⟨_, rfl⟩
  have ke : (e1 == 0) = be := hbe.symm
  have kz : (((v1 : Nat) : Int) == 0) = bz := hbz.symm
  cases be
  · have HE : Hid (E = e1) := Lib.hid (by rw [hE]; have : e1 ≠ 0 := by simpa using hbe.symm
                                          unfold failOut; rw [if_neg this]; split <;> rfl)
    clear hE hbz hbe kz
    go_enter Tryz.func20, Tryz.ntmps20
    go_wp2_with fail
    refine H1.out.mono ?_
    rintro x w1 ⟨rfl, R1, G1⟩
    obtain ⟨q0, q1, f0, f1⟩ := R1.facts
    go_wp2_with fail
    go_ret
    exact ⟨rfl, by rw [HE.out]; exact R1, G1⟩
  · cases bz
    · have HE : Hid (E = e1) := hid (by rw [hE]; exact if_neg (by simpa using hbz))
      clear hE hbz hbe
      go_enter Tryz.func20, Tryz.ntmps20
      go_wp2_with fail
      refine H1.out.mono ?_
      rintro x w1 ⟨rfl, R1, G1⟩
      obtain ⟨q0, q1, f0, f1⟩ := R1.facts
      go_wp2_with fail
      go_ret
      exact ⟨rfl, by rw [HE.out]; exact R1, G1⟩
    · have HE : Hid (E = failOut e1 3) := hid (by rw [hE]; exact if_pos (by simpa using hbz))
      clear hE hbz hbe
      go_enter Tryz.func20, Tryz.ntmps20
      go_wp2_with fail
      refine H1.out.mono ?_
      rintro x w1 ⟨rfl, R1, G1⟩
      obtain ⟨q0, q1, f0, f1⟩ := R1.facts
      go_wp2_with fail
      refine (HF.out _ R1).mono ?_
      rintro x w2 ⟨rfl, R2, G2⟩
      clear q0 q1 f0 f1
      go_wp2_with fail
      go_ret
      exact ⟨rfl, by rw [HE.out]; exact R2, G1.trans G2⟩
theorem rr_abvE (base g : Nat) (l : List UInt8) (a : Nat) (e y : Int) (w : World) (h : Rr w base g (l.drop a) e) (hm : l.length ≤ 4000) :
    Calls Tryz.prog 20 #[.pointer (some ⟨g, 0, none⟩), .int .i64 y] w fun x w' => x = .returned (.int .i64 ((abvOut l a e y).1 : Nat)) ∧ Rr w' base g (l.drop (abvOut l a e y).2.1) (abvOut l a e y).2.2 ∧ w.grownBy w' (some g) := rr_above base g l a e y w h hm
theorem rr_patchE (base g : Nat) (l : List UInt8) (a : Nat) (e : Int) (w : World) (h : Rr w base g (l.drop a) e) (ha : a ≤ l.length) (hm : l.length ≤ 4000) :
    Calls Tryz.prog 23 #[.pointer (some ⟨g, 0, none⟩)] w fun x w' => x = .returned (.agg (pc3 (patOut l a e).1).toArray) ∧ Rr w' base g (l.drop (patOut l a e).2.1) (patOut l a e).2.2 ∧ w.grownBy w' (some g) := by
  have hgl := h.block.2
  have HPT := hid (fun wx (hx : Rr wx base g (l.drop a) e) => rr_patch base g l a e wx hx ha hm)
  have hx0 := patOut_mask l a e
  have hf := patOut_len l a e
  have hck := fun h0 => pat_only (l := l) (a := a) (e := e) h0
  have hz : (patOut l a e).2.2 ≠ 0 → (patOut l a e).1 = (0, 0, zeros) := fun h0 => by
    unfold patOut at h0 ⊢
    simp only at h0 ⊢
    rw [if_neg h0]
  obtain ⟨rP, hP⟩ : ∃ r, r = patOut l a e := ⟨_, rfl⟩
  rw [← hP] at HPT hx0 hf hck hz ⊢
  obtain ⟨⟨mP, lab, f⟩, aP, eP⟩ := rP
  simp only at HPT hx0 hf hck hz ⊢
  obtain ⟨x, rfl⟩ := hx0
  have HCK0 : Hid (eP = 0 → pchk x lab f = 0) := hid fun h0 => by
    obtain ⟨x', g1, g2, _⟩ := hck h0
    obtain rfl : x = x' := BitVec.eq_of_toNat_eq (by exact_mod_cast g1)
    exact g2
  have HC := hid (fun wx : World => rpcheck_any x lab f wx hf)
  obtain ⟨ck, hck2⟩ : ∃ z, z = pchk x lab f := ⟨_, rfl⟩
  rw [← hck2] at HC HCK0
  obtain ⟨pc, hpc⟩ : ∃ pc, pc = pcells (x.toNat : Int) lab f := ⟨_, rfl⟩
  rw [show pc3 ((x.toNat : Int), lab, f) = pc from hpc.symm] at HPT ⊢
  rw [← hpc] at HC
  have HPL := hid (show pc.length = 26 by rw [hpc]; exact pcells_len _ _ hf)
  have O5 : pc.toArray.all (·.oneCell') = true := all_oneCell_toArray (by rw [hpc]; exact pcells_one _ _ _)
  obtain ⟨zs, hzs⟩ : ∃ zs, zs = pcells 0 0 zeros := ⟨_, rfl⟩
  have HZE : Hid (eP ≠ 0 → pc = zs) := hid fun h0 => by
    have h2 := hz h0
    rw [hpc, hzs]
    injection h2 with h3 h4
    injection h4 with h5 h6
    rw [h3, h5, h6]
  have HZ := hid zp26
  have HZL := hid (show zs.length = 26 by rw [hzs]; exact pcells_len 0 0 zeros_len)
  have O8 : zs.toArray.all (·.oneCell') = true := all_oneCell_toArray (by rw [hzs]; exact pcells_one _ _ _)
  rw [← hzs] at HZ
  have HZS := hid hzs
  have B1 := Blk.new w zs 36
  have hw0 : Below w.heap.size w (w.alloc (.cells zs.toArray 36)) := (Below.refl w.heap.size w).alloc (Nat.le_refl _) _
  have R0 := h.later hw0
  have G0 : w.grownBy (w.alloc (.cells zs.toArray 36)) (some g) := grown_none hw0 _
  have hsz : w.heap.size + 1 ≤ (w.alloc (.cells zs.toArray 36)).heap.size := by simp
  generalize hW : w.alloc (.cells zs.toArray 36) = W at *
  have HW := hid hW
  have ne1 : (some g : Option Nat) ≠ some w.heap.size := by simp; omega
  have hu := Tryz.underlying36
  clear hck hz hP hpc hzs hck2 hf hW hw0 h ha hm
  obtain ⟨r, hr⟩ : ∃ r, r = w.heap.size := ⟨_, rfl⟩
  go_enter Tryz.func23, Tryz.ntmps23
  go_wp2_with fail
  rw [← HZ.out, HW.out]
  have hwr : w.heap.size ≤ r := by omega
  rw [← hr] at B1 hsz ne1 hgl
  rw [← hr]
  clear hr HW
  refine (HPT.out _ R0).mono ?_
  rintro e' w1 ⟨rfl, R1, G1⟩
  replace B1 := B1.kept G1 ne1
  have hs2 := G1.size
  replace G1 := G0.trans G1
  have B3 := Blk.new w1 zs 36
  have T3 := B3.there 0 26 (by rw [HZL.out]; omega)
  have S3 := B3.wholeT (ds := pc) (by rw [HPL.out, HZL.out])
  have LE3 : Le w1 (World.setCells (w1.alloc (.cells zs.toArray 36)) w1.heap.size 0 pc) := below_sets (Nat.le_refl _) _ 0 ((Below.refl w1.heap.size w1).alloc (Nat.le_refl _) _)
  obtain ⟨gC, hgC⟩ : ∃ z, z = w1.heap.size := ⟨_, rfl⟩
  rw [← hgC] at T3 S3 LE3 hs2
  have HG3 := hid hgC
  have hgC2 : r + 1 ≤ gC := by omega
  clear hgC B3 R0 G0 hs2 hsz
  by_cases e0 : eP = 0
  · have ke : (eP == 0) = true := by simpa using e0
    have kn : (eP != 0) = false := by simpa using e0
    have ce : (ck != 0) = false := by simpa using HCK0.out e0
    clear e0 HCK0 HZE
    go_wp2_with (first
      | (rw [← HZ.out, ← HG3.out]
         refine wpList_store_mid rfl 36 (.tmp 3) (.tmp 5) rfl gC 0 pc.toArray rfl rfl (by simpa [HPL.out] using T3) (by simpa [HPL.out] using info_patch) O5 ?_
         simp only [Act.put]
         generalize hw3 : World.setCells _ gC 0 pc.toArray.toList = w3
         have S4 : Blk w3 gC pc := hw3 ▸ S3
         have LE3' : Le w1 w3 := hw3 ▸ LE3
         clear hw3 T3 S3 LE3
         have R4 := R1.later LE3'
         have B4 := B1.later LE3'
         have G4 := G1.trans (grown_none LE3' _)
         have RG := S4.wholeC
         obtain ⟨y0, y1, y2, y3⟩ := R4.facts
         clear R1 B1 G1 LE3')
      | (refine wpList_load_g (by rfl) 36 (.tmp 3) rfl gC 0 rfl pc _ RG hu rfl (by rw [HPL.out]; exact info_patch) ?_)
      | fail)
    refine (HC.out _).mono ?_
    rintro e' w7 ⟨rfl, hb7⟩
    have R7 := R4.later hb7
    have S7 := S4.later hb7
    have B7 := B4.later hb7
    have G7 := G4.trans (grown_none hb7 _)
    have T8 := B7.there 0 26 (by rw [HZL.out]; omega)
    have FIN := B7.wholeT (ds := pc) (by rw [HPL.out, HZL.out])
    have R9 := R7.off (grown_sets4 r pc 0 w7) (by omega)
    have G9 := grown_new G7 (grown_sets4 r pc 0 w7) (by omega)
    clear R4 S4 B4 G4 RG hb7 y0 y1 y2 y3
    have RG := S7.wholeC
    obtain ⟨y0, y1, y2, y3⟩ := R7.facts
    clear R7 S7 B7 G7
    go_wp2_with (first
      | (refine wpList_load_mid rfl 36 (.tmp 3) rfl gC 0 rfl pc _ RG hu rfl (by rw [HPL.out]; exact info_patch) ?_)
      | (refine wpList_store_mid rfl 36 (.tmp 2) (.tmp 24) rfl r 0 pc.toArray rfl rfl (by simpa [HPL.out] using T8) (by simpa [HPL.out] using info_patch) O5 ?_)
      | fail)
    exact bodyPost_ret (v := .agg pc.toArray) (tok_results (q := 2) rfl _ _ r pc _ rfl FIN hu rfl (by rw [HPL.out]; exact info_patch)) rfl ⟨rfl, R9, G9⟩
  · have ke : (eP == 0) = false := by simpa using e0
    have kn : (eP != 0) = true := by simpa using e0
    have HZF := hid (HZE.out e0)
    clear e0 HCK0 HZE
    go_wp2_with (first
      | (rw [← HZ.out, ← HG3.out]
         refine wpList_store_mid rfl 36 (.tmp 3) (.tmp 5) rfl gC 0 pc.toArray rfl rfl (by simpa [HPL.out] using T3) (by simpa [HPL.out] using info_patch) O5 ?_
         simp only [Act.put]
         generalize hw3 : World.setCells _ gC 0 pc.toArray.toList = w3
         have LE3' : Le w1 w3 := hw3 ▸ LE3
         clear hw3 T3 S3 LE3
         have R7 := R1.later LE3'
         have B7 := B1.later LE3'
         have G7 := G1.trans (grown_none LE3' _)
         have T8 := B7.there 0 26 (by rw [HZL.out]; omega)
         have FIN := B7.wholeT (ds := zs) rfl
         have R9 := R7.off (grown_sets4 r zs 0 w3) (by omega)
         have G9 := grown_new G7 (grown_sets4 r zs 0 w3) (by omega)
         obtain ⟨y0, y1, y2, y3⟩ := R7.facts
         clear R1 B1 G1 LE3' R7 B7 G7)
      | (refine wpList_store_mid rfl 36 (.tmp 2) (.tmp 23) rfl r 0 zs.toArray rfl (by rw [HZS.out]; rfl) (by simpa [HZL.out] using T8) (by simpa [HZL.out] using info_patch) O8 ?_)
      | fail)
    exact bodyPost_ret (v := .agg zs.toArray) (tok_results (q := 2) rfl _ _ r zs _ rfl FIN hu rfl (by rw [HZL.out]; exact info_patch)) rfl ⟨by rw [HZF.out], R9, G9⟩
theorem rr_edit_000 (base g : Nat) (l : List UInt8) (a : Nat) (e : Int) (w : World) (h : Rr w base g (l.drop a) e) (ha : a ≤ l.length) (hm : l.length ≤ 4000) (hg : grp ((edA l a e).1 : Int) = false) (hi : idk ((edA l a e).1 : Int) = false) (hp : ptk ((edA l a e).1 : Int) = false) :
    Calls Tryz.prog 21 #[.pointer (some ⟨g, 0, none⟩)] w fun x w' => x = .returned (.agg (ec6 (editOut l a e).1).toArray) ∧ Rr w' base g (l.drop (editOut l a e).2.1) (editOut l a e).2.2 ∧ w.grownBy w' (some g) := by
  have hgl := h.block.2
  obtain ⟨T, hT⟩ : ∃ T, T = editOut l a e := ⟨_, rfl⟩
  rw [← hT]
  have HA := hid (fun wx (hx : Rr wx base g (l.drop a) e) => rr_abvE base g l a e 7 wx hx hm)
  have A1 := abvOut_at l a e 7 ha
  have kA : edA l a e = abvOut l a e 7 := rfl
  obtain ⟨rA, hA⟩ : ∃ r, r = abvOut l a e 7 := ⟨_, rfl⟩
  rw [← hA] at HA A1 kA
  obtain ⟨vA, aA, eA⟩ := rA
  simp only at HA A1
  rw [kA] at hg hi hp
  simp only at hg hi hp
  have kG : edG l a e = (0, aA, eA) := by unfold edG; rw [kA]; simp only; rw [if_neg (by rw [hg]; exact Bool.false_ne_true)]
  obtain ⟨gz, hgz⟩ : ∃ z : Int, z = ((0 : Nat) : Int) := ⟨_, rfl⟩
  have kI : edI l a e = (0, aA, eA) := by unfold edI; rw [kA, kG]; simp only; rw [if_neg (by rw [hi]; exact Bool.false_ne_true)]
  obtain ⟨iz, hiz⟩ : ∃ z : Int, z = ((0 : Nat) : Int) := ⟨_, rfl⟩
  have kP0 : edP l a e = ((0, 0, zeros), aA, eA) := by unfold edP; rw [kA, kI]; simp only; rw [if_neg (by rw [hp]; exact Bool.false_ne_true)]
  obtain ⟨x, hx⟩ : ∃ x : BitVec 32, x = 0#32 := ⟨_, rfl⟩
  have hx0 : ((x.toNat : Nat) : Int) = 0 := by rw [hx]; rfl
  obtain ⟨lab, hlab⟩ : ∃ z : Int, z = 0 := ⟨_, rfl⟩
  obtain ⟨f, hff⟩ : ∃ f, f = zeros := ⟨_, rfl⟩
  obtain ⟨aP, haP⟩ : ∃ z, z = aA := ⟨_, rfl⟩
  obtain ⟨eP, heP⟩ : ∃ z, z = eA := ⟨_, rfl⟩
  have kP : edP l a e = (((x.toNat : Int), lab, f), aP, eP) := by rw [kP0, hx0, hlab, hff, haP, heP]
  have hf : f.length = 8 := by rw [hff]; exact zeros_len
  have HPP := hid (fun (wx : World) (gx : Nat) (hB : Blk wx gx (ecells (vA : Int) iz gz 0 0 zeros)) => (by rw [hx0, hlab, hff]; exact hB : Blk wx gx (ecells (vA : Int) iz gz (x.toNat : Int) lab f)))
  have HEP := hid (And.intro haP heP)
  obtain ⟨kz, hkz⟩ : ∃ z : Int, z = ((vA : Nat) : Int) := ⟨_, rfl⟩
  rw [← hkz] at HA HPP hg hi hp
  have hE : editOut l a e = (if eP = 0 then (kz, iz, gz, ((x.toNat : Int), lab, f)) else (0, 0, 0, 0, 0, zeros), aP, eP) := by
    unfold editOut
    rw [kA, kG, kI, kP]
    simp only
    rw [hkz, hiz, hgz]
  rw [hE] at hT
  have HT := hid hT
  have HG1 := hid (fun wx : World => rgrp_any kz wx)
  have HI1 := hid (fun wx : World => ridk_any kz wx)
  have HP1 := hid (fun wx : World => rptk_any kz wx)
  rw [hg] at HG1
  rw [hi] at HI1
  rw [hp] at HP1
  obtain ⟨ec, hec⟩ : ∃ z, z = ecells kz iz gz (x.toNat : Int) lab f := ⟨_, rfl⟩
  rw [← hec] at HPP
  have HES := hid hec
  have HEL := hid (show ec.length = 29 by rw [hec]; exact ecells_len _ _ _ _ _ hf)
  have OE : ec.toArray.all (·.oneCell') = true := all_oneCell_toArray (by rw [hec]; exact ecells_one _ _ _ _ _ _)
  have hgz0 : gz = 0 := hgz
  have hiz0 : iz = 0 := hiz
  have HS0 := hid (And.intro hgz0 hiz0)
  clear hgz0 hiz0 hgz hiz hkz hT hE hec hg hi hp kA kG kI kP hA   kP0 hx hx0 hlab hff haP heP hf A1   ha hm
  have hu := Tryz.underlying38
  have hup := Tryz.underlying36
  have B1 := Blk.new w (ecells 0 0 0 0 0 zeros) 38
  have hw0 : Below w.heap.size w (w.alloc (.cells (ecells 0 0 0 0 0 zeros).toArray 38)) := (Below.refl w.heap.size w).alloc (Nat.le_refl _) _
  have R0 := h.later hw0
  have G0 : w.grownBy (w.alloc (.cells (ecells 0 0 0 0 0 zeros).toArray 38)) (some g) := grown_none hw0 _
  have hsz : w.heap.size + 1 ≤ (w.alloc (.cells (ecells 0 0 0 0 0 zeros).toArray 38)).heap.size := by simp
  generalize hW : w.alloc (.cells (ecells 0 0 0 0 0 zeros).toArray 38) = W at *
  have HZ := hid ze29
  have ne1 : (some g : Option Nat) ≠ some w.heap.size := by simp; omega
  obtain ⟨zs, hzs⟩ : ∃ zs, zs = ecells 0 0 0 0 0 zeros := ⟨_, rfl⟩
  obtain ⟨xs, hxs⟩ : ∃ xs, xs = ecells kz 0 0 0 0 zeros := ⟨_, rfl⟩
  have HZL := hid (show zs.length = 29 by rw [hzs]; exact ecells_len _ _ _ _ _ zeros_len)
  have HXL := hid (show xs.length = 29 by rw [hxs]; exact ecells_len _ _ _ _ _ zeros_len)
  have hone : xs.toArray.all (·.oneCell') = true := all_oneCell_toArray (by rw [hxs]; exact ecells_one _ _ _ _ _ _)
  have O8 : zs.toArray.all (·.oneCell') = true := all_oneCell_toArray (by rw [hzs]; exact ecells_one _ _ _ _ _ _)
  rw [← hzs] at B1 HZ hW
  have HW := hid hW
  have HZS := hid hzs
  have HXS := hid hxs
  clear hW hw0 h hzs hxs
  obtain ⟨r, hr⟩ : ∃ r, r = w.heap.size := ⟨_, rfl⟩
  go_enter Tryz.func21, Tryz.ntmps21
  go_wp2_with fail
  rw [← HZ.out, HW.out]
  have hwr : w.heap.size ≤ r := by omega
  rw [← hr] at B1 hsz ne1 hgl
  rw [← hr]
  clear hr HW
  refine (HA.out _ R0).mono ?_
  rintro e' w1 ⟨rfl, R1, G1⟩
  replace B1 := B1.kept G1 ne1
  have hs2 := G1.size
  replace G1 := G0.trans G1
  have B3 := Blk.new w1 zs 38
  have T3 := B3.there 0 29 (by rw [HZL.out]; omega)
  have S3 := B3.wholeT (ds := xs) (by rw [HXL.out, HZL.out])
  have LE3 : Le w1 (World.setCells (w1.alloc (.cells zs.toArray 38)) w1.heap.size 0 xs) := below_sets (Nat.le_refl _) _ 0 ((Below.refl w1.heap.size w1).alloc (Nat.le_refl _) _)
  obtain ⟨gC, hgC⟩ : ∃ z, z = w1.heap.size := ⟨_, rfl⟩
  rw [← hgC] at T3 S3 LE3 hs2
  have HG3 := hid hgC
  clear hgC B3 R0 G0
  go_wp2_with (first
    | (rw [← HZ.out, ← HG3.out]
       refine wpList_store_mid rfl 38 (.tmp 3) (.tmp 6) rfl gC 0 xs.toArray rfl (by rw [HXS.out]; rfl) (by simpa [HXL.out] using T3) (by simpa [HXL.out] using info_edit) hone ?_
       simp only [Act.put]
       generalize hw3 : World.setCells _ gC 0 xs.toArray.toList = w3
       have S4 : Blk w3 gC (ecells kz 0 0 0 0 zeros) := by rw [← HXS.out]; exact hw3 ▸ S3
       have LE3' : Le w1 w3 := hw3 ▸ LE3
       have q4 : w3.cell? ⟨gC, 0, none⟩ = some (.int .i64 kz) := S4.cell rfl
       clear hw3 T3 S3 LE3)
    | fail)
  refine (HG1.out _).mono ?_
  rintro e' w3' ⟨rfl, rfl⟩
  have R4 := R1.later LE3'
  have B4 := B1.later LE3'
  have G4 := G1.trans (grown_none LE3' _)
  have hgC2 : r + 1 ≤ gC := by omega
  have ne3 : (some g : Option Nat) ≠ some gC := by simp; omega
  clear R1 B1 G1 LE3' hs2 hsz
  replace S4 : Blk w3 gC (ecells kz 0 gz 0 0 zeros) := by rw [HS0.out.1]; exact S4
  go_wp2_with fail
  refine (HI1.out _).mono ?_
  rintro e' w' ⟨rfl, rfl⟩
  replace S4 : Blk w3 gC (ecells kz iz gz 0 0 zeros) := by rw [HS0.out.2]; exact S4
  go_wp2_with fail
  refine (HP1.out _).mono ?_
  rintro e' w' ⟨rfl, rfl⟩
  have S6 := HPP.out _ _ S4
  have B6 := B4
  have R6 := R4
  rw [← HEP.out.1, ← HEP.out.2] at R6
  have G6 := G4
  clear S4 B4 R4 G4 q4
  by_cases e0 : eP = 0
  · have ke : (eP != 0) = false := by simpa using e0
    have HTE : Hid (T = ((kz, iz, gz, ((x.toNat : Int), lab, f)), aP, eP)) := hid (by rw [HT.out, if_pos e0])
    clear e0
    have T8 := B6.there 0 29 (by rw [HZL.out]; omega)
    have FIN := B6.wholeT (ds := ec) (by rw [HEL.out, HZL.out])
    have R9 := R6.off (grown_sets4 r ec 0 _) (by omega)
    have G9 := grown_new G6 (grown_sets4 r ec 0 _) (by omega)
    have RG := S6.wholeC
    obtain ⟨y0, y1, y2, y3⟩ := R6.facts
    clear S6 B6 R6 G6
    go_wp2_with (first
      | (refine wpList_load_mid rfl 38 (.tmp 3) rfl gC 0 rfl ec _ RG hu rfl (by rw [HEL.out]; exact info_edit) ?_)
      | (refine wpList_store_mid rfl 38 (.tmp 2) (.tmp 31) rfl r 0 ec.toArray rfl rfl (by simpa [HEL.out] using T8) (by simpa [HEL.out] using info_edit) OE ?_)
      | fail)
    exact bodyPost_ret (v := .agg ec.toArray) (tok_results (q := 2) rfl _ _ r ec _ rfl FIN hu rfl (by rw [HEL.out]; exact info_edit)) rfl ⟨by rw [HTE.out, HES.out]; rfl, by rw [HTE.out]; exact R9, G9⟩
  · have ke : (eP != 0) = true := by simpa using e0
    have HTE : Hid (T = ((0, 0, 0, 0, 0, zeros), aP, eP)) := hid (by rw [HT.out, if_neg e0])
    clear e0
    have T8 := B6.there 0 29 (by rw [HZL.out]; omega)
    have FIN := B6.wholeT (ds := zs) (by rfl)
    have R9 := R6.off (grown_sets4 r zs 0 _) (by omega)
    have G9 := grown_new G6 (grown_sets4 r zs 0 _) (by omega)
    have RG := S6.wholeC
    obtain ⟨y0, y1, y2, y3⟩ := R6.facts
    clear S6 B6 R6 G6
    go_wp2_with (first
      | (refine wpList_store_mid rfl 38 (.tmp 2) (.tmp 30) rfl r 0 zs.toArray rfl (by rw [HZS.out]; rfl) (by simpa [HZL.out] using T8) (by simpa [HZL.out] using info_edit) O8 ?_)
      | fail)
    exact bodyPost_ret (v := .agg zs.toArray) (tok_results (q := 2) rfl _ _ r zs _ rfl FIN hu rfl (by rw [HZL.out]; exact info_edit)) rfl ⟨by rw [HTE.out, HZS.out]; rfl, by rw [HTE.out]; exact R9, G9⟩
theorem rr_edit_001 (base g : Nat) (l : List UInt8) (a : Nat) (e : Int) (w : World) (h : Rr w base g (l.drop a) e) (ha : a ≤ l.length) (hm : l.length ≤ 4000) (hg : grp ((edA l a e).1 : Int) = false) (hi : idk ((edA l a e).1 : Int) = false) (hp : ptk ((edA l a e).1 : Int) = true) :
    Calls Tryz.prog 21 #[.pointer (some ⟨g, 0, none⟩)] w fun x w' => x = .returned (.agg (ec6 (editOut l a e).1).toArray) ∧ Rr w' base g (l.drop (editOut l a e).2.1) (editOut l a e).2.2 ∧ w.grownBy w' (some g) := by
  have hgl := h.block.2
  obtain ⟨T, hT⟩ : ∃ T, T = editOut l a e := ⟨_, rfl⟩
  rw [← hT]
  have HA := hid (fun wx (hx : Rr wx base g (l.drop a) e) => rr_abvE base g l a e 7 wx hx hm)
  have A1 := abvOut_at l a e 7 ha
  have kA : edA l a e = abvOut l a e 7 := rfl
  obtain ⟨rA, hA⟩ : ∃ r, r = abvOut l a e 7 := ⟨_, rfl⟩
  rw [← hA] at HA A1 kA
  obtain ⟨vA, aA, eA⟩ := rA
  simp only at HA A1
  rw [kA] at hg hi hp
  simp only at hg hi hp
  have kG : edG l a e = (0, aA, eA) := by unfold edG; rw [kA]; simp only; rw [if_neg (by rw [hg]; exact Bool.false_ne_true)]
  obtain ⟨gz, hgz⟩ : ∃ z : Int, z = ((0 : Nat) : Int) := ⟨_, rfl⟩
  have kI : edI l a e = (0, aA, eA) := by unfold edI; rw [kA, kG]; simp only; rw [if_neg (by rw [hi]; exact Bool.false_ne_true)]
  obtain ⟨iz, hiz⟩ : ∃ z : Int, z = ((0 : Nat) : Int) := ⟨_, rfl⟩
  have HPT := hid (fun wx (hx : Rr wx base g (l.drop aA) eA) => rr_patchE base g l aA eA wx hx A1 hm)
  have kP : edP l a e = patOut l aA eA := by unfold edP; rw [kA, kI]; simp only; rw [if_pos hp]
  have hx0 := patOut_mask l aA eA
  have hf := patOut_len l aA eA
  obtain ⟨rP, hP⟩ : ∃ r, r = patOut l aA eA := ⟨_, rfl⟩
  rw [← hP] at HPT kP hx0 hf
  obtain ⟨⟨mP, lab, f⟩, aP, eP⟩ := rP
  simp only at HPT hx0 hf
  obtain ⟨x, rfl⟩ := hx0
  obtain ⟨pc, hpc⟩ : ∃ pc, pc = pcells (x.toNat : Int) lab f := ⟨_, rfl⟩
  rw [show pc3 ((x.toNat : Int), lab, f) = pc from hpc.symm] at HPT
  have HPL := hid (show pc.length = 26 by rw [hpc]; exact pcells_len _ _ hf)
  have O5 : pc.toArray.all (·.oneCell') = true := all_oneCell_toArray (by rw [hpc]; exact pcells_one _ _ _)
  have HPP := hid (fun (wx : World) (gx : Nat) (hB : Blk wx gx (ecells (vA : Int) iz gz 0 0 zeros)) => hB.putPatch (m' := (x.toNat : Int)) (lab' := lab) zeros_len hf)
  rw [← hpc] at HPP
  obtain ⟨kz, hkz⟩ : ∃ z : Int, z = ((vA : Nat) : Int) := ⟨_, rfl⟩
  rw [← hkz] at HA HPP hg hi hp
  have hE : editOut l a e = (if eP = 0 then (kz, iz, gz, ((x.toNat : Int), lab, f)) else (0, 0, 0, 0, 0, zeros), aP, eP) := by
    unfold editOut
    rw [kA, kG, kI, kP]
    simp only
    rw [hkz, hiz, hgz]
  rw [hE] at hT
  have HT := hid hT
  have HG1 := hid (fun wx : World => rgrp_any kz wx)
  have HI1 := hid (fun wx : World => ridk_any kz wx)
  have HP1 := hid (fun wx : World => rptk_any kz wx)
  rw [hg] at HG1
  rw [hi] at HI1
  rw [hp] at HP1
  obtain ⟨ec, hec⟩ : ∃ z, z = ecells kz iz gz (x.toNat : Int) lab f := ⟨_, rfl⟩
  rw [← hec] at HPP
  have HES := hid hec
  have HEL := hid (show ec.length = 29 by rw [hec]; exact ecells_len _ _ _ _ _ hf)
  have OE : ec.toArray.all (·.oneCell') = true := all_oneCell_toArray (by rw [hec]; exact ecells_one _ _ _ _ _ _)
  have hgz0 : gz = 0 := hgz
  have hiz0 : iz = 0 := hiz
  have HS0 := hid (And.intro hgz0 hiz0)
  clear hgz0 hiz0 hgz hiz hkz hT hE hec hg hi hp kA kG kI kP hA   hP hpc hf A1   ha hm
  have hu := Tryz.underlying38
  have hup := Tryz.underlying36
  have B1 := Blk.new w (ecells 0 0 0 0 0 zeros) 38
  have hw0 : Below w.heap.size w (w.alloc (.cells (ecells 0 0 0 0 0 zeros).toArray 38)) := (Below.refl w.heap.size w).alloc (Nat.le_refl _) _
  have R0 := h.later hw0
  have G0 : w.grownBy (w.alloc (.cells (ecells 0 0 0 0 0 zeros).toArray 38)) (some g) := grown_none hw0 _
  have hsz : w.heap.size + 1 ≤ (w.alloc (.cells (ecells 0 0 0 0 0 zeros).toArray 38)).heap.size := by simp
  generalize hW : w.alloc (.cells (ecells 0 0 0 0 0 zeros).toArray 38) = W at *
  have HZ := hid ze29
  have ne1 : (some g : Option Nat) ≠ some w.heap.size := by simp; omega
  obtain ⟨zs, hzs⟩ : ∃ zs, zs = ecells 0 0 0 0 0 zeros := ⟨_, rfl⟩
  obtain ⟨xs, hxs⟩ : ∃ xs, xs = ecells kz 0 0 0 0 zeros := ⟨_, rfl⟩
  have HZL := hid (show zs.length = 29 by rw [hzs]; exact ecells_len _ _ _ _ _ zeros_len)
  have HXL := hid (show xs.length = 29 by rw [hxs]; exact ecells_len _ _ _ _ _ zeros_len)
  have hone : xs.toArray.all (·.oneCell') = true := all_oneCell_toArray (by rw [hxs]; exact ecells_one _ _ _ _ _ _)
  have O8 : zs.toArray.all (·.oneCell') = true := all_oneCell_toArray (by rw [hzs]; exact ecells_one _ _ _ _ _ _)
  rw [← hzs] at B1 HZ hW
  have HW := hid hW
  have HZS := hid hzs
  have HXS := hid hxs
  clear hW hw0 h hzs hxs
  obtain ⟨r, hr⟩ : ∃ r, r = w.heap.size := ⟨_, rfl⟩
  go_enter Tryz.func21, Tryz.ntmps21
  go_wp2_with fail
  rw [← HZ.out, HW.out]
  have hwr : w.heap.size ≤ r := by omega
  rw [← hr] at B1 hsz ne1 hgl
  rw [← hr]
  clear hr HW
  refine (HA.out _ R0).mono ?_
  rintro e' w1 ⟨rfl, R1, G1⟩
  replace B1 := B1.kept G1 ne1
  have hs2 := G1.size
  replace G1 := G0.trans G1
  have B3 := Blk.new w1 zs 38
  have T3 := B3.there 0 29 (by rw [HZL.out]; omega)
  have S3 := B3.wholeT (ds := xs) (by rw [HXL.out, HZL.out])
  have LE3 : Le w1 (World.setCells (w1.alloc (.cells zs.toArray 38)) w1.heap.size 0 xs) := below_sets (Nat.le_refl _) _ 0 ((Below.refl w1.heap.size w1).alloc (Nat.le_refl _) _)
  obtain ⟨gC, hgC⟩ : ∃ z, z = w1.heap.size := ⟨_, rfl⟩
  rw [← hgC] at T3 S3 LE3 hs2
  have HG3 := hid hgC
  clear hgC B3 R0 G0
  go_wp2_with (first
    | (rw [← HZ.out, ← HG3.out]
       refine wpList_store_mid rfl 38 (.tmp 3) (.tmp 6) rfl gC 0 xs.toArray rfl (by rw [HXS.out]; rfl) (by simpa [HXL.out] using T3) (by simpa [HXL.out] using info_edit) hone ?_
       simp only [Act.put]
       generalize hw3 : World.setCells _ gC 0 xs.toArray.toList = w3
       have S4 : Blk w3 gC (ecells kz 0 0 0 0 zeros) := by rw [← HXS.out]; exact hw3 ▸ S3
       have LE3' : Le w1 w3 := hw3 ▸ LE3
       have q4 : w3.cell? ⟨gC, 0, none⟩ = some (.int .i64 kz) := S4.cell rfl
       clear hw3 T3 S3 LE3)
    | fail)
  refine (HG1.out _).mono ?_
  rintro e' w3' ⟨rfl, rfl⟩
  have R4 := R1.later LE3'
  have B4 := B1.later LE3'
  have G4 := G1.trans (grown_none LE3' _)
  have hgC2 : r + 1 ≤ gC := by omega
  have ne3 : (some g : Option Nat) ≠ some gC := by simp; omega
  clear R1 B1 G1 LE3' hs2 hsz
  replace S4 : Blk w3 gC (ecells kz 0 gz 0 0 zeros) := by rw [HS0.out.1]; exact S4
  go_wp2_with fail
  refine (HI1.out _).mono ?_
  rintro e' w' ⟨rfl, rfl⟩
  replace S4 : Blk w3 gC (ecells kz iz gz 0 0 zeros) := by rw [HS0.out.2]; exact S4
  go_wp2_with fail
  refine (HP1.out _).mono ?_
  rintro e' w' ⟨rfl, rfl⟩
  go_wp2_with fail
  refine (HPT.out _ R4).mono ?_
  rintro e' wy ⟨rfl, Ry, Gy⟩
  have Sy := S4.kept Gy ne3
  have T5 := Sy.there 3 26 (by rw [ecells_len _ _ _ _ _ zeros_len]; omega)
  have S5 := HPP.out _ _ Sy
  have B5 := Blk.setsOther (b := gC) (g := r) (by omega) pc 3 (B4.kept Gy ne1)
  have R5 := Ry.off (grown_sets4 gC pc 3 wy) (by omega)
  have G5 := grown_new (G4.trans Gy) (grown_sets4 gC pc 3 wy) (by omega)
  clear R4 S4 B4 G4 q4 Ry Gy Sy
  by_cases e0 : eP = 0
  · have ke : (eP != 0) = false := by simpa using e0
    have HTE : Hid (T = ((kz, iz, gz, ((x.toNat : Int), lab, f)), aP, eP)) := hid (by rw [HT.out, if_pos e0])
    clear e0
    go_wp2_with (first
      | (refine wpList_store_mid rfl 36 (.tmp 24) (.tmp 23) rfl gC 3 pc.toArray rfl rfl (by simpa [HPL.out] using T5) (by simpa [HPL.out] using info_patch) O5 ?_
         simp only [Act.put]
         generalize hw6 : World.setCells _ gC 3 pc.toArray.toList = w6
         have S6 : Blk w6 gC ec := hw6 ▸ S5
         have B6 : Blk w6 r zs := hw6 ▸ B5
         have R6 : Rr w6 base g (l.drop aP) eP := hw6 ▸ R5
         have G6 : w.grownBy w6 (some g) := hw6 ▸ G5
         clear hw6 T5 S5 B5 R5 G5
         have T8 := B6.there 0 29 (by rw [HZL.out]; omega)
         have FIN := B6.wholeT (ds := ec) (by rw [HEL.out, HZL.out])
         have R9 := R6.off (grown_sets4 r ec 0 w6) (by omega)
         have G9 := grown_new G6 (grown_sets4 r ec 0 w6) (by omega)
         have RG := S6.wholeC
         obtain ⟨y0, y1, y2, y3⟩ := R6.facts
         clear S6 B6 R6 G6)
      | (refine wpList_load_mid rfl 38 (.tmp 3) rfl gC 0 rfl ec _ RG hu rfl (by rw [HEL.out]; exact info_edit) ?_)
      | (refine wpList_store_mid rfl 38 (.tmp 2) (.tmp 31) rfl r 0 ec.toArray rfl rfl (by simpa [HEL.out] using T8) (by simpa [HEL.out] using info_edit) OE ?_)
      | fail)
    exact bodyPost_ret (v := .agg ec.toArray) (tok_results (q := 2) rfl _ _ r ec _ rfl FIN hu rfl (by rw [HEL.out]; exact info_edit)) rfl ⟨by rw [HTE.out, HES.out]; rfl, by rw [HTE.out]; exact R9, G9⟩
  · have ke : (eP != 0) = true := by simpa using e0
    have HTE : Hid (T = ((0, 0, 0, 0, 0, zeros), aP, eP)) := hid (by rw [HT.out, if_neg e0])
    clear e0
    go_wp2_with (first
      | (refine wpList_store_mid rfl 36 (.tmp 24) (.tmp 23) rfl gC 3 pc.toArray rfl rfl (by simpa [HPL.out] using T5) (by simpa [HPL.out] using info_patch) O5 ?_
         simp only [Act.put]
         generalize hw6 : World.setCells _ gC 3 pc.toArray.toList = w6
         have S6 : Blk w6 gC ec := hw6 ▸ S5
         have B6 : Blk w6 r zs := hw6 ▸ B5
         have R6 : Rr w6 base g (l.drop aP) eP := hw6 ▸ R5
         have G6 : w.grownBy w6 (some g) := hw6 ▸ G5
         clear hw6 T5 S5 B5 R5 G5
         have T8 := B6.there 0 29 (by rw [HZL.out]; omega)
         have FIN := B6.wholeT (ds := zs) (by rfl)
         have R9 := R6.off (grown_sets4 r zs 0 w6) (by omega)
         have G9 := grown_new G6 (grown_sets4 r zs 0 w6) (by omega)
         have RG := S6.wholeC
         obtain ⟨y0, y1, y2, y3⟩ := R6.facts
         clear S6 B6 R6 G6)
      | (refine wpList_store_mid rfl 38 (.tmp 2) (.tmp 30) rfl r 0 zs.toArray rfl (by rw [HZS.out]; rfl) (by simpa [HZL.out] using T8) (by simpa [HZL.out] using info_edit) O8 ?_)
      | fail)
    exact bodyPost_ret (v := .agg zs.toArray) (tok_results (q := 2) rfl _ _ r zs _ rfl FIN hu rfl (by rw [HZL.out]; exact info_edit)) rfl ⟨by rw [HTE.out, HZS.out]; rfl, by rw [HTE.out]; exact R9, G9⟩
theorem rr_edit_011 (base g : Nat) (l : List UInt8) (a : Nat) (e : Int) (w : World) (h : Rr w base g (l.drop a) e) (ha : a ≤ l.length) (hm : l.length ≤ 4000) (hg : grp ((edA l a e).1 : Int) = false) (hi : idk ((edA l a e).1 : Int) = true) (hp : ptk ((edA l a e).1 : Int) = true) :
    Calls Tryz.prog 21 #[.pointer (some ⟨g, 0, none⟩)] w fun x w' => x = .returned (.agg (ec6 (editOut l a e).1).toArray) ∧ Rr w' base g (l.drop (editOut l a e).2.1) (editOut l a e).2.2 ∧ w.grownBy w' (some g) := by
  have hgl := h.block.2
  obtain ⟨T, hT⟩ : ∃ T, T = editOut l a e := ⟨_, rfl⟩
  rw [← hT]
  have HA := hid (fun wx (hx : Rr wx base g (l.drop a) e) => rr_abvE base g l a e 7 wx hx hm)
  have A1 := abvOut_at l a e 7 ha
  have kA : edA l a e = abvOut l a e 7 := rfl
  obtain ⟨rA, hA⟩ : ∃ r, r = abvOut l a e 7 := ⟨_, rfl⟩
  rw [← hA] at HA A1 kA
  obtain ⟨vA, aA, eA⟩ := rA
  simp only at HA A1
  rw [kA] at hg hi hp
  simp only at hg hi hp
  have kG : edG l a e = (0, aA, eA) := by unfold edG; rw [kA]; simp only; rw [if_neg (by rw [hg]; exact Bool.false_ne_true)]
  obtain ⟨gz, hgz⟩ : ∃ z : Int, z = ((0 : Nat) : Int) := ⟨_, rfl⟩
  have HI2 := hid (fun wx (hx : Rr wx base g (l.drop aA) eA) => rr_abvE base g l aA eA 1073741823 wx hx hm)
  have A3 := abvOut_at l aA eA 1073741823 A1
  have kI : edI l a e = abvOut l aA eA 1073741823 := by unfold edI; rw [kA, kG]; simp only; rw [if_pos hi]
  obtain ⟨rI, hI⟩ : ∃ r, r = abvOut l aA eA 1073741823 := ⟨_, rfl⟩
  rw [← hI] at HI2 A3 kI
  obtain ⟨vI, aI, eI⟩ := rI
  simp only at HI2 A3
  obtain ⟨iz, hiz⟩ : ∃ z : Int, z = ((vI : Nat) : Int) := ⟨_, rfl⟩
  rw [← hiz] at HI2
  have HPT := hid (fun wx (hx : Rr wx base g (l.drop aI) eI) => rr_patchE base g l aI eI wx hx A3 hm)
  have kP : edP l a e = patOut l aI eI := by unfold edP; rw [kA, kI]; simp only; rw [if_pos hp]
  have hx0 := patOut_mask l aI eI
  have hf := patOut_len l aI eI
  obtain ⟨rP, hP⟩ : ∃ r, r = patOut l aI eI := ⟨_, rfl⟩
  rw [← hP] at HPT kP hx0 hf
  obtain ⟨⟨mP, lab, f⟩, aP, eP⟩ := rP
  simp only at HPT hx0 hf
  obtain ⟨x, rfl⟩ := hx0
  obtain ⟨pc, hpc⟩ : ∃ pc, pc = pcells (x.toNat : Int) lab f := ⟨_, rfl⟩
  rw [show pc3 ((x.toNat : Int), lab, f) = pc from hpc.symm] at HPT
  have HPL := hid (show pc.length = 26 by rw [hpc]; exact pcells_len _ _ hf)
  have O5 : pc.toArray.all (·.oneCell') = true := all_oneCell_toArray (by rw [hpc]; exact pcells_one _ _ _)
  have HPP := hid (fun (wx : World) (gx : Nat) (hB : Blk wx gx (ecells (vA : Int) iz gz 0 0 zeros)) => hB.putPatch (m' := (x.toNat : Int)) (lab' := lab) zeros_len hf)
  rw [← hpc] at HPP
  obtain ⟨kz, hkz⟩ : ∃ z : Int, z = ((vA : Nat) : Int) := ⟨_, rfl⟩
  rw [← hkz] at HA HPP hg hi hp
  have hE : editOut l a e = (if eP = 0 then (kz, iz, gz, ((x.toNat : Int), lab, f)) else (0, 0, 0, 0, 0, zeros), aP, eP) := by
    unfold editOut
    rw [kA, kG, kI, kP]
    simp only
    rw [hkz, hiz, hgz]
  rw [hE] at hT
  have HT := hid hT
  have HG1 := hid (fun wx : World => rgrp_any kz wx)
  have HI1 := hid (fun wx : World => ridk_any kz wx)
  have HP1 := hid (fun wx : World => rptk_any kz wx)
  rw [hg] at HG1
  rw [hi] at HI1
  rw [hp] at HP1
  obtain ⟨ec, hec⟩ : ∃ z, z = ecells kz iz gz (x.toNat : Int) lab f := ⟨_, rfl⟩
  rw [← hec] at HPP
  have HES := hid hec
  have HEL := hid (show ec.length = 29 by rw [hec]; exact ecells_len _ _ _ _ _ hf)
  have OE : ec.toArray.all (·.oneCell') = true := all_oneCell_toArray (by rw [hec]; exact ecells_one _ _ _ _ _ _)
  have hgz0 : gz = 0 := hgz
  have hiz0 : True := trivial
  have HS0 := hid (And.intro hgz0 hiz0)
  clear hgz0 hiz0 hgz hiz hkz hT hE hec hg hi hp kA kG kI kP hA  hI hP hpc hf A1  A3 ha hm
  have hu := Tryz.underlying38
  have hup := Tryz.underlying36
  have B1 := Blk.new w (ecells 0 0 0 0 0 zeros) 38
  have hw0 : Below w.heap.size w (w.alloc (.cells (ecells 0 0 0 0 0 zeros).toArray 38)) := (Below.refl w.heap.size w).alloc (Nat.le_refl _) _
  have R0 := h.later hw0
  have G0 : w.grownBy (w.alloc (.cells (ecells 0 0 0 0 0 zeros).toArray 38)) (some g) := grown_none hw0 _
  have hsz : w.heap.size + 1 ≤ (w.alloc (.cells (ecells 0 0 0 0 0 zeros).toArray 38)).heap.size := by simp
  generalize hW : w.alloc (.cells (ecells 0 0 0 0 0 zeros).toArray 38) = W at *
  have HZ := hid ze29
  have ne1 : (some g : Option Nat) ≠ some w.heap.size := by simp; omega
  obtain ⟨zs, hzs⟩ : ∃ zs, zs = ecells 0 0 0 0 0 zeros := ⟨_, rfl⟩
  obtain ⟨xs, hxs⟩ : ∃ xs, xs = ecells kz 0 0 0 0 zeros := ⟨_, rfl⟩
  have HZL := hid (show zs.length = 29 by rw [hzs]; exact ecells_len _ _ _ _ _ zeros_len)
  have HXL := hid (show xs.length = 29 by rw [hxs]; exact ecells_len _ _ _ _ _ zeros_len)
  have hone : xs.toArray.all (·.oneCell') = true := all_oneCell_toArray (by rw [hxs]; exact ecells_one _ _ _ _ _ _)
  have O8 : zs.toArray.all (·.oneCell') = true := all_oneCell_toArray (by rw [hzs]; exact ecells_one _ _ _ _ _ _)
  rw [← hzs] at B1 HZ hW
  have HW := hid hW
  have HZS := hid hzs
  have HXS := hid hxs
  clear hW hw0 h hzs hxs
  obtain ⟨r, hr⟩ : ∃ r, r = w.heap.size := ⟨_, rfl⟩
  go_enter Tryz.func21, Tryz.ntmps21
  go_wp2_with fail
  rw [← HZ.out, HW.out]
  have hwr : w.heap.size ≤ r := by omega
  rw [← hr] at B1 hsz ne1 hgl
  rw [← hr]
  clear hr HW
  refine (HA.out _ R0).mono ?_
  rintro e' w1 ⟨rfl, R1, G1⟩
  replace B1 := B1.kept G1 ne1
  have hs2 := G1.size
  replace G1 := G0.trans G1
  have B3 := Blk.new w1 zs 38
  have T3 := B3.there 0 29 (by rw [HZL.out]; omega)
  have S3 := B3.wholeT (ds := xs) (by rw [HXL.out, HZL.out])
  have LE3 : Le w1 (World.setCells (w1.alloc (.cells zs.toArray 38)) w1.heap.size 0 xs) := below_sets (Nat.le_refl _) _ 0 ((Below.refl w1.heap.size w1).alloc (Nat.le_refl _) _)
  obtain ⟨gC, hgC⟩ : ∃ z, z = w1.heap.size := ⟨_, rfl⟩
  rw [← hgC] at T3 S3 LE3 hs2
  have HG3 := hid hgC
  clear hgC B3 R0 G0
  go_wp2_with (first
    | (rw [← HZ.out, ← HG3.out]
       refine wpList_store_mid rfl 38 (.tmp 3) (.tmp 6) rfl gC 0 xs.toArray rfl (by rw [HXS.out]; rfl) (by simpa [HXL.out] using T3) (by simpa [HXL.out] using info_edit) hone ?_
       simp only [Act.put]
       generalize hw3 : World.setCells _ gC 0 xs.toArray.toList = w3
       have S4 : Blk w3 gC (ecells kz 0 0 0 0 zeros) := by rw [← HXS.out]; exact hw3 ▸ S3
       have LE3' : Le w1 w3 := hw3 ▸ LE3
       have q4 : w3.cell? ⟨gC, 0, none⟩ = some (.int .i64 kz) := S4.cell rfl
       clear hw3 T3 S3 LE3)
    | fail)
  refine (HG1.out _).mono ?_
  rintro e' w3' ⟨rfl, rfl⟩
  have R4 := R1.later LE3'
  have B4 := B1.later LE3'
  have G4 := G1.trans (grown_none LE3' _)
  have hgC2 : r + 1 ≤ gC := by omega
  have ne3 : (some g : Option Nat) ≠ some gC := by simp; omega
  clear R1 B1 G1 LE3' hs2 hsz
  replace S4 : Blk w3 gC (ecells kz 0 gz 0 0 zeros) := by rw [HS0.out.1]; exact S4
  go_wp2_with fail
  refine (HI1.out _).mono ?_
  rintro e' w' ⟨rfl, rfl⟩
  go_wp2_with fail
  refine (HI2.out _ R4).mono ?_
  rintro e' wy ⟨rfl, Ry, Gy⟩
  have Sy := S4.kept Gy ne3
  have By := (B4.kept Gy ne1).setOther (b := gC) 1 (.int .i64 iz) (by omega)
  have fy := Sy.frozen 1
  have qy : wy.cell? ⟨gC, 1, none⟩ = some (.int .i64 0) := Sy.cell rfl
  have Sz : Blk (wy.setCell ⟨gC, 1, none⟩ (.int .i64 iz)) gC (ecells kz iz gz 0 0 zeros) := Sy.set 1 _
  have Rz := Ry.off (grown_set1 wy gC 1 (.int .i64 iz)) (by omega)
  have Gz := grown_new (G4.trans Gy) (grown_set1 wy gC 1 (.int .i64 iz)) (by omega)
  clear R4 S4 B4 G4 q4 Ry Gy Sy
  have q4 : (wy.setCell ⟨gC, 1, none⟩ (.int .i64 iz)).cell? ⟨gC, 0, none⟩ = some (.int .i64 kz) := Sz.cell rfl
  go_wp2_with fail
  have S4 := Sz
  have R4 := Rz
  have B4 := By
  have G4 := Gz
  generalize hw4 : wy.setCell ⟨gC, 1, none⟩ (.int .i64 iz) = w4 at S4 R4 B4 G4 q4 ⊢
  clear hw4 fy qy Sz Rz By Gz wy
  refine (HP1.out _).mono ?_
  rintro e' w' ⟨rfl, rfl⟩
  go_wp2_with fail
  refine (HPT.out _ R4).mono ?_
  rintro e' wy ⟨rfl, Ry, Gy⟩
  have Sy := S4.kept Gy ne3
  have T5 := Sy.there 3 26 (by rw [ecells_len _ _ _ _ _ zeros_len]; omega)
  have S5 := HPP.out _ _ Sy
  have B5 := Blk.setsOther (b := gC) (g := r) (by omega) pc 3 (B4.kept Gy ne1)
  have R5 := Ry.off (grown_sets4 gC pc 3 wy) (by omega)
  have G5 := grown_new (G4.trans Gy) (grown_sets4 gC pc 3 wy) (by omega)
  clear R4 S4 B4 G4 q4 Ry Gy Sy
  by_cases e0 : eP = 0
  · have ke : (eP != 0) = false := by simpa using e0
    have HTE : Hid (T = ((kz, iz, gz, ((x.toNat : Int), lab, f)), aP, eP)) := hid (by rw [HT.out, if_pos e0])
    clear e0
    go_wp2_with (first
      | (refine wpList_store_mid rfl 36 (.tmp 24) (.tmp 23) rfl gC 3 pc.toArray rfl rfl (by simpa [HPL.out] using T5) (by simpa [HPL.out] using info_patch) O5 ?_
         simp only [Act.put]
         generalize hw6 : World.setCells _ gC 3 pc.toArray.toList = w6
         have S6 : Blk w6 gC ec := hw6 ▸ S5
         have B6 : Blk w6 r zs := hw6 ▸ B5
         have R6 : Rr w6 base g (l.drop aP) eP := hw6 ▸ R5
         have G6 : w.grownBy w6 (some g) := hw6 ▸ G5
         clear hw6 T5 S5 B5 R5 G5
         have T8 := B6.there 0 29 (by rw [HZL.out]; omega)
         have FIN := B6.wholeT (ds := ec) (by rw [HEL.out, HZL.out])
         have R9 := R6.off (grown_sets4 r ec 0 w6) (by omega)
         have G9 := grown_new G6 (grown_sets4 r ec 0 w6) (by omega)
         have RG := S6.wholeC
         obtain ⟨y0, y1, y2, y3⟩ := R6.facts
         clear S6 B6 R6 G6)
      | (refine wpList_load_mid rfl 38 (.tmp 3) rfl gC 0 rfl ec _ RG hu rfl (by rw [HEL.out]; exact info_edit) ?_)
      | (refine wpList_store_mid rfl 38 (.tmp 2) (.tmp 31) rfl r 0 ec.toArray rfl rfl (by simpa [HEL.out] using T8) (by simpa [HEL.out] using info_edit) OE ?_)
      | fail)
    exact bodyPost_ret (v := .agg ec.toArray) (tok_results (q := 2) rfl _ _ r ec _ rfl FIN hu rfl (by rw [HEL.out]; exact info_edit)) rfl ⟨by rw [HTE.out, HES.out]; rfl, by rw [HTE.out]; exact R9, G9⟩
  · have ke : (eP != 0) = true := by simpa using e0
    have HTE : Hid (T = ((0, 0, 0, 0, 0, zeros), aP, eP)) := hid (by rw [HT.out, if_neg e0])
    clear e0
    go_wp2_with (first
      | (refine wpList_store_mid rfl 36 (.tmp 24) (.tmp 23) rfl gC 3 pc.toArray rfl rfl (by simpa [HPL.out] using T5) (by simpa [HPL.out] using info_patch) O5 ?_
         simp only [Act.put]
         generalize hw6 : World.setCells _ gC 3 pc.toArray.toList = w6
         have S6 : Blk w6 gC ec := hw6 ▸ S5
         have B6 : Blk w6 r zs := hw6 ▸ B5
         have R6 : Rr w6 base g (l.drop aP) eP := hw6 ▸ R5
         have G6 : w.grownBy w6 (some g) := hw6 ▸ G5
         clear hw6 T5 S5 B5 R5 G5
         have T8 := B6.there 0 29 (by rw [HZL.out]; omega)
         have FIN := B6.wholeT (ds := zs) (by rfl)
         have R9 := R6.off (grown_sets4 r zs 0 w6) (by omega)
         have G9 := grown_new G6 (grown_sets4 r zs 0 w6) (by omega)
         have RG := S6.wholeC
         obtain ⟨y0, y1, y2, y3⟩ := R6.facts
         clear S6 B6 R6 G6)
      | (refine wpList_store_mid rfl 38 (.tmp 2) (.tmp 30) rfl r 0 zs.toArray rfl (by rw [HZS.out]; rfl) (by simpa [HZL.out] using T8) (by simpa [HZL.out] using info_edit) O8 ?_)
      | fail)
    exact bodyPost_ret (v := .agg zs.toArray) (tok_results (q := 2) rfl _ _ r zs _ rfl FIN hu rfl (by rw [HZL.out]; exact info_edit)) rfl ⟨by rw [HTE.out, HZS.out]; rfl, by rw [HTE.out]; exact R9, G9⟩
theorem rr_edit_010 (base g : Nat) (l : List UInt8) (a : Nat) (e : Int) (w : World) (h : Rr w base g (l.drop a) e) (ha : a ≤ l.length) (hm : l.length ≤ 4000) (hg : grp ((edA l a e).1 : Int) = false) (hi : idk ((edA l a e).1 : Int) = true) (hp : ptk ((edA l a e).1 : Int) = false) :
    Calls Tryz.prog 21 #[.pointer (some ⟨g, 0, none⟩)] w fun x w' => x = .returned (.agg (ec6 (editOut l a e).1).toArray) ∧ Rr w' base g (l.drop (editOut l a e).2.1) (editOut l a e).2.2 ∧ w.grownBy w' (some g) := by
  have hgl := h.block.2
  obtain ⟨T, hT⟩ : ∃ T, T = editOut l a e := ⟨_, rfl⟩
  rw [← hT]
  have HA := hid (fun wx (hx : Rr wx base g (l.drop a) e) => rr_abvE base g l a e 7 wx hx hm)
  have A1 := abvOut_at l a e 7 ha
  have kA : edA l a e = abvOut l a e 7 := rfl
  obtain ⟨rA, hA⟩ : ∃ r, r = abvOut l a e 7 := ⟨_, rfl⟩
  rw [← hA] at HA A1 kA
  obtain ⟨vA, aA, eA⟩ := rA
  simp only at HA A1
  rw [kA] at hg hi hp
  simp only at hg hi hp
  have kG : edG l a e = (0, aA, eA) := by unfold edG; rw [kA]; simp only; rw [if_neg (by rw [hg]; exact Bool.false_ne_true)]
  obtain ⟨gz, hgz⟩ : ∃ z : Int, z = ((0 : Nat) : Int) := ⟨_, rfl⟩
  have HI2 := hid (fun wx (hx : Rr wx base g (l.drop aA) eA) => rr_abvE base g l aA eA 1073741823 wx hx hm)
  have A3 := abvOut_at l aA eA 1073741823 A1
  have kI : edI l a e = abvOut l aA eA 1073741823 := by unfold edI; rw [kA, kG]; simp only; rw [if_pos hi]
  obtain ⟨rI, hI⟩ : ∃ r, r = abvOut l aA eA 1073741823 := ⟨_, rfl⟩
  rw [← hI] at HI2 A3 kI
  obtain ⟨vI, aI, eI⟩ := rI
  simp only at HI2 A3
  obtain ⟨iz, hiz⟩ : ∃ z : Int, z = ((vI : Nat) : Int) := ⟨_, rfl⟩
  rw [← hiz] at HI2
  have kP0 : edP l a e = ((0, 0, zeros), aI, eI) := by unfold edP; rw [kA, kI]; simp only; rw [if_neg (by rw [hp]; exact Bool.false_ne_true)]
  obtain ⟨x, hx⟩ : ∃ x : BitVec 32, x = 0#32 := ⟨_, rfl⟩
  have hx0 : ((x.toNat : Nat) : Int) = 0 := by rw [hx]; rfl
  obtain ⟨lab, hlab⟩ : ∃ z : Int, z = 0 := ⟨_, rfl⟩
  obtain ⟨f, hff⟩ : ∃ f, f = zeros := ⟨_, rfl⟩
  obtain ⟨aP, haP⟩ : ∃ z, z = aI := ⟨_, rfl⟩
  obtain ⟨eP, heP⟩ : ∃ z, z = eI := ⟨_, rfl⟩
  have kP : edP l a e = (((x.toNat : Int), lab, f), aP, eP) := by rw [kP0, hx0, hlab, hff, haP, heP]
  have hf : f.length = 8 := by rw [hff]; exact zeros_len
  have HPP := hid (fun (wx : World) (gx : Nat) (hB : Blk wx gx (ecells (vA : Int) iz gz 0 0 zeros)) => (by rw [hx0, hlab, hff]; exact hB : Blk wx gx (ecells (vA : Int) iz gz (x.toNat : Int) lab f)))
  have HEP := hid (And.intro haP heP)
  obtain ⟨kz, hkz⟩ : ∃ z : Int, z = ((vA : Nat) : Int) := ⟨_, rfl⟩
  rw [← hkz] at HA HPP hg hi hp
  have hE : editOut l a e = (if eP = 0 then (kz, iz, gz, ((x.toNat : Int), lab, f)) else (0, 0, 0, 0, 0, zeros), aP, eP) := by
    unfold editOut
    rw [kA, kG, kI, kP]
    simp only
    rw [hkz, hiz, hgz]
  rw [hE] at hT
  have HT := hid hT
  have HG1 := hid (fun wx : World => rgrp_any kz wx)
  have HI1 := hid (fun wx : World => ridk_any kz wx)
  have HP1 := hid (fun wx : World => rptk_any kz wx)
  rw [hg] at HG1
  rw [hi] at HI1
  rw [hp] at HP1
  obtain ⟨ec, hec⟩ : ∃ z, z = ecells kz iz gz (x.toNat : Int) lab f := ⟨_, rfl⟩
  rw [← hec] at HPP
  have HES := hid hec
  have HEL := hid (show ec.length = 29 by rw [hec]; exact ecells_len _ _ _ _ _ hf)
  have OE : ec.toArray.all (·.oneCell') = true := all_oneCell_toArray (by rw [hec]; exact ecells_one _ _ _ _ _ _)
  have hgz0 : gz = 0 := hgz
  have hiz0 : True := trivial
  have HS0 := hid (And.intro hgz0 hiz0)
  clear hgz0 hiz0 hgz hiz hkz hT hE hec hg hi hp kA kG kI kP hA  hI kP0 hx hx0 hlab hff haP heP hf A1  A3 ha hm
  have hu := Tryz.underlying38
  have hup := Tryz.underlying36
  have B1 := Blk.new w (ecells 0 0 0 0 0 zeros) 38
  have hw0 : Below w.heap.size w (w.alloc (.cells (ecells 0 0 0 0 0 zeros).toArray 38)) := (Below.refl w.heap.size w).alloc (Nat.le_refl _) _
  have R0 := h.later hw0
  have G0 : w.grownBy (w.alloc (.cells (ecells 0 0 0 0 0 zeros).toArray 38)) (some g) := grown_none hw0 _
  have hsz : w.heap.size + 1 ≤ (w.alloc (.cells (ecells 0 0 0 0 0 zeros).toArray 38)).heap.size := by simp
  generalize hW : w.alloc (.cells (ecells 0 0 0 0 0 zeros).toArray 38) = W at *
  have HZ := hid ze29
  have ne1 : (some g : Option Nat) ≠ some w.heap.size := by simp; omega
  obtain ⟨zs, hzs⟩ : ∃ zs, zs = ecells 0 0 0 0 0 zeros := ⟨_, rfl⟩
  obtain ⟨xs, hxs⟩ : ∃ xs, xs = ecells kz 0 0 0 0 zeros := ⟨_, rfl⟩
  have HZL := hid (show zs.length = 29 by rw [hzs]; exact ecells_len _ _ _ _ _ zeros_len)
  have HXL := hid (show xs.length = 29 by rw [hxs]; exact ecells_len _ _ _ _ _ zeros_len)
  have hone : xs.toArray.all (·.oneCell') = true := all_oneCell_toArray (by rw [hxs]; exact ecells_one _ _ _ _ _ _)
  have O8 : zs.toArray.all (·.oneCell') = true := all_oneCell_toArray (by rw [hzs]; exact ecells_one _ _ _ _ _ _)
  rw [← hzs] at B1 HZ hW
  have HW := hid hW
  have HZS := hid hzs
  have HXS := hid hxs
  clear hW hw0 h hzs hxs
  obtain ⟨r, hr⟩ : ∃ r, r = w.heap.size := ⟨_, rfl⟩
  go_enter Tryz.func21, Tryz.ntmps21
  go_wp2_with fail
  rw [← HZ.out, HW.out]
  have hwr : w.heap.size ≤ r := by omega
  rw [← hr] at B1 hsz ne1 hgl
  rw [← hr]
  clear hr HW
  refine (HA.out _ R0).mono ?_
  rintro e' w1 ⟨rfl, R1, G1⟩
  replace B1 := B1.kept G1 ne1
  have hs2 := G1.size
  replace G1 := G0.trans G1
  have B3 := Blk.new w1 zs 38
  have T3 := B3.there 0 29 (by rw [HZL.out]; omega)
  have S3 := B3.wholeT (ds := xs) (by rw [HXL.out, HZL.out])
  have LE3 : Le w1 (World.setCells (w1.alloc (.cells zs.toArray 38)) w1.heap.size 0 xs) := below_sets (Nat.le_refl _) _ 0 ((Below.refl w1.heap.size w1).alloc (Nat.le_refl _) _)
  obtain ⟨gC, hgC⟩ : ∃ z, z = w1.heap.size := ⟨_, rfl⟩
  rw [← hgC] at T3 S3 LE3 hs2
  have HG3 := hid hgC
  clear hgC B3 R0 G0
  go_wp2_with (first
    | (rw [← HZ.out, ← HG3.out]
       refine wpList_store_mid rfl 38 (.tmp 3) (.tmp 6) rfl gC 0 xs.toArray rfl (by rw [HXS.out]; rfl) (by simpa [HXL.out] using T3) (by simpa [HXL.out] using info_edit) hone ?_
       simp only [Act.put]
       generalize hw3 : World.setCells _ gC 0 xs.toArray.toList = w3
       have S4 : Blk w3 gC (ecells kz 0 0 0 0 zeros) := by rw [← HXS.out]; exact hw3 ▸ S3
       have LE3' : Le w1 w3 := hw3 ▸ LE3
       have q4 : w3.cell? ⟨gC, 0, none⟩ = some (.int .i64 kz) := S4.cell rfl
       clear hw3 T3 S3 LE3)
    | fail)
  refine (HG1.out _).mono ?_
  rintro e' w3' ⟨rfl, rfl⟩
  have R4 := R1.later LE3'
  have B4 := B1.later LE3'
  have G4 := G1.trans (grown_none LE3' _)
  have hgC2 : r + 1 ≤ gC := by omega
  have ne3 : (some g : Option Nat) ≠ some gC := by simp; omega
  clear R1 B1 G1 LE3' hs2 hsz
  replace S4 : Blk w3 gC (ecells kz 0 gz 0 0 zeros) := by rw [HS0.out.1]; exact S4
  go_wp2_with fail
  refine (HI1.out _).mono ?_
  rintro e' w' ⟨rfl, rfl⟩
  go_wp2_with fail
  refine (HI2.out _ R4).mono ?_
  rintro e' wy ⟨rfl, Ry, Gy⟩
  have Sy := S4.kept Gy ne3
  have By := (B4.kept Gy ne1).setOther (b := gC) 1 (.int .i64 iz) (by omega)
  have fy := Sy.frozen 1
  have qy : wy.cell? ⟨gC, 1, none⟩ = some (.int .i64 0) := Sy.cell rfl
  have Sz : Blk (wy.setCell ⟨gC, 1, none⟩ (.int .i64 iz)) gC (ecells kz iz gz 0 0 zeros) := Sy.set 1 _
  have Rz := Ry.off (grown_set1 wy gC 1 (.int .i64 iz)) (by omega)
  have Gz := grown_new (G4.trans Gy) (grown_set1 wy gC 1 (.int .i64 iz)) (by omega)
  clear R4 S4 B4 G4 q4 Ry Gy Sy
  have q4 : (wy.setCell ⟨gC, 1, none⟩ (.int .i64 iz)).cell? ⟨gC, 0, none⟩ = some (.int .i64 kz) := Sz.cell rfl
  go_wp2_with fail
  have S4 := Sz
  have R4 := Rz
  have B4 := By
  have G4 := Gz
  generalize hw4 : wy.setCell ⟨gC, 1, none⟩ (.int .i64 iz) = w4 at S4 R4 B4 G4 q4 ⊢
  clear hw4 fy qy Sz Rz By Gz wy
  refine (HP1.out _).mono ?_
  rintro e' w' ⟨rfl, rfl⟩
  have S6 := HPP.out _ _ S4
  have B6 := B4
  have R6 := R4
  rw [← HEP.out.1, ← HEP.out.2] at R6
  have G6 := G4
  clear S4 B4 R4 G4 q4
  by_cases e0 : eP = 0
  · have ke : (eP != 0) = false := by simpa using e0
    have HTE : Hid (T = ((kz, iz, gz, ((x.toNat : Int), lab, f)), aP, eP)) := hid (by rw [HT.out, if_pos e0])
    clear e0
    have T8 := B6.there 0 29 (by rw [HZL.out]; omega)
    have FIN := B6.wholeT (ds := ec) (by rw [HEL.out, HZL.out])
    have R9 := R6.off (grown_sets4 r ec 0 _) (by omega)
    have G9 := grown_new G6 (grown_sets4 r ec 0 _) (by omega)
    have RG := S6.wholeC
    obtain ⟨y0, y1, y2, y3⟩ := R6.facts
    clear S6 B6 R6 G6
    go_wp2_with (first
      | (refine wpList_load_mid rfl 38 (.tmp 3) rfl gC 0 rfl ec _ RG hu rfl (by rw [HEL.out]; exact info_edit) ?_)
      | (refine wpList_store_mid rfl 38 (.tmp 2) (.tmp 31) rfl r 0 ec.toArray rfl rfl (by simpa [HEL.out] using T8) (by simpa [HEL.out] using info_edit) OE ?_)
      | fail)
    exact bodyPost_ret (v := .agg ec.toArray) (tok_results (q := 2) rfl _ _ r ec _ rfl FIN hu rfl (by rw [HEL.out]; exact info_edit)) rfl ⟨by rw [HTE.out, HES.out]; rfl, by rw [HTE.out]; exact R9, G9⟩
  · have ke : (eP != 0) = true := by simpa using e0
    have HTE : Hid (T = ((0, 0, 0, 0, 0, zeros), aP, eP)) := hid (by rw [HT.out, if_neg e0])
    clear e0
    have T8 := B6.there 0 29 (by rw [HZL.out]; omega)
    have FIN := B6.wholeT (ds := zs) (by rfl)
    have R9 := R6.off (grown_sets4 r zs 0 _) (by omega)
    have G9 := grown_new G6 (grown_sets4 r zs 0 _) (by omega)
    have RG := S6.wholeC
    obtain ⟨y0, y1, y2, y3⟩ := R6.facts
    clear S6 B6 R6 G6
    go_wp2_with (first
      | (refine wpList_store_mid rfl 38 (.tmp 2) (.tmp 30) rfl r 0 zs.toArray rfl (by rw [HZS.out]; rfl) (by simpa [HZL.out] using T8) (by simpa [HZL.out] using info_edit) O8 ?_)
      | fail)
    exact bodyPost_ret (v := .agg zs.toArray) (tok_results (q := 2) rfl _ _ r zs _ rfl FIN hu rfl (by rw [HZL.out]; exact info_edit)) rfl ⟨by rw [HTE.out, HZS.out]; rfl, by rw [HTE.out]; exact R9, G9⟩
theorem rr_edit_100 (base g : Nat) (l : List UInt8) (a : Nat) (e : Int) (w : World) (h : Rr w base g (l.drop a) e) (ha : a ≤ l.length) (hm : l.length ≤ 4000) (hg : grp ((edA l a e).1 : Int) = true) (hi : idk ((edA l a e).1 : Int) = false) (hp : ptk ((edA l a e).1 : Int) = false) :
    Calls Tryz.prog 21 #[.pointer (some ⟨g, 0, none⟩)] w fun x w' => x = .returned (.agg (ec6 (editOut l a e).1).toArray) ∧ Rr w' base g (l.drop (editOut l a e).2.1) (editOut l a e).2.2 ∧ w.grownBy w' (some g) := by
  have hgl := h.block.2
  obtain ⟨T, hT⟩ : ∃ T, T = editOut l a e := ⟨_, rfl⟩
  rw [← hT]
  have HA := hid (fun wx (hx : Rr wx base g (l.drop a) e) => rr_abvE base g l a e 7 wx hx hm)
  have A1 := abvOut_at l a e 7 ha
  have kA : edA l a e = abvOut l a e 7 := rfl
  obtain ⟨rA, hA⟩ : ∃ r, r = abvOut l a e 7 := ⟨_, rfl⟩
  rw [← hA] at HA A1 kA
  obtain ⟨vA, aA, eA⟩ := rA
  simp only at HA A1
  rw [kA] at hg hi hp
  simp only at hg hi hp
  have HN := hid (fun wx (hx : Rr wx base g (l.drop aA) eA) => rr_numd base g l aA eA 15 wx hx hm)
  have A2 := numOut_at l aA eA 15 A1
  have kG : edG l a e = numOut l aA eA 15 := by unfold edG; rw [kA]; simp only; rw [if_pos hg]
  obtain ⟨rG, hG⟩ : ∃ r, r = numOut l aA eA 15 := ⟨_, rfl⟩
  rw [← hG] at HN A2 kG
  obtain ⟨vG, aG, eG⟩ := rG
  simp only at HN A2
  obtain ⟨gz, hgz⟩ : ∃ z : Int, z = ((vG : Nat) : Int) := ⟨_, rfl⟩
  rw [← hgz] at HN
  have kI : edI l a e = (0, aG, eG) := by unfold edI; rw [kA, kG]; simp only; rw [if_neg (by rw [hi]; exact Bool.false_ne_true)]
  obtain ⟨iz, hiz⟩ : ∃ z : Int, z = ((0 : Nat) : Int) := ⟨_, rfl⟩
  have kP0 : edP l a e = ((0, 0, zeros), aG, eG) := by unfold edP; rw [kA, kI]; simp only; rw [if_neg (by rw [hp]; exact Bool.false_ne_true)]
  obtain ⟨x, hx⟩ : ∃ x : BitVec 32, x = 0#32 := ⟨_, rfl⟩
  have hx0 : ((x.toNat : Nat) : Int) = 0 := by rw [hx]; rfl
  obtain ⟨lab, hlab⟩ : ∃ z : Int, z = 0 := ⟨_, rfl⟩
  obtain ⟨f, hff⟩ : ∃ f, f = zeros := ⟨_, rfl⟩
  obtain ⟨aP, haP⟩ : ∃ z, z = aG := ⟨_, rfl⟩
  obtain ⟨eP, heP⟩ : ∃ z, z = eG := ⟨_, rfl⟩
  have kP : edP l a e = (((x.toNat : Int), lab, f), aP, eP) := by rw [kP0, hx0, hlab, hff, haP, heP]
  have hf : f.length = 8 := by rw [hff]; exact zeros_len
  have HPP := hid (fun (wx : World) (gx : Nat) (hB : Blk wx gx (ecells (vA : Int) iz gz 0 0 zeros)) => (by rw [hx0, hlab, hff]; exact hB : Blk wx gx (ecells (vA : Int) iz gz (x.toNat : Int) lab f)))
  have HEP := hid (And.intro haP heP)
  obtain ⟨kz, hkz⟩ : ∃ z : Int, z = ((vA : Nat) : Int) := ⟨_, rfl⟩
  rw [← hkz] at HA HPP hg hi hp
  have hE : editOut l a e = (if eP = 0 then (kz, iz, gz, ((x.toNat : Int), lab, f)) else (0, 0, 0, 0, 0, zeros), aP, eP) := by
    unfold editOut
    rw [kA, kG, kI, kP]
    simp only
    rw [hkz, hiz, hgz]
  rw [hE] at hT
  have HT := hid hT
  have HG1 := hid (fun wx : World => rgrp_any kz wx)
  have HI1 := hid (fun wx : World => ridk_any kz wx)
  have HP1 := hid (fun wx : World => rptk_any kz wx)
  rw [hg] at HG1
  rw [hi] at HI1
  rw [hp] at HP1
  obtain ⟨ec, hec⟩ : ∃ z, z = ecells kz iz gz (x.toNat : Int) lab f := ⟨_, rfl⟩
  rw [← hec] at HPP
  have HES := hid hec
  have HEL := hid (show ec.length = 29 by rw [hec]; exact ecells_len _ _ _ _ _ hf)
  have OE : ec.toArray.all (·.oneCell') = true := all_oneCell_toArray (by rw [hec]; exact ecells_one _ _ _ _ _ _)
  have hgz0 : True := trivial
  have hiz0 : iz = 0 := hiz
  have HS0 := hid (And.intro hgz0 hiz0)
  clear hgz0 hiz0 hgz hiz hkz hT hE hec hg hi hp kA kG kI kP hA hG  kP0 hx hx0 hlab hff haP heP hf A1 A2  ha hm
  have hu := Tryz.underlying38
  have hup := Tryz.underlying36
  have B1 := Blk.new w (ecells 0 0 0 0 0 zeros) 38
  have hw0 : Below w.heap.size w (w.alloc (.cells (ecells 0 0 0 0 0 zeros).toArray 38)) := (Below.refl w.heap.size w).alloc (Nat.le_refl _) _
  have R0 := h.later hw0
  have G0 : w.grownBy (w.alloc (.cells (ecells 0 0 0 0 0 zeros).toArray 38)) (some g) := grown_none hw0 _
  have hsz : w.heap.size + 1 ≤ (w.alloc (.cells (ecells 0 0 0 0 0 zeros).toArray 38)).heap.size := by simp
  generalize hW : w.alloc (.cells (ecells 0 0 0 0 0 zeros).toArray 38) = W at *
  have HZ := hid ze29
  have ne1 : (some g : Option Nat) ≠ some w.heap.size := by simp; omega
  obtain ⟨zs, hzs⟩ : ∃ zs, zs = ecells 0 0 0 0 0 zeros := ⟨_, rfl⟩
  obtain ⟨xs, hxs⟩ : ∃ xs, xs = ecells kz 0 0 0 0 zeros := ⟨_, rfl⟩
  have HZL := hid (show zs.length = 29 by rw [hzs]; exact ecells_len _ _ _ _ _ zeros_len)
  have HXL := hid (show xs.length = 29 by rw [hxs]; exact ecells_len _ _ _ _ _ zeros_len)
  have hone : xs.toArray.all (·.oneCell') = true := all_oneCell_toArray (by rw [hxs]; exact ecells_one _ _ _ _ _ _)
  have O8 : zs.toArray.all (·.oneCell') = true := all_oneCell_toArray (by rw [hzs]; exact ecells_one _ _ _ _ _ _)
  rw [← hzs] at B1 HZ hW
  have HW := hid hW
  have HZS := hid hzs
  have HXS := hid hxs
  clear hW hw0 h hzs hxs
  obtain ⟨r, hr⟩ : ∃ r, r = w.heap.size := ⟨_, rfl⟩
  go_enter Tryz.func21, Tryz.ntmps21
  go_wp2_with fail
  rw [← HZ.out, HW.out]
  have hwr : w.heap.size ≤ r := by omega
  rw [← hr] at B1 hsz ne1 hgl
  rw [← hr]
  clear hr HW
  refine (HA.out _ R0).mono ?_
  rintro e' w1 ⟨rfl, R1, G1⟩
  replace B1 := B1.kept G1 ne1
  have hs2 := G1.size
  replace G1 := G0.trans G1
  have B3 := Blk.new w1 zs 38
  have T3 := B3.there 0 29 (by rw [HZL.out]; omega)
  have S3 := B3.wholeT (ds := xs) (by rw [HXL.out, HZL.out])
  have LE3 : Le w1 (World.setCells (w1.alloc (.cells zs.toArray 38)) w1.heap.size 0 xs) := below_sets (Nat.le_refl _) _ 0 ((Below.refl w1.heap.size w1).alloc (Nat.le_refl _) _)
  obtain ⟨gC, hgC⟩ : ∃ z, z = w1.heap.size := ⟨_, rfl⟩
  rw [← hgC] at T3 S3 LE3 hs2
  have HG3 := hid hgC
  clear hgC B3 R0 G0
  go_wp2_with (first
    | (rw [← HZ.out, ← HG3.out]
       refine wpList_store_mid rfl 38 (.tmp 3) (.tmp 6) rfl gC 0 xs.toArray rfl (by rw [HXS.out]; rfl) (by simpa [HXL.out] using T3) (by simpa [HXL.out] using info_edit) hone ?_
       simp only [Act.put]
       generalize hw3 : World.setCells _ gC 0 xs.toArray.toList = w3
       have S4 : Blk w3 gC (ecells kz 0 0 0 0 zeros) := by rw [← HXS.out]; exact hw3 ▸ S3
       have LE3' : Le w1 w3 := hw3 ▸ LE3
       have q4 : w3.cell? ⟨gC, 0, none⟩ = some (.int .i64 kz) := S4.cell rfl
       clear hw3 T3 S3 LE3)
    | fail)
  refine (HG1.out _).mono ?_
  rintro e' w3' ⟨rfl, rfl⟩
  have R4 := R1.later LE3'
  have B4 := B1.later LE3'
  have G4 := G1.trans (grown_none LE3' _)
  have hgC2 : r + 1 ≤ gC := by omega
  have ne3 : (some g : Option Nat) ≠ some gC := by simp; omega
  clear R1 B1 G1 LE3' hs2 hsz
  go_wp2_with fail
  refine (HN.out _ R4).mono ?_
  rintro e' wy ⟨rfl, Ry, Gy⟩
  have Sy := S4.kept Gy ne3
  have By := (B4.kept Gy ne1).setOther (b := gC) 2 (.int .i64 gz) (by omega)
  have fy := Sy.frozen 2
  have qy : wy.cell? ⟨gC, 2, none⟩ = some (.int .i64 0) := Sy.cell rfl
  have Sz : Blk (wy.setCell ⟨gC, 2, none⟩ (.int .i64 gz)) gC (ecells kz 0 gz 0 0 zeros) := Sy.set 2 _
  have Rz := Ry.off (grown_set1 wy gC 2 (.int .i64 gz)) (by omega)
  have Gz := grown_new (G4.trans Gy) (grown_set1 wy gC 2 (.int .i64 gz)) (by omega)
  clear R4 S4 B4 G4 q4 Ry Gy Sy
  have q4 : (wy.setCell ⟨gC, 2, none⟩ (.int .i64 gz)).cell? ⟨gC, 0, none⟩ = some (.int .i64 kz) := Sz.cell rfl
  go_wp2_with fail
  have S4 := Sz
  have R4 := Rz
  have B4 := By
  have G4 := Gz
  generalize hw4 : wy.setCell ⟨gC, 2, none⟩ (.int .i64 gz) = w4 at S4 R4 B4 G4 q4 ⊢
  clear hw4 fy qy Sz Rz By Gz wy
  refine (HI1.out _).mono ?_
  rintro e' w' ⟨rfl, rfl⟩
  replace S4 : Blk w4 gC (ecells kz iz gz 0 0 zeros) := by rw [HS0.out.2]; exact S4
  go_wp2_with fail
  refine (HP1.out _).mono ?_
  rintro e' w' ⟨rfl, rfl⟩
  have S6 := HPP.out _ _ S4
  have B6 := B4
  have R6 := R4
  rw [← HEP.out.1, ← HEP.out.2] at R6
  have G6 := G4
  clear S4 B4 R4 G4 q4
  by_cases e0 : eP = 0
  · have ke : (eP != 0) = false := by simpa using e0
    have HTE : Hid (T = ((kz, iz, gz, ((x.toNat : Int), lab, f)), aP, eP)) := hid (by rw [HT.out, if_pos e0])
    clear e0
    have T8 := B6.there 0 29 (by rw [HZL.out]; omega)
    have FIN := B6.wholeT (ds := ec) (by rw [HEL.out, HZL.out])
    have R9 := R6.off (grown_sets4 r ec 0 _) (by omega)
    have G9 := grown_new G6 (grown_sets4 r ec 0 _) (by omega)
    have RG := S6.wholeC
    obtain ⟨y0, y1, y2, y3⟩ := R6.facts
    clear S6 B6 R6 G6
    go_wp2_with (first
      | (refine wpList_load_mid rfl 38 (.tmp 3) rfl gC 0 rfl ec _ RG hu rfl (by rw [HEL.out]; exact info_edit) ?_)
      | (refine wpList_store_mid rfl 38 (.tmp 2) (.tmp 31) rfl r 0 ec.toArray rfl rfl (by simpa [HEL.out] using T8) (by simpa [HEL.out] using info_edit) OE ?_)
      | fail)
    exact bodyPost_ret (v := .agg ec.toArray) (tok_results (q := 2) rfl _ _ r ec _ rfl FIN hu rfl (by rw [HEL.out]; exact info_edit)) rfl ⟨by rw [HTE.out, HES.out]; rfl, by rw [HTE.out]; exact R9, G9⟩
  · have ke : (eP != 0) = true := by simpa using e0
    have HTE : Hid (T = ((0, 0, 0, 0, 0, zeros), aP, eP)) := hid (by rw [HT.out, if_neg e0])
    clear e0
    have T8 := B6.there 0 29 (by rw [HZL.out]; omega)
    have FIN := B6.wholeT (ds := zs) (by rfl)
    have R9 := R6.off (grown_sets4 r zs 0 _) (by omega)
    have G9 := grown_new G6 (grown_sets4 r zs 0 _) (by omega)
    have RG := S6.wholeC
    obtain ⟨y0, y1, y2, y3⟩ := R6.facts
    clear S6 B6 R6 G6
    go_wp2_with (first
      | (refine wpList_store_mid rfl 38 (.tmp 2) (.tmp 30) rfl r 0 zs.toArray rfl (by rw [HZS.out]; rfl) (by simpa [HZL.out] using T8) (by simpa [HZL.out] using info_edit) O8 ?_)
      | fail)
    exact bodyPost_ret (v := .agg zs.toArray) (tok_results (q := 2) rfl _ _ r zs _ rfl FIN hu rfl (by rw [HZL.out]; exact info_edit)) rfl ⟨by rw [HTE.out, HZS.out]; rfl, by rw [HTE.out]; exact R9, G9⟩
theorem rr_edit_110 (base g : Nat) (l : List UInt8) (a : Nat) (e : Int) (w : World) (h : Rr w base g (l.drop a) e) (ha : a ≤ l.length) (hm : l.length ≤ 4000) (hg : grp ((edA l a e).1 : Int) = true) (hi : idk ((edA l a e).1 : Int) = true) (hp : ptk ((edA l a e).1 : Int) = false) :
    Calls Tryz.prog 21 #[.pointer (some ⟨g, 0, none⟩)] w fun x w' => x = .returned (.agg (ec6 (editOut l a e).1).toArray) ∧ Rr w' base g (l.drop (editOut l a e).2.1) (editOut l a e).2.2 ∧ w.grownBy w' (some g) := by
  have hgl := h.block.2
  obtain ⟨T, hT⟩ : ∃ T, T = editOut l a e := ⟨_, rfl⟩
  rw [← hT]
  have HA := hid (fun wx (hx : Rr wx base g (l.drop a) e) => rr_abvE base g l a e 7 wx hx hm)
  have A1 := abvOut_at l a e 7 ha
  have kA : edA l a e = abvOut l a e 7 := rfl
  obtain ⟨rA, hA⟩ : ∃ r, r = abvOut l a e 7 := ⟨_, rfl⟩
  rw [← hA] at HA A1 kA
  obtain ⟨vA, aA, eA⟩ := rA
  simp only at HA A1
  rw [kA] at hg hi hp
  simp only at hg hi hp
  have HN := hid (fun wx (hx : Rr wx base g (l.drop aA) eA) => rr_numd base g l aA eA 15 wx hx hm)
  have A2 := numOut_at l aA eA 15 A1
  have kG : edG l a e = numOut l aA eA 15 := by unfold edG; rw [kA]; simp only; rw [if_pos hg]
  obtain ⟨rG, hG⟩ : ∃ r, r = numOut l aA eA 15 := ⟨_, rfl⟩
  rw [← hG] at HN A2 kG
  obtain ⟨vG, aG, eG⟩ := rG
  simp only at HN A2
  obtain ⟨gz, hgz⟩ : ∃ z : Int, z = ((vG : Nat) : Int) := ⟨_, rfl⟩
  rw [← hgz] at HN
  have HI2 := hid (fun wx (hx : Rr wx base g (l.drop aG) eG) => rr_abvE base g l aG eG 1073741823 wx hx hm)
  have A3 := abvOut_at l aG eG 1073741823 A2
  have kI : edI l a e = abvOut l aG eG 1073741823 := by unfold edI; rw [kA, kG]; simp only; rw [if_pos hi]
  obtain ⟨rI, hI⟩ : ∃ r, r = abvOut l aG eG 1073741823 := ⟨_, rfl⟩
  rw [← hI] at HI2 A3 kI
  obtain ⟨vI, aI, eI⟩ := rI
  simp only at HI2 A3
  obtain ⟨iz, hiz⟩ : ∃ z : Int, z = ((vI : Nat) : Int) := ⟨_, rfl⟩
  rw [← hiz] at HI2
  have kP0 : edP l a e = ((0, 0, zeros), aI, eI) := by unfold edP; rw [kA, kI]; simp only; rw [if_neg (by rw [hp]; exact Bool.false_ne_true)]
  obtain ⟨x, hx⟩ : ∃ x : BitVec 32, x = 0#32 := ⟨_, rfl⟩
  have hx0 : ((x.toNat : Nat) : Int) = 0 := by rw [hx]; rfl
  obtain ⟨lab, hlab⟩ : ∃ z : Int, z = 0 := ⟨_, rfl⟩
  obtain ⟨f, hff⟩ : ∃ f, f = zeros := ⟨_, rfl⟩
  obtain ⟨aP, haP⟩ : ∃ z, z = aI := ⟨_, rfl⟩
  obtain ⟨eP, heP⟩ : ∃ z, z = eI := ⟨_, rfl⟩
  have kP : edP l a e = (((x.toNat : Int), lab, f), aP, eP) := by rw [kP0, hx0, hlab, hff, haP, heP]
  have hf : f.length = 8 := by rw [hff]; exact zeros_len
  have HPP := hid (fun (wx : World) (gx : Nat) (hB : Blk wx gx (ecells (vA : Int) iz gz 0 0 zeros)) => (by rw [hx0, hlab, hff]; exact hB : Blk wx gx (ecells (vA : Int) iz gz (x.toNat : Int) lab f)))
  have HEP := hid (And.intro haP heP)
  obtain ⟨kz, hkz⟩ : ∃ z : Int, z = ((vA : Nat) : Int) := ⟨_, rfl⟩
  rw [← hkz] at HA HPP hg hi hp
  have hE : editOut l a e = (if eP = 0 then (kz, iz, gz, ((x.toNat : Int), lab, f)) else (0, 0, 0, 0, 0, zeros), aP, eP) := by
    unfold editOut
    rw [kA, kG, kI, kP]
    simp only
    rw [hkz, hiz, hgz]
  rw [hE] at hT
  have HT := hid hT
  have HG1 := hid (fun wx : World => rgrp_any kz wx)
  have HI1 := hid (fun wx : World => ridk_any kz wx)
  have HP1 := hid (fun wx : World => rptk_any kz wx)
  rw [hg] at HG1
  rw [hi] at HI1
  rw [hp] at HP1
  obtain ⟨ec, hec⟩ : ∃ z, z = ecells kz iz gz (x.toNat : Int) lab f := ⟨_, rfl⟩
  rw [← hec] at HPP
  have HES := hid hec
  have HEL := hid (show ec.length = 29 by rw [hec]; exact ecells_len _ _ _ _ _ hf)
  have OE : ec.toArray.all (·.oneCell') = true := all_oneCell_toArray (by rw [hec]; exact ecells_one _ _ _ _ _ _)
  have hgz0 : True := trivial
  have hiz0 : True := trivial
  have HS0 := hid (And.intro hgz0 hiz0)
  clear hgz0 hiz0 hgz hiz hkz hT hE hec hg hi hp kA kG kI kP hA hG hI kP0 hx hx0 hlab hff haP heP hf A1 A2 A3 ha hm
  have hu := Tryz.underlying38
  have hup := Tryz.underlying36
  have B1 := Blk.new w (ecells 0 0 0 0 0 zeros) 38
  have hw0 : Below w.heap.size w (w.alloc (.cells (ecells 0 0 0 0 0 zeros).toArray 38)) := (Below.refl w.heap.size w).alloc (Nat.le_refl _) _
  have R0 := h.later hw0
  have G0 : w.grownBy (w.alloc (.cells (ecells 0 0 0 0 0 zeros).toArray 38)) (some g) := grown_none hw0 _
  have hsz : w.heap.size + 1 ≤ (w.alloc (.cells (ecells 0 0 0 0 0 zeros).toArray 38)).heap.size := by simp
  generalize hW : w.alloc (.cells (ecells 0 0 0 0 0 zeros).toArray 38) = W at *
  have HZ := hid ze29
  have ne1 : (some g : Option Nat) ≠ some w.heap.size := by simp; omega
  obtain ⟨zs, hzs⟩ : ∃ zs, zs = ecells 0 0 0 0 0 zeros := ⟨_, rfl⟩
  obtain ⟨xs, hxs⟩ : ∃ xs, xs = ecells kz 0 0 0 0 zeros := ⟨_, rfl⟩
  have HZL := hid (show zs.length = 29 by rw [hzs]; exact ecells_len _ _ _ _ _ zeros_len)
  have HXL := hid (show xs.length = 29 by rw [hxs]; exact ecells_len _ _ _ _ _ zeros_len)
  have hone : xs.toArray.all (·.oneCell') = true := all_oneCell_toArray (by rw [hxs]; exact ecells_one _ _ _ _ _ _)
  have O8 : zs.toArray.all (·.oneCell') = true := all_oneCell_toArray (by rw [hzs]; exact ecells_one _ _ _ _ _ _)
  rw [← hzs] at B1 HZ hW
  have HW := hid hW
  have HZS := hid hzs
  have HXS := hid hxs
  clear hW hw0 h hzs hxs
  obtain ⟨r, hr⟩ : ∃ r, r = w.heap.size := ⟨_, rfl⟩
  go_enter Tryz.func21, Tryz.ntmps21
  go_wp2_with fail
  rw [← HZ.out, HW.out]
  have hwr : w.heap.size ≤ r := by omega
  rw [← hr] at B1 hsz ne1 hgl
  rw [← hr]
  clear hr HW
  refine (HA.out _ R0).mono ?_
  rintro e' w1 ⟨rfl, R1, G1⟩
  replace B1 := B1.kept G1 ne1
  have hs2 := G1.size
  replace G1 := G0.trans G1
  have B3 := Blk.new w1 zs 38
  have T3 := B3.there 0 29 (by rw [HZL.out]; omega)
  have S3 := B3.wholeT (ds := xs) (by rw [HXL.out, HZL.out])
  have LE3 : Le w1 (World.setCells (w1.alloc (.cells zs.toArray 38)) w1.heap.size 0 xs) := below_sets (Nat.le_refl _) _ 0 ((Below.refl w1.heap.size w1).alloc (Nat.le_refl _) _)
  obtain ⟨gC, hgC⟩ : ∃ z, z = w1.heap.size := ⟨_, rfl⟩
  rw [← hgC] at T3 S3 LE3 hs2
  have HG3 := hid hgC
  clear hgC B3 R0 G0
  go_wp2_with (first
    | (rw [← HZ.out, ← HG3.out]
       refine wpList_store_mid rfl 38 (.tmp 3) (.tmp 6) rfl gC 0 xs.toArray rfl (by rw [HXS.out]; rfl) (by simpa [HXL.out] using T3) (by simpa [HXL.out] using info_edit) hone ?_
       simp only [Act.put]
       generalize hw3 : World.setCells _ gC 0 xs.toArray.toList = w3
       have S4 : Blk w3 gC (ecells kz 0 0 0 0 zeros) := by rw [← HXS.out]; exact hw3 ▸ S3
       have LE3' : Le w1 w3 := hw3 ▸ LE3
       have q4 : w3.cell? ⟨gC, 0, none⟩ = some (.int .i64 kz) := S4.cell rfl
       clear hw3 T3 S3 LE3)
    | fail)
  refine (HG1.out _).mono ?_
  rintro e' w3' ⟨rfl, rfl⟩
  have R4 := R1.later LE3'
  have B4 := B1.later LE3'
  have G4 := G1.trans (grown_none LE3' _)
  have hgC2 : r + 1 ≤ gC := by omega
  have ne3 : (some g : Option Nat) ≠ some gC := by simp; omega
  clear R1 B1 G1 LE3' hs2 hsz
  go_wp2_with fail
  refine (HN.out _ R4).mono ?_
  rintro e' wy ⟨rfl, Ry, Gy⟩
  have Sy := S4.kept Gy ne3
  have By := (B4.kept Gy ne1).setOther (b := gC) 2 (.int .i64 gz) (by omega)
  have fy := Sy.frozen 2
  have qy : wy.cell? ⟨gC, 2, none⟩ = some (.int .i64 0) := Sy.cell rfl
  have Sz : Blk (wy.setCell ⟨gC, 2, none⟩ (.int .i64 gz)) gC (ecells kz 0 gz 0 0 zeros) := Sy.set 2 _
  have Rz := Ry.off (grown_set1 wy gC 2 (.int .i64 gz)) (by omega)
  have Gz := grown_new (G4.trans Gy) (grown_set1 wy gC 2 (.int .i64 gz)) (by omega)
  clear R4 S4 B4 G4 q4 Ry Gy Sy
  have q4 : (wy.setCell ⟨gC, 2, none⟩ (.int .i64 gz)).cell? ⟨gC, 0, none⟩ = some (.int .i64 kz) := Sz.cell rfl
  go_wp2_with fail
  have S4 := Sz
  have R4 := Rz
  have B4 := By
  have G4 := Gz
  generalize hw4 : wy.setCell ⟨gC, 2, none⟩ (.int .i64 gz) = w4 at S4 R4 B4 G4 q4 ⊢
  clear hw4 fy qy Sz Rz By Gz wy
  refine (HI1.out _).mono ?_
  rintro e' w' ⟨rfl, rfl⟩
  go_wp2_with fail
  refine (HI2.out _ R4).mono ?_
  rintro e' wy ⟨rfl, Ry, Gy⟩
  have Sy := S4.kept Gy ne3
  have By := (B4.kept Gy ne1).setOther (b := gC) 1 (.int .i64 iz) (by omega)
  have fy := Sy.frozen 1
  have qy : wy.cell? ⟨gC, 1, none⟩ = some (.int .i64 0) := Sy.cell rfl
  have Sz : Blk (wy.setCell ⟨gC, 1, none⟩ (.int .i64 iz)) gC (ecells kz iz gz 0 0 zeros) := Sy.set 1 _
  have Rz := Ry.off (grown_set1 wy gC 1 (.int .i64 iz)) (by omega)
  have Gz := grown_new (G4.trans Gy) (grown_set1 wy gC 1 (.int .i64 iz)) (by omega)
  clear R4 S4 B4 G4 q4 Ry Gy Sy
  have q4 : (wy.setCell ⟨gC, 1, none⟩ (.int .i64 iz)).cell? ⟨gC, 0, none⟩ = some (.int .i64 kz) := Sz.cell rfl
  go_wp2_with fail
  have S4 := Sz
  have R4 := Rz
  have B4 := By
  have G4 := Gz
  generalize hw4 : wy.setCell ⟨gC, 1, none⟩ (.int .i64 iz) = w4 at S4 R4 B4 G4 q4 ⊢
  clear hw4 fy qy Sz Rz By Gz wy
  refine (HP1.out _).mono ?_
  rintro e' w' ⟨rfl, rfl⟩
  have S6 := HPP.out _ _ S4
  have B6 := B4
  have R6 := R4
  rw [← HEP.out.1, ← HEP.out.2] at R6
  have G6 := G4
  clear S4 B4 R4 G4 q4
  by_cases e0 : eP = 0
  · have ke : (eP != 0) = false := by simpa using e0
    have HTE : Hid (T = ((kz, iz, gz, ((x.toNat : Int), lab, f)), aP, eP)) := hid (by rw [HT.out, if_pos e0])
    clear e0
    have T8 := B6.there 0 29 (by rw [HZL.out]; omega)
    have FIN := B6.wholeT (ds := ec) (by rw [HEL.out, HZL.out])
    have R9 := R6.off (grown_sets4 r ec 0 _) (by omega)
    have G9 := grown_new G6 (grown_sets4 r ec 0 _) (by omega)
    have RG := S6.wholeC
    obtain ⟨y0, y1, y2, y3⟩ := R6.facts
    clear S6 B6 R6 G6
    go_wp2_with (first
      | (refine wpList_load_mid rfl 38 (.tmp 3) rfl gC 0 rfl ec _ RG hu rfl (by rw [HEL.out]; exact info_edit) ?_)
      | (refine wpList_store_mid rfl 38 (.tmp 2) (.tmp 31) rfl r 0 ec.toArray rfl rfl (by simpa [HEL.out] using T8) (by simpa [HEL.out] using info_edit) OE ?_)
      | fail)
    exact bodyPost_ret (v := .agg ec.toArray) (tok_results (q := 2) rfl _ _ r ec _ rfl FIN hu rfl (by rw [HEL.out]; exact info_edit)) rfl ⟨by rw [HTE.out, HES.out]; rfl, by rw [HTE.out]; exact R9, G9⟩
  · have ke : (eP != 0) = true := by simpa using e0
    have HTE : Hid (T = ((0, 0, 0, 0, 0, zeros), aP, eP)) := hid (by rw [HT.out, if_neg e0])
    clear e0
    have T8 := B6.there 0 29 (by rw [HZL.out]; omega)
    have FIN := B6.wholeT (ds := zs) (by rfl)
    have R9 := R6.off (grown_sets4 r zs 0 _) (by omega)
    have G9 := grown_new G6 (grown_sets4 r zs 0 _) (by omega)
    have RG := S6.wholeC
    obtain ⟨y0, y1, y2, y3⟩ := R6.facts
    clear S6 B6 R6 G6
    go_wp2_with (first
      | (refine wpList_store_mid rfl 38 (.tmp 2) (.tmp 30) rfl r 0 zs.toArray rfl (by rw [HZS.out]; rfl) (by simpa [HZL.out] using T8) (by simpa [HZL.out] using info_edit) O8 ?_)
      | fail)
    exact bodyPost_ret (v := .agg zs.toArray) (tok_results (q := 2) rfl _ _ r zs _ rfl FIN hu rfl (by rw [HZL.out]; exact info_edit)) rfl ⟨by rw [HTE.out, HZS.out]; rfl, by rw [HTE.out]; exact R9, G9⟩
theorem rr_edit (base g : Nat) (l : List UInt8) (a : Nat) (e : Int) (w : World) (h : Rr w base g (l.drop a) e) (ha : a ≤ l.length) (hm : l.length ≤ 4000) :
    Calls Tryz.prog 21 #[.pointer (some ⟨g, 0, none⟩)] w fun x w' => x = .returned (.agg (ec6 (editOut l a e).1).toArray) ∧ Rr w' base g (l.drop (editOut l a e).2.1) (editOut l a e).2.2 ∧ w.grownBy w' (some g) := by
  have hle : ((edA l a e).1 : Int) ≤ 7 := numOut_le l a e 7 (by omega)
  have hge : 0 ≤ ((edA l a e).1 : Int) := Int.natCast_nonneg _
  have hc : ((edA l a e).1 : Int) = 0 ∨ ((edA l a e).1 : Int) = 1 ∨ ((edA l a e).1 : Int) = 2 ∨ ((edA l a e).1 : Int) = 3 ∨ ((edA l a e).1 : Int) = 4 ∨ ((edA l a e).1 : Int) = 5 ∨ ((edA l a e).1 : Int) = 6 ∨ ((edA l a e).1 : Int) = 7 := by omega
  clear hle hge
  rcases hc with hk | hk | hk | hk | hk | hk | hk | hk
  · exact rr_edit_000 base g l a e w h ha hm (by rw [hk]; rfl) (by rw [hk]; rfl) (by rw [hk]; rfl)
  · exact rr_edit_001 base g l a e w h ha hm (by rw [hk]; rfl) (by rw [hk]; rfl) (by rw [hk]; rfl)
  · exact rr_edit_011 base g l a e w h ha hm (by rw [hk]; rfl) (by rw [hk]; rfl) (by rw [hk]; rfl)
  · exact rr_edit_010 base g l a e w h ha hm (by rw [hk]; rfl) (by rw [hk]; rfl) (by rw [hk]; rfl)
  · exact rr_edit_100 base g l a e w h ha hm (by rw [hk]; rfl) (by rw [hk]; rfl) (by rw [hk]; rfl)
  · exact rr_edit_100 base g l a e w h ha hm (by rw [hk]; rfl) (by rw [hk]; rfl) (by rw [hk]; rfl)
  · exact rr_edit_110 base g l a e w h ha hm (by rw [hk]; rfl) (by rw [hk]; rfl) (by rw [hk]; rfl)
  · exact rr_edit_110 base g l a e w h ha hm (by rw [hk]; rfl) (by rw [hk]; rfl) (by rw [hk]; rfl)
end Go.Proofs.YtnhcjadkbogioaaGreat
