/- Patches as they are read of bytes: the program's: the walk. -/
import Derived.Test.YticdpfjajkfheaaP6
import Derived.Test.YticdpfjajkfheaaP10
namespace Go.Proofs.Yticdpfjajkfheaa
set_option linter.unusedVariables false
open Go Go.RowKit OctM BitM

def patA (l : List UInt8) (a : Nat) (e : Int) : Nat × Nat × Int := abvOut l a e 511
def patX (l : List UInt8) (a : Nat) (e : Int) : BitVec 32 := BitVec.ofNat 32 (patA l a e).1
def patB (l : List UInt8) (a : Nat) (e : Int) : Nat × Nat × Int := if has (patX l a e) 8 = true then numOut l (patA l a e).2.1 (patA l a e).2.2 65535 else (0, (patA l a e).2)
def patE (l : List UInt8) (a : Nat) (e : Int) : List V3 × Nat × Int := fldsOut false l (flds (patX l a e)) zeros (patB l a e).2.1 (patB l a e).2.2
/-- What is read of bytes: the patch, how far, the error. -/
def patOut (l : List UInt8) (a : Nat) (e : Int) : (Int × Int × List V3) × Nat × Int :=
  (if (patE l a e).2.2 = 0 then (((patX l a e).toNat : Int), ((patB l a e).1 : Int), (patE l a e).1) else (0, 0, zeros), (patE l a e).2)
theorem patB_at (l : List UInt8) (a : Nat) (e : Int) (h : a ≤ l.length) : (patB l a e).2.1 ≤ l.length := by
  unfold patB
  split
  · exact numOut_at _ _ _ _ (abvOut_at _ _ _ _ h)
  · exact abvOut_at _ _ _ _ h
theorem patOut_at (l : List UInt8) (a : Nat) (e : Int) (h : a ≤ l.length) : (patOut l a e).2.1 ≤ l.length :=
  fldsOut_at _ _ _ _ _ _ (patB_at _ _ _ h)
theorem patOut_len (l : List UInt8) (a : Nat) (e : Int) : (patOut l a e).1.2.2.length = 8 := by
  unfold patOut
  simp only
  split
  · simp only [patE, fldsOut_len, zeros_len]
  · exact zeros_len
def pc3 (t : Int × Int × List V3) : List Value := pcells t.1 t.2.1 t.2.2
theorem run_newP (w : World) : (Instr.alloc 29 true (.tuple #[])).run Try.prog w = .ok (.pointer (some ⟨w.heap.size, 0, none⟩)) (w.alloc (.cells (pcells 0 0 zeros).toArray 29)) := by kernel_rfl
theorem fld_natP {x : BitVec 32} {k : Nat} {L : List Int} (hL : L = flds x) (hk : k < L.length) : ∃ j : Nat, L[k] = (j : Int) ∧ j < 8 := by
  obtain ⟨h0, h8, _⟩ := (mem_flds x L[k]).1 (by rw [← hL]; exact List.getElem_mem hk)
  obtain ⟨j, hj⟩ := Int.eq_ofNat_of_zero_le h0
  exact ⟨j, hj, by omega⟩

set_option maxRecDepth 100000 in
set_option maxHeartbeats 6400000 in
theorem rd_patch (base g : Nat) (l : List UInt8) (a : Nat) (e : Int) (w : World) (h : Rd w base g l a e) (ha : a ≤ l.length) (hm : l.length ≤ 2000) :
    Calls Try.prog 20 #[.pointer (some ⟨g, 0, none⟩)] w fun x w' => x = .returned (.agg (pc3 (patOut l a e).1).toArray) ∧ Rd w' base g l (patOut l a e).2.1 (patOut l a e).2.2 ∧ w.grownBy w' (some g) := by
  have hg := h.block.2
  obtain ⟨T, hT⟩ : ∃ T, T = patOut l a e := ⟨_, rfl⟩
  rw [← hT]
  have HA := Lib.hid (fun wx (hx : Rd wx base g l a e) => rd_above base g l a e 511 wx hx ha hm)
  have A1 := abvOut_at l a e 511 ha
  have BA := numOut_le l a e 511 (by omega)
  obtain ⟨rA, hA⟩ : ∃ r, r = abvOut l a e 511 := ⟨_, rfl⟩
  have BA2 : (rA.1 : Int) ≤ 511 := by rw [hA]; exact BA
  rw [← hA] at HA A1
  obtain ⟨vA, aA, eA⟩ := rA
  simp only at HA A1 BA2
  obtain ⟨x, hx⟩ : ∃ x : BitVec 32, vA = x.toNat := ⟨BitVec.ofNat 32 vA, by rw [BitVec.toNat_ofNat]; omega⟩
  subst hx
  have HC := Lib.hid (fun wx (hx : Rd wx base g l aA eA) => rd_num base g l aA eA 65535 wx hx A1 (by omega))
  have A2 := numOut_at l aA eA 65535 A1
  have BC := numOut_le l aA eA 65535 (by omega)
  have kA : patA l a e = (x.toNat, aA, eA) := hA.symm
  have kX : patX l a e = x := by unfold patX; rw [kA, BitVec.ofNat_toNat, BitVec.setWidth_eq]
  have kB : patB l a e = if has x 8 = true then numOut l aA eA 65535 else (0, aA, eA) := by unfold patB; rw [kX, kA]
  obtain ⟨rC, hC⟩ : ∃ r, r = numOut l aA eA 65535 := ⟨_, rfl⟩
  rw [← hC] at HC A2 BC kB
  obtain ⟨vC, aC, eC⟩ := rC
  simp only at HC A2 BC
  obtain ⟨labC, hlabC⟩ : ∃ z : Int, z = (vC : Int) := ⟨_, rfl⟩
  rw [← hlabC] at HC
  obtain ⟨rB, hB⟩ : ∃ r : Nat × Nat × Int, r = if has x 8 = true then (vC, aC, eC) else (0, aA, eA) := ⟨_, rfl⟩
  rw [← hB] at kB
  obtain ⟨vB, aB, eB⟩ := rB
  obtain ⟨lab, hlab⟩ : ∃ z : Int, z = (vB : Int) := ⟨_, rfl⟩
  obtain ⟨L, hL⟩ : ∃ L, L = flds x := ⟨_, rfl⟩
  have kE : patE l a e = fldsOut false l L zeros aB eB := by
    unfold patE
    rw [kB, kX, hL]
  unfold patOut at hT
  rw [kX, kB, kE] at hT
  obtain ⟨FR, hFR⟩ : ∃ FR, FR = fldsOut false l L zeros aB eB := ⟨_, rfl⟩
  rw [← hFR] at hT
  simp only at hT
  rw [← hlab] at hT
  have A4 : aB ≤ l.length := by
    have : aB = if has x 8 = true then aC else aA := by
      have := congrArg (fun r : Nat × Nat × Int => r.2.1) hB
      simp only at this
      rw [this]
      split <;> rfl
    rw [this]
    split
    · exact A2
    · exact A1
  have HT := Lib.hid hT
  have HFR := Lib.hid hFR
  have HFI := Lib.hid (fun wx : World => fields_any x wx)
  have HLB := Lib.hid (fun wx : World => labels_any x wx)
  have hfl := flds_len x
  have HJ := Lib.hid (fun k (hk : k < L.length) => fld_natP hL hk)
  rw [← hL] at HFI hfl
  obtain ⟨m, hm2⟩ : ∃ m, m = L.length := ⟨_, rfl⟩
  rw [← hm2] at HFI hfl
  have HLM := Lib.hid hm2
  have HA4 := Lib.hid A4
  have HM := Lib.hid hm
  have hwc : IntKind.u32.wrap labC = labC := by
    have h2 := wrap_nat (BitVec.ofNat 32 vC)
    rwa [BitVec.toNat_ofNat, Nat.mod_eq_of_lt (by omega), ← hlabC] at h2
  have hwx : IntKind.u32.wrap (x.toNat : Int) = (x.toNat : Int) := wrap_nat x
  have HBV : Hid ((has x 8 = true → lab = labC ∧ aB = aC ∧ eB = eC) ∧ (has x 8 = false → lab = 0 ∧ aB = aA ∧ eB = eA)) := Lib.hid (by
    constructor
    · intro hh
      rw [if_pos hh] at hB
      injection hB with h1 h2
      injection h2 with h2 h3
      exact ⟨by rw [hlab, h1, hlabC], h2, h3⟩
    · intro hh
      rw [if_neg (by rw [hh]; exact Bool.false_ne_true)] at hB
      injection hB with h1 h2
      injection h2 with h2 h3
      exact ⟨by rw [hlab, h1]; rfl, h2, h3⟩)
  clear hlab hlabC hB BC BA BA2
  clear hT hFR kA kX kB kE hA hC hL hm2 ha hm A1 A2 A4
  have B1 : Blk (w.alloc (.cells #[.pointer (some ⟨g, 0, none⟩)] 41)) w.heap.size [.pointer (some ⟨g, 0, none⟩)] := Blk.new w [.pointer (some ⟨g, 0, none⟩)] 41
  have B2 := Blk.new (w.alloc (.cells #[.pointer (some ⟨g, 0, none⟩)] 41)) (pcells 0 0 zeros) 29
  replace B1 := B1.alloc (.cells (pcells 0 0 zeros).toArray 29)
  have hs1 : (w.alloc (.cells #[.pointer (some ⟨g, 0, none⟩)] 41)).heap.size = w.heap.size + 1 := by simp
  rw [hs1] at B2
  have hw0 : Below w.heap.size w ((w.alloc (.cells #[.pointer (some ⟨g, 0, none⟩)] 41)).alloc (.cells (pcells 0 0 zeros).toArray 29)) := ((Below.refl w.heap.size w).alloc (Nat.le_refl _) _).alloc (by simp) _
  have R0 := h.later hw0
  have G0 : w.grownBy ((w.alloc (.cells #[.pointer (some ⟨g, 0, none⟩)] 41)).alloc (.cells (pcells 0 0 zeros).toArray 29)) (some g) := grown_none hw0 _
  have hsz : w.heap.size + 2 ≤ ((w.alloc (.cells #[.pointer (some ⟨g, 0, none⟩)] 41)).alloc (.cells (pcells 0 0 zeros).toArray 29)).heap.size := by simp
  generalize hW : (w.alloc (.cells #[.pointer (some ⟨g, 0, none⟩)] 41)).alloc (.cells (pcells 0 0 zeros).toArray 29) = W at *
  have hu := Try.underlying29
  have HZ := Lib.hid zp26
  have ne1 : (some g : Option Nat) ≠ some w.heap.size := by simp; omega
  have ne2 : (some g : Option Nat) ≠ some (w.heap.size + 1) := by simp; omega
  have x0 : W.cell? ⟨w.heap.size, 0, none⟩ = some (.pointer (some ⟨g, 0, none⟩)) := B1.cell rfl
  obtain ⟨zs, hzs⟩ : ∃ zs, zs = pcells 0 0 zeros := ⟨_, rfl⟩
  obtain ⟨xs, hxs⟩ : ∃ xs, xs = pcells (x.toNat : Int) 0 zeros := ⟨_, rfl⟩
  have HZL := Lib.hid (show zs.length = 26 by rw [hzs]; exact pcells_len 0 0 zeros_len)
  have HXL := Lib.hid (show xs.length = 26 by rw [hxs]; exact pcells_len _ 0 zeros_len)
  have hone : xs.toArray.all (·.oneCell') = true := all_oneCell_toArray (by rw [hxs]; exact pcells_one _ _ _)
  rw [← hzs] at B2 HZ
  rw [← hzs] at hW
  have HW := Lib.hid hW
  have HZS := Lib.hid hzs
  have HXS := Lib.hid hxs
  clear hW hw0 hs1 h hzs hxs
  obtain ⟨r, hr⟩ : ∃ r, r = w.heap.size := ⟨_, rfl⟩
  obtain ⟨b8, hb8⟩ : ∃ b, b = has x 8 := ⟨_, rfl⟩
  rw [← hb8] at HLB HBV
  clear hb8
  cases b8
  all_goals
    go_enter Try.func20, Try.ntmps20
    go_wp2_with fail
    rw [← HZ.out, HW.out]
    rw [← hr] at B1 B2 x0 hsz ne1 ne2 hg
    have HRS := Lib.hid hr
    rw [← hr]
    clear hr HW
    refine (HA.out _ R0).mono ?_
    rintro e' w1 ⟨rfl, R1, G1⟩
    replace B1 := B1.kept G1 ne1
    replace B2 := B2.kept G1 ne2
    have hs2 := G1.size
    replace G1 := G0.trans G1
    have B3 := Blk.new w1 zs 29
    have T3 := B3.there 0 26 (by rw [HZL.out]; omega)
    have S3 := B3.wholeT (ds := xs) (by rw [HXL.out, HZL.out])
    have LE3 : Le w1 (World.setCells (w1.alloc (.cells zs.toArray 29)) w1.heap.size 0 xs) := below_sets (Nat.le_refl _) _ 0 ((Below.refl w1.heap.size w1).alloc (Nat.le_refl _) _)
    obtain ⟨gC, hgC⟩ : ∃ z, z = w1.heap.size := ⟨_, rfl⟩
    rw [← hgC] at T3 S3 LE3 hs2
    have HG3 := Lib.hid hgC
    clear hgC B3 x0 R0 G0
    go_wp2_with (first
      | (rw [← HZ.out, ← HG3.out]
         refine wpList_store_mid rfl 29 (.tmp 3) (.tmp 10) rfl gC 0 xs.toArray rfl (by rw [HXS.out]; rfl) (by simpa [HXL.out] using T3) (by simpa [HXL.out] using info_patch) hone ?_
         simp only [Act.put]
         generalize hw3 : World.setCells _ gC 0 xs.toArray.toList = w3
         have S3' : Blk w3 gC (pcells (x.toNat : Int) 0 zeros) := by rw [← HXS.out]; exact hw3 ▸ S3
         have LE3' : Le w1 w3 := hw3 ▸ LE3
         have q3 : w3.cell? ⟨gC, 0, none⟩ = some (.int .u32 (x.toNat : Int)) := S3'.cell rfl
         clear hw3 T3 S3 LE3)
      | fail)
    refine (HLB.out _).mono ?_
    rintro e' w3' ⟨rfl, rfl⟩
    have R3 := R1.later LE3'
    have X3 := B1.later LE3'
    have B3 := B2.later LE3'
    have G3 := G1.trans (grown_none LE3' _)
    have x3 : w3.cell? ⟨r, 0, none⟩ = some (.pointer (some ⟨g, 0, none⟩)) := X3.cell rfl
    have hgC2 : r + 2 ≤ gC := by omega
    have ne3 : (some g : Option Nat) ≠ some gC := by simp; omega
    clear R1 B1 B2 G1 LE3' hs2 hsz
  · -- no labels
    obtain ⟨p1, p2, p3⟩ := HBV.out.2 trivial
    have R4 : Rd w3 base g l aB eB := by rw [p2, p3]; exact R3
    have S4 : Blk w3 gC (pcells (x.toNat : Int) lab zeros) := by rw [p1]; exact S3'
    have X4 := X3
    have B4 := B3
    have G4 := G3
    have q4 := q3
    have x4 := x3
    clear p1 p2 p3 R3 S3' X3 B3 G3 q3 x3
    obtain ⟨w4, hw4⟩ : ∃ w4, w4 = w3 := ⟨_, rfl⟩
    rw [← hw4] at R4 S4 X4 B4 G4 q4 x4 ⊢
    clear hw4
    go_wp2_with fail
    refine (HFI.out _).mono ?_
    rintro e' w5 ⟨A, c, rfl, O5, hb5⟩
    have R5 := R4.later hb5
    have hC4 := S4.lt
    have S5 := S4.later hb5
    have X5 := X4.later hb5
    have B5 := B4.later hb5
    have G5 := G4.trans (grown_none hb5 _)
    obtain ⟨b5, hbe⟩ : ∃ z, z = w4.heap.size := ⟨_, rfl⟩
    rw [← hbe] at O5 hC4
    clear hbe R4 S4 X4 B4 G4 hb5 q4 x4
    go_wp2_with fail
    go_loopw [23] (fun i wr => ∃ (k a' : Nat) (e' : Int) (f : List V3), k ≤ m ∧ i = .int .i64 k ∧ Rd wr base g l a' e' ∧ Hid (a' ≤ l.length) ∧ Blk wr gC (pcells (x.toNat : Int) lab f) ∧ Hid (f.length = 8) ∧ Blk wr r [.pointer (some ⟨g, 0, none⟩)] ∧ Blk wr (r + 1) zs ∧ Own wr b5 3 (.slice A m c) (ivs L) ∧ Hid (fldsOut false l (L.drop k) f a' e' = FR) ∧ w.grownBy wr (some g)) (fun i _ => m - (intOf i).toNat)
    case atStart => exact ⟨0, aB, eB, zeros, Nat.zero_le _, rfl, R5, HA4, S5, Lib.hid zeros_len, X5, B5, O5, Lib.hid (by rw [List.drop_zero]; exact HFR.out.symm), G5⟩
    case round =>
      obtain ⟨k, a', e', f, hk, rfl, R, HAt, S, HFL, X, B, O, HQ, G⟩ := hrel
      have hrr : r = w.heap.size := HRS.out
      by_cases hlt : k < m
      · have hkl : k < L.length := by rw [← HLM.out]; exact hlt
        obtain ⟨j, hj, hj8⟩ := HJ.out k hkl
        obtain ⟨b, rfl, hbb, _⟩ := Own.block O (by omega)
        have ck : wr.cell? ⟨b, k, none⟩ = some (.int .i64 (j : Int)) := by
          have h2 := Own.cell O k (by rw [ivs_length]; exact hkl)
          rw [h2]
          simp [ivs, hj]
        have H1 := Lib.hid (rd_patchfield base g r gC j hj8 l a' e' (x.toNat : Int) lab f HFL.out wr R HAt.out HM.out S X (by omega) (by omega) (by omega))
        have GO := fun h => fldsOut_go (must := false) (l := l) (f := f) (a := a') (e := e') k hkl h
        have ST := fun h => fldsOut_stop (must := false) (l := l) (f := f) (a := a') (e := e') k hkl h
        rw [hj, Int.toNat_natCast] at GO ST
        have A2 := Lib.hid (fldOut_at false l a' e' HAt.out)
        obtain ⟨⟨v, a2, e2⟩, hq⟩ : ∃ q, q = fldOut false l a' e' := ⟨_, rfl⟩
        rw [← hq] at H1 GO ST A2
        simp only at H1 GO ST A2
        have ki : (k : Int) < (m : Int) := by omega
        have hF2 : Hid ((f.set j v).length = 8) := Lib.hid (by rw [List.length_set]; exact HFL.out)
        clear hq hj
        by_cases e0 : (e2 == 0) = true
        · have HN : Hid (fldsOut false l (L.drop (k + 1)) (f.set j v) a2 e2 = FR) := Lib.hid ((GO e0).symm.trans HQ.out)
          rw [e0] at H1
          clear GO ST e0 hrr hkl
          go_wp2_with fail
          refine H1.out.mono ?_
          rintro x' wn ⟨rfl, Rn, Sn, Tn⟩
          have hrr : r = w.heap.size := HRS.out
          have Xn := Tn.blk X (by omega) (by omega)
          have Bn := Tn.blk B (by omega) (by omega)
          have On := Tn.own O (by omega) (by omega)
          have Gn := Tn.new G (by omega)
          clear R S X B O G Tn hrr
          go_wp2_with fail
          go_roundw
          case rel => exact ⟨k + 1, a2, e2, f.set j v, by omega, by go_num, Rn, A2, Sn, hF2, Xn, Bn, On, HN, Gn⟩
          case measure => simp [intOf]; omega
        · have e1 : (e2 == 0) = false := by simpa using e0
          have ke : (e2 != 0) = true := by simpa using e0
          have HTE : Hid (T = ((0, 0, zeros), a2, e2)) := Lib.hid (by
            have h2 := (ST e1).symm.trans HQ.out
            rw [HT.out, ← h2]
            simp only
            rw [if_neg (by simpa using e0)])
          rw [e1] at H1
          clear GO ST e0 e1 hrr hkl
          go_wp2_with fail
          refine H1.out.mono ?_
          rintro x' wn ⟨rfl, Rn, Sn, Tn⟩
          have hrr : r = w.heap.size := HRS.out
          have Xn := Tn.blk X (by omega) (by omega)
          have Bn := Tn.blk B (by omega) (by omega)
          have Gn := Tn.new G (by omega)
          have xn : wn.cell? ⟨r, 0, none⟩ = some (.pointer (some ⟨g, 0, none⟩)) := Xn.cell rfl
          clear R S X B O G Tn hrr
          go_wp2_with fail
          have hrr : r = w.heap.size := HRS.out
          refine (rd_err base g l a2 e2 wn Rn).mono ?_
          rintro x' w9 ⟨rfl, rfl⟩
          obtain ⟨cs, hcs⟩ : ∃ cs, cs = (pcells 0 0 zeros) := ⟨_, rfl⟩
          have HCL := Lib.hid (show cs.length = 26 by rw [hcs]; exact (pcells_len 0 0 zeros_len))
          have hone : ∀ u ∈ cs, u.oneCell' = true := by rw [hcs]; exact pcells_one _ _ _
          have T8 := Bn.there 0 26 (by rw [HZL.out]; omega)
          have FIN := Bn.wholeT (ds := cs) (by rw [HCL.out, HZL.out])
          have O8 : cs.toArray.all (·.oneCell') = true := all_oneCell_toArray hone
          have R9 := Rn.other (grown_sets4 (r + 1) cs 0 wn) (by omega)
          have G9 := grown_new Gn (grown_sets4 (r + 1) cs 0 wn) (by omega)
          have HCS := Lib.hid hcs
          clear Sn Rn Bn Gn hrr hcs hone
          go_wp2_with (first
            | (refine wpList_store_mid rfl 29 (.tmp 2) (.tmp 35) rfl (r + 1) 0 cs.toArray rfl (by rw [HCS.out]; rfl) (by simpa [HCL.out] using T8) (by simpa [HCL.out] using info_patch) O8 ?_)
            | fail)
          exact bodyPost_ret (v := .agg cs.toArray) (tok_results (q := 2) rfl _ _ (r + 1) cs _ rfl FIN hu rfl (by rw [HCL.out]; exact info_patch)) rfl ⟨by rw [HTE.out, HCS.out]; rfl, by rw [HTE.out]; exact R9, G9⟩
      · obtain rfl : k = m := by omega
        have hq2 : FR = (f, a', e') := by
          have h2 := HQ.out
          rw [HLM.out, List.drop_length] at h2
          exact h2.symm
        have xn : wr.cell? ⟨r, 0, none⟩ = some (.pointer (some ⟨g, 0, none⟩)) := X.cell rfl
        have HFE := HFL
        by_cases e0 : e' = 0
        · have ke : (e' != 0) = false := by simpa using e0
          have HTE : Hid (T = (((x.toNat : Int), lab, f), a', e')) := Lib.hid (by
            rw [HT.out, hq2]
            simp only
            rw [if_pos e0])
          clear hq2 e0 hrr
          go_wp2_with fail
          have hrr : r = w.heap.size := HRS.out
          refine (rd_err base g l a' e' wr R).mono ?_
          rintro x' w9 ⟨rfl, rfl⟩
          obtain ⟨cs, hcs⟩ : ∃ cs, cs = (pcells (x.toNat : Int) lab f) := ⟨_, rfl⟩
          have HCL := Lib.hid (show cs.length = 26 by rw [hcs]; exact (pcells_len (x.toNat : Int) lab HFE.out))
          have hone : ∀ u ∈ cs, u.oneCell' = true := by rw [hcs]; exact pcells_one _ _ _
          have T8 := B.there 0 26 (by rw [HZL.out]; omega)
          have FIN := B.wholeT (ds := cs) (by rw [HCL.out, HZL.out])
          have O8 : cs.toArray.all (·.oneCell') = true := all_oneCell_toArray hone
          rw [← hcs] at S
          have RG := S.range 0 cs (by rw [List.drop_zero, List.take_length])
          have R9 := R.other (grown_sets4 (r + 1) cs 0 wr) (by omega)
          have G9 := grown_new G (grown_sets4 (r + 1) cs 0 wr) (by omega)
          have HCS := Lib.hid hcs
          clear S R B G hrr hcs hone
          go_wp2_with (first
            | (refine wpList_load_mid rfl 29 (.tmp 3) rfl gC 0 rfl cs _ RG hu rfl (by rw [HCL.out]; exact info_patch) ?_)
            | (refine wpList_store_mid rfl 29 (.tmp 2) (.tmp 36) rfl (r + 1) 0 cs.toArray rfl rfl (by simpa [HCL.out] using T8) (by simpa [HCL.out] using info_patch) O8 ?_)
            | fail)
          exact bodyPost_ret (v := .agg cs.toArray) (tok_results (q := 2) rfl _ _ (r + 1) cs _ rfl FIN hu rfl (by rw [HCL.out]; exact info_patch)) rfl ⟨by rw [HTE.out, HCS.out]; rfl, by rw [HTE.out]; exact R9, G9⟩
        · have ke : (e' != 0) = true := by simpa using e0
          have HTE : Hid (T = ((0, 0, zeros), a', e')) := Lib.hid (by
            rw [HT.out, hq2]
            simp only
            rw [if_neg e0])
          clear hq2 e0 hrr
          go_wp2_with fail
          have hrr : r = w.heap.size := HRS.out
          refine (rd_err base g l a' e' wr R).mono ?_
          rintro x' w9 ⟨rfl, rfl⟩
          obtain ⟨cs, hcs⟩ : ∃ cs, cs = (pcells 0 0 zeros) := ⟨_, rfl⟩
          have HCL := Lib.hid (show cs.length = 26 by rw [hcs]; exact (pcells_len 0 0 zeros_len))
          have hone : ∀ u ∈ cs, u.oneCell' = true := by rw [hcs]; exact pcells_one _ _ _
          have T8 := B.there 0 26 (by rw [HZL.out]; omega)
          have FIN := B.wholeT (ds := cs) (by rw [HCL.out, HZL.out])
          have O8 : cs.toArray.all (·.oneCell') = true := all_oneCell_toArray hone
          have R9 := R.other (grown_sets4 (r + 1) cs 0 wr) (by omega)
          have G9 := grown_new G (grown_sets4 (r + 1) cs 0 wr) (by omega)
          have HCS := Lib.hid hcs
          clear S R B G hrr hcs hone
          go_wp2_with (first
            | (refine wpList_store_mid rfl 29 (.tmp 2) (.tmp 35) rfl (r + 1) 0 cs.toArray rfl (by rw [HCS.out]; rfl) (by simpa [HCL.out] using T8) (by simpa [HCL.out] using info_patch) O8 ?_)
            | fail)
          exact bodyPost_ret (v := .agg cs.toArray) (tok_results (q := 2) rfl _ _ (r + 1) cs _ rfl FIN hu rfl (by rw [HCL.out]; exact info_patch)) rfl ⟨by rw [HTE.out, HCS.out]; rfl, by rw [HTE.out]; exact R9, G9⟩
  · obtain ⟨p1, p2, p3⟩ := HBV.out.1 trivial
    have HP := Lib.hid (And.intro p1 (And.intro p2 p3))
    clear p1 p2 p3
    go_wp2_with fail
    refine (HC.out _ R3).mono ?_
    rintro e' wy ⟨rfl, Ry, Gy⟩
    have Sy := S3'.kept Gy ne3
    have Xy := (X3.kept Gy ne1).setOther (b := gC) 1 (.int .u32 labC) (by omega)
    have By := (B3.kept Gy ne2).setOther (b := gC) 1 (.int .u32 labC) (by omega)
    have fy := Sy.frozen 1
    have qy : wy.cell? ⟨gC, 1, none⟩ = some (.int .u32 0) := Sy.cell rfl
    have S4 : Blk (wy.setCell ⟨gC, 1, none⟩ (.int .u32 labC)) gC (pcells (x.toNat : Int) labC zeros) := Sy.set 1 _
    have R4 := Ry.other (grown_set1 wy gC 1 (.int .u32 labC)) (by omega)
    have hrr : r = w.heap.size := HRS.out
    have G4 := grown_new (G3.trans Gy) (grown_set1 wy gC 1 (.int .u32 labC)) (by omega)
    clear R3 S3' X3 B3 G3 q3 x3 Ry Gy Sy hrr
    have q4 : (wy.setCell ⟨gC, 1, none⟩ (.int .u32 labC)).cell? ⟨gC, 0, none⟩ = some (.int .u32 (x.toNat : Int)) := S4.cell rfl
    have x4 : (wy.setCell ⟨gC, 1, none⟩ (.int .u32 labC)).cell? ⟨r, 0, none⟩ = some (.pointer (some ⟨g, 0, none⟩)) := Xy.cell rfl
    go_wp2_with fail
    obtain ⟨w4, hw4⟩ : ∃ w4, w4 = wy.setCell ⟨gC, 1, none⟩ (.int .u32 labC) := ⟨_, rfl⟩
    rw [← hw4] at S4 R4 Xy By G4 q4 x4 ⊢
    clear hw4 fy qy
    have X4 := Xy
    have B4 := By
    rw [← HP.out.2.1, ← HP.out.2.2] at R4
    rw [← HP.out.1] at S4
    clear Xy By
    refine (HFI.out _).mono ?_
    rintro e' w5 ⟨A, c, rfl, O5, hb5⟩
    have R5 := R4.later hb5
    have hC4 := S4.lt
    have S5 := S4.later hb5
    have X5 := X4.later hb5
    have B5 := B4.later hb5
    have G5 := G4.trans (grown_none hb5 _)
    obtain ⟨b5, hbe⟩ : ∃ z, z = w4.heap.size := ⟨_, rfl⟩
    rw [← hbe] at O5 hC4
    clear hbe R4 S4 X4 B4 G4 hb5 q4 x4
    go_wp2_with fail
    go_loopw [23] (fun i wr => ∃ (k a' : Nat) (e' : Int) (f : List V3), k ≤ m ∧ i = .int .i64 k ∧ Rd wr base g l a' e' ∧ Hid (a' ≤ l.length) ∧ Blk wr gC (pcells (x.toNat : Int) lab f) ∧ Hid (f.length = 8) ∧ Blk wr r [.pointer (some ⟨g, 0, none⟩)] ∧ Blk wr (r + 1) zs ∧ Own wr b5 3 (.slice A m c) (ivs L) ∧ Hid (fldsOut false l (L.drop k) f a' e' = FR) ∧ w.grownBy wr (some g)) (fun i _ => m - (intOf i).toNat)
    case atStart => exact ⟨0, aB, eB, zeros, Nat.zero_le _, rfl, R5, HA4, S5, Lib.hid zeros_len, X5, B5, O5, Lib.hid (by rw [List.drop_zero]; exact HFR.out.symm), G5⟩
    case round =>
      obtain ⟨k, a', e', f, hk, rfl, R, HAt, S, HFL, X, B, O, HQ, G⟩ := hrel
      have hrr : r = w.heap.size := HRS.out
      by_cases hlt : k < m
      · have hkl : k < L.length := by rw [← HLM.out]; exact hlt
        obtain ⟨j, hj, hj8⟩ := HJ.out k hkl
        obtain ⟨b, rfl, hbb, _⟩ := Own.block O (by omega)
        have ck : wr.cell? ⟨b, k, none⟩ = some (.int .i64 (j : Int)) := by
          have h2 := Own.cell O k (by rw [ivs_length]; exact hkl)
          rw [h2]
          simp [ivs, hj]
        have H1 := Lib.hid (rd_patchfield base g r gC j hj8 l a' e' (x.toNat : Int) lab f HFL.out wr R HAt.out HM.out S X (by omega) (by omega) (by omega))
        have GO := fun h => fldsOut_go (must := false) (l := l) (f := f) (a := a') (e := e') k hkl h
        have ST := fun h => fldsOut_stop (must := false) (l := l) (f := f) (a := a') (e := e') k hkl h
        rw [hj, Int.toNat_natCast] at GO ST
        have A2 := Lib.hid (fldOut_at false l a' e' HAt.out)
        obtain ⟨⟨v, a2, e2⟩, hq⟩ : ∃ q, q = fldOut false l a' e' := ⟨_, rfl⟩
        rw [← hq] at H1 GO ST A2
        simp only at H1 GO ST A2
        have ki : (k : Int) < (m : Int) := by omega
        have hF2 : Hid ((f.set j v).length = 8) := Lib.hid (by rw [List.length_set]; exact HFL.out)
        clear hq hj
        by_cases e0 : (e2 == 0) = true
        · have HN : Hid (fldsOut false l (L.drop (k + 1)) (f.set j v) a2 e2 = FR) := Lib.hid ((GO e0).symm.trans HQ.out)
          rw [e0] at H1
          clear GO ST e0 hrr hkl
          go_wp2_with fail
          refine H1.out.mono ?_
          rintro x' wn ⟨rfl, Rn, Sn, Tn⟩
          have hrr : r = w.heap.size := HRS.out
          have Xn := Tn.blk X (by omega) (by omega)
          have Bn := Tn.blk B (by omega) (by omega)
          have On := Tn.own O (by omega) (by omega)
          have Gn := Tn.new G (by omega)
          clear R S X B O G Tn hrr
          go_wp2_with fail
          go_roundw
          case rel => exact ⟨k + 1, a2, e2, f.set j v, by omega, by go_num, Rn, A2, Sn, hF2, Xn, Bn, On, HN, Gn⟩
          case measure => simp [intOf]; omega
        · have e1 : (e2 == 0) = false := by simpa using e0
          have ke : (e2 != 0) = true := by simpa using e0
          have HTE : Hid (T = ((0, 0, zeros), a2, e2)) := Lib.hid (by
            have h2 := (ST e1).symm.trans HQ.out
            rw [HT.out, ← h2]
            simp only
            rw [if_neg (by simpa using e0)])
          rw [e1] at H1
          clear GO ST e0 e1 hrr hkl
          go_wp2_with fail
          refine H1.out.mono ?_
          rintro x' wn ⟨rfl, Rn, Sn, Tn⟩
          have hrr : r = w.heap.size := HRS.out
          have Xn := Tn.blk X (by omega) (by omega)
          have Bn := Tn.blk B (by omega) (by omega)
          have Gn := Tn.new G (by omega)
          have xn : wn.cell? ⟨r, 0, none⟩ = some (.pointer (some ⟨g, 0, none⟩)) := Xn.cell rfl
          clear R S X B O G Tn hrr
          go_wp2_with fail
          have hrr : r = w.heap.size := HRS.out
          refine (rd_err base g l a2 e2 wn Rn).mono ?_
          rintro x' w9 ⟨rfl, rfl⟩
          obtain ⟨cs, hcs⟩ : ∃ cs, cs = (pcells 0 0 zeros) := ⟨_, rfl⟩
          have HCL := Lib.hid (show cs.length = 26 by rw [hcs]; exact (pcells_len 0 0 zeros_len))
          have hone : ∀ u ∈ cs, u.oneCell' = true := by rw [hcs]; exact pcells_one _ _ _
          have T8 := Bn.there 0 26 (by rw [HZL.out]; omega)
          have FIN := Bn.wholeT (ds := cs) (by rw [HCL.out, HZL.out])
          have O8 : cs.toArray.all (·.oneCell') = true := all_oneCell_toArray hone
          have R9 := Rn.other (grown_sets4 (r + 1) cs 0 wn) (by omega)
          have G9 := grown_new Gn (grown_sets4 (r + 1) cs 0 wn) (by omega)
          have HCS := Lib.hid hcs
          clear Sn Rn Bn Gn hrr hcs hone
          go_wp2_with (first
            | (refine wpList_store_mid rfl 29 (.tmp 2) (.tmp 35) rfl (r + 1) 0 cs.toArray rfl (by rw [HCS.out]; rfl) (by simpa [HCL.out] using T8) (by simpa [HCL.out] using info_patch) O8 ?_)
            | fail)
          exact bodyPost_ret (v := .agg cs.toArray) (tok_results (q := 2) rfl _ _ (r + 1) cs _ rfl FIN hu rfl (by rw [HCL.out]; exact info_patch)) rfl ⟨by rw [HTE.out, HCS.out]; rfl, by rw [HTE.out]; exact R9, G9⟩
      · obtain rfl : k = m := by omega
        have hq2 : FR = (f, a', e') := by
          have h2 := HQ.out
          rw [HLM.out, List.drop_length] at h2
          exact h2.symm
        have xn : wr.cell? ⟨r, 0, none⟩ = some (.pointer (some ⟨g, 0, none⟩)) := X.cell rfl
        have HFE := HFL
        by_cases e0 : e' = 0
        · have ke : (e' != 0) = false := by simpa using e0
          have HTE : Hid (T = (((x.toNat : Int), lab, f), a', e')) := Lib.hid (by
            rw [HT.out, hq2]
            simp only
            rw [if_pos e0])
          clear hq2 e0 hrr
          go_wp2_with fail
          have hrr : r = w.heap.size := HRS.out
          refine (rd_err base g l a' e' wr R).mono ?_
          rintro x' w9 ⟨rfl, rfl⟩
          obtain ⟨cs, hcs⟩ : ∃ cs, cs = (pcells (x.toNat : Int) lab f) := ⟨_, rfl⟩
          have HCL := Lib.hid (show cs.length = 26 by rw [hcs]; exact (pcells_len (x.toNat : Int) lab HFE.out))
          have hone : ∀ u ∈ cs, u.oneCell' = true := by rw [hcs]; exact pcells_one _ _ _
          have T8 := B.there 0 26 (by rw [HZL.out]; omega)
          have FIN := B.wholeT (ds := cs) (by rw [HCL.out, HZL.out])
          have O8 : cs.toArray.all (·.oneCell') = true := all_oneCell_toArray hone
          rw [← hcs] at S
          have RG := S.range 0 cs (by rw [List.drop_zero, List.take_length])
          have R9 := R.other (grown_sets4 (r + 1) cs 0 wr) (by omega)
          have G9 := grown_new G (grown_sets4 (r + 1) cs 0 wr) (by omega)
          have HCS := Lib.hid hcs
          clear S R B G hrr hcs hone
          go_wp2_with (first
            | (refine wpList_load_mid rfl 29 (.tmp 3) rfl gC 0 rfl cs _ RG hu rfl (by rw [HCL.out]; exact info_patch) ?_)
            | (refine wpList_store_mid rfl 29 (.tmp 2) (.tmp 36) rfl (r + 1) 0 cs.toArray rfl rfl (by simpa [HCL.out] using T8) (by simpa [HCL.out] using info_patch) O8 ?_)
            | fail)
          exact bodyPost_ret (v := .agg cs.toArray) (tok_results (q := 2) rfl _ _ (r + 1) cs _ rfl FIN hu rfl (by rw [HCL.out]; exact info_patch)) rfl ⟨by rw [HTE.out, HCS.out]; rfl, by rw [HTE.out]; exact R9, G9⟩
        · have ke : (e' != 0) = true := by simpa using e0
          have HTE : Hid (T = ((0, 0, zeros), a', e')) := Lib.hid (by
            rw [HT.out, hq2]
            simp only
            rw [if_neg e0])
          clear hq2 e0 hrr
          go_wp2_with fail
          have hrr : r = w.heap.size := HRS.out
          refine (rd_err base g l a' e' wr R).mono ?_
          rintro x' w9 ⟨rfl, rfl⟩
          obtain ⟨cs, hcs⟩ : ∃ cs, cs = (pcells 0 0 zeros) := ⟨_, rfl⟩
          have HCL := Lib.hid (show cs.length = 26 by rw [hcs]; exact (pcells_len 0 0 zeros_len))
          have hone : ∀ u ∈ cs, u.oneCell' = true := by rw [hcs]; exact pcells_one _ _ _
          have T8 := B.there 0 26 (by rw [HZL.out]; omega)
          have FIN := B.wholeT (ds := cs) (by rw [HCL.out, HZL.out])
          have O8 : cs.toArray.all (·.oneCell') = true := all_oneCell_toArray hone
          have R9 := R.other (grown_sets4 (r + 1) cs 0 wr) (by omega)
          have G9 := grown_new G (grown_sets4 (r + 1) cs 0 wr) (by omega)
          have HCS := Lib.hid hcs
          clear S R B G hrr hcs hone
          go_wp2_with (first
            | (refine wpList_store_mid rfl 29 (.tmp 2) (.tmp 35) rfl (r + 1) 0 cs.toArray rfl (by rw [HCS.out]; rfl) (by simpa [HCL.out] using T8) (by simpa [HCL.out] using info_patch) O8 ?_)
            | fail)
          exact bodyPost_ret (v := .agg cs.toArray) (tok_results (q := 2) rfl _ _ (r + 1) cs _ rfl FIN hu rfl (by rw [HCL.out]; exact info_patch)) rfl ⟨by rw [HTE.out, HCS.out]; rfl, by rw [HTE.out]; exact R9, G9⟩
end Go.Proofs.Yticdpfjajkfheaa

/- Patches as they are read of bytes: the document's: the walk. -/
namespace Go.Proofs.Yticdpfjajkfheaa
set_option linter.unusedVariables false
open Go Go.RowKit OctM BitM

theorem numOut_bad (l : List UInt8) (a : Nat) (e m : Int) (h : e ≠ 0) : numOut l a e m = (0, a, e) := by
  unfold numOut
  rw [if_pos h]
theorem valOut_err (l : List UInt8) (a : Nat) (e : Int) (h : e ≠ 0) : valOut l a e = (zv, a, e) := by
  unfold valOut
  rw [numOut_bad l a e 2 h, if_neg (by simp), if_neg (by simp)]
  unfold valEnd
  rw [if_neg h]
theorem patch_step {l : List UInt8} {FR : List V3 × Nat × Int} {k : Nat} {L : List Int} {f : List V3} {a : Nat} {e : Int} (h : FR = fldsOut false l ([(k : Int)] ++ L) f a e) :
    ((valOut l a e).2.2 = 0 → FR = fldsOut false l L (f.set k (valOut l a e).1) (valOut l a e).2.1 (valOut l a e).2.2) ∧ ((valOut l a e).2.2 ≠ 0 → FR.2 = ((valOut l a e).2.1, (valOut l a e).2.2)) := by
  have hf : fldOut false l a e = valOut l a e := by
    unfold fldOut
    rw [if_neg (by simp)]
  rw [List.singleton_append, fldsOut, hf, Int.toNat_natCast] at h
  constructor
  · intro h0
    rw [if_pos h0] at h
    exact h
  · intro h0
    rw [if_neg h0] at h
    rw [h]
theorem patch_err (l : List UInt8) (L : List Int) (a : Nat) (e : Int) (h : e ≠ 0) : (fldsOut false l L zeros a e).2 = (a, e) := by
  cases L with
  | nil => rfl
  | cons i L =>
    have hf : fldOut false l a e = (zv, a, e) := by
      unfold fldOut
      rw [if_neg (by simp), valOut_err l a e h]
    rw [fldsOut, hf, if_neg h]

set_option maxRecDepth 100000 in
set_option maxHeartbeats 6400000 in
theorem rr_patch (base g : Nat) (l : List UInt8) (a : Nat) (e : Int) (w : World) (h : Rr w base g (l.drop a) e) (ha : a ≤ l.length) (hm : l.length ≤ 2000) :
    Calls Try.prog 21 #[.pointer (some ⟨g, 0, none⟩)] w fun x w' => x = .returned (.agg (pc3 (patOut l a e).1).toArray) ∧ Rr w' base g (l.drop (patOut l a e).2.1) (patOut l a e).2.2 ∧ w.grownBy w' (some g) := by
  have hg := h.block.2
  obtain ⟨T, hT⟩ : ∃ T, T = patOut l a e := ⟨_, rfl⟩
  rw [← hT]
  have HA := Lib.hid (fun wx (hx : Rr wx base g (l.drop a) e) => rr_aboved base g l a e 511 wx hx hm)
  have A1 := abvOut_at l a e 511 ha
  have BA := numOut_le l a e 511 (by omega)
  obtain ⟨rA, hA⟩ : ∃ r, r = abvOut l a e 511 := ⟨_, rfl⟩
  have BA2 : (rA.1 : Int) ≤ 511 := by rw [hA]; exact BA
  rw [← hA] at HA A1
  obtain ⟨vA, aA, eA⟩ := rA
  simp only at HA A1 BA2
  obtain ⟨x, hx⟩ : ∃ x : BitVec 32, vA = x.toNat := ⟨BitVec.ofNat 32 vA, by rw [BitVec.toNat_ofNat]; omega⟩
  subst hx
  have HC := Lib.hid (fun wx (hx : Rr wx base g (l.drop aA) eA) => rr_numd base g l aA eA 65535 wx hx hm)
  have A2 := numOut_at l aA eA 65535 A1
  have BC := numOut_le l aA eA 65535 (by omega)
  have kA : patA l a e = (x.toNat, aA, eA) := hA.symm
  have kX : patX l a e = x := by unfold patX; rw [kA, BitVec.ofNat_toNat, BitVec.setWidth_eq]
  have kB : patB l a e = if has x 8 = true then numOut l aA eA 65535 else (0, aA, eA) := by unfold patB; rw [kX, kA]
  obtain ⟨rC, hC⟩ : ∃ r, r = numOut l aA eA 65535 := ⟨_, rfl⟩
  rw [← hC] at HC A2 BC kB
  obtain ⟨vC, aC, eC⟩ := rC
  simp only at HC A2 BC
  obtain ⟨labC, hlabC⟩ : ∃ z : Int, z = (vC : Int) := ⟨_, rfl⟩
  rw [← hlabC] at HC
  obtain ⟨rB, hB⟩ : ∃ r : Nat × Nat × Int, r = if has x 8 = true then (vC, aC, eC) else (0, aA, eA) := ⟨_, rfl⟩
  rw [← hB] at kB
  obtain ⟨vB, aB, eB⟩ := rB
  obtain ⟨lab, hlab⟩ : ∃ z : Int, z = (vB : Int) := ⟨_, rfl⟩
  have kE : patE l a e = fldsOut false l (fromL x 8 0) zeros aB eB := by
    unfold patE
    rw [kB, kX, flds_from]
  unfold patOut at hT
  rw [kX, kB, kE] at hT
  obtain ⟨FR, hFR⟩ : ∃ FR, FR = fldsOut false l (fromL x 8 0) zeros aB eB := ⟨_, rfl⟩
  rw [← hFR] at hT
  simp only at hT
  rw [← hlab] at hT
  have A4 : aB ≤ l.length := by
    have : aB = if has x 8 = true then aC else aA := by
      have := congrArg (fun r : Nat × Nat × Int => r.2.1) hB
      simp only at this
      rw [this]
      split <;> rfl
    rw [this]
    split
    · exact A2
    · exact A1
  have HT := Lib.hid hT
  have HFR0 : Hid ((eB = 0 → FR = fldsOut false l (fromL x (8 - 0) 0) zeros aB eB) ∧ (eB ≠ 0 → FR.2 = (aB, eB))) := Lib.hid ⟨fun _ => hFR, fun hne => by rw [hFR]; exact patch_err _ _ _ _ hne⟩
  have HA4 := Lib.hid A4
  have HM := Lib.hid hm
  have hwc : IntKind.u32.wrap labC = labC := by
    have h2 := wrap_nat (BitVec.ofNat 32 vC)
    rwa [BitVec.toNat_ofNat, Nat.mod_eq_of_lt (by omega), ← hlabC] at h2
  have hwx : IntKind.u32.wrap (x.toNat : Int) = (x.toNat : Int) := wrap_nat x
  have HBV : Hid ((has x 8 = true → lab = labC ∧ aB = aC ∧ eB = eC) ∧ (has x 8 = false → lab = 0 ∧ aB = aA ∧ eB = eA)) := Lib.hid (by
    constructor
    · intro hh
      rw [if_pos hh] at hB
      injection hB with h1 h2
      injection h2 with h2 h3
      exact ⟨by rw [hlab, h1, hlabC], h2, h3⟩
    · intro hh
      rw [if_neg (by rw [hh]; exact Bool.false_ne_true)] at hB
      injection hB with h1 h2
      injection h2 with h2 h3
      exact ⟨by rw [hlab, h1]; rfl, h2, h3⟩)
  have HX := Lib.hid (fun (k : Int) (wx : World) => rhas_any x k wx)
  have HLB := Lib.hid (fun wx : World => rlabels_any x wx)
  clear hlab hlabC hB BC BA BA2
  clear hT hFR kA kX kB kE hA hC ha hm A1 A2 A4
  have HZ := Lib.hid zp26
  obtain ⟨zs, hzs⟩ : ∃ zs, zs = pcells 0 0 zeros := ⟨_, rfl⟩
  have HZL := Lib.hid (show zs.length = 26 by rw [hzs]; exact pcells_len 0 0 zeros_len)
  have hone : zs.toArray.all (·.oneCell') = true := all_oneCell_toArray (by rw [hzs]; exact pcells_one _ _ _)
  rw [← hzs] at HZ
  have HZS := Lib.hid hzs
  clear hzs
  obtain ⟨b8, hb8⟩ : ∃ b, b = has x 8 := ⟨_, rfl⟩
  rw [← hb8] at HLB HBV
  clear hb8
  have Bz := Blk.new (w.alloc (.cells zs.toArray 29)) zs 29
  have B := (Blk.new w zs 29).alloc (.cells zs.toArray 29)
  have hs1 : (w.alloc (.cells zs.toArray 29)).heap.size = w.heap.size + 1 := by simp
  rw [hs1] at Bz
  have T0 := Bz.there 0 26 (by rw [HZL.out]; omega)
  have S := Bz.wholeT (ds := zs) rfl
  replace B := Blk.setsOther (b := w.heap.size + 1) (g := w.heap.size) (by omega) zs 0 B
  have hw0 : Below w.heap.size w (World.setCells ((w.alloc (.cells zs.toArray 29)).alloc (.cells zs.toArray 29)) (w.heap.size + 1) 0 zs) := below_sets (by omega) _ 0 (((Below.refl w.heap.size w).alloc (Nat.le_refl _) _).alloc (by simp) _)
  have R := h.later hw0
  have G := grown_none hw0 (some g)
  have hu := Try.underlying29
  have ne1 : (some g : Option Nat) ≠ some w.heap.size := by simp; omega
  have ne3 : (some g : Option Nat) ≠ some (w.heap.size + 1) := by simp; omega
  obtain ⟨r, hr⟩ : ∃ r, r = w.heap.size := ⟨_, rfl⟩
  clear Bz hs1 h hw0
  go_enter Try.func21, Try.ntmps21
  go_wp2_with (first
    | (rw [← HZ.out]
       refine wpList_store_mid rfl 29 (.tmp 3) (.tmp 5) rfl (w.heap.size + 1) 0 zs.toArray rfl (by rw [HZS.out]; rfl) (by simpa [HZL.out] using T0) (by simpa [HZL.out] using info_patch) hone ?_
       simp only [Act.put]
       generalize hw3 : World.setCells _ (w.heap.size + 1) 0 zs.toArray.toList = w3
       replace S : Blk w3 (w.heap.size + 1) zs := hw3 ▸ S
       replace B : Blk w3 w.heap.size zs := hw3 ▸ B
       replace R : Rr w3 base g (l.drop a) e := hw3 ▸ R
       replace G : w.grownBy w3 (some g) := hw3 ▸ G
       clear hw3 T0)
    | fail)
  rw [HZS.out] at S
  obtain ⟨gC, hgC⟩ : ∃ z, z = w.heap.size + 1 := ⟨_, rfl⟩
  rw [← hgC] at S ne3
  have hCr : r < gC := by omega
  have HRS := Lib.hid hr
  rw [← hr] at B ne1 hg
  rw [← hgC, ← hr]
  have hgs : w.heap.size ≤ gC := by omega
  clear hgC hr
  refine (HA.out _ R).mono ?_
  rintro x' wA ⟨rfl, RA, GA⟩
  replace S := S.kept GA ne3
  replace B := B.kept GA ne1
  replace G := G.trans GA
  have f0 := S.frozen 0
  have q0 : wA.cell? ⟨gC, 0, none⟩ = some (.int .u32 0) := S.cell rfl
  have S2 : Blk (wA.setCell ⟨gC, 0, none⟩ (.int .u32 (x.toNat : Int))) gC (pcells (x.toNat : Int) 0 zeros) := S.set 0 _
  have R2 := RA.off (grown_set1 wA gC 0 (.int .u32 (x.toNat : Int))) (by omega)
  have B2 := B.setOther (b := gC) 0 (.int .u32 (x.toNat : Int)) (by omega)
  have G2 := grown_new G (grown_set1 wA gC 0 (.int .u32 (x.toNat : Int))) (by omega)
  have q2 : (wA.setCell ⟨gC, 0, none⟩ (.int .u32 (x.toNat : Int))).cell? ⟨gC, 0, none⟩ = some (.int .u32 (x.toNat : Int)) := S2.cell rfl
  clear S B G R RA GA
  go_wp2_with fail
  obtain ⟨w3, hw3⟩ : ∃ z, z = wA.setCell ⟨gC, 0, none⟩ (.int .u32 (x.toNat : Int)) := ⟨_, rfl⟩
  rw [← hw3] at S2 R2 B2 G2 q2 ⊢
  clear hw3 f0 q0
  refine (HLB.out _).mono ?_
  rintro x' wn ⟨rfl, rfl⟩
  cases b8
  · obtain ⟨p1, p2, p3⟩ := HBV.out.2 rfl
    have R5 : Rr w3 base g (l.drop aB) eB := by rw [p2, p3]; exact R2
    have S5 : Blk w3 gC (pcells (x.toNat : Int) lab zeros) := by rw [p1]; exact S2
    have B5 := B2
    have G5 := G2
    clear p1 p2 p3 R2 S2 B2 G2 q2
    go_wp2_with fail
    go_loopw [4] (fun i wr => ∃ (k a' : Nat) (e' : Int) (f : List V3), k ≤ 8 ∧ i = .int .i64 k ∧ Rr wr base g (l.drop a') e' ∧ Hid (a' ≤ l.length) ∧ Blk wr gC (pcells (x.toNat : Int) lab f) ∧ Hid (f.length = 8) ∧ Blk wr r zs ∧ Hid ((e' = 0 → FR = fldsOut false l (fromL x (8 - k) k) f a' e') ∧ (e' ≠ 0 → FR.2 = (a', e'))) ∧ w.grownBy wr (some g)) (fun i _ => 8 - (intOf i).toNat)
    case atStart => exact ⟨0, aB, eB, zeros, by omega, rfl, R5, HA4, S5, Lib.hid zeros_len, B5, HFR0, G5⟩
    case round =>
      obtain ⟨k, a', e', f, hk, rfl, R, HAt, S, HFL, B, HQ, G⟩ := hrel
      clear R5 S5 B5 G5
      obtain ⟨y0, y1, y2, y3⟩ := R.facts
      have s0 : wr.cell? ⟨gC, 0, none⟩ = some (.int .u32 (x.toNat : Int)) := S.cell rfl
      by_cases hlt : k < 8
      · have ki : (k : Int) < 8 := by omega
        have k0 : (0 : Int) ≤ (k : Int) := by omega
        have HXK := Lib.hid (fun wx : World => HX.out (k : Int) wx)
        have HFM := Lib.hid (show fromL x (8 - k) k = (if has x (k : Int) = true then [(k : Int)] else []) ++ fromL x (8 - (k + 1)) (k + 1) by rw [show 8 - k = 8 - (k + 1) + 1 by omega]; rfl)
        obtain ⟨bh, hbh⟩ : ∃ b, b = has x (k : Int) := ⟨_, rfl⟩
        rw [← hbh] at HXK HFM
        clear hbh
        cases bh
        · -- no such field
          have HN : Hid ((e' = 0 → FR = fldsOut false l (fromL x (8 - (k + 1)) (k + 1)) f a' e') ∧ (e' ≠ 0 → FR.2 = (a', e'))) := Lib.hid (by
            have h2 := HQ.out
            rw [HFM.out] at h2
            simpa using h2)
          go_wp2_with fail
          refine (HXK.out _).mono ?_
          rintro x' wn ⟨rfl, rfl⟩
          go_wp2_with fail
          go_roundw
          case rel => exact ⟨k + 1, a', e', f, by omega, by go_num, R, HAt, S, HFL, B, HN, G⟩
          case measure => simp [intOf]; omega
        · have HV := Lib.hid (rr_value base g l a' e' wr R HAt.out HM.out)
          have HAV := Lib.hid (valOut_at l a' e' HAt.out)
          have HQ2 : Hid (((valOut l a' e').2.2 = 0 → FR = fldsOut false l (fromL x (8 - (k + 1)) (k + 1)) (f.set k (valOut l a' e').1) (valOut l a' e').2.1 (valOut l a' e').2.2) ∧ ((valOut l a' e').2.2 ≠ 0 → FR.2 = ((valOut l a' e').2.1, (valOut l a' e').2.2))) := Lib.hid (by
            have h2 := HQ.out
            by_cases h0 : e' = 0
            · have h3 := h2.1 h0
              rw [HFM.out, if_pos rfl] at h3
              exact patch_step h3
            · have h3 := h2.2 h0
              rw [valOut_err l a' e' h0]
              exact ⟨fun hh => absurd hh h0, fun _ => h3⟩)
          obtain ⟨r1, hr1⟩ : ∃ r, r = valOut l a' e' := ⟨_, rfl⟩
          rw [← hr1] at HV HQ2 HAV
          clear hr1
          obtain ⟨⟨v0, v1, v2⟩, a1, e1⟩ := r1
          simp only at HV HQ2 HAV
          have HFS : Hid ((f.set k (v0, v1, v2)).length = 8) := Lib.hid (by rw [List.length_set]; exact HFL.out)
          go_wp2_with fail
          refine (HXK.out _).mono ?_
          rintro x' wn ⟨rfl, rfl⟩
          go_wp2_with fail
          refine HV.out.mono ?_
          rintro x' w1 ⟨rfl, R1, G1⟩
          replace S := S.kept G1 ne3
          replace B := B.kept G1 ne1
          replace G1 := G.trans G1
          have T1 := S.there (2 + k * 3) 3 (by rw [pcells_len _ _ HFL.out]; omega)
          have S1 := Blk.putField (pre := [.int .u32 (x.toNat : Int), .int .u32 lab]) S k (by rw [HFL.out]; omega) (v0, v1, v2)
          have B1 := Blk.setsOther (b := gC) (g := r) (by omega) (vcells (v0, v1, v2)) (2 + k * 3) B
          have RS1 := R1.off (grown_sets4 gC (vcells (v0, v1, v2)) (2 + k * 3) w1) (by omega)
          have GS1 := grown_new G1 (grown_sets4 gC (vcells (v0, v1, v2)) (2 + k * 3) w1) (by omega)
          have O1 : (vcells (v0, v1, v2)).toArray.all (·.oneCell') = true := vcells_all _
          clear S B R G R1 G1 y0 y1 y2 y3 s0
          go_wp2_with (first
            | (refine wpList_store_mid rfl 24 (.tmp 29) (.tmp 27) rfl gC (2 + k * 3) (vcells (v0, v1, v2)).toArray rfl rfl T1 info_val O1 ?_
               simp only [Act.put]
               generalize hw3 : World.setCells _ gC (2 + k * 3) (vcells (v0, v1, v2)).toArray.toList = w3
               have S3 : Blk w3 gC ([.int .u32 (x.toNat : Int), .int .u32 lab] ++ fcells (f.set k (v0, v1, v2))) := hw3 ▸ S1
               have B3 : Blk w3 r zs := hw3 ▸ B1
               have R3 : Rr w3 base g (l.drop a1) e1 := hw3 ▸ RS1
               have G3 : w.grownBy w3 (some g) := hw3 ▸ GS1
               clear hw3 S1 B1 RS1 GS1 T1 O1)
            | fail)
          go_roundw
          case rel => exact ⟨k + 1, a1, e1, f.set k (v0, v1, v2), by omega, by go_num, R3, HAV, S3, HFS, B3, HQ2, G3⟩
          case measure => simp [intOf]; omega
      · obtain rfl : k = 8 := by omega
        by_cases e0 : e' = 0
        · have hq2 : FR = (f, a', e') := by
            have h2 := HQ.out.1 e0
            rw [show fromL x (8 - 8) 8 = [] from rfl] at h2
            exact h2
          have ke : (e' != 0) = false := by simpa using e0
          have HTE : Hid (T = (((x.toNat : Int), lab, f), a', e')) := Lib.hid (by
            rw [HT.out, hq2]
            simp only
            rw [if_pos e0])
          clear hq2 e0 s0
          have hrr : r = w.heap.size := HRS.out
          obtain ⟨cs, hcs⟩ : ∃ cs, cs = (pcells (x.toNat : Int) lab f) := ⟨_, rfl⟩
          have HCL := Lib.hid (show cs.length = 26 by rw [hcs]; exact pcells_len (x.toNat : Int) lab HFL.out)
          have O8 : cs.toArray.all (·.oneCell') = true := all_oneCell_toArray (by rw [hcs]; exact pcells_one _ _ _)
          rw [← hcs] at S
          have RG := S.range 0 cs (by rw [List.drop_zero, List.take_length])
          have HCS := Lib.hid hcs
          clear hcs
          have T8 := B.there 0 26 (by rw [HZL.out]; omega)
          have FIN := B.wholeT (ds := cs) (by rw [HCL.out, HZL.out])
          have R9 := R.off (grown_sets4 r cs 0 wr) (by omega)
          have G9 := grown_new G (grown_sets4 r cs 0 wr) (by omega)
          clear S R B G hrr
          go_wp2_with (first
            | (refine wpList_load_mid rfl 29 (.tmp 3) rfl gC 0 rfl cs _ RG hu rfl (by rw [HCL.out]; exact info_patch) ?_)
            | (refine wpList_store_mid rfl 29 (.tmp 2) (.tmp 36) rfl r 0 cs.toArray rfl rfl (by simpa [HCL.out] using T8) (by simpa [HCL.out] using info_patch) O8 ?_)
            | fail)
          exact bodyPost_ret (v := .agg cs.toArray) (tok_results (q := 2) rfl _ _ r cs _ rfl FIN hu rfl (by rw [HCL.out]; exact info_patch)) rfl ⟨by rw [HTE.out, HCS.out]; rfl, by rw [HTE.out]; exact R9, G9⟩
        · have hq2 : FR.2 = (a', e') := HQ.out.2 e0
          have ke : (e' != 0) = true := by simpa using e0
          have HTE : Hid (T = ((0, 0, zeros), a', e')) := Lib.hid (by
            rw [HT.out, hq2]
            simp only
            rw [if_neg e0])
          clear hq2 e0 s0
          have hrr : r = w.heap.size := HRS.out
          obtain ⟨cs, hcs⟩ : ∃ cs, cs = zs := ⟨_, rfl⟩
          have HCL := Lib.hid (show cs.length = 26 by rw [hcs]; exact HZL.out)
          have O8 : cs.toArray.all (·.oneCell') = true := by rw [hcs]; exact hone
          have HCS := Lib.hid (hcs.trans HZS.out)
          clear hcs
          have T8 := B.there 0 26 (by rw [HZL.out]; omega)
          have FIN := B.wholeT (ds := cs) (by rw [HCL.out, HZL.out])
          have R9 := R.off (grown_sets4 r cs 0 wr) (by omega)
          have G9 := grown_new G (grown_sets4 r cs 0 wr) (by omega)
          clear S R B G hrr
          go_wp2_with (first
            | (refine wpList_store_mid rfl 29 (.tmp 2) (.tmp 35) rfl r 0 cs.toArray rfl (by rw [HCS.out]; rfl) (by simpa [HCL.out] using T8) (by simpa [HCL.out] using info_patch) O8 ?_)
            | fail)
          exact bodyPost_ret (v := .agg cs.toArray) (tok_results (q := 2) rfl _ _ r cs _ rfl FIN hu rfl (by rw [HCL.out]; exact info_patch)) rfl ⟨by rw [HTE.out, HCS.out]; rfl, by rw [HTE.out]; exact R9, G9⟩
  · obtain ⟨p1, p2, p3⟩ := HBV.out.1 rfl
    have HP := Lib.hid (And.intro p1 (And.intro p2 p3))
    clear p1 p2 p3 q2
    go_wp2_with fail
    refine (HC.out _ R2).mono ?_
    rintro x' wA ⟨rfl, RA, GA⟩
    have S := S2.kept GA ne3
    have B := B2.kept GA ne1
    have G := G2.trans GA
    have f0 := S.frozen 1
    have q0 : wA.cell? ⟨gC, 1, none⟩ = some (.int .u32 0) := S.cell rfl
    have S5 : Blk (wA.setCell ⟨gC, 1, none⟩ (.int .u32 labC)) gC (pcells (x.toNat : Int) labC zeros) := S.set 1 _
    have R5 := RA.off (grown_set1 wA gC 1 (.int .u32 labC)) (by omega)
    have B5 := B.setOther (b := gC) 1 (.int .u32 labC) (by omega)
    have G5 := grown_new G (grown_set1 wA gC 1 (.int .u32 labC)) (by omega)
    clear S B G R2 S2 B2 G2 RA GA
    go_wp2_with fail
    obtain ⟨w5, hw5⟩ : ∃ z, z = wA.setCell ⟨gC, 1, none⟩ (.int .u32 labC) := ⟨_, rfl⟩
    rw [← hw5] at S5 R5 B5 G5 ⊢
    clear hw5 f0 q0
    rw [← HP.out.2.1, ← HP.out.2.2] at R5
    rw [← HP.out.1] at S5
    go_loopw [4] (fun i wr => ∃ (k a' : Nat) (e' : Int) (f : List V3), k ≤ 8 ∧ i = .int .i64 k ∧ Rr wr base g (l.drop a') e' ∧ Hid (a' ≤ l.length) ∧ Blk wr gC (pcells (x.toNat : Int) lab f) ∧ Hid (f.length = 8) ∧ Blk wr r zs ∧ Hid ((e' = 0 → FR = fldsOut false l (fromL x (8 - k) k) f a' e') ∧ (e' ≠ 0 → FR.2 = (a', e'))) ∧ w.grownBy wr (some g)) (fun i _ => 8 - (intOf i).toNat)
    case atStart => exact ⟨0, aB, eB, zeros, by omega, rfl, R5, HA4, S5, Lib.hid zeros_len, B5, HFR0, G5⟩
    case round =>
      obtain ⟨k, a', e', f, hk, rfl, R, HAt, S, HFL, B, HQ, G⟩ := hrel
      clear R5 S5 B5 G5
      obtain ⟨y0, y1, y2, y3⟩ := R.facts
      have s0 : wr.cell? ⟨gC, 0, none⟩ = some (.int .u32 (x.toNat : Int)) := S.cell rfl
      by_cases hlt : k < 8
      · have ki : (k : Int) < 8 := by omega
        have k0 : (0 : Int) ≤ (k : Int) := by omega
        have HXK := Lib.hid (fun wx : World => HX.out (k : Int) wx)
        have HFM := Lib.hid (show fromL x (8 - k) k = (if has x (k : Int) = true then [(k : Int)] else []) ++ fromL x (8 - (k + 1)) (k + 1) by rw [show 8 - k = 8 - (k + 1) + 1 by omega]; rfl)
        obtain ⟨bh, hbh⟩ : ∃ b, b = has x (k : Int) := ⟨_, rfl⟩
        rw [← hbh] at HXK HFM
        clear hbh
        cases bh
        · -- no such field
          have HN : Hid ((e' = 0 → FR = fldsOut false l (fromL x (8 - (k + 1)) (k + 1)) f a' e') ∧ (e' ≠ 0 → FR.2 = (a', e'))) := Lib.hid (by
            have h2 := HQ.out
            rw [HFM.out] at h2
            simpa using h2)
          go_wp2_with fail
          refine (HXK.out _).mono ?_
          rintro x' wn ⟨rfl, rfl⟩
          go_wp2_with fail
          go_roundw
          case rel => exact ⟨k + 1, a', e', f, by omega, by go_num, R, HAt, S, HFL, B, HN, G⟩
          case measure => simp [intOf]; omega
        · have HV := Lib.hid (rr_value base g l a' e' wr R HAt.out HM.out)
          have HAV := Lib.hid (valOut_at l a' e' HAt.out)
          have HQ2 : Hid (((valOut l a' e').2.2 = 0 → FR = fldsOut false l (fromL x (8 - (k + 1)) (k + 1)) (f.set k (valOut l a' e').1) (valOut l a' e').2.1 (valOut l a' e').2.2) ∧ ((valOut l a' e').2.2 ≠ 0 → FR.2 = ((valOut l a' e').2.1, (valOut l a' e').2.2))) := Lib.hid (by
            have h2 := HQ.out
            by_cases h0 : e' = 0
            · have h3 := h2.1 h0
              rw [HFM.out, if_pos rfl] at h3
              exact patch_step h3
            · have h3 := h2.2 h0
              rw [valOut_err l a' e' h0]
              exact ⟨fun hh => absurd hh h0, fun _ => h3⟩)
          obtain ⟨r1, hr1⟩ : ∃ r, r = valOut l a' e' := ⟨_, rfl⟩
          rw [← hr1] at HV HQ2 HAV
          clear hr1
          obtain ⟨⟨v0, v1, v2⟩, a1, e1⟩ := r1
          simp only at HV HQ2 HAV
          have HFS : Hid ((f.set k (v0, v1, v2)).length = 8) := Lib.hid (by rw [List.length_set]; exact HFL.out)
          go_wp2_with fail
          refine (HXK.out _).mono ?_
          rintro x' wn ⟨rfl, rfl⟩
          go_wp2_with fail
          refine HV.out.mono ?_
          rintro x' w1 ⟨rfl, R1, G1⟩
          replace S := S.kept G1 ne3
          replace B := B.kept G1 ne1
          replace G1 := G.trans G1
          have T1 := S.there (2 + k * 3) 3 (by rw [pcells_len _ _ HFL.out]; omega)
          have S1 := Blk.putField (pre := [.int .u32 (x.toNat : Int), .int .u32 lab]) S k (by rw [HFL.out]; omega) (v0, v1, v2)
          have B1 := Blk.setsOther (b := gC) (g := r) (by omega) (vcells (v0, v1, v2)) (2 + k * 3) B
          have RS1 := R1.off (grown_sets4 gC (vcells (v0, v1, v2)) (2 + k * 3) w1) (by omega)
          have GS1 := grown_new G1 (grown_sets4 gC (vcells (v0, v1, v2)) (2 + k * 3) w1) (by omega)
          have O1 : (vcells (v0, v1, v2)).toArray.all (·.oneCell') = true := vcells_all _
          clear S B R G R1 G1 y0 y1 y2 y3 s0
          go_wp2_with (first
            | (refine wpList_store_mid rfl 24 (.tmp 29) (.tmp 27) rfl gC (2 + k * 3) (vcells (v0, v1, v2)).toArray rfl rfl T1 info_val O1 ?_
               simp only [Act.put]
               generalize hw3 : World.setCells _ gC (2 + k * 3) (vcells (v0, v1, v2)).toArray.toList = w3
               have S3 : Blk w3 gC ([.int .u32 (x.toNat : Int), .int .u32 lab] ++ fcells (f.set k (v0, v1, v2))) := hw3 ▸ S1
               have B3 : Blk w3 r zs := hw3 ▸ B1
               have R3 : Rr w3 base g (l.drop a1) e1 := hw3 ▸ RS1
               have G3 : w.grownBy w3 (some g) := hw3 ▸ GS1
               clear hw3 S1 B1 RS1 GS1 T1 O1)
            | fail)
          go_roundw
          case rel => exact ⟨k + 1, a1, e1, f.set k (v0, v1, v2), by omega, by go_num, R3, HAV, S3, HFS, B3, HQ2, G3⟩
          case measure => simp [intOf]; omega
      · obtain rfl : k = 8 := by omega
        by_cases e0 : e' = 0
        · have hq2 : FR = (f, a', e') := by
            have h2 := HQ.out.1 e0
            rw [show fromL x (8 - 8) 8 = [] from rfl] at h2
            exact h2
          have ke : (e' != 0) = false := by simpa using e0
          have HTE : Hid (T = (((x.toNat : Int), lab, f), a', e')) := Lib.hid (by
            rw [HT.out, hq2]
            simp only
            rw [if_pos e0])
          clear hq2 e0 s0
          have hrr : r = w.heap.size := HRS.out
          obtain ⟨cs, hcs⟩ : ∃ cs, cs = (pcells (x.toNat : Int) lab f) := ⟨_, rfl⟩
          have HCL := Lib.hid (show cs.length = 26 by rw [hcs]; exact pcells_len (x.toNat : Int) lab HFL.out)
          have O8 : cs.toArray.all (·.oneCell') = true := all_oneCell_toArray (by rw [hcs]; exact pcells_one _ _ _)
          rw [← hcs] at S
          have RG := S.range 0 cs (by rw [List.drop_zero, List.take_length])
          have HCS := Lib.hid hcs
          clear hcs
          have T8 := B.there 0 26 (by rw [HZL.out]; omega)
          have FIN := B.wholeT (ds := cs) (by rw [HCL.out, HZL.out])
          have R9 := R.off (grown_sets4 r cs 0 wr) (by omega)
          have G9 := grown_new G (grown_sets4 r cs 0 wr) (by omega)
          clear S R B G hrr
          go_wp2_with (first
            | (refine wpList_load_mid rfl 29 (.tmp 3) rfl gC 0 rfl cs _ RG hu rfl (by rw [HCL.out]; exact info_patch) ?_)
            | (refine wpList_store_mid rfl 29 (.tmp 2) (.tmp 36) rfl r 0 cs.toArray rfl rfl (by simpa [HCL.out] using T8) (by simpa [HCL.out] using info_patch) O8 ?_)
            | fail)
          exact bodyPost_ret (v := .agg cs.toArray) (tok_results (q := 2) rfl _ _ r cs _ rfl FIN hu rfl (by rw [HCL.out]; exact info_patch)) rfl ⟨by rw [HTE.out, HCS.out]; rfl, by rw [HTE.out]; exact R9, G9⟩
        · have hq2 : FR.2 = (a', e') := HQ.out.2 e0
          have ke : (e' != 0) = true := by simpa using e0
          have HTE : Hid (T = ((0, 0, zeros), a', e')) := Lib.hid (by
            rw [HT.out, hq2]
            simp only
            rw [if_neg e0])
          clear hq2 e0 s0
          have hrr : r = w.heap.size := HRS.out
          obtain ⟨cs, hcs⟩ : ∃ cs, cs = zs := ⟨_, rfl⟩
          have HCL := Lib.hid (show cs.length = 26 by rw [hcs]; exact HZL.out)
          have O8 : cs.toArray.all (·.oneCell') = true := by rw [hcs]; exact hone
          have HCS := Lib.hid (hcs.trans HZS.out)
          clear hcs
          have T8 := B.there 0 26 (by rw [HZL.out]; omega)
          have FIN := B.wholeT (ds := cs) (by rw [HCL.out, HZL.out])
          have R9 := R.off (grown_sets4 r cs 0 wr) (by omega)
          have G9 := grown_new G (grown_sets4 r cs 0 wr) (by omega)
          clear S R B G hrr
          go_wp2_with (first
            | (refine wpList_store_mid rfl 29 (.tmp 2) (.tmp 35) rfl r 0 cs.toArray rfl (by rw [HCS.out]; rfl) (by simpa [HCL.out] using T8) (by simpa [HCL.out] using info_patch) O8 ?_)
            | fail)
          exact bodyPost_ret (v := .agg cs.toArray) (tok_results (q := 2) rfl _ _ r cs _ rfl FIN hu rfl (by rw [HCL.out]; exact info_patch)) rfl ⟨by rw [HTE.out, HCS.out]; rfl, by rw [HTE.out]; exact R9, G9⟩
end Go.Proofs.Yticdpfjajkfheaa
