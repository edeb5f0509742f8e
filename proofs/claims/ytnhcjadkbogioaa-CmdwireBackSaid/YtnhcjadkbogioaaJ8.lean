/- Patches as they are read of bytes: the program's: the walk. -/
import Derived.Test.YtnhcjadkbogioaaJ4
import Derived.Test.YtnhcjadkbogioaaJ7
import Derived.Test.YtnhcjadkbogioaaJ2
set_option maxRecDepth 100000
set_option linter.unusedVariables false
set_option maxHeartbeats 6400000
namespace Go.Proofs.Ytnhcjadkbogioaa
open Go Go.RowKit OctM BitM
def patA (l : List UInt8) (a : Nat) (e : Int) : Nat × Nat × Int := abvOut l a e 511
def patX (l : List UInt8) (a : Nat) (e : Int) : BitVec 32 := BitVec.ofNat 32 (patA l a e).1
def patB (l : List UInt8) (a : Nat) (e : Int) : Nat × Nat × Int := if has (patX l a e) 8 = true then numOut l (patA l a e).2.1 (patA l a e).2.2 65535 else (0, (patA l a e).2)
def patE (l : List UInt8) (a : Nat) (e : Int) : List V3 × Nat × Int := fldsOut false l (flds (patX l a e)) zeros (patB l a e).2.1 (patB l a e).2.2
def patOut (l : List UInt8) (a : Nat) (e : Int) : (Int × Int × List V3) × Nat × Int :=
  (if (patE l a e).2.2 = 0 then (((patX l a e).toNat : Int), ((patB l a e).1 : Int), (patE l a e).1) else (0, 0, zeros), (patE l a e).2)
theorem patB_at (l : List UInt8) (a : Nat) (e : Int) (h : a ≤ l.length) : (patB l a e).2.1 ≤ l.length := by
  unfold patB
  split
  · exact numOut_at _ _ _ _ (abvOut_at _ _ _ _ h)
  · exact abvOut_at _ _ _ _ h
theorem patOut_at (l : List UInt8) (a : Nat) (e : Int) (h : a ≤ l.length) : (patOut l a e).2.1 ≤ l.length :=
  fldsOut_at _ _ _ _ _ _ (patB_at _ _ _ h)
theorem patOut_len (l : List UInt8) (a : Nat) (e : Int) : (patOut l a e).1.2.2.length = 8 := by
  unfold patOut
  simp only
  split
  · simp only [patE, fldsOut_len, zeros_len]
  · exact zeros_len
def pc3 (t : Int × Int × List V3) : List Value := pcells t.1 t.2.1 t.2.2
theorem fld_natP {x : BitVec 32} {k : Nat} {L : List Int} (hL : L = flds x) (hk : k < L.length) : ∃ j : Nat, L[k] = (j : Int) ∧ j < 8 := by
  obtain ⟨h0, h8, _⟩ := (mem_flds x L[k]).1 (by rw [← hL]; exact List.getElem_mem hk)
  obtain ⟨j, hj⟩ := Int.eq_ofNat_of_zero_le h0
  exact ⟨j, hj, by omega⟩
theorem rd_patch (base g : Nat) (l : List UInt8) (a : Nat) (e : Int) (w : World) (h : Rd w base g l a e) (ha : a ≤ l.length) (hm : l.length ≤ 4000) :
    Calls Try.prog 73 #[.pointer (some ⟨g, 0, none⟩)] w fun x w' => x = .returned (.agg (pc3 (patOut l a e).1).toArray) ∧ Rd w' base g l (patOut l a e).2.1 (patOut l a e).2.2 ∧ w.grownBy w' (some g) := by
  have hg := h.block.2
  obtain ⟨T, hT⟩ : ∃ T, T = patOut l a e := ⟨_, rfl⟩
  rw [← hT]
  have HA := hid (fun wx (hx : Rd wx base g l a e) => rd_above base g l a e 511 wx hx ha hm)
  have A1 := abvOut_at l a e 511 ha
  have BA := numOut_le l a e 511 (by omega)
  obtain ⟨rA, hA⟩ : ∃ r, r = abvOut l a e 511 := ⟨_, rfl⟩
  have BA2 : (rA.1 : Int) ≤ 511 := by rw [hA]; exact BA
  rw [← hA] at HA A1
  obtain ⟨vA, aA, eA⟩ := rA
  simp only at HA A1 BA2
  obtain ⟨x, hx⟩ : ∃ x : BitVec 32, vA = x.toNat := ⟨BitVec.ofNat 32 vA, by rw [BitVec.toNat_ofNat]; omega⟩
  subst hx
  have HC := hid (fun wx (hx : Rd wx base g l aA eA) => rd_num base g l aA eA 65535 wx hx A1 (by omega))
  have A2 := numOut_at l aA eA 65535 A1
  have BC := numOut_le l aA eA 65535 (by omega)
  have kA : patA l a e = (x.toNat, aA, eA) := hA.symm
  have kX : patX l a e = x := by unfold patX; rw [kA, BitVec.ofNat_toNat, BitVec.setWidth_eq]
  have kB : patB l a e = if has x 8 = true then numOut l aA eA 65535 else (0, aA, eA) := by unfold patB; rw [kX, kA]
  obtain ⟨rC, hC⟩ : ∃ r, r = numOut l aA eA 65535 := ⟨_, rfl⟩
  rw [← hC] at HC A2 BC kB
  obtain ⟨vC, aC, eC⟩ := rC
  simp only at HC A2 BC
  obtain ⟨labC, hlabC⟩ : ∃ z : Int, z = (vC : Int) := ⟨_, rfl⟩
  rw [← hlabC] at HC
  obtain ⟨rB, hB⟩ : ∃ r : Nat × Nat × Int, r = if has x 8 = true then (vC, aC, eC) else (0, aA, eA) := ⟨_, rfl⟩
  rw [← hB] at kB
  obtain ⟨vB, aB, eB⟩ := rB
  obtain ⟨lab, hlab⟩ : ∃ z : Int, z = (vB : Int) := ⟨_, rfl⟩
  obtain ⟨L, hL⟩ : ∃ L, L = flds x := ⟨_, rfl⟩
  have kE : patE l a e = fldsOut false l L zeros aB eB := by
    unfold patE
    rw [kB, kX, hL]
  unfold patOut at hT
  rw [kX, kB, kE] at hT
  obtain ⟨FR, hFR⟩ : ∃ FR, FR = fldsOut false l L zeros aB eB := ⟨_, rfl⟩
  rw [← hFR] at hT
  simp only at hT
  rw [← hlab] at hT
  have A4 : aB ≤ l.length := by
    have : aB = if has x 8 = true then aC else aA := by
      have := congrArg (fun r : Nat × Nat × Int => r.2.1) hB
      simp only at this
      rw [this]
      split <;> rfl
    rw [this]
    split
    · exact A2
    · exact A1
  have HT := hid hT
  have HFR := hid hFR
  have HFI := hid (fun wx : World => fields_any x wx)
  have HLB := hid (fun wx : World => labels_any x wx)
  have hfl := flds_len x
  have HJ := hid (fun k (hk : k < L.length) => fld_natP hL hk)
  rw [← hL] at HFI hfl
  obtain ⟨m, hm2⟩ : ∃ m, m = L.length := ⟨_, rfl⟩
  rw [← hm2] at HFI hfl
  have HLM := hid hm2
  have HA4 := hid A4
  have HM := hid hm
  have hwc : IntKind.u32.wrap labC = labC := by
    have h2 := wrap_nat (BitVec.ofNat 32 vC)
    rwa [BitVec.toNat_ofNat, Nat.mod_eq_of_lt (by omega), ← hlabC] at h2
  have hwx : IntKind.u32.wrap (x.toNat : Int) = (x.toNat : Int) := wrap_nat x
  have HBV : Hid ((has x 8 = true → lab = labC ∧ aB = aC ∧ eB = eC) ∧ (has x 8 = false → lab = 0 ∧ aB = aA ∧ eB = eA)) := hid (by
    constructor
    · intro hh
      rw [if_pos hh] at hB
      injection hB with h1 h2
      injection h2 with h2 h3
      exact ⟨by rw [hlab, h1, hlabC], h2, h3⟩
    · intro hh
      rw [if_neg (by rw [hh]; exact Bool.false_ne_true)] at hB
      injection hB with h1 h2
      injection h2 with h2 h3
      exact ⟨by rw [hlab, h1]; rfl, h2, h3⟩)
  clear hlab hlabC hB BC BA BA2
  clear hT hFR kA kX kB kE hA hC hL hm2 ha hm A1 A2 A4
  have B1 : Blk (w.alloc (.cells #[.pointer (some ⟨g, 0, none⟩)] 40)) w.heap.size [.pointer (some ⟨g, 0, none⟩)] := Blk.new w [.pointer (some ⟨g, 0, none⟩)] 40
  have B2 := Blk.new (w.alloc (.cells #[.pointer (some ⟨g, 0, none⟩)] 40)) (pcells 0 0 zeros) 27
  replace B1 := B1.alloc (.cells (pcells 0 0 zeros).toArray 27)
  have hs1 : (w.alloc (.cells #[.pointer (some ⟨g, 0, none⟩)] 40)).heap.size = w.heap.size + 1 := by simp
  rw [hs1] at B2
  have hw0 : Below w.heap.size w ((w.alloc (.cells #[.pointer (some ⟨g, 0, none⟩)] 40)).alloc (.cells (pcells 0 0 zeros).toArray 27)) := ((Below.refl w.heap.size w).alloc (Nat.le_refl _) _).alloc (by simp) _
  have R0 := h.later hw0
  have G0 : w.grownBy ((w.alloc (.cells #[.pointer (some ⟨g, 0, none⟩)] 40)).alloc (.cells (pcells 0 0 zeros).toArray 27)) (some g) := grown_none hw0 _
  have hsz : w.heap.size + 2 ≤ ((w.alloc (.cells #[.pointer (some ⟨g, 0, none⟩)] 40)).alloc (.cells (pcells 0 0 zeros).toArray 27)).heap.size := by simp
  generalize hW : (w.alloc (.cells #[.pointer (some ⟨g, 0, none⟩)] 40)).alloc (.cells (pcells 0 0 zeros).toArray 27) = W at *
  have hu := Try.underlying27
  have HZ := hid zp26
  have ne1 : (some g : Option Nat) ≠ some w.heap.size := by simp; omega
  have ne2 : (some g : Option Nat) ≠ some (w.heap.size + 1) := by simp; omega
  have x0 : W.cell? ⟨w.heap.size, 0, none⟩ = some (.pointer (some ⟨g, 0, none⟩)) := B1.cell rfl
  obtain ⟨zs, hzs⟩ : ∃ zs, zs = pcells 0 0 zeros := ⟨_, rfl⟩
  obtain ⟨xs, hxs⟩ : ∃ xs, xs = pcells (x.toNat : Int) 0 zeros := ⟨_, rfl⟩
  have HZL := hid (show zs.length = 26 by rw [hzs]; exact pcells_len 0 0 zeros_len)
  have HXL := hid (show xs.length = 26 by rw [hxs]; exact pcells_len _ 0 zeros_len)
  have hone : xs.toArray.all (·.oneCell') = true := all_oneCell_toArray (by rw [hxs]; exact pcells_one _ _ _)
  rw [← hzs] at B2 HZ
  rw [← hzs] at hW
  have HW := hid hW
  have HZS := hid hzs
  have HXS := hid hxs
  clear hW hw0 hs1 h hzs hxs
  obtain ⟨r, hr⟩ : ∃ r, r = w.heap.size := ⟨_, rfl⟩
  obtain ⟨b8, hb8⟩ : ∃ b, b = has x 8 := ⟨_, rfl⟩
  rw [← hb8] at HLB HBV
  clear hb8
  cases b8
  all_goals
    go_enter Try.func73, Try.ntmps73
    go_wp2_with fail
    rw [← HZ.out, HW.out]
    rw [← hr] at B1 B2 x0 hsz ne1 ne2 hg
    have HRS := hid hr
    rw [← hr]
    clear hr HW
    refine (HA.out _ R0).mono ?_
    rintro e' w1 ⟨rfl, R1, G1⟩
    replace B1 := B1.kept G1 ne1
    replace B2 := B2.kept G1 ne2
    have hs2 := G1.size
    replace G1 := G0.trans G1
    have B3 := Blk.new w1 zs 27
    have T3 := B3.there 0 26 (by rw [HZL.out]; omega)
    have S3 := B3.wholeT (ds := xs) (by rw [HXL.out, HZL.out])
    have LE3 : Le w1 (World.setCells (w1.alloc (.cells zs.toArray 27)) w1.heap.size 0 xs) := below_sets (Nat.le_refl _) _ 0 ((Below.refl w1.heap.size w1).alloc (Nat.le_refl _) _)
    obtain ⟨gC, hgC⟩ : ∃ z, z = w1.heap.size := ⟨_, rfl⟩
    rw [← hgC] at T3 S3 LE3 hs2
    have HG3 := hid hgC
    clear hgC B3 x0 R0 G0
    go_wp2_with (first
      | (rw [← HZ.out, ← HG3.out]
         refine wpList_store_mid rfl 27 (.tmp 3) (.tmp 10) rfl gC 0 xs.toArray rfl (by rw [HXS.out]; rfl) (by simpa [HXL.out] using T3) (by simpa [HXL.out] using info_patch) hone ?_
         simp only [Act.put]
         generalize hw3 : World.setCells _ gC 0 xs.toArray.toList = w3
         have S3' : Blk w3 gC (pcells (x.toNat : Int) 0 zeros) := by rw [← HXS.out]; exact hw3 ▸ S3
         have LE3' : Le w1 w3 := hw3 ▸ LE3
         have q3 : w3.cell? ⟨gC, 0, none⟩ = some (.int .u32 (x.toNat : Int)) := S3'.cell rfl
         clear hw3 T3 S3 LE3)
      | fail)
    refine (HLB.out _).mono ?_
    rintro e' w3' ⟨rfl, rfl⟩
    have R3 := R1.later LE3'
    have X3 := B1.later LE3'
    have B3 := B2.later LE3'
    have G3 := G1.trans (grown_none LE3' _)
    have x3 : w3.cell? ⟨r, 0, none⟩ = some (.pointer (some ⟨g, 0, none⟩)) := X3.cell rfl
    have hgC2 : r + 2 ≤ gC := by omega
    have ne3 : (some g : Option Nat) ≠ some gC := by simp; omega
    clear R1 B1 B2 G1 LE3' hs2 hsz
  · -- no labels
    obtain ⟨p1, p2, p3⟩ := HBV.out.2 trivial
    have R4 : Rd w3 base g l aB eB := by rw [p2, p3]; exact R3
    have S4 : Blk w3 gC (pcells (x.toNat : Int) lab zeros) := by rw [p1]; exact S3'
    have X4 := X3
    have B4 := B3
    have G4 := G3
    have q4 := q3
    have x4 := x3
    clear p1 p2 p3 R3 S3' X3 B3 G3 q3 x3
    obtain ⟨w4, hw4⟩ : ∃ w4, w4 = w3 := ⟨_, rfl⟩
    rw [← hw4] at R4 S4 X4 B4 G4 q4 x4 ⊢
    clear hw4
    go_wp2_with fail
    refine (HFI.out _).mono ?_
    rintro e' w5 ⟨A, c, rfl, O5, hb5⟩
    have R5 := R4.later hb5
    have hC4 := S4.lt
    have S5 := S4.later hb5
    have X5 := X4.later hb5
    have B5 := B4.later hb5
    have G5 := G4.trans (grown_none hb5 _)
    obtain ⟨b5, hbe⟩ : ∃ z, z = w4.heap.size := ⟨_, rfl⟩
    rw [← hbe] at O5 hC4
    clear hbe R4 S4 X4 B4 G4 hb5 q4 x4
    go_wp2_with fail
    go_loopw [23] (fun i wr => ∃ (k a' : Nat) (e' : Int) (f : List V3), k ≤ m ∧ i = .int .i64 k ∧ Rd wr base g l a' e' ∧ Hid (a' ≤ l.length) ∧ Blk wr gC (pcells (x.toNat : Int) lab f) ∧ Hid (f.length = 8) ∧ Blk wr r [.pointer (some ⟨g, 0, none⟩)] ∧ Blk wr (r + 1) zs ∧ Own wr b5 3 (.slice A m c) (ivs L) ∧ Hid (fldsOut false l (L.drop k) f a' e' = FR) ∧ w.grownBy wr (some g)) (fun i _ => m - (intOf i).toNat)
    case atStart => exact ⟨0, aB, eB, zeros, Nat.zero_le _, rfl, R5, HA4, S5, hid zeros_len, X5, B5, O5, hid (by rw [List.drop_zero]; exact HFR.out.symm), G5⟩
    case round =>
      obtain ⟨k, a', e', f, hk, rfl, R, HAt, S, HFL, X, B, O, HQ, G⟩ := hrel
      have hrr : r = w.heap.size := HRS.out
      by_cases hlt : k < m
      · have hkl : k < L.length := by rw [← HLM.out]; exact hlt
        obtain ⟨j, hj, hj8⟩ := HJ.out k hkl
        obtain ⟨b, rfl, hbb, _⟩ := Own.block O (by omega)
        have ck : wr.cell? ⟨b, k, none⟩ = some (.int .i64 (j : Int)) := by
          have h2 := Own.cell O k (by rw [ivs_length]; exact hkl)
          rw [h2]
          simp [ivs, hj]
        have H1 := hid (rd_patchfield base g r gC j hj8 l a' e' (x.toNat : Int) lab f HFL.out wr R HAt.out HM.out S X (by omega) (by omega) (by omega))
        have GO := fun h => fldsOut_go (must := false) (l := l) (f := f) (a := a') (e := e') k hkl h
        have ST := fun h => fldsOut_stop (must := false) (l := l) (f := f) (a := a') (e := e') k hkl h
        rw [hj, Int.toNat_natCast] at GO ST
        have A2 := hid (fldOut_at false l a' e' HAt.out)
        obtain ⟨⟨v, a2, e2⟩, hq⟩ : ∃ q, q = fldOut false l a' e' := ⟨_, rfl⟩
        rw [← hq] at H1 GO ST A2
        simp only at H1 GO ST A2
        have ki : (k : Int) < (m : Int) := by omega
        have hF2 : Hid ((f.set j v).length = 8) := hid (by rw [List.length_set]; exact HFL.out)
        clear hq hj
        by_cases e0 : (e2 == 0) = true
        · have HN : Hid (fldsOut false l (L.drop (k + 1)) (f.set j v) a2 e2 = FR) := hid ((GO e0).symm.trans HQ.out)
          rw [e0] at H1
          clear GO ST e0 hrr hkl
          go_wp2_with fail
          refine H1.out.mono ?_
          rintro x' wn ⟨rfl, Rn, Sn, Tn⟩
          have hrr : r = w.heap.size := HRS.out
          have Xn := Tn.blk X (by omega) (by omega)
          have Bn := Tn.blk B (by omega) (by omega)
          have On := Tn.own O (by omega) (by omega)
          have Gn := Tn.new G (by omega)
          clear R S X B O G Tn hrr
          go_wp2_with fail
          go_roundw
          case rel => exact ⟨k + 1, a2, e2, f.set j v, by omega, by go_num, Rn, A2, Sn, hF2, Xn, Bn, On, HN, Gn⟩
          case measure => simp [intOf]; omega
        · have e1 : (e2 == 0) = false := by simpa using e0
          have ke : (e2 != 0) = true := by simpa using e0
          have HTE : Hid (T = ((0, 0, zeros), a2, e2)) := hid (by
            have h2 := (ST e1).symm.trans HQ.out
            rw [HT.out, ← h2]
            simp only
            rw [if_neg (by simpa using e0)])
          rw [e1] at H1
          clear GO ST e0 e1 hrr hkl
          go_wp2_with fail
          refine H1.out.mono ?_
          rintro x' wn ⟨rfl, Rn, Sn, Tn⟩
          have hrr : r = w.heap.size := HRS.out
          have Xn := Tn.blk X (by omega) (by omega)
          have Bn := Tn.blk B (by omega) (by omega)
          have Gn := Tn.new G (by omega)
          have xn : wn.cell? ⟨r, 0, none⟩ = some (.pointer (some ⟨g, 0, none⟩)) := Xn.cell rfl
          clear R S X B O G Tn hrr
          go_wp2_with fail
          have hrr : r = w.heap.size := HRS.out
          refine (rd_err base g l a2 e2 wn Rn).mono ?_
          rintro x' w9 ⟨rfl, rfl⟩
          obtain ⟨cs, hcs⟩ : ∃ cs, cs = (pcells 0 0 zeros) := ⟨_, rfl⟩
          have HCL := hid (show cs.length = 26 by rw [hcs]; exact (pcells_len 0 0 zeros_len))
          have hone : ∀ u ∈ cs, u.oneCell' = true := by rw [hcs]; exact pcells_one _ _ _
          have T8 := Bn.there 0 26 (by rw [HZL.out]; omega)
          have FIN := Bn.wholeT (ds := cs) (by rw [HCL.out, HZL.out])
          have O8 : cs.toArray.all (·.oneCell') = true := all_oneCell_toArray hone
          have R9 := Rn.other (grown_sets4 (r + 1) cs 0 wn) (by omega)
          have G9 := grown_new Gn (grown_sets4 (r + 1) cs 0 wn) (by omega)
          have HCS := hid hcs
          clear Sn Rn Bn Gn hrr hcs hone
          go_wp2_with (first
            | (refine wpList_store_mid rfl 27 (.tmp 2) (.tmp 35) rfl (r + 1) 0 cs.toArray rfl (by rw [HCS.out]; rfl) (by simpa [HCL.out] using T8) (by simpa [HCL.out] using info_patch) O8 ?_)
            | fail)
          exact bodyPost_ret (v := .agg cs.toArray) (tok_results (q := 2) rfl _ _ (r + 1) cs _ rfl FIN hu rfl (by rw [HCL.out]; exact info_patch)) rfl ⟨by rw [HTE.out, HCS.out]; rfl, by rw [HTE.out]; exact R9, G9⟩
      · obtain rfl : k = m := by omega
        have hq2 : FR = (f, a', e') := by
          have h2 := HQ.out
          rw [HLM.out, List.drop_length] at h2
          exact h2.symm
        have xn : wr.cell? ⟨r, 0, none⟩ = some (.pointer (some ⟨g, 0, none⟩)) := X.cell rfl
        have HFE := HFL
        by_cases e0 : e' = 0
        · have ke : (e' != 0) = false := by simpa using e0
          have HTE : Hid (T = (((x.toNat : Int), lab, f), a', e')) := hid (by
            rw [HT.out, hq2]
            simp only
            rw [if_pos e0])
          clear hq2 e0 hrr
          go_wp2_with fail
          have hrr : r = w.heap.size := HRS.out
          refine (rd_err base g l a' e' wr R).mono ?_
          rintro x' w9 ⟨rfl, rfl⟩
          obtain ⟨cs, hcs⟩ : ∃ cs, cs = (pcells (x.toNat : Int) lab f) := ⟨_, rfl⟩
          have HCL := hid (show cs.length = 26 by rw [hcs]; exact (pcells_len (x.toNat : Int) lab HFE.out))
          have hone : ∀ u ∈ cs, u.oneCell' = true := by rw [hcs]; exact pcells_one _ _ _
          have T8 := B.there 0 26 (by rw [HZL.out]; omega)
          have FIN := B.wholeT (ds := cs) (by rw [HCL.out, HZL.out])
          have O8 : cs.toArray.all (·.oneCell') = true := all_oneCell_toArray hone
          rw [← hcs] at S
          have RG := S.range 0 cs (by rw [List.drop_zero, List.take_length])
          have R9 := R.other (grown_sets4 (r + 1) cs 0 wr) (by omega)
          have G9 := grown_new G (grown_sets4 (r + 1) cs 0 wr) (by omega)
          have HCS := hid hcs
          clear S R B G hrr hcs hone
          go_wp2_with (first
            | (refine wpList_load_mid rfl 27 (.tmp 3) rfl gC 0 rfl cs _ RG hu rfl (by rw [HCL.out]; exact info_patch) ?_)
            | (refine wpList_store_mid rfl 27 (.tmp 2) (.tmp 36) rfl (r + 1) 0 cs.toArray rfl rfl (by simpa [HCL.out] using T8) (by simpa [HCL.out] using info_patch) O8 ?_)
            | fail)
          exact bodyPost_ret (v := .agg cs.toArray) (tok_results (q := 2) rfl _ _ (r + 1) cs _ rfl FIN hu rfl (by rw [HCL.out]; exact info_patch)) rfl ⟨by rw [HTE.out, HCS.out]; rfl, by rw [HTE.out]; exact R9, G9⟩
        · have ke : (e' != 0) = true := by simpa using e0
          have HTE : Hid (T = ((0, 0, zeros), a', e')) := hid (by
            rw [HT.out, hq2]
            simp only
            rw [if_neg e0])
          clear hq2 e0 hrr
          go_wp2_with fail
          have hrr : r = w.heap.size := HRS.out
          refine (rd_err base g l a' e' wr R).mono ?_
          rintro x' w9 ⟨rfl, rfl⟩
          obtain ⟨cs, hcs⟩ : ∃ cs, cs = (pcells 0 0 zeros) := ⟨_, rfl⟩
          have HCL := hid (show cs.length = 26 by rw [hcs]; exact (pcells_len 0 0 zeros_len))
          have hone : ∀ u ∈ cs, u.oneCell' = true := by rw [hcs]; exact pcells_one _ _ _
          have T8 := B.there 0 26 (by rw [HZL.out]; omega)
          have FIN := B.wholeT (ds := cs) (by rw [HCL.out, HZL.out])
          have O8 : cs.toArray.all (·.oneCell') = true := all_oneCell_toArray hone
          have R9 := R.other (grown_sets4 (r + 1) cs 0 wr) (by omega)
          have G9 := grown_new G (grown_sets4 (r + 1) cs 0 wr) (by omega)
          have HCS := hid hcs
          clear S R B G hrr hcs hone
          go_wp2_with (first
            | (refine wpList_store_mid rfl 27 (.tmp 2) (.tmp 35) rfl (r + 1) 0 cs.toArray rfl (by rw [HCS.out]; rfl) (by simpa [HCL.out] using T8) (by simpa [HCL.out] using info_patch) O8 ?_)
            | fail)
          exact bodyPost_ret (v := .agg cs.toArray) (tok_results (q := 2) rfl _ _ (r + 1) cs _ rfl FIN hu rfl (by rw [HCL.out]; exact info_patch)) rfl ⟨by rw [HTE.out, HCS.out]; rfl, by rw [HTE.out]; exact R9, G9⟩
  · obtain ⟨p1, p2, p3⟩ := HBV.out.1 trivial
    have HP := hid (And.intro p1 (And.intro p2 p3))
    clear p1 p2 p3
    go_wp2_with fail
    refine (HC.out _ R3).mono ?_
    rintro e' wy ⟨rfl, Ry, Gy⟩
    have Sy := S3'.kept Gy ne3
    have Xy := (X3.kept Gy ne1).setOther (b := gC) 1 (.int .u32 labC) (by omega)
    have By := (B3.kept Gy ne2).setOther (b := gC) 1 (.int .u32 labC) (by omega)
    have fy := Sy.frozen 1
    have qy : wy.cell? ⟨gC, 1, none⟩ = some (.int .u32 0) := Sy.cell rfl
    have S4 : Blk (wy.setCell ⟨gC, 1, none⟩ (.int .u32 labC)) gC (pcells (x.toNat : Int) labC zeros) := Sy.set 1 _
    have R4 := Ry.other (grown_set1 wy gC 1 (.int .u32 labC)) (by omega)
    have hrr : r = w.heap.size := HRS.out
    have G4 := grown_new (G3.trans Gy) (grown_set1 wy gC 1 (.int .u32 labC)) (by omega)
    clear R3 S3' X3 B3 G3 q3 x3 Ry Gy Sy hrr
    have q4 : (wy.setCell ⟨gC, 1, none⟩ (.int .u32 labC)).cell? ⟨gC, 0, none⟩ = some (.int .u32 (x.toNat : Int)) := S4.cell rfl
    have x4 : (wy.setCell ⟨gC, 1, none⟩ (.int .u32 labC)).cell? ⟨r, 0, none⟩ = some (.pointer (some ⟨g, 0, none⟩)) := Xy.cell rfl
    go_wp2_with fail
    obtain ⟨w4, hw4⟩ : ∃ w4, w4 = wy.setCell ⟨gC, 1, none⟩ (.int .u32 labC) := ⟨_, rfl⟩
    rw [← hw4] at S4 R4 Xy By G4 q4 x4 ⊢
    clear hw4 fy qy
    have X4 := Xy
    have B4 := By
    rw [← HP.out.2.1, ← HP.out.2.2] at R4
    rw [← HP.out.1] at S4
    clear Xy By
    refine (HFI.out _).mono ?_
    rintro e' w5 ⟨A, c, rfl, O5, hb5⟩
    have R5 := R4.later hb5
    have hC4 := S4.lt
    have S5 := S4.later hb5
    have X5 := X4.later hb5
    have B5 := B4.later hb5
    have G5 := G4.trans (grown_none hb5 _)
    obtain ⟨b5, hbe⟩ : ∃ z, z = w4.heap.size := ⟨_, rfl⟩
    rw [← hbe] at O5 hC4
    clear hbe R4 S4 X4 B4 G4 hb5 q4 x4
    go_wp2_with fail
    go_loopw [23] (fun i wr => ∃ (k a' : Nat) (e' : Int) (f : List V3), k ≤ m ∧ i = .int .i64 k ∧ Rd wr base g l a' e' ∧ Hid (a' ≤ l.length) ∧ Blk wr gC (pcells (x.toNat : Int) lab f) ∧ Hid (f.length = 8) ∧ Blk wr r [.pointer (some ⟨g, 0, none⟩)] ∧ Blk wr (r + 1) zs ∧ Own wr b5 3 (.slice A m c) (ivs L) ∧ Hid (fldsOut false l (L.drop k) f a' e' = FR) ∧ w.grownBy wr (some g)) (fun i _ => m - (intOf i).toNat)
    case atStart => exact ⟨0, aB, eB, zeros, Nat.zero_le _, rfl, R5, HA4, S5, hid zeros_len, X5, B5, O5, hid (by rw [List.drop_zero]; exact HFR.out.symm), G5⟩
    case round =>
      obtain ⟨k, a', e', f, hk, rfl, R, HAt, S, HFL, X, B, O, HQ, G⟩ := hrel
      have hrr : r = w.heap.size := HRS.out
      by_cases hlt : k < m
      · have hkl : k < L.length := by rw [← HLM.out]; exact hlt
        obtain ⟨j, hj, hj8⟩ := HJ.out k hkl
        obtain ⟨b, rfl, hbb, _⟩ := Own.block O (by omega)
        have ck : wr.cell? ⟨b, k, none⟩ = some (.int .i64 (j : Int)) := by
          have h2 := Own.cell O k (by rw [ivs_length]; exact hkl)
          rw [h2]
          simp [ivs, hj]
        have H1 := hid (rd_patchfield base g r gC j hj8 l a' e' (x.toNat : Int) lab f HFL.out wr R HAt.out HM.out S X (by omega) (by omega) (by omega))
        have GO := fun h => fldsOut_go (must := false) (l := l) (f := f) (a := a') (e := e') k hkl h
        have ST := fun h => fldsOut_stop (must := false) (l := l) (f := f) (a := a') (e := e') k hkl h
        rw [hj, Int.toNat_natCast] at GO ST
        have A2 := hid (fldOut_at false l a' e' HAt.out)
        obtain ⟨⟨v, a2, e2⟩, hq⟩ : ∃ q, q = fldOut false l a' e' := ⟨_, rfl⟩
        rw [← hq] at H1 GO ST A2
        simp only at H1 GO ST A2
        have ki : (k : Int) < (m : Int) := by omega
        have hF2 : Hid ((f.set j v).length = 8) := hid (by rw [List.length_set]; exact HFL.out)
        clear hq hj
        by_cases e0 : (e2 == 0) = true
        · have HN : Hid (fldsOut false l (L.drop (k + 1)) (f.set j v) a2 e2 = FR) := hid ((GO e0).symm.trans HQ.out)
          rw [e0] at H1
          clear GO ST e0 hrr hkl
          go_wp2_with fail
          refine H1.out.mono ?_
          rintro x' wn ⟨rfl, Rn, Sn, Tn⟩
          have hrr : r = w.heap.size := HRS.out
          have Xn := Tn.blk X (by omega) (by omega)
          have Bn := Tn.blk B (by omega) (by omega)
          have On := Tn.own O (by omega) (by omega)
          have Gn := Tn.new G (by omega)
          clear R S X B O G Tn hrr
          go_wp2_with fail
          go_roundw
          case rel => exact ⟨k + 1, a2, e2, f.set j v, by omega, by go_num, Rn, A2, Sn, hF2, Xn, Bn, On, HN, Gn⟩
          case measure => simp [intOf]; omega
        · have e1 : (e2 == 0) = false := by simpa using e0
          have ke : (e2 != 0) = true := by simpa using e0
          have HTE : Hid (T = ((0, 0, zeros), a2, e2)) := hid (by
            have h2 := (ST e1).symm.trans HQ.out
            rw [HT.out, ← h2]
            simp only
            rw [if_neg (by simpa using e0)])
          rw [e1] at H1
          clear GO ST e0 e1 hrr hkl
          go_wp2_with fail
          refine H1.out.mono ?_
          rintro x' wn ⟨rfl, Rn, Sn, Tn⟩
          have hrr : r = w.heap.size := HRS.out
          have Xn := Tn.blk X (by omega) (by omega)
          have Bn := Tn.blk B (by omega) (by omega)
          have Gn := Tn.new G (by omega)
          have xn : wn.cell? ⟨r, 0, none⟩ = some (.pointer (some ⟨g, 0, none⟩)) := Xn.cell rfl
          clear R S X B O G Tn hrr
          go_wp2_with fail
          have hrr : r = w.heap.size := HRS.out
          refine (rd_err base g l a2 e2 wn Rn).mono ?_
          rintro x' w9 ⟨rfl, rfl⟩
          obtain ⟨cs, hcs⟩ : ∃ cs, cs = (pcells 0 0 zeros) := ⟨_, rfl⟩
          have HCL := hid (show cs.length = 26 by rw [hcs]; exact (pcells_len 0 0 zeros_len))
          have hone : ∀ u ∈ cs, u.oneCell' = true := by rw [hcs]; exact pcells_one _ _ _
          have T8 := Bn.there 0 26 (by rw [HZL.out]; omega)
          have FIN := Bn.wholeT (ds := cs) (by rw [HCL.out, HZL.out])
          have O8 : cs.toArray.all (·.oneCell') = true := all_oneCell_toArray hone
          have R9 := Rn.other (grown_sets4 (r + 1) cs 0 wn) (by omega)
          have G9 := grown_new Gn (grown_sets4 (r + 1) cs 0 wn) (by omega)
          have HCS := hid hcs
          clear Sn Rn Bn Gn hrr hcs hone
          go_wp2_with (first
            | (refine wpList_store_mid rfl 27 (.tmp 2) (.tmp 35) rfl (r + 1) 0 cs.toArray rfl (by rw [HCS.out]; rfl) (by simpa [HCL.out] using T8) (by simpa [HCL.out] using info_patch) O8 ?_)
            | fail)
          exact bodyPost_ret (v := .agg cs.toArray) (tok_results (q := 2) rfl _ _ (r + 1) cs _ rfl FIN hu rfl (by rw [HCL.out]; exact info_patch)) rfl ⟨by rw [HTE.out, HCS.out]; rfl, by rw [HTE.out]; exact R9, G9⟩
      · obtain rfl : k = m := by omega
        have hq2 : FR = (f, a', e') := by
          have h2 := HQ.out
          rw [HLM.out, List.drop_length] at h2
          exact h2.symm
        have xn : wr.cell? ⟨r, 0, none⟩ = some (.pointer (some ⟨g, 0, none⟩)) := X.cell rfl
        have HFE := HFL
        by_cases e0 : e' = 0
        · have ke : (e' != 0) = false := by simpa using e0
          have HTE : Hid (T = (((x.toNat : Int), lab, f), a', e')) := hid (by
            rw [HT.out, hq2]
            simp only
            rw [if_pos e0])
          clear hq2 e0 hrr
          go_wp2_with fail
          have hrr : r = w.heap.size := HRS.out
          refine (rd_err base g l a' e' wr R).mono ?_
          rintro x' w9 ⟨rfl, rfl⟩
          obtain ⟨cs, hcs⟩ : ∃ cs, cs = (pcells (x.toNat : Int) lab f) := ⟨_, rfl⟩
          have HCL := hid (show cs.length = 26 by rw [hcs]; exact (pcells_len (x.toNat : Int) lab HFE.out))
          have hone : ∀ u ∈ cs, u.oneCell' = true := by rw [hcs]; exact pcells_one _ _ _
          have T8 := B.there 0 26 (by rw [HZL.out]; omega)
          have FIN := B.wholeT (ds := cs) (by rw [HCL.out, HZL.out])
          have O8 : cs.toArray.all (·.oneCell') = true := all_oneCell_toArray hone
          rw [← hcs] at S
          have RG := S.range 0 cs (by rw [List.drop_zero, List.take_length])
          have R9 := R.other (grown_sets4 (r + 1) cs 0 wr) (by omega)
          have G9 := grown_new G (grown_sets4 (r + 1) cs 0 wr) (by omega)
          have HCS := hid hcs
          clear S R B G hrr hcs hone
          go_wp2_with (first
            | (refine wpList_load_mid rfl 27 (.tmp 3) rfl gC 0 rfl cs _ RG hu rfl (by rw [HCL.out]; exact info_patch) ?_)
            | (refine wpList_store_mid rfl 27 (.tmp 2) (.tmp 36) rfl (r + 1) 0 cs.toArray rfl rfl (by simpa [HCL.out] using T8) (by simpa [HCL.out] using info_patch) O8 ?_)
            | fail)
          exact bodyPost_ret (v := .agg cs.toArray) (tok_results (q := 2) rfl _ _ (r + 1) cs _ rfl FIN hu rfl (by rw [HCL.out]; exact info_patch)) rfl ⟨by rw [HTE.out, HCS.out]; rfl, by rw [HTE.out]; exact R9, G9⟩
        · have ke : (e' != 0) = true := by simpa using e0
          have HTE : Hid (T = ((0, 0, zeros), a', e')) := hid (by
            rw [HT.out, hq2]
            simp only
            rw [if_neg e0])
          clear hq2 e0 hrr
          go_wp2_with fail
          have hrr : r = w.heap.size := HRS.out
          refine (rd_err base g l a' e' wr R).mono ?_
          rintro x' w9 ⟨rfl, rfl⟩
          obtain ⟨cs, hcs⟩ : ∃ cs, cs = (pcells 0 0 zeros) := ⟨_, rfl⟩
          have HCL := hid (show cs.length = 26 by rw [hcs]; exact (pcells_len 0 0 zeros_len))
          have hone : ∀ u ∈ cs, u.oneCell' = true := by rw [hcs]; exact pcells_one _ _ _
          have T8 := B.there 0 26 (by rw [HZL.out]; omega)
          have FIN := B.wholeT (ds := cs) (by rw [HCL.out, HZL.out])
          have O8 : cs.toArray.all (·.oneCell') = true := all_oneCell_toArray hone
          have R9 := R.other (grown_sets4 (r + 1) cs 0 wr) (by omega)
          have G9 := grown_new G (grown_sets4 (r + 1) cs 0 wr) (by omega)
          have HCS := hid hcs
          clear S R B G hrr hcs hone
          go_wp2_with (first
            | (refine wpList_store_mid rfl 27 (.tmp 2) (.tmp 35) rfl (r + 1) 0 cs.toArray rfl (by rw [HCS.out]; rfl) (by simpa [HCL.out] using T8) (by simpa [HCL.out] using info_patch) O8 ?_)
            | fail)
          exact bodyPost_ret (v := .agg cs.toArray) (tok_results (q := 2) rfl _ _ (r + 1) cs _ rfl FIN hu rfl (by rw [HCL.out]; exact info_patch)) rfl ⟨by rw [HTE.out, HCS.out]; rfl, by rw [HTE.out]; exact R9, G9⟩
theorem numOut_bad (l : List UInt8) (a : Nat) (e m : Int) (h : e ≠ 0) : numOut l a e m = (0, a, e) := by
  unfold numOut
  rw [if_pos h]
theorem valOut_err (l : List UInt8) (a : Nat) (e : Int) (h : e ≠ 0) : valOut l a e = (zv, a, e) := by
  unfold valOut
  rw [numOut_bad l a e 2 h, if_neg (by simp), if_neg (by simp)]
  unfold valEnd
  rw [if_neg h]
end Go.Proofs.Ytnhcjadkbogioaa
namespace Go.Proofs.Ytnhcjadkbogioaa
set_option linter.unusedSimpArgs false
open Go Go.RowKit OctM BitM
theorem held_nat {z : Int} (h0 : 0 ≤ z) (h1 : z ≤ 1099511627776) : held z = z.toNat := by
  unfold held
  simp only [Int.min_def, Int.max_def]
  split <;> (try split) <;> omega
theorem valOut_put (pre rest : List UInt8) (v : V3) (h : vchk v = true) : valOut (pre ++ (vbs v ++ rest)) pre.length 0 = (v, pre.length + (vbs v).length, 0) := by
  have hv : vbs v = if v.1 = 1 then enc 1 ++ enc (held v.2.1) else if v.1 = 2 then enc 2 ++ (enc v.2.2.data.toList.length ++ v.2.2.data.toList) else enc 0 := by
    unfold vbs
    rw [if_neg (by rw [h]; simp)]
  obtain ⟨k, n, s⟩ := v
  simp only at hv
  unfold vchk at h
  simp only at h
  by_cases k0 : k = 0
  · subst k0
    rw [if_pos rfl] at h
    obtain ⟨rfl, rfl⟩ := of_decide_eq_true h
    rw [if_neg (by decide), if_neg (by decide)] at hv
    rw [hv]
    unfold valOut
    rw [num_put pre rest 0 2 (by omega) (by omega), if_neg (by simp), if_neg (by simp)]
    unfold valEnd
    rw [if_pos rfl]
    rfl
  · rw [if_neg k0] at h
    by_cases k1 : k = 1
    · subst k1
      rw [if_pos rfl] at h
      obtain ⟨h0, h1, rfl⟩ := of_decide_eq_true h
      rw [if_pos rfl] at hv
      rw [hv]
      have n1 := num_put pre (enc (held n) ++ rest) 1 2 (by omega) (by omega)
      have n2 := num_put (pre ++ enc 1) rest (held n) 1099511627776 (held_le n) (by have := held_le n; omega)
      simp only [List.append_assoc, List.length_append] at n1 n2 ⊢
      unfold valOut
      rw [n1, if_pos rfl]
      simp only
      rw [n2]
      unfold valEnd
      simp only
      rw [if_pos trivial, held_self h0 h1, Nat.add_assoc]
      rfl
    · rw [if_neg k1] at h
      by_cases k2 : k = 2
      · subst k2
        rw [if_pos rfl] at h
        obtain ⟨rfl, h1⟩ := of_decide_eq_true h
        rw [if_neg (by decide), if_pos rfl] at hv
        rw [hv]
        have hl : s.data.toList.length ≤ 24 := by simpa using h1
        have n1 := num_put pre (enc s.data.toList.length ++ (s.data.toList ++ rest)) 2 2 (by omega) (by omega)
        have n2 := str_put (pre ++ enc 2) s.data.toList rest 24 (by omega) (by omega)
        simp only [List.append_assoc, List.length_append] at n1 n2 ⊢
        unfold valOut
        rw [n1, if_neg (by simp), if_pos rfl]
        simp only
        rw [n2]
        unfold valEnd
        simp only
        rw [if_pos trivial, str_eta]
        simp only [Nat.add_assoc]
      · rw [if_neg k2] at h
        cases h
def setL (L : List Int) (f g : List V3) : List V3 := L.foldl (fun g i => g.set i.toNat (f.getD i.toNat zv)) g
theorem setL_len (f : List V3) : ∀ (L : List Int) (g : List V3), (setL L f g).length = g.length
  | [], g => rfl
  | i :: L, g => by
    show (setL L f _).length = _
    rw [setL_len f L, List.length_set]
theorem setL_get (f : List V3) (j : Nat) : ∀ (L : List Int) (g : List V3), (∀ i ∈ L, 0 ≤ i) → j < g.length → (setL L f g).getD j zv = if (j : Int) ∈ L then f.getD j zv else g.getD j zv
  | [], g, _, _ => by simp [setL]
  | i :: L, g, h0, hj => by
    show (setL L f _).getD j zv = _
    rw [setL_get f j L _ (fun i hi => h0 i (by simp [hi])) (by simpa using hj)]
    have hi := h0 i (by simp)
    by_cases hm : (j : Int) ∈ L
    · simp [hm]
    · by_cases hij : (j : Int) = i
      · subst hij
        simp [hm, List.getD, hj]
      · have : i.toNat ≠ j := by omega
        simp [hm, hij, List.getD, List.getElem?_set, this]
theorem getD_ext {f g : List V3} (h : f.length = g.length) (hh : ∀ j, j < f.length → f.getD j zv = g.getD j zv) : f = g := by
  apply List.ext_getElem h
  intro j h1 h2
  have := hh j h1
  simpa [List.getD, h1, h2] using this
theorem fbs_cons (i : Int) (L : List Int) (f : List V3) : fbs (i :: L) f = vbs (f.getD i.toNat zv) ++ fbs L f := by
  unfold fbs
  rw [List.flatMap_cons]
theorem fldsOut_put (must : Bool) (f : List V3) (rest : List UInt8) : ∀ (L : List Int) (pre : List UInt8) (g : List V3), (∀ i ∈ L, vchk (f.getD i.toNat zv) = true ∧ (must = true → (f.getD i.toNat zv).1 ≠ 0)) →
    fldsOut must (pre ++ (fbs L f ++ rest)) L g pre.length 0 = (setL L f g, pre.length + (fbs L f).length, 0)
  | [], pre, g, _ => by simp [fldsOut, setL, fbs]
  | i :: L, pre, g, h => by
    obtain ⟨h1, h2⟩ := h i (by simp)
    have hf : fldOut must (pre ++ (fbs (i :: L) f ++ rest)) pre.length 0 = (f.getD i.toNat zv, pre.length + (vbs (f.getD i.toNat zv)).length, 0) := by
      unfold fldOut
      rw [fbs_cons, List.append_assoc, valOut_put pre _ _ h1]
      simp only
      rw [if_neg (fun hh => h2 hh.1 hh.2)]
    rw [fldsOut, hf]
    simp only
    rw [if_pos trivial]
    have ih := fldsOut_put must f rest L (pre ++ vbs (f.getD i.toNat zv)) (g.set i.toNat (f.getD i.toNat zv)) (fun j hj => h j (by simp [hj]))
    rw [fbs_cons]
    simp only [List.append_assoc, List.length_append] at ih ⊢
    rw [ih]
    simp only [Nat.add_assoc]
    rfl
theorem vchk_zero {v : V3} (h : vchk v = true) (h0 : v.1 = 0) : v = zv := by
  obtain ⟨k, n, s⟩ := v
  simp only at h0
  subst h0
  unfold vchk at h
  simp only [if_pos] at h
  obtain ⟨rfl, rfl⟩ := of_decide_eq_true h
  rfl
theorem held_pos {z : Int} (h : 1 ≤ z) : held z ≠ 0 := by unfold held; omega
theorem abv_put (pre rest : List UInt8) (z m : Int) (h0 : 1 ≤ z) (h1 : z ≤ 1099511627776) (h2 : z ≤ m) : abvOut (pre ++ (enc (held z) ++ rest)) pre.length 0 m = (held z, pre.length + (enc (held z)).length, 0) := by
  unfold abvOut
  rw [num_put pre rest (held z) m (held_le z) (by rw [held_self (by omega) h1]; exact h2)]
  simp only
  rw [if_neg (held_pos h0)]
theorem fok_get {x : BitVec 32} {f : List V3} (h : fok x f 8 = true) (i : Nat) (hi : i < 8) : vchk (f.getD i zv) = true ∧ ((f.getD i zv).1 = 0 ∨ has x (i : Int) = true) := by
  unfold fok at h
  rw [List.all_eq_true] at h
  have := h i (List.mem_range.2 hi)
  simp only [Bool.and_eq_true, Bool.or_eq_true, decide_eq_true_eq] at this
  exact this
theorem patOut_put (pre rest : List UInt8) (x : BitVec 32) (lab : Int) (f : List V3) (hf : f.length = 8) (hl : 0 ≤ lab) (h : pchk x lab f = 0) :
    patOut (pre ++ (pbs x lab f ++ rest)) pre.length 0 = (((x.toNat : Int), lab, f), pre.length + (pbs x lab f).length, 0) := by
  have hc : pbs x lab f = enc (held (x.toNat : Int)) ++ ((if has x 8 = true then enc (held lab) else []) ++ fbs (flds x) f) := by
    unfold pbs
    rw [if_neg (by rw [h]; simp)]
    simp only [List.append_assoc]
  unfold pchk at h
  have h1 : ¬ (511 < x.toNat ∨ x.toNat = 0) := fun hh => by rw [if_pos hh] at h; cases h
  rw [if_neg h1] at h
  have h2 : ¬ (65536 ≤ lab ∨ (lab ≠ 0 ∧ has x 8 = false)) := fun hh => by rw [if_pos hh] at h; cases h
  rw [if_neg h2] at h
  have h3 : fok x f 8 = true := by
    by_cases hh : fok x f 8 = true
    · exact hh
    · rw [if_neg hh] at h; cases h
  have hh : held (x.toNat : Int) = x.toNat := by rw [held_nat (by omega) (by omega)]; rfl
  have hset : setL (flds x) f zeros = f := by
    apply getD_ext
    · rw [setL_len, zeros_len, hf]
    · intro j hj
      rw [setL_len, zeros_len] at hj
      rw [setL_get f j (flds x) zeros (fun i hi => ((mem_flds x i).1 hi).1) (by rw [zeros_len]; exact hj)]
      split
      · rfl
      · rename_i hn
        rw [zeros_getD]
        obtain ⟨g1, g2⟩ := fok_get h3 j hj
        rcases g2 with g2 | g2
        · exact (vchk_zero g1 g2).symm
        · exact absurd ((mem_flds x j).2 ⟨by omega, by omega, g2⟩) hn
  have hm : ∀ i ∈ flds x, vchk (f.getD i.toNat zv) = true ∧ (false = true → (f.getD i.toNat zv).1 ≠ 0) := fun i hi => by
    obtain ⟨i0, i8, _⟩ := (mem_flds x i).1 hi
    exact ⟨(fok_get h3 i.toNat (by omega)).1, fun e => by cases e⟩
  rw [hh] at hc
  cases h8 : has x 8
  · rw [h8, if_neg (by simp), List.nil_append] at hc
    have hl0 : lab = 0 := by
      by_cases e : lab = 0
      · exact e
      · exact absurd (.inr ⟨e, h8⟩) h2
    subst hl0
    have n1 := abv_put pre (fbs (flds x) f ++ rest) (x.toNat : Int) 511 (by omega) (by omega) (by omega)
    have n5 := fldsOut_put false f rest (flds x) (pre ++ enc x.toNat) zeros hm
    rw [hset] at n5
    rw [hh] at n1
    rw [hc]
    simp only [List.append_assoc, List.length_append] at n1 n5 ⊢
    obtain ⟨l, hll⟩ : ∃ l, l = pre ++ (enc x.toNat ++ (fbs (flds x) f ++ rest)) := ⟨_, rfl⟩
    rw [← hll] at n1 n5 ⊢
    have kA : patA l pre.length 0 = (x.toNat, pre.length + (enc x.toNat).length, 0) := n1
    have kX : patX l pre.length 0 = x := by unfold patX; rw [kA, BitVec.ofNat_toNat, BitVec.setWidth_eq]
    have kB : patB l pre.length 0 = (0, pre.length + (enc x.toNat).length, 0) := by unfold patB; rw [kX, kA, h8, if_neg (by simp)]
    have kE : patE l pre.length 0 = (f, pre.length + (enc x.toNat).length + (fbs (flds x) f).length, 0) := by
      unfold patE
      rw [kB, kX]
      exact n5
    unfold patOut
    rw [kX, kB, kE]
    simp only
    rw [if_pos trivial]
    simp only [Nat.add_assoc]
    rfl
  · rw [h8, if_pos rfl] at hc
    have n1 := abv_put pre ((enc (held lab) ++ fbs (flds x) f) ++ rest) (x.toNat : Int) 511 (by omega) (by omega) (by omega)
    have n2 := num_put (pre ++ enc x.toNat) (fbs (flds x) f ++ rest) (held lab) 65535 (held_le lab) (by rw [held_self hl (by omega)]; omega)
    have n5 := fldsOut_put false f rest (flds x) (pre ++ enc x.toNat ++ enc (held lab)) zeros hm
    rw [hset] at n5
    rw [hh] at n1
    rw [hc]
    simp only [List.append_assoc, List.length_append] at n1 n2 n5 ⊢
    simp only [← Nat.add_assoc] at n1 n2 n5 ⊢
    obtain ⟨l, hll⟩ : ∃ l, l = pre ++ (enc x.toNat ++ (enc (held lab) ++ (fbs (flds x) f ++ rest))) := ⟨_, rfl⟩
    rw [← hll] at n1 n2 n5 ⊢
    have kA : patA l pre.length 0 = (x.toNat, pre.length + (enc x.toNat).length, 0) := n1
    have kX : patX l pre.length 0 = x := by unfold patX; rw [kA, BitVec.ofNat_toNat, BitVec.setWidth_eq]
    have kB : patB l pre.length 0 = (held lab, pre.length + (enc x.toNat).length + (enc (held lab)).length, 0) := by unfold patB; rw [kX, kA, h8, if_pos rfl]; exact n2
    have kE : patE l pre.length 0 = (f, pre.length + (enc x.toNat).length + (enc (held lab)).length + (fbs (flds x) f).length, 0) := by
      unfold patE
      rw [kB, kX]
      exact n5
    unfold patOut
    rw [kX, kB, kE]
    simp only
    rw [if_pos trivial, held_self hl (by omega)]
theorem scan_only : ∀ (l : List UInt8) (i v : Nat), (scan l i v).2.2 = 0 → ∃ n, scan l i v = (v + n * 128 ^ i, i + (enc n).length, 0) ∧ l = enc n ++ l.drop (enc n).length ∧ (0 < i → 0 < n)
  | [], i, v, h => by
    unfold scan at h
    split at h <;> cases h
  | c :: l, i, v, h => by
    unfold scan at h ⊢
    by_cases h6 : i = 6
    · rw [if_pos h6] at h; cases h
    · rw [if_neg h6] at h ⊢
      by_cases hc : c.toNat < 128
      · rw [if_pos hc] at h ⊢
        by_cases hz : c.toNat = 0 ∧ 0 < i
        · rw [if_pos hz] at h; cases h
        · rw [if_neg hz] at h ⊢
          have he : enc c.toNat = [c] := by rw [enc_low hc]; simp
          refine ⟨c.toNat, ?_, ?_, fun hi => ?_⟩
          · rw [he, Nat.mod_eq_of_lt hc]; rfl
          · rw [he]; rfl
          · rcases Nat.eq_zero_or_pos c.toNat with h0 | h0
            · exact absurd ⟨h0, hi⟩ hz
            · exact h0
      · rw [if_neg hc] at h ⊢
        obtain ⟨n, e1, e2, e3⟩ := scan_only l (i + 1) _ h
        have hn := e3 (by omega)
        have hcl := c.toNat_lt
        have hlow : (c.toNat % 128 + n * 128) % 128 = c.toNat % 128 := by omega
        have hdiv : (c.toNat % 128 + n * 128) / 128 = n := by omega
        have he : enc (c.toNat % 128 + n * 128) = c :: enc n := by
          rw [enc_high (by omega), hlow, hdiv, show c.toNat % 128 + 128 = c.toNat by omega]
          simp
        refine ⟨c.toNat % 128 + n * 128, ?_, ?_, fun _ => by omega⟩
        · rw [e1, he, List.length_cons]
          have e4 : v + c.toNat % 128 * 128 ^ i + n * 128 ^ (i + 1) = v + (c.toNat % 128 + n * 128) * 128 ^ i := by
            rw [Nat.add_mul, Nat.pow_succ, Nat.mul_comm (128 ^ i) 128, ← Nat.mul_assoc, Nat.add_assoc]
          rw [e4]
          congr 2; omega
        · rw [he, List.length_cons, List.drop_succ_cons, List.cons_append, ← e2]
theorem num_only {l : List UInt8} {a : Nat} {e m : Int} (h : (numOut l a e m).2.2 = 0) :
    e = 0 ∧ (numOut l a e m).2.1 = a + (enc (numOut l a e m).1).length ∧ l.drop a = enc (numOut l a e m).1 ++ l.drop (numOut l a e m).2.1 ∧ ((numOut l a e m).1 : Int) ≤ m ∧ (numOut l a e m).1 ≤ 1099511627776 := by
  unfold numOut at *
  by_cases he : e ≠ 0
  · rw [if_pos he] at h; exact absurd h he
  · rw [if_neg he] at h ⊢
    by_cases hs : (scan (l.drop a) 0 0).2.2 ≠ 0
    · rw [if_pos hs] at h
      simp only at h
      omega
    · rw [if_neg hs] at h ⊢
      by_cases hb : 1099511627776 < ((scan (l.drop a) 0 0).1 : Int) ∨ m < ((scan (l.drop a) 0 0).1 : Int)
      · rw [if_pos hb] at h; cases h
      · rw [if_neg hb] at h ⊢
        obtain ⟨n, e1, e2, _⟩ := scan_only (l.drop a) 0 0 (by omega)
        rw [e1] at hb ⊢
        simp only [Nat.pow_zero, Nat.mul_one, Nat.zero_add] at hb ⊢
        refine ⟨by omega, by first | rfl | trivial, ?_, by omega, by omega⟩
        rw [List.drop_drop] at e2
        exact e2
theorem str_only {l : List UInt8} {a : Nat} {e m : Int} (h : (strOut l a e m).2.2 = 0) :
    e = 0 ∧ (strOut l a e m).2.1 = a + (enc (strOut l a e m).1.length).length + (strOut l a e m).1.length ∧ l.drop a = enc (strOut l a e m).1.length ++ ((strOut l a e m).1 ++ l.drop (strOut l a e m).2.1) ∧ ((strOut l a e m).1.length : Int) ≤ m := by
  unfold strOut at *
  by_cases he : e ≠ 0
  · rw [if_pos he] at h; exact absurd h he
  · rw [if_neg he] at h ⊢
    by_cases hs : (numOut l a 0 m).2.2 ≠ 0
    · rw [if_pos hs] at h; exact absurd h hs
    · rw [if_neg hs] at h ⊢
      by_cases hb : l.length < (numOut l a 0 m).2.1 + (numOut l a 0 m).1
      · rw [if_pos hb] at h; cases h
      · rw [if_neg hb] at h ⊢
        obtain ⟨_, e1, e2, e3, _⟩ := num_only (l := l) (a := a) (e := 0) (m := m) (by simpa using hs)
        have hl : ((l.drop (numOut l a 0 m).2.1).take (numOut l a 0 m).1).length = (numOut l a 0 m).1 := by
          rw [List.length_take, List.length_drop]; omega
        simp only [hl]
        refine ⟨by omega, by rw [e1], ?_, e3⟩
        rw [← List.drop_drop, List.take_append_drop]
        exact e2
theorem val_only {l : List UInt8} {a : Nat} {e : Int} (h : (valOut l a e).2.2 = 0) :
    e = 0 ∧ vchk (valOut l a e).1 = true ∧ (valOut l a e).2.1 = a + (vbs (valOut l a e).1).length ∧ l.drop a = vbs (valOut l a e).1 ++ l.drop (valOut l a e).2.1 := by
  have hcase : (numOut l a e 2).2.2 = 0 := by
    by_cases h0 : (numOut l a e 2).2.2 = 0
    · exact h0
    · have hz := numOut_err l a e 2 h0
      unfold valOut at h
      rw [hz, if_neg (by decide), if_neg (by decide)] at h
      exact h
  obtain ⟨he, n1, n2, n3, _⟩ := num_only hcase
  obtain ⟨r1, hr1⟩ : ∃ r, r = numOut l a e 2 := ⟨_, rfl⟩
  unfold valOut at h ⊢
  rw [← hr1] at h n1 n2 n3 hcase ⊢
  obtain ⟨k, a1, e1⟩ := r1
  simp only at h n1 n2 n3 hcase ⊢
  subst hcase
  refine ⟨he, ?_⟩
  by_cases k1 : k = 1
  · subst k1
    rw [if_pos rfl] at h ⊢
    have h' : (numOut l a1 0 1099511627776).2.2 = 0 := by unfold valEnd at h; exact h
    obtain ⟨_, m1, m2, m3, m4⟩ := num_only h'
    unfold valEnd
    rw [if_pos h']
    simp only
    obtain ⟨r2, hr2⟩ : ∃ r, r = numOut l a1 0 1099511627776 := ⟨_, rfl⟩
    rw [← hr2] at m1 m2 m3 m4 ⊢
    have hv : vchk (1, (r2.1 : Int), str []) = true := by
      unfold vchk
      simp only
      rw [if_neg (by decide), if_pos trivial, decide_eq_true_eq]
      exact ⟨by omega, by omega, rfl⟩
    have hb : vbs (1, (r2.1 : Int), str []) = enc 1 ++ enc r2.1 := by
      unfold vbs
      rw [if_neg (by rw [hv]; simp)]
      simp only
      rw [if_pos trivial, held_nat (by omega) (by omega)]
      rfl
    rw [hb]
    refine ⟨hv, by rw [m1, n1, List.length_append]; omega, ?_⟩
    rw [n2, m2, List.append_assoc]
  · rw [if_neg k1] at h ⊢
    by_cases k2 : k = 2
    · subst k2
      rw [if_pos rfl] at h ⊢
      have h' : (strOut l a1 0 24).2.2 = 0 := by unfold valEnd at h; exact h
      obtain ⟨_, m1, m2, m3⟩ := str_only h'
      unfold valEnd
      rw [if_pos h']
      simp only
      obtain ⟨r2, hr2⟩ : ∃ r, r = strOut l a1 0 24 := ⟨_, rfl⟩
      rw [← hr2] at m1 m2 m3 ⊢
      have hd : (str r2.1).data.toList = r2.1 := by unfold str; simp
      have hv : vchk (2, 0, str r2.1) = true := by
        unfold vchk
        simp only
        rw [if_neg (by decide), if_neg (by decide), if_pos trivial, decide_eq_true_eq]
        exact ⟨trivial, by rw [str_size]; omega⟩
      have hb : vbs (2, 0, str r2.1) = enc 2 ++ (enc r2.1.length ++ r2.1) := by
        unfold vbs
        rw [if_neg (by rw [hv]; simp)]
        simp only
        rw [if_neg (by decide), if_pos trivial, hd]
      rw [hb]
      refine ⟨hv, by rw [m1, n1, List.length_append, List.length_append]; omega, ?_⟩
      rw [n2, m2]
      simp only [List.append_assoc]
    · rw [if_neg k2] at h ⊢
      have k0 : k = 0 := by omega
      subst k0
      unfold valEnd
      rw [if_pos rfl]
      exact ⟨rfl, n1, n2⟩
theorem flds_only (must : Bool) (l : List UInt8) : ∀ (L : List Int) (f : List V3) (a : Nat) (e : Int), L.Nodup → (∀ i ∈ L, 0 ≤ i ∧ i.toNat < f.length) → (fldsOut must l L f a e).2.2 = 0 →
    e = 0 ∧ (∀ j : Nat, (j : Int) ∉ L → (fldsOut must l L f a e).1.getD j zv = f.getD j zv) ∧ (∀ i ∈ L, vchk ((fldsOut must l L f a e).1.getD i.toNat zv) = true ∧ (must = true → ((fldsOut must l L f a e).1.getD i.toNat zv).1 ≠ 0)) ∧
    (fldsOut must l L f a e).2.1 = a + (fbs L (fldsOut must l L f a e).1).length ∧ l.drop a = fbs L (fldsOut must l L f a e).1 ++ l.drop (fldsOut must l L f a e).2.1
  | [], f, a, e, _, _, h => by
    refine ⟨h, fun _ _ => rfl, fun i hi => (by cases hi), ?_, ?_⟩
    · simp [fldsOut, fbs]
    · simp [fldsOut, fbs]
  | i :: L, f, a, e, hn, hL, h => by
    unfold fldsOut at h ⊢
    by_cases h0 : (fldOut must l a e).2.2 = 0
    · rw [if_pos h0] at h ⊢
      obtain ⟨hi0, hil⟩ := hL i (by simp)
      rw [List.nodup_cons] at hn
      obtain ⟨_, r1, r2, r3, r4⟩ := flds_only must l L (f.set i.toNat (fldOut must l a e).1) (fldOut must l a e).2.1 (fldOut must l a e).2.2 hn.2 (fun j hj => by rw [List.length_set]; exact hL j (by simp [hj])) h
      obtain ⟨R, hR⟩ : ∃ R, R = fldsOut must l L (f.set i.toNat (fldOut must l a e).1) (fldOut must l a e).2.1 (fldOut must l a e).2.2 := ⟨_, rfl⟩
      rw [← hR] at r1 r2 r3 r4 ⊢
      have hRi : R.1.getD i.toNat zv = (fldOut must l a e).1 := by
        rw [r1 i.toNat (by rw [Int.toNat_of_nonneg hi0]; exact hn.1)]
        simp [List.getD, hil]
      have hv0 : (valOut l a e).2.2 = 0 := by
        unfold fldOut at h0
        simp only at h0
        split at h0
        · unfold failOut at h0
          split at h0
          · cases h0
          · exact h0
        · exact h0
      have hk : must = true → (valOut l a e).1.1 ≠ 0 := fun hm hz => by
        unfold fldOut at h0
        simp only at h0
        rw [if_pos ⟨hm, hz⟩] at h0
        unfold failOut at h0
        rw [if_pos hv0] at h0
        cases h0
      obtain ⟨he, v1, v2, v3⟩ := val_only hv0
      have hf1 : (fldOut must l a e).1 = (valOut l a e).1 := rfl
      have hf2 : (fldOut must l a e).2.1 = (valOut l a e).2.1 := rfl
      rw [hf1] at hRi
      rw [hf2] at r3 r4
      refine ⟨he, fun j hj => ?_, fun j hj => ?_, ?_, ?_⟩
      · rw [r1 j (fun hh => hj (by simp [hh]))]
        have : i.toNat ≠ j := fun hh => hj (by rw [← hh, Int.toNat_of_nonneg hi0]; simp)
        simp [List.getD, List.getElem?_set, this]
      · rcases List.mem_cons.1 hj with rfl | hj
        · rw [hRi]; exact ⟨v1, hk⟩
        · exact r2 j hj
      · rw [fbs_cons, hRi, List.length_append, r3, v2]; omega
      · rw [fbs_cons, hRi, List.append_assoc, ← r4, ← v3]
    · rw [if_neg h0] at h
      exact absurd h h0
theorem lst_nodup (x : BitVec 32) (k : Nat) : (lst x k).Nodup := by
  unfold lst
  unfold List.Nodup
  rw [List.pairwise_map]
  exact (List.Pairwise.filter _ List.nodup_range).imp (fun h e => h (by omega))
theorem flds_ok (x : BitVec 32) : (flds x).Nodup ∧ ∀ i ∈ flds x, 0 ≤ i ∧ i.toNat < zeros.length := by
  refine ⟨lst_nodup _ _, fun i hi => ?_⟩
  obtain ⟨h0, h8, _⟩ := (mem_flds x i).1 hi
  rw [zeros_len]
  exact ⟨h0, by omega⟩
theorem abv_only {l : List UInt8} {a : Nat} {e m : Int} (h : (abvOut l a e m).2.2 = 0) :
    e = 0 ∧ (abvOut l a e m).1 ≠ 0 ∧ (abvOut l a e m).2.1 = a + (enc (abvOut l a e m).1).length ∧ l.drop a = enc (abvOut l a e m).1 ++ l.drop (abvOut l a e m).2.1 ∧ ((abvOut l a e m).1 : Int) ≤ m ∧ (abvOut l a e m).1 ≤ 1099511627776 := by
  unfold abvOut at *
  simp only at h ⊢
  by_cases hz : (numOut l a e m).1 = 0
  · rw [if_pos hz] at h
    unfold failOut at h
    split at h
    · cases h
    · rename_i hne; exact absurd h hne
  · rw [if_neg hz] at h
    obtain ⟨h1, h2, h3, h4, h5⟩ := num_only h
    exact ⟨h1, hz, h2, h3, h4, h5⟩
theorem vchk_zv : vchk zv = true := by decide
theorem pat_only {l : List UInt8} {a : Nat} {e : Int} (h : (patOut l a e).2.2 = 0) :
    ∃ x : BitVec 32, (patOut l a e).1.1 = (x.toNat : Int) ∧ pchk x (patOut l a e).1.2.1 (patOut l a e).1.2.2 = 0 ∧ 0 ≤ (patOut l a e).1.2.1 ∧
      l.drop a = pbs x (patOut l a e).1.2.1 (patOut l a e).1.2.2 ++ l.drop (patOut l a e).2.1 ∧ (patOut l a e).2.1 = a + (pbs x (patOut l a e).1.2.1 (patOut l a e).1.2.2).length := by
  have hE : (patE l a e).2.2 = 0 := h
  have hvA : (patA l a e).1 ≤ 511 := by
    have := numOut_le l a e 511 (by omega)
    unfold patA abvOut; simp only; omega
  obtain ⟨x, hx⟩ : ∃ x, x = patX l a e := ⟨_, rfl⟩
  have hxn : x.toNat = (patA l a e).1 := by rw [hx]; unfold patX; rw [BitVec.toNat_ofNat]; omega
  have e0 := flds_only false l (flds x) zeros (patB l a e).2.1 (patB l a e).2.2 (flds_ok x).1 (flds_ok x).2 (by rw [hx]; exact hE)
  rw [show fldsOut false l (flds x) zeros (patB l a e).2.1 (patB l a e).2.2 = patE l a e from by unfold patE; rw [hx]] at e0
  obtain ⟨eB, r1, r2, r3, r4⟩ := e0
  have hout : patOut l a e = (((x.toNat : Int), ((patB l a e).1 : Int), (patE l a e).1), (patE l a e).2) := by
    unfold patOut
    rw [if_pos hE, hx]
  obtain ⟨R, hR⟩ : ∃ R, R = (patE l a e).1 := ⟨_, rfl⟩
  rw [← hR] at r1 r2 r3 r4 hout
  have hB : (patB l a e) = if has x 8 = true then numOut l (patA l a e).2.1 (patA l a e).2.2 65535 else (0, (patA l a e).2) := by
    rw [hx]; rfl
  have hfok : fok x R 8 = true := by
    unfold fok
    rw [List.all_eq_true]
    intro i hi
    have hi8 := List.mem_range.1 hi
    by_cases hb : has x (i : Int) = true
    · have := (r2 (i : Int) ((mem_flds x i).2 ⟨by omega, by omega, hb⟩)).1
      rw [Int.toNat_natCast] at this
      rw [this, hb]; simp
    · rw [r1 i (fun hm => hb ((mem_flds x i).1 hm).2.2), zeros_getD, vchk_zv]
      rfl
  have fin : ∀ (lab : Nat) (mid : List UInt8), (patB l a e).1 = lab → lab ≤ 65535 → (has x 8 = false → lab = 0) → mid = (if has x 8 = true then enc lab else []) → (patA l a e).2.2 = 0 → (patB l a e).2.1 = (patA l a e).2.1 + mid.length → l.drop (patA l a e).2.1 = mid ++ l.drop (patB l a e).2.1 →
      pchk x (lab : Int) R = 0 ∧ l.drop a = pbs x (lab : Int) R ++ l.drop (patE l a e).2.1 ∧ (patE l a e).2.1 = a + (pbs x (lab : Int) R).length := by
    intro lab mid h1 h2 h3 h4 h5 h6 h7
    obtain ⟨_, a0, a1, a2, a3, _⟩ := abv_only (l := l) (a := a) (e := e) (m := 511) h5
    change (patA l a e).1 ≠ 0 at a0
    change (patA l a e).2.1 = _ + (enc (patA l a e).1).length at a1
    change l.drop _ = enc (patA l a e).1 ++ l.drop (patA l a e).2.1 at a2
    have hpk : pchk x (lab : Int) R = 0 := by
      unfold pchk
      rw [if_neg (by omega), if_neg, if_pos hfok]
      rintro (hh | ⟨hh, hb⟩)
      · omega
      · exact hh (by rw [h3 hb]; rfl)
    have hpb : pbs x (lab : Int) R = enc (patA l a e).1 ++ (mid ++ fbs (flds x) R) := by
      unfold pbs
      rw [if_neg (by rw [hpk]; simp), held_nat (by omega) (by omega), held_nat (by omega) (by omega), h4, ← hxn]
      simp only [Int.toNat_natCast, List.append_assoc]
    refine ⟨hpk, ?_, ?_⟩
    · rw [hpb]
      simp only [List.append_assoc]
      rw [← r4, ← h7, ← a2]
    · rw [hpb]
      simp only [List.length_append]
      omega
  refine ⟨x, by rw [hout], ?_⟩
  rw [hout]
  simp only
  cases h8 : has x 8
  · rw [h8, if_neg (by simp)] at hB
    have := fin 0 [] (by rw [hB]) (by omega) (fun _ => rfl) (by rw [h8]; rfl) (by rw [hB] at eB; exact eB) (by rw [hB]; rfl) (by rw [hB]; rfl)
    rw [show ((patB l a e).1 : Int) = ((0 : Nat) : Int) from by rw [hB]]
    exact ⟨this.1, by omega, this.2⟩
  · rw [h8, if_pos rfl] at hB
    rw [hB] at eB
    obtain ⟨eA, c1, c2, c3, _⟩ := num_only eB
    rw [← hB] at c1 c2 c3
    have := fin (patB l a e).1 (enc (patB l a e).1) rfl (by omega) (fun hh => by rw [h8] at hh; cases hh) (by rw [h8]; rfl) eA c1 c2
    exact ⟨this.1, by omega, this.2⟩
theorem abv_err {l : List UInt8} {a : Nat} {e m : Int} (h : (abvOut l a e m).2.2 = 0) : e = 0 := (abv_only h).1
theorem pat_err {l : List UInt8} {a : Nat} {e : Int} (h : (patOut l a e).2.2 = 0) : e = 0 := by
  have hE : (patE l a e).2.2 = 0 := h
  have e0 := flds_only false l (flds (patX l a e)) zeros (patB l a e).2.1 (patB l a e).2.2 (flds_ok _).1 (flds_ok _).2 hE
  have hB := e0.1
  have hA : (patA l a e).2.2 = 0 := by
    unfold patB at hB
    split at hB
    · exact (num_only hB).1
    · exact hB
  exact abv_err (l := l) (a := a) (e := e) (m := 511) hA
end Go.Proofs.Ytnhcjadkbogioaa
namespace Go.Proofs.Ytnhcjadkbogioaa
open Go Go.RowKit BitM OctM
theorem flds_lst (x : BitVec 32) : flds x = lst x 8 := by
  have hh : ∀ n : Nat, has (x &&& 255#32) (n : Int) = (has x n && decide (n < 8)) := fun n => by
    rw [has_and_255 x n]
    first | rfl | (congr 1; simp; done) | (congr 1; simp; omega)
  unfold flds
  rw [lst_end (j := 8) (fun i hi => by rw [hh, decide_eq_false (by omega), Bool.and_false]) 32 (by omega)]
  unfold lst
  congr 1
  refine List.filter_congr fun i hi => ?_
  have h8 : i < 8 := by simpa using hi
  rw [hh, decide_eq_true h8, Bool.and_true]
theorem putpatch_any (x : BitVec 32) (lab : Int) (f : List V3) (A : Option Addr) (n c : Nat) (l : List UInt8) (w : World) (hf : f.length = 8) (hlb : 0 ≤ lab) (hn : l.length = n) (hs : Sees w w.heap.size A (bvs l)) (hm : n ≤ 10000) :
    Calls Try.prog 23 #[.slice A n c, .agg (pcells (x.toNat : Int) lab f).toArray] w (GivesBytes w (l ++ pbs x lab f)) := by
  have HCK := hid (fun wx : World => pcheck_any x lab f wx hf)
  have HCL := hid (fun (wx : World) (hb : Below w.heap.size w wx) => clone_any A n c l wx hn ((hs.below hb).more hb.size) (by omega))
  have HPLen : Hid ((pcells (x.toNat : Int) lab f).length = 26) := hid (pcells_len _ _ hf)
  have B0 := Blk.new w (pcells (x.toNat : Int) lab f) 27
  obtain ⟨pc, hpc⟩ : ∃ pc, pc = pcells (x.toNat : Int) lab f := ⟨_, rfl⟩
  rw [← hpc] at HCK B0 HPLen ⊢
  have hb0 := (Below.refl w.heap.size w).alloc (Nat.le_refl _) (.cells pc.toArray 27)
  have RG := B0.wholeC
  have hu := Try.underlying27
  have HFL : Hid ((fcells f).length = 24) := hid (by rw [fcells_len, hf])
  have hu8 := Try.underlying25
  obtain ⟨er, her⟩ : ∃ b, b = pchk x lab f := ⟨_, rfl⟩
  rw [← her] at HCK
  by_cases h0 : er = 0
  · have hok : pchk x lab f = 0 := her.symm.trans h0
    have hlab : lab < 65536 := by
      unfold pchk at hok
      split at hok
      · cases hok
      · split at hok
        · cases hok
        · omega
    have HB : Hid (l ++ pbs x lab f = l ++ ((enc (held (x.toNat : Int)) ++ (if has x 8 = true then enc (held lab) else [])) ++ fbs (flds x) f)) := hid (by unfold pbs; rw [if_neg (by rw [hok]; simp)])
    obtain ⟨R, hR⟩ : ∃ R, R = l ++ pbs x lab f := ⟨_, rfl⟩
    rw [← hR] at HB ⊢
    have HX := hid (fun (A' : Option Addr) (n' c' : Nat) (l' : List UInt8) (wx : World) (hn' : l'.length = n') (hs' : Sees wx wx.heap.size A' (bvs l')) (hm' : n' ≤ 10000) => putvals_any x f A' n' c' l' wx hf hn' hs' hm')
    have HLB := hid (fun wx : World => labels_any x wx)
    have hx4 := x.isLt
    have hfl := flds_len x
    have hf5 := fbs_len (flds x) f
    obtain ⟨X, hX⟩ : ∃ X, X = x.toNat := ⟨_, rfl⟩
    rw [← hX] at HX HB hx4 HLB hpc
    have HPC := hid hpc
    obtain ⟨b8, hb8⟩ : ∃ b, b = has x 8 := ⟨_, rfl⟩
    rw [← hb8] at HLB HB
    have be : (er != 0) = false := by simp [h0]
    obtain ⟨r1, hr1⟩ : ∃ r, r = enc (held (X : Int)) := ⟨_, rfl⟩
    obtain ⟨r2, hr2⟩ : ∃ r, r = r1 ++ (if b8 = true then enc (held lab) else []) := ⟨_, rfl⟩
    obtain ⟨r5, hr5⟩ : ∃ r, r = r2 ++ fbs (flds x) f := ⟨_, rfl⟩
    have e1 : r1.length ≤ 6 := by rw [hr1]; exact held_len _
    have e2 : r2.length ≤ 12 := by
      rw [hr2, List.length_append]
      have := held_len lab
      split <;> simp <;> omega
    have e5 : r5.length ≤ 2000 := by rw [hr5, List.length_append]; omega
    rw [← hr1, ← hr2, ← hr5] at HB
    have HN1 : Hid (∀ wx : World, Calls Try.prog 21 #[.slice none 0 0, .int .i64 (X : Int)] wx (GivesBytes wx r1)) := hid (fun wx => by
      have h := oct_num none 0 0 [] (X : Int) wx rfl Sees.nil_ (by omega)
      rw [List.nil_append, ← hr1] at h
      exact h)
    obtain ⟨n1, hn1⟩ : ∃ n, n = r1.length := ⟨_, rfl⟩
    obtain ⟨n2, hn2⟩ : ∃ n, n = r2.length := ⟨_, rfl⟩
    have HN2 : Hid (b8 = true → ∀ (A' : Option Addr) (c' : Nat) (wx : World), Sees wx wx.heap.size A' (bvs r1) → Calls Try.prog 21 #[.slice A' n1 c', .int .i64 lab] wx (GivesBytes wx r2)) := hid (fun hb A' c' wx hs' => by
      have h := oct_num A' n1 c' r1 lab wx hn1.symm hs' (by omega)
      rw [hb, if_pos rfl] at hr2
      rw [← hr2] at h; exact h)
    have HSK : Hid (b8 = false → r1 = r2) := hid (fun hb => by rw [hr2, hb]; simp)
    have HN5 : Hid (∀ (A' : Option Addr) (c' : Nat) (wx : World), Sees wx wx.heap.size A' (bvs r2) → Calls Try.prog 51 #[.slice A' n2 c', .int .u32 (X : Int), .agg (fcells f).toArray] wx (SeesBytes wx r5)) := hid (fun A' c' wx hs' => by
      have h := HX.out A' n2 c' r2 wx hn2.symm hs' (by omega)
      rw [← hr5] at h; exact h)
    have M1 := hid hn1
    have M2 := hid hn2
    have HS := hid hs
    have HNL := hid hn
    clear hr1 hr2 hr5 hn1 hn2 HX hs hn e1 e2 hR hX hpc hb8 hok her h0 hf hf5 hfl HCL
    obtain ⟨d0, d1⟩ := Blk.patch (m := (X : Int)) (lab := lab) (f := f) (by have := B0; rw [HPC.out] at this; exact this)
    clear d0 d1
    cases b8
    all_goals
      go_enter Try.func23, Try.ntmps23
      go_wp2_with (first
        | (refine wpList_load_mid rfl 27 (.tmp 3) rfl w.heap.size 0 rfl pc _ RG hu rfl (by rw [HPLen.out]; exact info_patch) ?_)
        | fail)
      refine (HCK.out _).mono ?_
      rintro e w1 ⟨rfl, hb1⟩
      have hbw := hb0.trans (hb1.mono hb0.size)
      replace B0 := B0.later hb1
      obtain ⟨p0, p1⟩ := Blk.patch (m := (X : Int)) (lab := lab) (f := f) (w := w1) (g := w.heap.size) (by rw [← HPC.out]; exact B0)
      clear RG hb1 hb0 HCK
      go_wp2_with fail
      refine (HN1.out _).mono ?_
      rintro e w2 ⟨A2, c2, rfl, o2, b2⟩
      have hs2 := o2.sees
      replace B0 := B0.later b2
      replace hbw := hbw.trans (b2.mono hbw.size)
      clear p0 p1
      obtain ⟨p0, p1⟩ := Blk.patch (m := (X : Int)) (lab := lab) (f := f) (w := w2) (g := w.heap.size) (by rw [← HPC.out]; exact B0)
      rw [← M1.out]
      clear o2 b2
      go_wp2_with fail
      refine (HLB.out _).mono ?_
      rintro e w3 ⟨rfl, rfl⟩
    · have HS12 := HSK.out trivial
      have hn12 : n1 = n2 := by rw [M1.out, M2.out, HS12]
      rw [HS12] at hs2
      clear HSK HN2 HS12 M1 HN1 p1
      subst hn12
      have RF : w2.rangeAt w.heap.size 2 (fcells f) := Blk.fieldsP (by rw [← HPC.out]; exact B0)
      go_wp2_with (first
        | (refine wpList_load_mid rfl 25 (.tmp 27) rfl w.heap.size 2 rfl (fcells f) _ RF hu8 rfl (by rw [HFL.out]; exact info_fields) ?_)
        | fail)
      refine (HN5.out _ _ _ hs2).mono ?_
      rintro e w6 ⟨A5, c5, rfl, s5, b5⟩
      replace hbw := hbw.trans (b5.mono hbw.size)
      have hsA : Sees w6 w6.heap.size A (bvs l) := (HS.out.below hbw).more hbw.size
      obtain ⟨n5, hn5⟩ : ∃ n, n = r5.length := ⟨_, rfl⟩
      rw [← hn5]
      have HCC := hid (concat_any w6.heap.size 2 2 [l, r5] (w6.alloc (.cells #[.slice A n c, .slice A5 n5 c5] 33)) rfl (by simp) (flat2 33 HNL.out hn5.symm hsA s5) (by omega) (by have := HNL.out; simp; omega))
      have HFL2 : Hid ([l, r5].flatten = R) := hid (by rw [HB.out]; simp)
      rw [HFL2.out] at HCC
      have hbw2 := hbw.alloc hbw.size (.cells #[.slice A n c, .slice A5 n5 c5] 33)
      clear hn5 s5 b5 B0 RF hsA hbw
      go_wp2_with fail
      refine HCC.out.mono ?_
      rintro e w7 ⟨A7, c7, rfl, o7, b7⟩
      go_wp2_with fail
      go_ret
      exact ⟨A7, c7, rfl, o7.lower hbw2.size, hbw2.trans (b7.mono hbw2.size)⟩
    · clear HSK
      go_wp2_with fail
      refine (HN2.out trivial _ _ _ hs2).mono ?_
      rintro e w4 ⟨A4, c4, rfl, o4, b4⟩
      have hs4 := o4.sees
      replace B0 := B0.later b4
      replace hbw := hbw.trans (b4.mono hbw.size)
      rw [← M2.out]
      clear p0 p1
      obtain ⟨p0, p1⟩ := Blk.patch (m := (X : Int)) (lab := lab) (f := f) (w := w4) (g := w.heap.size) (by rw [← HPC.out]; exact B0)
      have RF : w4.rangeAt w.heap.size 2 (fcells f) := Blk.fieldsP (by rw [← HPC.out]; exact B0)
      clear o4 b4 hs2 HN2 HN1
      go_wp2_with (first
        | (refine wpList_load_mid rfl 25 (.tmp 27) rfl w.heap.size 2 rfl (fcells f) _ RF hu8 rfl (by rw [HFL.out]; exact info_fields) ?_)
        | fail)
      refine (HN5.out _ _ _ hs4).mono ?_
      rintro e w6 ⟨A5, c5, rfl, s5, b5⟩
      replace hbw := hbw.trans (b5.mono hbw.size)
      have hsA : Sees w6 w6.heap.size A (bvs l) := (HS.out.below hbw).more hbw.size
      obtain ⟨n5, hn5⟩ : ∃ n, n = r5.length := ⟨_, rfl⟩
      rw [← hn5]
      have HCC := hid (concat_any w6.heap.size 2 2 [l, r5] (w6.alloc (.cells #[.slice A n c, .slice A5 n5 c5] 33)) rfl (by simp) (flat2 33 HNL.out hn5.symm hsA s5) (by omega) (by have := HNL.out; simp; omega))
      have HFL2 : Hid ([l, r5].flatten = R) := hid (by rw [HB.out]; simp)
      rw [HFL2.out] at HCC
      have hbw2 := hbw.alloc hbw.size (.cells #[.slice A n c, .slice A5 n5 c5] 33)
      clear hn5 s5 b5 B0 RF hsA hbw
      go_wp2_with fail
      refine HCC.out.mono ?_
      rintro e w7 ⟨A7, c7, rfl, o7, b7⟩
      go_wp2_with fail
      go_ret
      exact ⟨A7, c7, rfl, o7.lower hbw2.size, hbw2.trans (b7.mono hbw2.size)⟩
  · have HB : Hid (l ++ pbs x lab f = l) := hid (by unfold pbs; rw [if_pos (by rw [← her]; exact h0)]; simp)
    rw [HB.out]
    have be : (er != 0) = true := by simp [h0]
    clear HB her h0 hpc hs hn
    go_enter Try.func23, Try.ntmps23
    go_wp2_with (first
      | (refine wpList_load_mid rfl 27 (.tmp 3) rfl w.heap.size 0 rfl pc _ RG hu rfl (by rw [HPLen.out]; exact info_patch) ?_)
      | fail)
    refine (HCK.out _).mono ?_
    rintro e w1 ⟨rfl, hb1⟩
    have hbw := hb0.trans (hb1.mono hb0.size)
    clear RG hb1 hb0
    go_wp2_with fail
    refine (HCL.out _ hbw).mono ?_
    rintro e w2 ⟨A2, c2, rfl, ho, hb2⟩
    go_wp2_with fail
    go_ret
    exact ⟨A2, c2, rfl, ho.lower hbw.size, hbw.trans (hb2.mono hbw.size)⟩
theorem str_conv (w : World) (B : Nat) (A : Option Addr) (n c : Nat) (l : List UInt8) (s : ByteArray) (hn : l.length = n) (hs : Sees w B A (bvs l)) (h : s = str l) : (convert 33 9 (.slice A n c)).run Try.prog w = .ok (.string s) w := by
  subst h
  exact run_str (P := Try.prog) w B 33 5 9 Try.underlying33 Try.underlying5 Try.underlying9 A n c l hn hs
section
variable {P : Program} {w : World} {a : Act} {op : Oper}
theorem exec_conv (x : Operand) (t u : TypeId) (ho : op.op = .convert t u x) (v : Value) (hx : a.eval x = v) (r : Value) (h : (convert t u v).run P w = .ok r w) : (execOp a.eval op).run P w = .ok (.value r) w := by
  unfold execOp
  simp only [ho, hx, Sem.run_bind, Sem.run_pure, Result.andThen_ok, h]
end
theorem pbs_len (x : BitVec 32) (lab : Int) (f : List V3) : (pbs x lab f).length ≤ 400 := by
  unfold pbs
  split
  · simp
  · simp only [List.length_append]
    have h1 := held_len (x.toNat : Int)
    have h2 := held_len lab
    have h5 := fbs_len (lst x 8) f
    have h6 := lst_len x 8
    rw [flds_lst]
    split <;> first | omega | (simp only [List.length_nil]; omega)
end Go.Proofs.Ytnhcjadkbogioaa
