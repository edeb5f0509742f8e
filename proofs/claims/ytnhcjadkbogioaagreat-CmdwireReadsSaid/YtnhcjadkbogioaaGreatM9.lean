/- Patches as they are read of bytes: the document's: the walk. -/
import Derived.Test.YtnhcjadkbogioaaGreatM8
import Derived.Test.YtnhcjadkbogioaaGreatM2
import Derived.Test.YtnhcjadkbogioaaGreatM3
set_option maxRecDepth 100000
set_option linter.unusedVariables false
set_option linter.unusedSimpArgs false
namespace Go.Proofs.YtnhcjadkbogioaaGreat
open Go Go.RowKit OctM BitM
theorem numOut_bad (l : List UInt8) (a : Nat) (e m : Int) (h : e ≠ 0) : numOut l a e m = (0, a, e) := by
  unfold numOut
  rw [if_pos h]
theorem valOut_err (l : List UInt8) (a : Nat) (e : Int) (h : e ≠ 0) : valOut l a e = (zv, a, e) := by
  unfold valOut
  rw [numOut_bad l a e 2 h, if_neg (by simp), if_neg (by simp)]
  unfold valEnd
  rw [if_neg h]
theorem patch_step {l : List UInt8} {FR : List V3 × Nat × Int} {k : Nat} {L : List Int} {f : List V3} {a : Nat} {e : Int} (h : FR = fldsOut false l ([(k : Int)] ++ L) f a e) :
    ((valOut l a e).2.2 = 0 → FR = fldsOut false l L (f.set k (valOut l a e).1) (valOut l a e).2.1 (valOut l a e).2.2) ∧ ((valOut l a e).2.2 ≠ 0 → FR.2 = ((valOut l a e).2.1, (valOut l a e).2.2)) := by
  have hf : fldOut false l a e = valOut l a e := by
    unfold fldOut
    rw [if_neg (by simp)]
  rw [List.singleton_append, fldsOut, hf, Int.toNat_natCast] at h
  constructor
  · intro h0
    rw [if_pos h0] at h
    exact h
  · intro h0
    rw [if_neg h0] at h
    rw [h]
theorem patch_err (l : List UInt8) (L : List Int) (a : Nat) (e : Int) (h : e ≠ 0) : (fldsOut false l L zeros a e).2 = (a, e) := by
  cases L with
  | nil => rfl
  | cons i L =>
    have hf : fldOut false l a e = (zv, a, e) := by
      unfold fldOut
      rw [if_neg (by simp), valOut_err l a e h]
    rw [fldsOut, hf, if_neg h]
set_option maxHeartbeats 6400000 in
theorem rr_patch (base g : Nat) (l : List UInt8) (a : Nat) (e : Int) (w : World) (h : Rr w base g (l.drop a) e) (ha : a ≤ l.length) (hm : l.length ≤ 4000) :
    Calls Tryz.prog 54 #[.pointer (some ⟨g, 0, none⟩)] w fun x w' => x = .returned (.agg (pc3 (patOut l a e).1).toArray) ∧ Rr w' base g (l.drop (patOut l a e).2.1) (patOut l a e).2.2 ∧ w.grownBy w' (some g) := by
  have hg := h.block.2
  obtain ⟨T, hT⟩ : ∃ T, T = patOut l a e := ⟨_, rfl⟩
  rw [← hT]
  have HA := hid (fun wx (hx : Rr wx base g (l.drop a) e) => rr_aboved base g l a e 511 wx hx hm)
  have A1 := abvOut_at l a e 511 ha
  have BA := numOut_le l a e 511 (by omega)
  obtain ⟨rA, hA⟩ : ∃ r, r = abvOut l a e 511 := ⟨_, rfl⟩
  have BA2 : (rA.1 : Int) ≤ 511 := by rw [hA]; exact BA
  rw [← hA] at HA A1
  obtain ⟨vA, aA, eA⟩ := rA
  simp only at HA A1 BA2
  obtain ⟨x, hx⟩ : ∃ x : BitVec 32, vA = x.toNat := ⟨BitVec.ofNat 32 vA, by rw [BitVec.toNat_ofNat]; omega⟩
  subst hx
  have HC := hid (fun wx (hx : Rr wx base g (l.drop aA) eA) => rr_numd base g l aA eA 65535 wx hx hm)
  have A2 := numOut_at l aA eA 65535 A1
  have BC := numOut_le l aA eA 65535 (by omega)
  have kA : patA l a e = (x.toNat, aA, eA) := hA.symm
  have kX : patX l a e = x := by unfold patX; rw [kA, BitVec.ofNat_toNat, BitVec.setWidth_eq]
  have kB : patB l a e = if has x 8 = true then numOut l aA eA 65535 else (0, aA, eA) := by unfold patB; rw [kX, kA]
  obtain ⟨rC, hC⟩ : ∃ r, r = numOut l aA eA 65535 := ⟨_, rfl⟩
  rw [← hC] at HC A2 BC kB
  obtain ⟨vC, aC, eC⟩ := rC
  simp only at HC A2 BC
  obtain ⟨labC, hlabC⟩ : ∃ z : Int, z = (vC : Int) := ⟨_, rfl⟩
  rw [← hlabC] at HC
  obtain ⟨rB, hB⟩ : ∃ r : Nat × Nat × Int, r = if has x 8 = true then (vC, aC, eC) else (0, aA, eA) := ⟨_, rfl⟩
  rw [← hB] at kB
  obtain ⟨vB, aB, eB⟩ := rB
  obtain ⟨lab, hlab⟩ : ∃ z : Int, z = (vB : Int) := ⟨_, rfl⟩
  have kE : patE l a e = fldsOut false l (fromL x 8 0) zeros aB eB := by
    unfold patE
    rw [kB, kX, flds_from]
  unfold patOut at hT
  rw [kX, kB, kE] at hT
  obtain ⟨FR, hFR⟩ : ∃ FR, FR = fldsOut false l (fromL x 8 0) zeros aB eB := ⟨_, rfl⟩
  rw [← hFR] at hT
  simp only at hT
  rw [← hlab] at hT
  have A4 : aB ≤ l.length := by
    have : aB = if has x 8 = true then aC else aA := by
      have := congrArg (fun r : Nat × Nat × Int => r.2.1) hB
      simp only at this
      rw [this]
      split <;> rfl
    rw [this]
    split
    · exact A2
    · exact A1
  have HT := hid hT
  have HFR0 : Hid ((eB = 0 → FR = fldsOut false l (fromL x (8 - 0) 0) zeros aB eB) ∧ (eB ≠ 0 → FR.2 = (aB, eB))) := hid ⟨fun _ => hFR, fun hne => by rw [hFR]; exact patch_err _ _ _ _ hne⟩
  have HA4 := hid A4
  have HM := hid hm
  have hwc : IntKind.u32.wrap labC = labC := by
    have h2 := wrap_nat (BitVec.ofNat 32 vC)
    rwa [BitVec.toNat_ofNat, Nat.mod_eq_of_lt (by omega), ← hlabC] at h2
  have hwx : IntKind.u32.wrap (x.toNat : Int) = (x.toNat : Int) := wrap_nat x
  have HBV : Hid ((has x 8 = true → lab = labC ∧ aB = aC ∧ eB = eC) ∧ (has x 8 = false → lab = 0 ∧ aB = aA ∧ eB = eA)) := Lib.hid (by
    constructor
    · intro hh
      rw [if_pos hh] at hB
      injection hB with h1 h2
      injection h2 with h2 h3
      exact ⟨by rw [hlab, h1, hlabC], h2, h3⟩
    · intro hh
      rw [if_neg (by rw [hh]; exact Bool.false_ne_true)] at hB
      injection hB with h1 h2
      injection h2 with h2 h3
      exact ⟨by rw [hlab, h1]; rfl, h2, h3⟩)
  have HX := hid (fun (k : Int) (wx : World) => rhas_any x k wx)
  have HLB := hid (fun wx : World => rlabels_any x wx)
  clear hlab hlabC hB BC BA BA2
  clear hT hFR kA kX kB kE hA hC ha hm A1 A2 A4
  have HZ := hid zp26
  obtain ⟨zs, hzs⟩ : ∃ zs, zs = pcells 0 0 zeros := ⟨_, rfl⟩
  have HZL := hid (show zs.length = 26 by rw [hzs]; exact pcells_len 0 0 zeros_len)
  have hone : zs.toArray.all (·.oneCell') = true := all_oneCell_toArray (by rw [hzs]; exact pcells_one _ _ _)
  rw [← hzs] at HZ
  have HZS := hid hzs
  clear hzs
  obtain ⟨b8, hb8⟩ : ∃ b, b = has x 8 := ⟨_, rfl⟩
  rw [← hb8] at HLB HBV
  clear hb8
  have Bz := Blk.new (w.alloc (.cells zs.toArray 36)) zs 36
  have B := (Blk.new w zs 36).alloc (.cells zs.toArray 36)
  have hs1 : (w.alloc (.cells zs.toArray 36)).heap.size = w.heap.size + 1 := by simp
  rw [hs1] at Bz
  have T0 := Bz.there 0 26 (by rw [HZL.out]; omega)
  have S := Bz.wholeT (ds := zs) rfl
  replace B := Blk.setsOther (b := w.heap.size + 1) (g := w.heap.size) (by omega) zs 0 B
  have hw0 : Below w.heap.size w (World.setCells ((w.alloc (.cells zs.toArray 36)).alloc (.cells zs.toArray 36)) (w.heap.size + 1) 0 zs) := below_sets (by omega) _ 0 (((Below.refl w.heap.size w).alloc (Nat.le_refl _) _).alloc (by simp) _)
  have R := h.later hw0
  have G := grown_none hw0 (some g)
  have hu := Tryz.underlying36
  have ne1 : (some g : Option Nat) ≠ some w.heap.size := by simp; omega
  have ne3 : (some g : Option Nat) ≠ some (w.heap.size + 1) := by simp; omega
  obtain ⟨r, hr⟩ : ∃ r, r = w.heap.size := ⟨_, rfl⟩
  clear Bz hs1 h hw0
  go_enter Tryz.func54, Tryz.ntmps54
  go_wp2_with (first
    | (rw [← HZ.out]
       refine wpList_store_mid rfl 36 (.tmp 3) (.tmp 5) rfl (w.heap.size + 1) 0 zs.toArray rfl (by rw [HZS.out]; rfl) (by simpa [HZL.out] using T0) (by simpa [HZL.out] using info_patch) hone ?_
       simp only [Act.put]
       generalize hw3 : World.setCells _ (w.heap.size + 1) 0 zs.toArray.toList = w3
       replace S : Blk w3 (w.heap.size + 1) zs := hw3 ▸ S
       replace B : Blk w3 w.heap.size zs := hw3 ▸ B
       replace R : Rr w3 base g (l.drop a) e := hw3 ▸ R
       replace G : w.grownBy w3 (some g) := hw3 ▸ G
       clear hw3 T0)
    | fail)
  rw [HZS.out] at S
  obtain ⟨gC, hgC⟩ : ∃ z, z = w.heap.size + 1 := ⟨_, rfl⟩
  rw [← hgC] at S ne3
  have hCr : r < gC := by omega
  have HRS := hid hr
  rw [← hr] at B ne1 hg
  rw [← hgC, ← hr]
  have hgs : w.heap.size ≤ gC := by omega
  clear hgC hr
  refine (HA.out _ R).mono ?_
  rintro x' wA ⟨rfl, RA, GA⟩
  replace S := S.kept GA ne3
  replace B := B.kept GA ne1
  replace G := G.trans GA
  have f0 := S.frozen 0
  have q0 : wA.cell? ⟨gC, 0, none⟩ = some (.int .u32 0) := S.cell rfl
  have S2 : Blk (wA.setCell ⟨gC, 0, none⟩ (.int .u32 (x.toNat : Int))) gC (pcells (x.toNat : Int) 0 zeros) := S.set 0 _
  have R2 := RA.off (grown_set1 wA gC 0 (.int .u32 (x.toNat : Int))) (by omega)
  have B2 := B.setOther (b := gC) 0 (.int .u32 (x.toNat : Int)) (by omega)
  have G2 := grown_new G (grown_set1 wA gC 0 (.int .u32 (x.toNat : Int))) (by omega)
  have q2 : (wA.setCell ⟨gC, 0, none⟩ (.int .u32 (x.toNat : Int))).cell? ⟨gC, 0, none⟩ = some (.int .u32 (x.toNat : Int)) := S2.cell rfl
  clear S B G R RA GA
  go_wp2_with fail
  obtain ⟨w3, hw3⟩ : ∃ z, z = wA.setCell ⟨gC, 0, none⟩ (.int .u32 (x.toNat : Int)) := ⟨_, rfl⟩
  rw [← hw3] at S2 R2 B2 G2 q2 ⊢
  clear hw3 f0 q0
  refine (HLB.out _).mono ?_
  rintro x' wn ⟨rfl, rfl⟩
  cases b8
  · obtain ⟨p1, p2, p3⟩ := HBV.out.2 rfl
    have R5 : Rr w3 base g (l.drop aB) eB := by rw [p2, p3]; exact R2
    have S5 : Blk w3 gC (pcells (x.toNat : Int) lab zeros) := by rw [p1]; exact S2
    have B5 := B2
    have G5 := G2
    clear p1 p2 p3 R2 S2 B2 G2 q2
    go_wp2_with fail
    go_loopw [4] (fun i wr => ∃ (k a' : Nat) (e' : Int) (f : List V3), k ≤ 8 ∧ i = .int .i64 k ∧ Rr wr base g (l.drop a') e' ∧ Hid (a' ≤ l.length) ∧ Blk wr gC (pcells (x.toNat : Int) lab f) ∧ Hid (f.length = 8) ∧ Blk wr r zs ∧ Hid ((e' = 0 → FR = fldsOut false l (fromL x (8 - k) k) f a' e') ∧ (e' ≠ 0 → FR.2 = (a', e'))) ∧ w.grownBy wr (some g)) (fun i _ => 8 - (intOf i).toNat)
    case atStart => exact ⟨0, aB, eB, zeros, by omega, rfl, R5, HA4, S5, hid zeros_len, B5, HFR0, G5⟩
    case round =>
      obtain ⟨k, a', e', f, hk, rfl, R, HAt, S, HFL, B, HQ, G⟩ := hrel
      clear R5 S5 B5 G5
      obtain ⟨y0, y1, y2, y3⟩ := R.facts
      have s0 : wr.cell? ⟨gC, 0, none⟩ = some (.int .u32 (x.toNat : Int)) := S.cell rfl
      by_cases hlt : k < 8
      · have ki : (k : Int) < 8 := by omega
        have k0 : (0 : Int) ≤ (k : Int) := by omega
        have HXK := hid (fun wx : World => HX.out (k : Int) wx)
        have HFM := hid (show fromL x (8 - k) k = (if has x (k : Int) = true then [(k : Int)] else []) ++ fromL x (8 - (k + 1)) (k + 1) by rw [show 8 - k = 8 - (k + 1) + 1 by omega]; rfl)
        obtain ⟨bh, hbh⟩ : ∃ b, b = has x (k : Int) := ⟨_, rfl⟩
        rw [← hbh] at HXK HFM
        clear hbh
        cases bh
        · -- no such field
          have HN : Hid ((e' = 0 → FR = fldsOut false l (fromL x (8 - (k + 1)) (k + 1)) f a' e') ∧ (e' ≠ 0 → FR.2 = (a', e'))) := Lib.hid (by
            have h2 := HQ.out
            rw [HFM.out] at h2
            simpa using h2)
          go_wp2_with fail
          refine (HXK.out _).mono ?_
          rintro x' wn ⟨rfl, rfl⟩
          go_wp2_with fail
          go_roundw
          case rel => exact ⟨k + 1, a', e', f, by omega, by go_num, R, HAt, S, HFL, B, HN, G⟩
          case measure => simp [intOf]; omega
        · have HV := hid (rr_value base g l a' e' wr R HAt.out HM.out)
          have HAV := hid (valOut_at l a' e' HAt.out)
          have HQ2 : Hid (((valOut l a' e').2.2 = 0 → FR = fldsOut false l (fromL x (8 - (k + 1)) (k + 1)) (f.set k (valOut l a' e').1) (valOut l a' e').2.1 (valOut l a' e').2.2) ∧ ((valOut l a' e').2.2 ≠ 0 → FR.2 = ((valOut l a' e').2.1, (valOut l a' e').2.2))) := Lib.hid (by
            have h2 := HQ.out
            by_cases h0 : e' = 0
            · have h3 := h2.1 h0
              rw [HFM.out, if_pos rfl] at h3
              exact patch_step h3
            · have h3 := h2.2 h0
              rw [valOut_err l a' e' h0]
              exact ⟨fun hh => absurd hh h0, fun _ => h3⟩)
          obtain ⟨r1, hr1⟩ : ∃ r, r = valOut l a' e' := ⟨_, rfl⟩
          rw [← hr1] at HV HQ2 HAV
          clear hr1
          obtain ⟨⟨v0, v1, v2⟩, a1, e1⟩ := r1
          simp only at HV HQ2 HAV
          have HFS : Hid ((f.set k (v0, v1, v2)).length = 8) := hid (by rw [List.length_set]; exact HFL.out)
          go_wp2_with fail
          refine (HXK.out _).mono ?_
          rintro x' wn ⟨rfl, rfl⟩
          go_wp2_with fail
          refine HV.out.mono ?_
          rintro x' w1 ⟨rfl, R1, G1⟩
          replace S := S.kept G1 ne3
          replace B := B.kept G1 ne1
          replace G1 := G.trans G1
          have T1 := S.there (2 + k * 3) 3 (by rw [pcells_len _ _ HFL.out]; omega)
          have S1 := Blk.putField (pre := [.int .u32 (x.toNat : Int), .int .u32 lab]) S k (by rw [HFL.out]; omega) (v0, v1, v2)
          have B1 := Blk.setsOther (b := gC) (g := r) (by omega) (vcells (v0, v1, v2)) (2 + k * 3) B
          have RS1 := R1.off (grown_sets4 gC (vcells (v0, v1, v2)) (2 + k * 3) w1) (by omega)
          have GS1 := grown_new G1 (grown_sets4 gC (vcells (v0, v1, v2)) (2 + k * 3) w1) (by omega)
          have O1 : (vcells (v0, v1, v2)).toArray.all (·.oneCell') = true := vcells_all _
          clear S B R G R1 G1 y0 y1 y2 y3 s0
          go_wp2_with (first
            | (refine wpList_store_mid rfl 33 (.tmp 29) (.tmp 27) rfl gC (2 + k * 3) (vcells (v0, v1, v2)).toArray rfl rfl T1 info_val O1 ?_
               simp only [Act.put]
               generalize hw3 : World.setCells _ gC (2 + k * 3) (vcells (v0, v1, v2)).toArray.toList = w3
               have S3 : Blk w3 gC ([.int .u32 (x.toNat : Int), .int .u32 lab] ++ fcells (f.set k (v0, v1, v2))) := hw3 ▸ S1
               have B3 : Blk w3 r zs := hw3 ▸ B1
               have R3 : Rr w3 base g (l.drop a1) e1 := hw3 ▸ RS1
               have G3 : w.grownBy w3 (some g) := hw3 ▸ GS1
               clear hw3 S1 B1 RS1 GS1 T1 O1)
            | fail)
          go_roundw
          case rel => exact ⟨k + 1, a1, e1, f.set k (v0, v1, v2), by omega, by go_num, R3, HAV, S3, HFS, B3, HQ2, G3⟩
          case measure => simp [intOf]; omega
      · obtain rfl : k = 8 := by omega
        by_cases e0 : e' = 0
        · have hq2 : FR = (f, a', e') := by
            have h2 := HQ.out.1 e0
            rw [show fromL x (8 - 8) 8 = [] from rfl] at h2
            exact h2
          have ke : (e' != 0) = false := by simpa using e0
          have HTE : Hid (T = (((x.toNat : Int), lab, f), a', e')) := Lib.hid (by
            rw [HT.out, hq2]
            simp only
            rw [if_pos e0])
          clear hq2 e0 s0
          have hrr : r = w.heap.size := HRS.out
          obtain ⟨cs, hcs⟩ : ∃ cs, cs = (pcells (x.toNat : Int) lab f) := ⟨_, rfl⟩
          have HCL := hid (show cs.length = 26 by rw [hcs]; exact pcells_len (x.toNat : Int) lab HFL.out)
          have O8 : cs.toArray.all (·.oneCell') = true := all_oneCell_toArray (by rw [hcs]; exact pcells_one _ _ _)
          rw [← hcs] at S
          have RG := S.range 0 cs (by rw [List.drop_zero, List.take_length])
          have HCS := hid hcs
          clear hcs
          have T8 := B.there 0 26 (by rw [HZL.out]; omega)
          have FIN := B.wholeT (ds := cs) (by rw [HCL.out, HZL.out])
          have R9 := R.off (grown_sets4 r cs 0 wr) (by omega)
          have G9 := grown_new G (grown_sets4 r cs 0 wr) (by omega)
          clear S R B G hrr
          go_wp2_with (first
            | (refine wpList_load_mid rfl 36 (.tmp 3) rfl gC 0 rfl cs _ RG hu rfl (by rw [HCL.out]; exact info_patch) ?_)
            | (refine wpList_store_mid rfl 36 (.tmp 2) (.tmp 36) rfl r 0 cs.toArray rfl rfl (by simpa [HCL.out] using T8) (by simpa [HCL.out] using info_patch) O8 ?_)
            | fail)
          exact bodyPost_ret (v := .agg cs.toArray) (tok_results (q := 2) rfl _ _ r cs _ rfl FIN hu rfl (by rw [HCL.out]; exact info_patch)) rfl ⟨by rw [HTE.out, HCS.out]; rfl, by rw [HTE.out]; exact R9, G9⟩
        · have hq2 : FR.2 = (a', e') := HQ.out.2 e0
          have ke : (e' != 0) = true := by simpa using e0
          have HTE : Hid (T = ((0, 0, zeros), a', e')) := Lib.hid (by
            rw [HT.out, hq2]
            simp only
            rw [if_neg e0])
          clear hq2 e0 s0
          have hrr : r = w.heap.size := HRS.out
          obtain ⟨cs, hcs⟩ : ∃ cs, cs = zs := ⟨_, rfl⟩
          have HCL := hid (show cs.length = 26 by rw [hcs]; exact HZL.out)
          have O8 : cs.toArray.all (·.oneCell') = true := by rw [hcs]; exact hone
          have HCS := hid (hcs.trans HZS.out)
          clear hcs
          have T8 := B.there 0 26 (by rw [HZL.out]; omega)
          have FIN := B.wholeT (ds := cs) (by rw [HCL.out, HZL.out])
          have R9 := R.off (grown_sets4 r cs 0 wr) (by omega)
          have G9 := grown_new G (grown_sets4 r cs 0 wr) (by omega)
          clear S R B G hrr
          go_wp2_with (first
            | (refine wpList_store_mid rfl 36 (.tmp 2) (.tmp 35) rfl r 0 cs.toArray rfl (by rw [HCS.out]; rfl) (by simpa [HCL.out] using T8) (by simpa [HCL.out] using info_patch) O8 ?_)
            | fail)
          exact bodyPost_ret (v := .agg cs.toArray) (tok_results (q := 2) rfl _ _ r cs _ rfl FIN hu rfl (by rw [HCL.out]; exact info_patch)) rfl ⟨by rw [HTE.out, HCS.out]; rfl, by rw [HTE.out]; exact R9, G9⟩
  · obtain ⟨p1, p2, p3⟩ := HBV.out.1 rfl
    have HP := hid (And.intro p1 (And.intro p2 p3))
    clear p1 p2 p3 q2
    go_wp2_with fail
    refine (HC.out _ R2).mono ?_
    rintro x' wA ⟨rfl, RA, GA⟩
    have S := S2.kept GA ne3
    have B := B2.kept GA ne1
    have G := G2.trans GA
    have f0 := S.frozen 1
    have q0 : wA.cell? ⟨gC, 1, none⟩ = some (.int .u32 0) := S.cell rfl
    have S5 : Blk (wA.setCell ⟨gC, 1, none⟩ (.int .u32 labC)) gC (pcells (x.toNat : Int) labC zeros) := S.set 1 _
    have R5 := RA.off (grown_set1 wA gC 1 (.int .u32 labC)) (by omega)
    have B5 := B.setOther (b := gC) 1 (.int .u32 labC) (by omega)
    have G5 := grown_new G (grown_set1 wA gC 1 (.int .u32 labC)) (by omega)
    clear S B G R2 S2 B2 G2 RA GA
    go_wp2_with fail
    obtain ⟨w5, hw5⟩ : ∃ z, z = wA.setCell ⟨gC, 1, none⟩ (.int .u32 labC) := ⟨_, rfl⟩
    rw [← hw5] at S5 R5 B5 G5 ⊢
    clear hw5 f0 q0
    rw [← HP.out.2.1, ← HP.out.2.2] at R5
    rw [← HP.out.1] at S5
    go_loopw [4] (fun i wr => ∃ (k a' : Nat) (e' : Int) (f : List V3), k ≤ 8 ∧ i = .int .i64 k ∧ Rr wr base g (l.drop a') e' ∧ Hid (a' ≤ l.length) ∧ Blk wr gC (pcells (x.toNat : Int) lab f) ∧ Hid (f.length = 8) ∧ Blk wr r zs ∧ Hid ((e' = 0 → FR = fldsOut false l (fromL x (8 - k) k) f a' e') ∧ (e' ≠ 0 → FR.2 = (a', e'))) ∧ w.grownBy wr (some g)) (fun i _ => 8 - (intOf i).toNat)
    case atStart => exact ⟨0, aB, eB, zeros, by omega, rfl, R5, HA4, S5, hid zeros_len, B5, HFR0, G5⟩
    case round =>
      obtain ⟨k, a', e', f, hk, rfl, R, HAt, S, HFL, B, HQ, G⟩ := hrel
      clear R5 S5 B5 G5
      obtain ⟨y0, y1, y2, y3⟩ := R.facts
      have s0 : wr.cell? ⟨gC, 0, none⟩ = some (.int .u32 (x.toNat : Int)) := S.cell rfl
      by_cases hlt : k < 8
      · have ki : (k : Int) < 8 := by omega
        have k0 : (0 : Int) ≤ (k : Int) := by omega
        have HXK := hid (fun wx : World => HX.out (k : Int) wx)
        have HFM := hid (show fromL x (8 - k) k = (if has x (k : Int) = true then [(k : Int)] else []) ++ fromL x (8 - (k + 1)) (k + 1) by rw [show 8 - k = 8 - (k + 1) + 1 by omega]; rfl)
        obtain ⟨bh, hbh⟩ : ∃ b, b = has x (k : Int) := ⟨_, rfl⟩
        rw [← hbh] at HXK HFM
        clear hbh
        cases bh
        · -- no such field
          have HN : Hid ((e' = 0 → FR = fldsOut false l (fromL x (8 - (k + 1)) (k + 1)) f a' e') ∧ (e' ≠ 0 → FR.2 = (a', e'))) := Lib.hid (by
            have h2 := HQ.out
            rw [HFM.out] at h2
            simpa using h2)
          go_wp2_with fail
          refine (HXK.out _).mono ?_
          rintro x' wn ⟨rfl, rfl⟩
          go_wp2_with fail
          go_roundw
          case rel => exact ⟨k + 1, a', e', f, by omega, by go_num, R, HAt, S, HFL, B, HN, G⟩
          case measure => simp [intOf]; omega
        · have HV := hid (rr_value base g l a' e' wr R HAt.out HM.out)
          have HAV := hid (valOut_at l a' e' HAt.out)
          have HQ2 : Hid (((valOut l a' e').2.2 = 0 → FR = fldsOut false l (fromL x (8 - (k + 1)) (k + 1)) (f.set k (valOut l a' e').1) (valOut l a' e').2.1 (valOut l a' e').2.2) ∧ ((valOut l a' e').2.2 ≠ 0 → FR.2 = ((valOut l a' e').2.1, (valOut l a' e').2.2))) := Lib.hid (by
            have h2 := HQ.out
            by_cases h0 : e' = 0
            · have h3 := h2.1 h0
              rw [HFM.out, if_pos rfl] at h3
              exact patch_step h3
            · have h3 := h2.2 h0
              rw [valOut_err l a' e' h0]
              exact ⟨fun hh => absurd hh h0, fun _ => h3⟩)
          obtain ⟨r1, hr1⟩ : ∃ r, r = valOut l a' e' := ⟨_, rfl⟩
          rw [← hr1] at HV HQ2 HAV
          clear hr1
          obtain ⟨⟨v0, v1, v2⟩, a1, e1⟩ := r1
          simp only at HV HQ2 HAV
          have HFS : Hid ((f.set k (v0, v1, v2)).length = 8) := hid (by rw [List.length_set]; exact HFL.out)
          go_wp2_with fail
          refine (HXK.out _).mono ?_
          rintro x' wn ⟨rfl, rfl⟩
          go_wp2_with fail
          refine HV.out.mono ?_
          rintro x' w1 ⟨rfl, R1, G1⟩
          replace S := S.kept G1 ne3
          replace B := B.kept G1 ne1
          replace G1 := G.trans G1
          have T1 := S.there (2 + k * 3) 3 (by rw [pcells_len _ _ HFL.out]; omega)
          have S1 := Blk.putField (pre := [.int .u32 (x.toNat : Int), .int .u32 lab]) S k (by rw [HFL.out]; omega) (v0, v1, v2)
          have B1 := Blk.setsOther (b := gC) (g := r) (by omega) (vcells (v0, v1, v2)) (2 + k * 3) B
          have RS1 := R1.off (grown_sets4 gC (vcells (v0, v1, v2)) (2 + k * 3) w1) (by omega)
          have GS1 := grown_new G1 (grown_sets4 gC (vcells (v0, v1, v2)) (2 + k * 3) w1) (by omega)
          have O1 : (vcells (v0, v1, v2)).toArray.all (·.oneCell') = true := vcells_all _
          clear S B R G R1 G1 y0 y1 y2 y3 s0
          go_wp2_with (first
            | (refine wpList_store_mid rfl 33 (.tmp 29) (.tmp 27) rfl gC (2 + k * 3) (vcells (v0, v1, v2)).toArray rfl rfl T1 info_val O1 ?_
               simp only [Act.put]
               generalize hw3 : World.setCells _ gC (2 + k * 3) (vcells (v0, v1, v2)).toArray.toList = w3
               have S3 : Blk w3 gC ([.int .u32 (x.toNat : Int), .int .u32 lab] ++ fcells (f.set k (v0, v1, v2))) := hw3 ▸ S1
               have B3 : Blk w3 r zs := hw3 ▸ B1
               have R3 : Rr w3 base g (l.drop a1) e1 := hw3 ▸ RS1
               have G3 : w.grownBy w3 (some g) := hw3 ▸ GS1
               clear hw3 S1 B1 RS1 GS1 T1 O1)
            | fail)
          go_roundw
          case rel => exact ⟨k + 1, a1, e1, f.set k (v0, v1, v2), by omega, by go_num, R3, HAV, S3, HFS, B3, HQ2, G3⟩
          case measure => simp [intOf]; omega
      · obtain rfl : k = 8 := by omega
        by_cases e0 : e' = 0
        · have hq2 : FR = (f, a', e') := by
            have h2 := HQ.out.1 e0
            rw [show fromL x (8 - 8) 8 = [] from rfl] at h2
            exact h2
          have ke : (e' != 0) = false := by simpa using e0
          have HTE : Hid (T = (((x.toNat : Int), lab, f), a', e')) := Lib.hid (by
            rw [HT.out, hq2]
            simp only
            rw [if_pos e0])
          clear hq2 e0 s0
          have hrr : r = w.heap.size := HRS.out
          obtain ⟨cs, hcs⟩ : ∃ cs, cs = (pcells (x.toNat : Int) lab f) := ⟨_, rfl⟩
          have HCL := hid (show cs.length = 26 by rw [hcs]; exact pcells_len (x.toNat : Int) lab HFL.out)
          have O8 : cs.toArray.all (·.oneCell') = true := all_oneCell_toArray (by rw [hcs]; exact pcells_one _ _ _)
          rw [← hcs] at S
          have RG := S.range 0 cs (by rw [List.drop_zero, List.take_length])
          have HCS := hid hcs
          clear hcs
          have T8 := B.there 0 26 (by rw [HZL.out]; omega)
          have FIN := B.wholeT (ds := cs) (by rw [HCL.out, HZL.out])
          have R9 := R.off (grown_sets4 r cs 0 wr) (by omega)
          have G9 := grown_new G (grown_sets4 r cs 0 wr) (by omega)
          clear S R B G hrr
          go_wp2_with (first
            | (refine wpList_load_mid rfl 36 (.tmp 3) rfl gC 0 rfl cs _ RG hu rfl (by rw [HCL.out]; exact info_patch) ?_)
            | (refine wpList_store_mid rfl 36 (.tmp 2) (.tmp 36) rfl r 0 cs.toArray rfl rfl (by simpa [HCL.out] using T8) (by simpa [HCL.out] using info_patch) O8 ?_)
            | fail)
          exact bodyPost_ret (v := .agg cs.toArray) (tok_results (q := 2) rfl _ _ r cs _ rfl FIN hu rfl (by rw [HCL.out]; exact info_patch)) rfl ⟨by rw [HTE.out, HCS.out]; rfl, by rw [HTE.out]; exact R9, G9⟩
        · have hq2 : FR.2 = (a', e') := HQ.out.2 e0
          have ke : (e' != 0) = true := by simpa using e0
          have HTE : Hid (T = ((0, 0, zeros), a', e')) := Lib.hid (by
            rw [HT.out, hq2]
            simp only
            rw [if_neg e0])
          clear hq2 e0 s0
          have hrr : r = w.heap.size := HRS.out
          obtain ⟨cs, hcs⟩ : ∃ cs, cs = zs := ⟨_, rfl⟩
          have HCL := hid (show cs.length = 26 by rw [hcs]; exact HZL.out)
          have O8 : cs.toArray.all (·.oneCell') = true := by rw [hcs]; exact hone
          have HCS := hid (hcs.trans HZS.out)
          clear hcs
          have T8 := B.there 0 26 (by rw [HZL.out]; omega)
          have FIN := B.wholeT (ds := cs) (by rw [HCL.out, HZL.out])
          have R9 := R.off (grown_sets4 r cs 0 wr) (by omega)
          have G9 := grown_new G (grown_sets4 r cs 0 wr) (by omega)
          clear S R B G hrr
          go_wp2_with (first
            | (refine wpList_store_mid rfl 36 (.tmp 2) (.tmp 35) rfl r 0 cs.toArray rfl (by rw [HCS.out]; rfl) (by simpa [HCL.out] using T8) (by simpa [HCL.out] using info_patch) O8 ?_)
            | fail)
          exact bodyPost_ret (v := .agg cs.toArray) (tok_results (q := 2) rfl _ _ r cs _ rfl FIN hu rfl (by rw [HCL.out]; exact info_patch)) rfl ⟨by rw [HTE.out, HCS.out]; rfl, by rw [HTE.out]; exact R9, G9⟩
end Go.Proofs.YtnhcjadkbogioaaGreat
namespace Go.Proofs.YtnhcjadkbogioaaGreat
open Go Go.RowKit OctM BitM
theorem held_nat {z : Int} (h0 : 0 ≤ z) (h1 : z ≤ 1099511627776) : held z = z.toNat := by
  unfold held
  simp only [Int.min_def, Int.max_def]
  split <;> (try split) <;> omega
theorem fbs_cons (i : Int) (L : List Int) (f : List V3) : fbs (i :: L) f = vbs (f.getD i.toNat zv) ++ fbs L f := by
  unfold fbs
  rw [List.flatMap_cons]
theorem scan_only : ∀ (l : List UInt8) (i v : Nat), (scan l i v).2.2 = 0 → ∃ n, scan l i v = (v + n * 128 ^ i, i + (enc n).length, 0) ∧ l = enc n ++ l.drop (enc n).length ∧ (0 < i → 0 < n)
  | [], i, v, h => by
    unfold scan at h
    split at h <;> cases h
  | c :: l, i, v, h => by
    unfold scan at h ⊢
    by_cases h6 : i = 6
    · rw [if_pos h6] at h; cases h
    · rw [if_neg h6] at h ⊢
      by_cases hc : c.toNat < 128
      · rw [if_pos hc] at h ⊢
        by_cases hz : c.toNat = 0 ∧ 0 < i
        · rw [if_pos hz] at h; cases h
        · rw [if_neg hz] at h ⊢
          have he : enc c.toNat = [c] := by rw [enc_low hc]; simp
          refine ⟨c.toNat, ?_, ?_, fun hi => ?_⟩
          · rw [he, Nat.mod_eq_of_lt hc]; rfl
          · rw [he]; rfl
          · rcases Nat.eq_zero_or_pos c.toNat with h0 | h0
            · exact absurd ⟨h0, hi⟩ hz
            · exact h0
      · rw [if_neg hc] at h ⊢
        obtain ⟨n, e1, e2, e3⟩ := scan_only l (i + 1) _ h
        have hn := e3 (by omega)
        have hcl := c.toNat_lt
        have hlow : (c.toNat % 128 + n * 128) % 128 = c.toNat % 128 := by omega
        have hdiv : (c.toNat % 128 + n * 128) / 128 = n := by omega
        have he : enc (c.toNat % 128 + n * 128) = c :: enc n := by
          rw [enc_high (by omega), hlow, hdiv, show c.toNat % 128 + 128 = c.toNat by omega]
          simp
        refine ⟨c.toNat % 128 + n * 128, ?_, ?_, fun _ => by omega⟩
        · rw [e1, he, List.length_cons]
          have e4 : v + c.toNat % 128 * 128 ^ i + n * 128 ^ (i + 1) = v + (c.toNat % 128 + n * 128) * 128 ^ i := by
            rw [Nat.add_mul, Nat.pow_succ, Nat.mul_comm (128 ^ i) 128, ← Nat.mul_assoc, Nat.add_assoc]
          rw [e4]
          congr 2; omega
        · rw [he, List.length_cons, List.drop_succ_cons, List.cons_append, ← e2]
theorem num_only {l : List UInt8} {a : Nat} {e m : Int} (h : (numOut l a e m).2.2 = 0) :
    e = 0 ∧ (numOut l a e m).2.1 = a + (enc (numOut l a e m).1).length ∧ l.drop a = enc (numOut l a e m).1 ++ l.drop (numOut l a e m).2.1 ∧ ((numOut l a e m).1 : Int) ≤ m ∧ (numOut l a e m).1 ≤ 1099511627776 := by
  unfold numOut at *
  by_cases he : e ≠ 0
  · rw [if_pos he] at h; exact absurd h he
  · rw [if_neg he] at h ⊢
    by_cases hs : (scan (l.drop a) 0 0).2.2 ≠ 0
    · rw [if_pos hs] at h
      simp only at h
      omega
    · rw [if_neg hs] at h ⊢
      by_cases hb : 1099511627776 < ((scan (l.drop a) 0 0).1 : Int) ∨ m < ((scan (l.drop a) 0 0).1 : Int)
      · rw [if_pos hb] at h; cases h
      · rw [if_neg hb] at h ⊢
        obtain ⟨n, e1, e2, _⟩ := scan_only (l.drop a) 0 0 (by omega)
        rw [e1] at hb ⊢
        simp only [Nat.pow_zero, Nat.mul_one, Nat.zero_add] at hb ⊢
        refine ⟨by omega, by first | rfl | trivial, ?_, by omega, by omega⟩
        rw [List.drop_drop] at e2
        exact e2
theorem str_only {l : List UInt8} {a : Nat} {e m : Int} (h : (strOut l a e m).2.2 = 0) :
    e = 0 ∧ (strOut l a e m).2.1 = a + (enc (strOut l a e m).1.length).length + (strOut l a e m).1.length ∧ l.drop a = enc (strOut l a e m).1.length ++ ((strOut l a e m).1 ++ l.drop (strOut l a e m).2.1) ∧ ((strOut l a e m).1.length : Int) ≤ m := by
  unfold strOut at *
  by_cases he : e ≠ 0
  · rw [if_pos he] at h; exact absurd h he
  · rw [if_neg he] at h ⊢
    by_cases hs : (numOut l a 0 m).2.2 ≠ 0
    · rw [if_pos hs] at h; exact absurd h hs
    · rw [if_neg hs] at h ⊢
      by_cases hb : l.length < (numOut l a 0 m).2.1 + (numOut l a 0 m).1
      · rw [if_pos hb] at h; cases h
      · rw [if_neg hb] at h ⊢
        obtain ⟨_, e1, e2, e3, _⟩ := num_only (l := l) (a := a) (e := 0) (m := m) (by simpa using hs)
        have hl : ((l.drop (numOut l a 0 m).2.1).take (numOut l a 0 m).1).length = (numOut l a 0 m).1 := by
          rw [List.length_take, List.length_drop]; omega
        simp only [hl]
        refine ⟨by omega, by rw [e1], ?_, e3⟩
        rw [← List.drop_drop, List.take_append_drop]
        exact e2
theorem val_only {l : List UInt8} {a : Nat} {e : Int} (h : (valOut l a e).2.2 = 0) :
    e = 0 ∧ vchk (valOut l a e).1 = true ∧ (valOut l a e).2.1 = a + (vbs (valOut l a e).1).length ∧ l.drop a = vbs (valOut l a e).1 ++ l.drop (valOut l a e).2.1 := by
  have hcase : (numOut l a e 2).2.2 = 0 := by
    by_cases h0 : (numOut l a e 2).2.2 = 0
    · exact h0
    · have hz := numOut_err l a e 2 h0
      unfold valOut at h
      rw [hz, if_neg (by decide), if_neg (by decide)] at h
      exact h
  obtain ⟨he, n1, n2, n3, _⟩ := num_only hcase
  obtain ⟨r1, hr1⟩ : ∃ r, r = numOut l a e 2 := ⟨_, rfl⟩
  unfold valOut at h ⊢
  rw [← hr1] at h n1 n2 n3 hcase ⊢
  obtain ⟨k, a1, e1⟩ := r1
  simp only at h n1 n2 n3 hcase ⊢
  subst hcase
  refine ⟨he, ?_⟩
  by_cases k1 : k = 1
  · subst k1
    rw [if_pos rfl] at h ⊢
    have h' : (numOut l a1 0 1099511627776).2.2 = 0 := by unfold valEnd at h; exact h
    obtain ⟨_, m1, m2, m3, m4⟩ := num_only h'
    unfold valEnd
    rw [if_pos h']
    simp only
    obtain ⟨r2, hr2⟩ : ∃ r, r = numOut l a1 0 1099511627776 := ⟨_, rfl⟩
    rw [← hr2] at m1 m2 m3 m4 ⊢
    have hv : vchk (1, (r2.1 : Int), str []) = true := by
      unfold vchk
      simp only
      rw [if_neg (by decide), if_pos trivial, decide_eq_true_eq]
      exact ⟨by omega, by omega, rfl⟩
    have hb : vbs (1, (r2.1 : Int), str []) = enc 1 ++ enc r2.1 := by
      unfold vbs
      rw [if_neg (by rw [hv]; simp)]
      simp only
      rw [if_pos trivial, held_nat (by omega) (by omega)]
      rfl
    rw [hb]
    refine ⟨hv, by rw [m1, n1, List.length_append]; omega, ?_⟩
    rw [n2, m2, List.append_assoc]
  · rw [if_neg k1] at h ⊢
    by_cases k2 : k = 2
    · subst k2
      rw [if_pos rfl] at h ⊢
      have h' : (strOut l a1 0 24).2.2 = 0 := by unfold valEnd at h; exact h
      obtain ⟨_, m1, m2, m3⟩ := str_only h'
      unfold valEnd
      rw [if_pos h']
      simp only
      obtain ⟨r2, hr2⟩ : ∃ r, r = strOut l a1 0 24 := ⟨_, rfl⟩
      rw [← hr2] at m1 m2 m3 ⊢
      have hd : (str r2.1).data.toList = r2.1 := by unfold str; simp
      have hv : vchk (2, 0, str r2.1) = true := by
        unfold vchk
        simp only
        rw [if_neg (by decide), if_neg (by decide), if_pos trivial, decide_eq_true_eq]
        exact ⟨trivial, by rw [str_size]; omega⟩
      have hb : vbs (2, 0, str r2.1) = enc 2 ++ (enc r2.1.length ++ r2.1) := by
        unfold vbs
        rw [if_neg (by rw [hv]; simp)]
        simp only
        rw [if_neg (by decide), if_pos trivial, hd]
      rw [hb]
      refine ⟨hv, by rw [m1, n1, List.length_append, List.length_append]; omega, ?_⟩
      rw [n2, m2]
      simp only [List.append_assoc]
    · rw [if_neg k2] at h ⊢
      have k0 : k = 0 := by omega
      subst k0
      unfold valEnd
      rw [if_pos rfl]
      exact ⟨rfl, n1, n2⟩
theorem flds_only (must : Bool) (l : List UInt8) : ∀ (L : List Int) (f : List V3) (a : Nat) (e : Int), L.Nodup → (∀ i ∈ L, 0 ≤ i ∧ i.toNat < f.length) → (fldsOut must l L f a e).2.2 = 0 →
    e = 0 ∧ (∀ j : Nat, (j : Int) ∉ L → (fldsOut must l L f a e).1.getD j zv = f.getD j zv) ∧ (∀ i ∈ L, vchk ((fldsOut must l L f a e).1.getD i.toNat zv) = true ∧ (must = true → ((fldsOut must l L f a e).1.getD i.toNat zv).1 ≠ 0)) ∧
    (fldsOut must l L f a e).2.1 = a + (fbs L (fldsOut must l L f a e).1).length ∧ l.drop a = fbs L (fldsOut must l L f a e).1 ++ l.drop (fldsOut must l L f a e).2.1
  | [], f, a, e, _, _, h => by
    refine ⟨h, fun _ _ => rfl, fun i hi => (by cases hi), ?_, ?_⟩
    · simp [fldsOut, fbs]
    · simp [fldsOut, fbs]
  | i :: L, f, a, e, hn, hL, h => by
    unfold fldsOut at h ⊢
    by_cases h0 : (fldOut must l a e).2.2 = 0
    · rw [if_pos h0] at h ⊢
      obtain ⟨hi0, hil⟩ := hL i (by simp)
      rw [List.nodup_cons] at hn
      obtain ⟨_, r1, r2, r3, r4⟩ := flds_only must l L (f.set i.toNat (fldOut must l a e).1) (fldOut must l a e).2.1 (fldOut must l a e).2.2 hn.2 (fun j hj => by rw [List.length_set]; exact hL j (by simp [hj])) h
      obtain ⟨R, hR⟩ : ∃ R, R = fldsOut must l L (f.set i.toNat (fldOut must l a e).1) (fldOut must l a e).2.1 (fldOut must l a e).2.2 := ⟨_, rfl⟩
      rw [← hR] at r1 r2 r3 r4 ⊢
      have hRi : R.1.getD i.toNat zv = (fldOut must l a e).1 := by
        rw [r1 i.toNat (by rw [Int.toNat_of_nonneg hi0]; exact hn.1)]
        simp [List.getD, hil]
      have hv0 : (valOut l a e).2.2 = 0 := by
        unfold fldOut at h0
        simp only at h0
        split at h0
        · unfold failOut at h0
          split at h0
          · cases h0
          · exact h0
        · exact h0
      have hk : must = true → (valOut l a e).1.1 ≠ 0 := fun hm hz => by
        unfold fldOut at h0
        simp only at h0
        rw [if_pos ⟨hm, hz⟩] at h0
        unfold failOut at h0
        rw [if_pos hv0] at h0
        cases h0
      obtain ⟨he, v1, v2, v3⟩ := val_only hv0
      have hf1 : (fldOut must l a e).1 = (valOut l a e).1 := rfl
      have hf2 : (fldOut must l a e).2.1 = (valOut l a e).2.1 := rfl
      rw [hf1] at hRi
      rw [hf2] at r3 r4
      refine ⟨he, fun j hj => ?_, fun j hj => ?_, ?_, ?_⟩
      · rw [r1 j (fun hh => hj (by simp [hh]))]
        have : i.toNat ≠ j := fun hh => hj (by rw [← hh, Int.toNat_of_nonneg hi0]; simp)
        simp [List.getD, List.getElem?_set, this]
      · rcases List.mem_cons.1 hj with rfl | hj
        · rw [hRi]; exact ⟨v1, hk⟩
        · exact r2 j hj
      · rw [fbs_cons, hRi, List.length_append, r3, v2]; omega
      · rw [fbs_cons, hRi, List.append_assoc, ← r4, ← v3]
    · rw [if_neg h0] at h
      exact absurd h h0
theorem lst_nodup (x : BitVec 32) (k : Nat) : (lst x k).Nodup := by
  unfold lst
  unfold List.Nodup
  rw [List.pairwise_map]
  exact (List.Pairwise.filter _ List.nodup_range).imp (fun h e => h (by omega))
theorem flds_ok (x : BitVec 32) : (flds x).Nodup ∧ ∀ i ∈ flds x, 0 ≤ i ∧ i.toNat < zeros.length := by
  refine ⟨lst_nodup _ _, fun i hi => ?_⟩
  obtain ⟨h0, h8, _⟩ := (mem_flds x i).1 hi
  rw [zeros_len]
  exact ⟨h0, by omega⟩
theorem abv_only {l : List UInt8} {a : Nat} {e m : Int} (h : (abvOut l a e m).2.2 = 0) :
    e = 0 ∧ (abvOut l a e m).1 ≠ 0 ∧ (abvOut l a e m).2.1 = a + (enc (abvOut l a e m).1).length ∧ l.drop a = enc (abvOut l a e m).1 ++ l.drop (abvOut l a e m).2.1 ∧ ((abvOut l a e m).1 : Int) ≤ m ∧ (abvOut l a e m).1 ≤ 1099511627776 := by
  unfold abvOut at *
  simp only at h ⊢
  by_cases hz : (numOut l a e m).1 = 0
  · rw [if_pos hz] at h
    unfold failOut at h
    split at h
    · cases h
    · rename_i hne; exact absurd h hne
  · rw [if_neg hz] at h
    obtain ⟨h1, h2, h3, h4, h5⟩ := num_only h
    exact ⟨h1, hz, h2, h3, h4, h5⟩
theorem vchk_zv : vchk zv = true := by decide
theorem pat_only {l : List UInt8} {a : Nat} {e : Int} (h : (patOut l a e).2.2 = 0) :
    ∃ x : BitVec 32, (patOut l a e).1.1 = (x.toNat : Int) ∧ pchk x (patOut l a e).1.2.1 (patOut l a e).1.2.2 = 0 ∧ 0 ≤ (patOut l a e).1.2.1 ∧
      l.drop a = pbs x (patOut l a e).1.2.1 (patOut l a e).1.2.2 ++ l.drop (patOut l a e).2.1 ∧ (patOut l a e).2.1 = a + (pbs x (patOut l a e).1.2.1 (patOut l a e).1.2.2).length := by
  have hE : (patE l a e).2.2 = 0 := h
  have hvA : (patA l a e).1 ≤ 511 := by
    have := numOut_le l a e 511 (by omega)
    unfold patA abvOut; simp only; omega
  obtain ⟨x, hx⟩ : ∃ x, x = patX l a e := ⟨_, rfl⟩
  have hxn : x.toNat = (patA l a e).1 := by rw [hx]; unfold patX; rw [BitVec.toNat_ofNat]; omega
  have e0 := flds_only false l (flds x) zeros (patB l a e).2.1 (patB l a e).2.2 (flds_ok x).1 (flds_ok x).2 (by rw [hx]; exact hE)
  rw [show fldsOut false l (flds x) zeros (patB l a e).2.1 (patB l a e).2.2 = patE l a e from by unfold patE; rw [hx]] at e0
  obtain ⟨eB, r1, r2, r3, r4⟩ := e0
  have hout : patOut l a e = (((x.toNat : Int), ((patB l a e).1 : Int), (patE l a e).1), (patE l a e).2) := by
    unfold patOut
    rw [if_pos hE, hx]
  obtain ⟨R, hR⟩ : ∃ R, R = (patE l a e).1 := ⟨_, rfl⟩
  rw [← hR] at r1 r2 r3 r4 hout
  have hB : (patB l a e) = if has x 8 = true then numOut l (patA l a e).2.1 (patA l a e).2.2 65535 else (0, (patA l a e).2) := by
    rw [hx]; rfl
  have hfok : fok x R 8 = true := by
    unfold fok
    rw [List.all_eq_true]
    intro i hi
    have hi8 := List.mem_range.1 hi
    by_cases hb : has x (i : Int) = true
    · have := (r2 (i : Int) ((mem_flds x i).2 ⟨by omega, by omega, hb⟩)).1
      rw [Int.toNat_natCast] at this
      rw [this, hb]; simp
    · rw [r1 i (fun hm => hb ((mem_flds x i).1 hm).2.2), zeros_getD, vchk_zv]
      rfl
  have fin : ∀ (lab : Nat) (mid : List UInt8), (patB l a e).1 = lab → lab ≤ 65535 → (has x 8 = false → lab = 0) → mid = (if has x 8 = true then enc lab else []) → (patA l a e).2.2 = 0 → (patB l a e).2.1 = (patA l a e).2.1 + mid.length → l.drop (patA l a e).2.1 = mid ++ l.drop (patB l a e).2.1 →
      pchk x (lab : Int) R = 0 ∧ l.drop a = pbs x (lab : Int) R ++ l.drop (patE l a e).2.1 ∧ (patE l a e).2.1 = a + (pbs x (lab : Int) R).length := by
    intro lab mid h1 h2 h3 h4 h5 h6 h7
    obtain ⟨_, a0, a1, a2, a3, _⟩ := abv_only (l := l) (a := a) (e := e) (m := 511) h5
    change (patA l a e).1 ≠ 0 at a0
    change (patA l a e).2.1 = _ + (enc (patA l a e).1).length at a1
    change l.drop _ = enc (patA l a e).1 ++ l.drop (patA l a e).2.1 at a2
    have hpk : pchk x (lab : Int) R = 0 := by
      unfold pchk
      rw [if_neg (by omega), if_neg, if_pos hfok]
      rintro (hh | ⟨hh, hb⟩)
      · omega
      · exact hh (by rw [h3 hb]; rfl)
    have hpb : pbs x (lab : Int) R = enc (patA l a e).1 ++ (mid ++ fbs (flds x) R) := by
      unfold pbs
      rw [if_neg (by rw [hpk]; simp), held_nat (by omega) (by omega), held_nat (by omega) (by omega), h4, ← hxn]
      simp only [Int.toNat_natCast, List.append_assoc]
    refine ⟨hpk, ?_, ?_⟩
    · rw [hpb]
      simp only [List.append_assoc]
      rw [← r4, ← h7, ← a2]
    · rw [hpb]
      simp only [List.length_append]
      omega
  refine ⟨x, by rw [hout], ?_⟩
  rw [hout]
  simp only
  cases h8 : has x 8
  · rw [h8, if_neg (by simp)] at hB
    have := fin 0 [] (by rw [hB]) (by omega) (fun _ => rfl) (by rw [h8]; rfl) (by rw [hB] at eB; exact eB) (by rw [hB]; rfl) (by rw [hB]; rfl)
    rw [show ((patB l a e).1 : Int) = ((0 : Nat) : Int) from by rw [hB]]
    exact ⟨this.1, by omega, this.2⟩
  · rw [h8, if_pos rfl] at hB
    rw [hB] at eB
    obtain ⟨eA, c1, c2, c3, _⟩ := num_only eB
    rw [← hB] at c1 c2 c3
    have := fin (patB l a e).1 (enc (patB l a e).1) rfl (by omega) (fun hh => by rw [h8] at hh; cases hh) (by rw [h8]; rfl) eA c1 c2
    exact ⟨this.1, by omega, this.2⟩
theorem abv_err {l : List UInt8} {a : Nat} {e m : Int} (h : (abvOut l a e m).2.2 = 0) : e = 0 := (abv_only h).1
theorem pat_err {l : List UInt8} {a : Nat} {e : Int} (h : (patOut l a e).2.2 = 0) : e = 0 := by
  have hE : (patE l a e).2.2 = 0 := h
  have e0 := flds_only false l (flds (patX l a e)) zeros (patB l a e).2.1 (patB l a e).2.2 (flds_ok _).1 (flds_ok _).2 hE
  have hB := e0.1
  have hA : (patA l a e).2.2 = 0 := by
    unfold patB at hB
    split at hB
    · exact (num_only hB).1
    · exact hB
  exact abv_err (l := l) (a := a) (e := e) (m := 511) hA
end Go.Proofs.YtnhcjadkbogioaaGreat
namespace Go.Proofs.YtnhcjadkbogioaaGreat
open Go Go.RowKit BitM OctM
theorem str_conv (w : World) (B : Nat) (A : Option Addr) (n c : Nat) (l : List UInt8) (s : ByteArray) (hn : l.length = n) (hs : Sees w B A (bvs l)) (h : s = str l) : (convert 22 9 (.slice A n c)).run Tryz.prog w = .ok (.string s) w := by
  subst h
  exact run_str (P := Tryz.prog) w B 22 5 9 Tryz.underlying22 Tryz.underlying5 Tryz.underlying9 A n c l hn hs
section
variable {P : Program} {w : World} {a : Act} {op : Oper}
theorem exec_conv (x : Operand) (t u : TypeId) (ho : op.op = .convert t u x) (v : Value) (hx : a.eval x = v) (r : Value) (h : (convert t u v).run P w = .ok r w) : (execOp a.eval op).run P w = .ok (.value r) w := by
  unfold execOp
  simp only [ho, hx, Sem.run_bind, Sem.run_pure, Result.andThen_ok, h]
end
end Go.Proofs.YtnhcjadkbogioaaGreat
namespace Go.Proofs.YtnhcjadkbogioaaGreat
open Go Go.RowKit OctM BitM
def grp (k : Int) : Bool := decide (4 ≤ k ∧ k ≤ 7)
def idk (k : Int) : Bool := decide (k = 2 ∨ k = 3 ∨ k = 6 ∨ k = 7)
def ptk (k : Int) : Bool := decide (k = 1 ∨ k = 2)
def echk (k id gr : Int) (x : BitVec 32) (lab : Int) (f : List V3) : Int :=
  if k < 1 ∨ 7 < k then 1
  else if (grp k = false ∧ gr ≠ 0) ∨ (idk k = false ∧ id ≠ 0) ∨ (ptk k = false ∧ ¬ (x = 0#32 ∧ lab = 0 ∧ f = zeros)) then 1
  else if gr < 0 ∨ 16 ≤ gr ∨ (idk k = true ∧ (id < 1 ∨ 1073741824 ≤ id)) then 1
  else if ptk k = true then pchk x lab f else 0
def ebs (k id gr : Int) (x : BitVec 32) (lab : Int) (f : List V3) : List UInt8 :=
  if echk k id gr x lab f ≠ 0 then []
  else enc (held k) ++ ((if grp k = true then enc (held gr) else []) ++ ((if idk k = true then enc (held id) else []) ++ (if ptk k = true then pbs x lab f else [])))
def edA (l : List UInt8) (a : Nat) (e : Int) : Nat × Nat × Int := abvOut l a e 7
def edG (l : List UInt8) (a : Nat) (e : Int) : Nat × Nat × Int := if grp ((edA l a e).1 : Int) = true then numOut l (edA l a e).2.1 (edA l a e).2.2 15 else (0, (edA l a e).2)
def edI (l : List UInt8) (a : Nat) (e : Int) : Nat × Nat × Int := if idk ((edA l a e).1 : Int) = true then abvOut l (edG l a e).2.1 (edG l a e).2.2 1073741823 else (0, (edG l a e).2)
def edP (l : List UInt8) (a : Nat) (e : Int) : (Int × Int × List V3) × Nat × Int := if ptk ((edA l a e).1 : Int) = true then patOut l (edI l a e).2.1 (edI l a e).2.2 else ((0, 0, zeros), (edI l a e).2)
def editOut (l : List UInt8) (a : Nat) (e : Int) : (Int × Int × Int × Int × Int × List V3) × Nat × Int :=
  (if (edP l a e).2.2 = 0 then (((edA l a e).1 : Int), ((edI l a e).1 : Int), ((edG l a e).1 : Int), (edP l a e).1) else (0, 0, 0, 0, 0, zeros), (edP l a e).2)
theorem edG_at (l : List UInt8) (a : Nat) (e : Int) (h : a ≤ l.length) : (edG l a e).2.1 ≤ l.length := by
  unfold edG
  split
  · exact numOut_at _ _ _ _ (abvOut_at _ _ _ _ h)
  · exact abvOut_at _ _ _ _ h
theorem edI_at (l : List UInt8) (a : Nat) (e : Int) (h : a ≤ l.length) : (edI l a e).2.1 ≤ l.length := by
  unfold edI
  split
  · exact abvOut_at _ _ _ _ (edG_at _ _ _ h)
  · exact edG_at _ _ _ h
theorem editOut_at (l : List UInt8) (a : Nat) (e : Int) (h : a ≤ l.length) : (editOut l a e).2.1 ≤ l.length := by
  unfold editOut edP
  simp only
  split
  · exact patOut_at _ _ _ (edI_at _ _ _ h)
  · exact edI_at _ _ _ h
theorem editOut_len (l : List UInt8) (a : Nat) (e : Int) : (editOut l a e).1.2.2.2.2.2.length = 8 := by
  unfold editOut
  simp only
  split
  · unfold edP
    split
    · exact patOut_len _ _ _
    · exact zeros_len
  · exact zeros_len
theorem echk_mk {k id gr : Int} {x : BitVec 32} {lab : Int} {f : List V3} (h1 : 1 ≤ k) (h2 : k ≤ 7) (h3 : grp k = false → gr = 0) (h4 : idk k = false → id = 0) (h5 : ptk k = false → x = 0#32 ∧ lab = 0 ∧ f = zeros) (h6 : 0 ≤ gr) (h7 : gr < 16)
    (h8 : idk k = true → 1 ≤ id ∧ id < 1073741824) (h9 : ptk k = true → pchk x lab f = 0) : echk k id gr x lab f = 0 := by
  unfold echk
  rw [if_neg (by omega), if_neg, if_neg]
  · split
    · rename_i hp; exact h9 hp
    · rfl
  · rintro (hh | hh | ⟨hh, hb⟩)
    · omega
    · omega
    · have := h8 hh; omega
  · rintro (⟨hh, hb⟩ | ⟨hh, hb⟩ | ⟨hh, hb⟩)
    · exact hb (h3 hh)
    · exact hb (h4 hh)
    · exact hb (h5 hh)
theorem held_cast {n : Nat} (h : n ≤ 1099511627776) : held (n : Int) = n := by rw [held_nat (by omega) (by omega)]; rfl
theorem edit_only {l : List UInt8} {a : Nat} {e : Int} (h : (editOut l a e).2.2 = 0) :
    ∃ x : BitVec 32, (editOut l a e).1.2.2.2.1 = (x.toNat : Int) ∧ 0 ≤ (editOut l a e).1.2.2.2.2.1 ∧ echk (editOut l a e).1.1 (editOut l a e).1.2.1 (editOut l a e).1.2.2.1 x (editOut l a e).1.2.2.2.2.1 (editOut l a e).1.2.2.2.2.2 = 0 ∧
      l.drop a = ebs (editOut l a e).1.1 (editOut l a e).1.2.1 (editOut l a e).1.2.2.1 x (editOut l a e).1.2.2.2.2.1 (editOut l a e).1.2.2.2.2.2 ++ l.drop (editOut l a e).2.1 ∧
      (editOut l a e).2.1 = a + (ebs (editOut l a e).1.1 (editOut l a e).1.2.1 (editOut l a e).1.2.2.1 x (editOut l a e).1.2.2.2.2.1 (editOut l a e).1.2.2.2.2.2).length := by
  have hP : (edP l a e).2.2 = 0 := h
  have hout : editOut l a e = ((((edA l a e).1 : Int), ((edI l a e).1 : Int), ((edG l a e).1 : Int), (edP l a e).1), (edP l a e).2) := by
    unfold editOut
    rw [if_pos hP]
  -- the patch
  obtain ⟨x, p1, p2, p3, p4, p5, p6, p7⟩ : ∃ x : BitVec 32, (edP l a e).1.1 = (x.toNat : Int) ∧ 0 ≤ (edP l a e).1.2.1 ∧ (edI l a e).2.2 = 0 ∧ (ptk ((edA l a e).1 : Int) = true → pchk x (edP l a e).1.2.1 (edP l a e).1.2.2 = 0) ∧
      (ptk ((edA l a e).1 : Int) = false → x = 0#32 ∧ (edP l a e).1.2.1 = 0 ∧ (edP l a e).1.2.2 = zeros) ∧
      l.drop (edI l a e).2.1 = (if ptk ((edA l a e).1 : Int) = true then pbs x (edP l a e).1.2.1 (edP l a e).1.2.2 else []) ++ l.drop (edP l a e).2.1 ∧
      (edP l a e).2.1 = (edI l a e).2.1 + (if ptk ((edA l a e).1 : Int) = true then pbs x (edP l a e).1.2.1 (edP l a e).1.2.2 else []).length := by
    by_cases hg : ptk ((edA l a e).1 : Int) = true
    · have hd : edP l a e = patOut l (edI l a e).2.1 (edI l a e).2.2 := by unfold edP; rw [if_pos hg]
      rw [hd] at hP ⊢
      obtain ⟨x, g1, g2, g3, g4, g5⟩ := pat_only hP
      have he : (edI l a e).2.2 = 0 := pat_err hP
      refine ⟨x, g1, g3, he, fun _ => g2, fun hh => (by rw [hg] at hh; cases hh), ?_, ?_⟩
      · rw [if_pos hg]; exact g4
      · rw [if_pos hg]; exact g5
    · have hd : edP l a e = ((0, 0, zeros), (edI l a e).2) := by unfold edP; rw [if_neg hg]
      rw [hd] at hP ⊢
      refine ⟨0#32, rfl, by simp, hP, fun hh => absurd hh hg, fun _ => ⟨rfl, rfl, rfl⟩, ?_, ?_⟩
      · rw [if_neg hg]; rfl
      · rw [if_neg hg]; rfl
  obtain ⟨i1, i2, i3, i4, i5⟩ : (edG l a e).2.2 = 0 ∧ (idk ((edA l a e).1 : Int) = true → 1 ≤ ((edI l a e).1 : Int) ∧ ((edI l a e).1 : Int) < 1073741824) ∧ (idk ((edA l a e).1 : Int) = false → ((edI l a e).1 : Int) = 0) ∧
      l.drop (edG l a e).2.1 = (if idk ((edA l a e).1 : Int) = true then enc (edI l a e).1 else []) ++ l.drop (edI l a e).2.1 ∧ (edI l a e).2.1 = (edG l a e).2.1 + (if idk ((edA l a e).1 : Int) = true then enc (edI l a e).1 else []).length := by
    by_cases hg : idk ((edA l a e).1 : Int) = true
    · have hd : edI l a e = abvOut l (edG l a e).2.1 (edG l a e).2.2 1073741823 := by unfold edI; rw [if_pos hg]
      rw [hd] at p3
      obtain ⟨g1, g2, g3, g4, g5, _⟩ := abv_only p3
      rw [← hd] at g2 g3 g4 g5
      refine ⟨g1, fun _ => by omega, fun hh => (by rw [hg] at hh; cases hh), ?_, ?_⟩
      · rw [if_pos hg]; exact g4
      · rw [if_pos hg]; exact g3
    · have hd : edI l a e = (0, (edG l a e).2) := by unfold edI; rw [if_neg hg]
      rw [hd] at p3 ⊢
      refine ⟨p3, fun hh => absurd hh hg, fun _ => rfl, ?_, ?_⟩
      · rw [if_neg hg]; rfl
      · rw [if_neg hg]; rfl
  obtain ⟨j1, j2, j3, j4, j5⟩ : (edA l a e).2.2 = 0 ∧ ((edG l a e).1 : Int) < 16 ∧ (grp ((edA l a e).1 : Int) = false → ((edG l a e).1 : Int) = 0) ∧
      l.drop (edA l a e).2.1 = (if grp ((edA l a e).1 : Int) = true then enc (edG l a e).1 else []) ++ l.drop (edG l a e).2.1 ∧ (edG l a e).2.1 = (edA l a e).2.1 + (if grp ((edA l a e).1 : Int) = true then enc (edG l a e).1 else []).length := by
    by_cases hg : grp ((edA l a e).1 : Int) = true
    · have hd : edG l a e = numOut l (edA l a e).2.1 (edA l a e).2.2 15 := by unfold edG; rw [if_pos hg]
      rw [hd] at i1
      obtain ⟨g1, g2, g3, g4, _⟩ := num_only i1
      rw [← hd] at g2 g3 g4
      refine ⟨g1, by omega, fun hh => (by rw [hg] at hh; cases hh), ?_, ?_⟩
      · rw [if_pos hg]; exact g3
      · rw [if_pos hg]; exact g2
    · have hd : edG l a e = (0, (edA l a e).2) := by unfold edG; rw [if_neg hg]
      rw [hd] at i1 ⊢
      refine ⟨i1, by simp, fun _ => rfl, ?_, ?_⟩
      · rw [if_neg hg]; rfl
      · rw [if_neg hg]; rfl
  obtain ⟨_, a0, a1, a2, a3, _⟩ := abv_only (l := l) (a := a) (e := e) (m := 7) j1
  change (edA l a e).1 ≠ 0 at a0
  change (edA l a e).2.1 = _ + (enc (edA l a e).1).length at a1
  change l.drop _ = enc (edA l a e).1 ++ l.drop (edA l a e).2.1 at a2
  change ((edA l a e).1 : Int) ≤ 7 at a3
  have hi16 : (edI l a e).1 ≤ 1099511627776 := by
    by_cases hg : idk ((edA l a e).1 : Int) = true
    · have := i2 hg; omega
    · have := i3 (by simpa using hg); omega
  have hck : echk ((edA l a e).1 : Int) ((edI l a e).1 : Int) ((edG l a e).1 : Int) x (edP l a e).1.2.1 (edP l a e).1.2.2 = 0 :=
    echk_mk (by omega) a3 j3 i3 p5 (by omega) j2 i2 p4
  have hbs : ebs ((edA l a e).1 : Int) ((edI l a e).1 : Int) ((edG l a e).1 : Int) x (edP l a e).1.2.1 (edP l a e).1.2.2 = enc (edA l a e).1 ++ ((if grp ((edA l a e).1 : Int) = true then enc (edG l a e).1 else []) ++ ((if idk ((edA l a e).1 : Int) = true then enc (edI l a e).1 else []) ++ (if ptk ((edA l a e).1 : Int) = true then pbs x (edP l a e).1.2.1 (edP l a e).1.2.2 else []))) := by
    unfold ebs
    rw [if_neg (by rw [hck]; simp), held_cast (by omega), held_cast (by omega), held_cast hi16]
  rw [hout]
  simp only
  refine ⟨x, p1, p2, hck, ?_, ?_⟩
  · rw [hbs]
    simp only [List.append_assoc]
    rw [← p6, ← i4, ← j4, ← a2]
  · rw [hbs]
    simp only [List.length_append]
    omega
def ecells (k id gr m lab : Int) (f : List V3) : List Value := [.int .i64 k, .int .i64 id, .int .i64 gr] ++ pcells m lab f
theorem ecells_len (k id gr m lab : Int) {f : List V3} (h : f.length = 8) : (ecells k id gr m lab f).length = 29 := by
  unfold ecells
  rw [List.length_append, pcells_len _ _ h]
  rfl
theorem ecells_one (k id gr m lab : Int) (f : List V3) : ∀ u ∈ ecells k id gr m lab f, u.oneCell' = true := by
  intro u hu
  unfold ecells at hu
  rcases List.mem_append.1 hu with h | h
  · simp only [List.mem_cons, List.not_mem_nil, or_false] at h
    rcases h with rfl | rfl | rfl <;> rfl
  · exact pcells_one _ _ _ u h
theorem Blk.patchE {w : World} {g : Nat} {k id gr m lab : Int} {f : List V3} (h : Blk w g (ecells k id gr m lab f)) : w.rangeAt g 3 (pcells m lab f) :=
  h.range 3 _ (by
    unfold ecells
    rw [List.drop_left' (by rfl), List.take_length])
theorem Blk.edit {w : World} {g : Nat} {k id gr m lab : Int} {f : List V3} (h : Blk w g (ecells k id gr m lab f)) :
    w.cell? ⟨g, 0, none⟩ = some (.int .i64 k) ∧ w.cell? ⟨g, 1, none⟩ = some (.int .i64 id) ∧ w.cell? ⟨g, 2, none⟩ = some (.int .i64 gr) := ⟨h.cell rfl, h.cell rfl, h.cell rfl⟩
theorem guard_patchE : Tryz.prog.eqGuardType Tryz.prog.depth 36 = false := by kernel_rfl
def inr (k : Int) : Bool := decide (1 ≤ k ∧ k ≤ 7)
theorem has_grp (k : Int) (w : World) : Calls Tryz.prog 59 #[.int .i64 k, .int .i64 1] w fun e w' => e = .returned (.bool (grp k)) ∧ w = w' := by
  by_cases h1 : k < 1
  · have d1 : decide ((1 : Int) ≤ k) = false := decide_eq_false (by omega)
    have hr : grp k = false := by unfold grp; exact decide_eq_false (by omega)
    rw [hr]
    clear hr
    go_enter Tryz.func59, Tryz.ntmps59
    go_wp2
    go_ret
    exact ⟨rfl, rfl⟩
  · by_cases h2 : 7 < k
    · have d1 : decide ((1 : Int) ≤ k) = true := decide_eq_true (by omega)
      have d2 : decide (k ≤ 7) = false := decide_eq_false (by omega)
      have hr : grp k = false := by unfold grp; exact decide_eq_false (by omega)
      rw [hr]
      clear hr
      go_enter Tryz.func59, Tryz.ntmps59
      go_wp2
      go_ret
      exact ⟨rfl, rfl⟩
    · have hk : k = 1 ∨ k = 2 ∨ k = 3 ∨ k = 4 ∨ k = 5 ∨ k = 6 ∨ k = 7 := by omega
      clear h1 h2
      rcases hk with rfl | rfl | rfl | rfl | rfl | rfl | rfl
      all_goals
        go_enter Tryz.func59, Tryz.ntmps59
        go_wp2
        go_ret
        exact ⟨by rfl, rfl⟩
theorem has_idk (k : Int) (w : World) : Calls Tryz.prog 59 #[.int .i64 k, .int .i64 2] w fun e w' => e = .returned (.bool (idk k)) ∧ w = w' := by
  by_cases h1 : k < 1
  · have d1 : decide ((1 : Int) ≤ k) = false := decide_eq_false (by omega)
    have hr : idk k = false := by unfold idk; exact decide_eq_false (by omega)
    rw [hr]
    clear hr
    go_enter Tryz.func59, Tryz.ntmps59
    go_wp2
    go_ret
    exact ⟨rfl, rfl⟩
  · by_cases h2 : 7 < k
    · have d1 : decide ((1 : Int) ≤ k) = true := decide_eq_true (by omega)
      have d2 : decide (k ≤ 7) = false := decide_eq_false (by omega)
      have hr : idk k = false := by unfold idk; exact decide_eq_false (by omega)
      rw [hr]
      clear hr
      go_enter Tryz.func59, Tryz.ntmps59
      go_wp2
      go_ret
      exact ⟨rfl, rfl⟩
    · have hk : k = 1 ∨ k = 2 ∨ k = 3 ∨ k = 4 ∨ k = 5 ∨ k = 6 ∨ k = 7 := by omega
      clear h1 h2
      rcases hk with rfl | rfl | rfl | rfl | rfl | rfl | rfl
      all_goals
        go_enter Tryz.func59, Tryz.ntmps59
        go_wp2
        go_ret
        exact ⟨by rfl, rfl⟩
theorem has_ptk (k : Int) (w : World) : Calls Tryz.prog 59 #[.int .i64 k, .int .i64 4] w fun e w' => e = .returned (.bool (ptk k)) ∧ w = w' := by
  by_cases h1 : k < 1
  · have d1 : decide ((1 : Int) ≤ k) = false := decide_eq_false (by omega)
    have hr : ptk k = false := by unfold ptk; exact decide_eq_false (by omega)
    rw [hr]
    clear hr
    go_enter Tryz.func59, Tryz.ntmps59
    go_wp2
    go_ret
    exact ⟨rfl, rfl⟩
  · by_cases h2 : 7 < k
    · have d1 : decide ((1 : Int) ≤ k) = true := decide_eq_true (by omega)
      have d2 : decide (k ≤ 7) = false := decide_eq_false (by omega)
      have hr : ptk k = false := by unfold ptk; exact decide_eq_false (by omega)
      rw [hr]
      clear hr
      go_enter Tryz.func59, Tryz.ntmps59
      go_wp2
      go_ret
      exact ⟨rfl, rfl⟩
    · have hk : k = 1 ∨ k = 2 ∨ k = 3 ∨ k = 4 ∨ k = 5 ∨ k = 6 ∨ k = 7 := by omega
      clear h1 h2
      rcases hk with rfl | rfl | rfl | rfl | rfl | rfl | rfl
      all_goals
        go_enter Tryz.func59, Tryz.ntmps59
        go_wp2
        go_ret
        exact ⟨by rfl, rfl⟩
theorem has_inr (k : Int) (w : World) : Calls Tryz.prog 59 #[.int .i64 k, .int .i64 7] w fun e w' => e = .returned (.bool (inr k)) ∧ w = w' := by
  by_cases h1 : k < 1
  · have d1 : decide ((1 : Int) ≤ k) = false := decide_eq_false (by omega)
    have hr : inr k = false := by unfold inr; exact decide_eq_false (by omega)
    rw [hr]
    clear hr
    go_enter Tryz.func59, Tryz.ntmps59
    go_wp2
    go_ret
    exact ⟨rfl, rfl⟩
  · by_cases h2 : 7 < k
    · have d1 : decide ((1 : Int) ≤ k) = true := decide_eq_true (by omega)
      have d2 : decide (k ≤ 7) = false := decide_eq_false (by omega)
      have hr : inr k = false := by unfold inr; exact decide_eq_false (by omega)
      rw [hr]
      clear hr
      go_enter Tryz.func59, Tryz.ntmps59
      go_wp2
      go_ret
      exact ⟨rfl, rfl⟩
    · have hk : k = 1 ∨ k = 2 ∨ k = 3 ∨ k = 4 ∨ k = 5 ∨ k = 6 ∨ k = 7 := by omega
      clear h1 h2
      rcases hk with rfl | rfl | rfl | rfl | rfl | rfl | rfl
      all_goals
        go_enter Tryz.func59, Tryz.ntmps59
        go_wp2
        go_ret
        exact ⟨by rfl, rfl⟩
theorem rgrp_any (k : Int) (w : World) : Calls Tryz.prog 50 #[.int .i64 k] w fun e w' => e = .returned (.bool (grp k)) ∧ w = w' := by
  by_cases h4 : k = 4
  · subst h4
    go_enter Tryz.func50, Tryz.ntmps50
    go_wp2
    go_ret
    exact ⟨by rfl, rfl⟩
  · have t4 : (k == 4) = false := by simpa using h4
    by_cases h5 : k = 5
    · subst h5
      go_enter Tryz.func50, Tryz.ntmps50
      go_wp2
      go_ret
      exact ⟨by rfl, rfl⟩
    · have t5 : (k == 5) = false := by simpa using h5
      by_cases h6 : k = 6
      · subst h6
        go_enter Tryz.func50, Tryz.ntmps50
        go_wp2
        go_ret
        exact ⟨by rfl, rfl⟩
      · have t6 : (k == 6) = false := by simpa using h6
        by_cases h7 : k = 7
        · subst h7
          go_enter Tryz.func50, Tryz.ntmps50
          go_wp2
          go_ret
          exact ⟨by rfl, rfl⟩
        · have t7 : (k == 7) = false := by simpa using h7
          have hr : grp k = false := by unfold grp; exact decide_eq_false (by omega)
          rw [hr]
          clear hr
          clear h4 h5 h6 h7
          go_enter Tryz.func50, Tryz.ntmps50
          go_wp2
          go_ret
          exact ⟨by rfl, rfl⟩
theorem ridk_any (k : Int) (w : World) : Calls Tryz.prog 51 #[.int .i64 k] w fun e w' => e = .returned (.bool (idk k)) ∧ w = w' := by
  by_cases h2 : k = 2
  · subst h2
    go_enter Tryz.func51, Tryz.ntmps51
    go_wp2
    go_ret
    exact ⟨by rfl, rfl⟩
  · have t2 : (k == 2) = false := by simpa using h2
    by_cases h3 : k = 3
    · subst h3
      go_enter Tryz.func51, Tryz.ntmps51
      go_wp2
      go_ret
      exact ⟨by rfl, rfl⟩
    · have t3 : (k == 3) = false := by simpa using h3
      by_cases h6 : k = 6
      · subst h6
        go_enter Tryz.func51, Tryz.ntmps51
        go_wp2
        go_ret
        exact ⟨by rfl, rfl⟩
      · have t6 : (k == 6) = false := by simpa using h6
        by_cases h7 : k = 7
        · subst h7
          go_enter Tryz.func51, Tryz.ntmps51
          go_wp2
          go_ret
          exact ⟨by rfl, rfl⟩
        · have t7 : (k == 7) = false := by simpa using h7
          have hr : idk k = false := by unfold idk; exact decide_eq_false (by omega)
          rw [hr]
          clear hr
          clear h2 h3 h6 h7
          go_enter Tryz.func51, Tryz.ntmps51
          go_wp2
          go_ret
          exact ⟨by rfl, rfl⟩
theorem rptk_any (k : Int) (w : World) : Calls Tryz.prog 52 #[.int .i64 k] w fun e w' => e = .returned (.bool (ptk k)) ∧ w = w' := by
  by_cases h1 : k = 1
  · subst h1
    go_enter Tryz.func52, Tryz.ntmps52
    go_wp2
    go_ret
    exact ⟨by rfl, rfl⟩
  · have t1 : (k == 1) = false := by simpa using h1
    by_cases h2 : k = 2
    · subst h2
      go_enter Tryz.func52, Tryz.ntmps52
      go_wp2
      go_ret
      exact ⟨by rfl, rfl⟩
    · have t2 : (k == 2) = false := by simpa using h2
      have hr : ptk k = false := by unfold ptk; exact decide_eq_false (by omega)
      rw [hr]
      clear hr
      clear h1 h2
      go_enter Tryz.func52, Tryz.ntmps52
      go_wp2
      go_ret
      exact ⟨by rfl, rfl⟩
theorem echk_bool {k id gr : Int} {x : BitVec 32} {lab : Int} {f : List V3} {g i p zg zi bp d1 d2 e1 e2 : Bool} (h1 : 1 ≤ k) (h2 : k ≤ 7) (hg : grp k = g) (hi : idk k = i) (hp : ptk k = p) (hzg : (gr != 0) = zg) (hzi : (id != 0) = zi)
    (hbp : decide ((x.toNat : Int) = 0 ∧ lab = 0 ∧ f = zeros) = bp) (hd1 : decide (gr < 0) = d1) (hd2 : decide (16 ≤ gr) = d2) (he1 : decide (id < 1) = e1) (he2 : decide (1073741824 ≤ id) = e2) :
    echk k id gr x lab f = if ((!g && zg) || (!i && zi) || (!p && !bp)) = true then 1 else if (d1 || d2 || (i && (e1 || e2))) = true then 1 else if p = true then pchk x lab f else 0 := by
  subst hg hi hp hzg hzi hbp hd1 hd2 he1 he2
  unfold echk
  rw [if_neg (by omega)]
  have hx : (x = 0#32 ∧ lab = 0 ∧ f = zeros) ↔ ((x.toNat : Int) = 0 ∧ lab = 0 ∧ f = zeros) := by
    constructor
    · rintro ⟨rfl, h⟩; exact ⟨rfl, h⟩
    · rintro ⟨h0, h⟩; exact ⟨BitVec.eq_of_toNat_eq (by simpa using h0), h⟩
  have c2 : ((grp k = false ∧ gr ≠ 0) ∨ (idk k = false ∧ id ≠ 0) ∨ (ptk k = false ∧ ¬ (x = 0#32 ∧ lab = 0 ∧ f = zeros))) ↔ ((!grp k && (gr != 0)) || (!idk k && (id != 0)) || (!ptk k && !decide ((x.toNat : Int) = 0 ∧ lab = 0 ∧ f = zeros))) = true := by
    rw [hx]
    simp only [Bool.or_eq_true, Bool.and_eq_true, Bool.not_eq_true', bne_iff_ne, decide_eq_false_iff_not, or_assoc]
  have c3 : (gr < 0 ∨ 16 ≤ gr ∨ (idk k = true ∧ (id < 1 ∨ 1073741824 ≤ id))) ↔ (decide (gr < 0) || decide (16 ≤ gr) || (idk k && (decide (id < 1) || decide (1073741824 ≤ id)))) = true := by
    simp only [Bool.or_eq_true, Bool.and_eq_true, decide_eq_true_eq, or_assoc]
  simp only [c2, c3]
end Go.Proofs.YtnhcjadkbogioaaGreat
