/- Patches as they are read of bytes: the document's: the walk. -/
import Derived.Test.YtgpbglmlakildaaG15
import Derived.Test.YtgpbglmlakildaaG11
import Derived.Test.YtgpbglmlakildaaG13
namespace Go.Proofs.Ytgpbglmlakildaa
set_option linter.unusedVariables false
open Go Go.RowKit OctM BitM

theorem numOut_bad (l : List UInt8) (a : Nat) (e m : Int) (h : e ≠ 0) : numOut l a e m = (0, a, e) := by
  unfold numOut
  rw [if_pos h]
theorem valOut_err (l : List UInt8) (a : Nat) (e : Int) (h : e ≠ 0) : valOut l a e = (zv, a, e) := by
  unfold valOut
  rw [numOut_bad l a e 2 h, if_neg (by simp), if_neg (by simp)]
  unfold valEnd
  rw [if_neg h]
theorem patch_step {l : List UInt8} {FR : List V3 × Nat × Int} {k : Nat} {L : List Int} {f : List V3} {a : Nat} {e : Int} (h : FR = fldsOut false l ([(k : Int)] ++ L) f a e) :
    ((valOut l a e).2.2 = 0 → FR = fldsOut false l L (f.set k (valOut l a e).1) (valOut l a e).2.1 (valOut l a e).2.2) ∧ ((valOut l a e).2.2 ≠ 0 → FR.2 = ((valOut l a e).2.1, (valOut l a e).2.2)) := by
  have hf : fldOut false l a e = valOut l a e := by
    unfold fldOut
    rw [if_neg (by simp)]
  rw [List.singleton_append, fldsOut, hf, Int.toNat_natCast] at h
  constructor
  · intro h0
    rw [if_pos h0] at h
    exact h
  · intro h0
    rw [if_neg h0] at h
    rw [h]
theorem patch_err (l : List UInt8) (L : List Int) (a : Nat) (e : Int) (h : e ≠ 0) : (fldsOut false l L zeros a e).2 = (a, e) := by
  cases L with
  | nil => rfl
  | cons i L =>
    have hf : fldOut false l a e = (zv, a, e) := by
      unfold fldOut
      rw [if_neg (by simp), valOut_err l a e h]
    rw [fldsOut, hf, if_neg h]

set_option maxRecDepth 100000 in
set_option maxHeartbeats 6400000 in
theorem rr_patch (base g : Nat) (l : List UInt8) (a : Nat) (e : Int) (w : World) (h : Rr w base g (l.drop a) e) (ha : a ≤ l.length) (hm : l.length ≤ 2000) :
    Calls Try.prog 112 #[.pointer (some ⟨g, 0, none⟩)] w fun x w' => x = .returned (.agg (pc3 (patOut l a e).1).toArray) ∧ Rr w' base g (l.drop (patOut l a e).2.1) (patOut l a e).2.2 ∧ w.grownBy w' (some g) := by
  have hg := h.block.2
  obtain ⟨T, hT⟩ : ∃ T, T = patOut l a e := ⟨_, rfl⟩
  rw [← hT]
  have HA := Lib.hid (fun wx (hx : Rr wx base g (l.drop a) e) => rr_aboved base g l a e 511 wx hx hm)
  have A1 := abvOut_at l a e 511 ha
  have BA := numOut_le l a e 511 (by omega)
  obtain ⟨rA, hA⟩ : ∃ r, r = abvOut l a e 511 := ⟨_, rfl⟩
  have BA2 : (rA.1 : Int) ≤ 511 := by rw [hA]; exact BA
  rw [← hA] at HA A1
  obtain ⟨vA, aA, eA⟩ := rA
  simp only at HA A1 BA2
  obtain ⟨x, hx⟩ : ∃ x : BitVec 32, vA = x.toNat := ⟨BitVec.ofNat 32 vA, by rw [BitVec.toNat_ofNat]; omega⟩
  subst hx
  have HC := Lib.hid (fun wx (hx : Rr wx base g (l.drop aA) eA) => rr_numd base g l aA eA 65535 wx hx hm)
  have A2 := numOut_at l aA eA 65535 A1
  have BC := numOut_le l aA eA 65535 (by omega)
  have kA : patA l a e = (x.toNat, aA, eA) := hA.symm
  have kX : patX l a e = x := by unfold patX; rw [kA, BitVec.ofNat_toNat, BitVec.setWidth_eq]
  have kB : patB l a e = if has x 8 = true then numOut l aA eA 65535 else (0, aA, eA) := by unfold patB; rw [kX, kA]
  obtain ⟨rC, hC⟩ : ∃ r, r = numOut l aA eA 65535 := ⟨_, rfl⟩
  rw [← hC] at HC A2 BC kB
  obtain ⟨vC, aC, eC⟩ := rC
  simp only at HC A2 BC
  obtain ⟨labC, hlabC⟩ : ∃ z : Int, z = (vC : Int) := ⟨_, rfl⟩
  rw [← hlabC] at HC
  obtain ⟨rB, hB⟩ : ∃ r : Nat × Nat × Int, r = if has x 8 = true then (vC, aC, eC) else (0, aA, eA) := ⟨_, rfl⟩
  rw [← hB] at kB
  obtain ⟨vB, aB, eB⟩ := rB
  obtain ⟨lab, hlab⟩ : ∃ z : Int, z = (vB : Int) := ⟨_, rfl⟩
  have kE : patE l a e = fldsOut false l (fromL x 8 0) zeros aB eB := by
    unfold patE
    rw [kB, kX, flds_from]
  unfold patOut at hT
  rw [kX, kB, kE] at hT
  obtain ⟨FR, hFR⟩ : ∃ FR, FR = fldsOut false l (fromL x 8 0) zeros aB eB := ⟨_, rfl⟩
  rw [← hFR] at hT
  simp only at hT
  rw [← hlab] at hT
  have A4 : aB ≤ l.length := by
    have : aB = if has x 8 = true then aC else aA := by
      have := congrArg (fun r : Nat × Nat × Int => r.2.1) hB
      simp only at this
      rw [this]
      split <;> rfl
    rw [this]
    split
    · exact A2
    · exact A1
  have HT := Lib.hid hT
  have HFR0 : Hid ((eB = 0 → FR = fldsOut false l (fromL x (8 - 0) 0) zeros aB eB) ∧ (eB ≠ 0 → FR.2 = (aB, eB))) := Lib.hid ⟨fun _ => hFR, fun hne => by rw [hFR]; exact patch_err _ _ _ _ hne⟩
  have HA4 := Lib.hid A4
  have HM := Lib.hid hm
  have hwc : IntKind.u32.wrap labC = labC := by
    have h2 := wrap_nat (BitVec.ofNat 32 vC)
    rwa [BitVec.toNat_ofNat, Nat.mod_eq_of_lt (by omega), ← hlabC] at h2
  have hwx : IntKind.u32.wrap (x.toNat : Int) = (x.toNat : Int) := wrap_nat x
  have HBV : Hid ((has x 8 = true → lab = labC ∧ aB = aC ∧ eB = eC) ∧ (has x 8 = false → lab = 0 ∧ aB = aA ∧ eB = eA)) := Lib.hid (by
    constructor
    · intro hh
      rw [if_pos hh] at hB
      injection hB with h1 h2
      injection h2 with h2 h3
      exact ⟨by rw [hlab, h1, hlabC], h2, h3⟩
    · intro hh
      rw [if_neg (by rw [hh]; exact Bool.false_ne_true)] at hB
      injection hB with h1 h2
      injection h2 with h2 h3
      exact ⟨by rw [hlab, h1]; rfl, h2, h3⟩)
  have HX := Lib.hid (fun (k : Int) (wx : World) => rhas_any x k wx)
  have HLB := Lib.hid (fun wx : World => rlabels_any x wx)
  clear hlab hlabC hB BC BA BA2
  clear hT hFR kA kX kB kE hA hC ha hm A1 A2 A4
  have HZ := Lib.hid zp26
  obtain ⟨zs, hzs⟩ : ∃ zs, zs = pcells 0 0 zeros := ⟨_, rfl⟩
  have HZL := Lib.hid (show zs.length = 26 by rw [hzs]; exact pcells_len 0 0 zeros_len)
  have hone : zs.toArray.all (·.oneCell') = true := all_oneCell_toArray (by rw [hzs]; exact pcells_one _ _ _)
  rw [← hzs] at HZ
  have HZS := Lib.hid hzs
  clear hzs
  obtain ⟨b8, hb8⟩ : ∃ b, b = has x 8 := ⟨_, rfl⟩
  rw [← hb8] at HLB HBV
  clear hb8
  have Bz := Blk.new (w.alloc (.cells zs.toArray 61)) zs 61
  have B := (Blk.new w zs 61).alloc (.cells zs.toArray 61)
  have hs1 : (w.alloc (.cells zs.toArray 61)).heap.size = w.heap.size + 1 := by simp
  rw [hs1] at Bz
  have T0 := Bz.there 0 26 (by rw [HZL.out]; omega)
  have S := Bz.wholeT (ds := zs) rfl
  replace B := Blk.setsOther (b := w.heap.size + 1) (g := w.heap.size) (by omega) zs 0 B
  have hw0 : Below w.heap.size w (World.setCells ((w.alloc (.cells zs.toArray 61)).alloc (.cells zs.toArray 61)) (w.heap.size + 1) 0 zs) := below_sets (by omega) _ 0 (((Below.refl w.heap.size w).alloc (Nat.le_refl _) _).alloc (by simp) _)
  have R := h.later hw0
  have G := grown_none hw0 (some g)
  have hu := Try.underlying61
  have ne1 : (some g : Option Nat) ≠ some w.heap.size := by simp; omega
  have ne3 : (some g : Option Nat) ≠ some (w.heap.size + 1) := by simp; omega
  obtain ⟨r, hr⟩ : ∃ r, r = w.heap.size := ⟨_, rfl⟩
  clear Bz hs1 h hw0
  go_enter Try.func112, Try.ntmps112
  go_wp2_with (first
    | (rw [← HZ.out]
       refine wpList_store_mid rfl 61 (.tmp 3) (.tmp 5) rfl (w.heap.size + 1) 0 zs.toArray rfl (by rw [HZS.out]; rfl) (by simpa [HZL.out] using T0) (by simpa [HZL.out] using info_patch) hone ?_
       simp only [Act.put]
       generalize hw3 : World.setCells _ (w.heap.size + 1) 0 zs.toArray.toList = w3
       replace S : Blk w3 (w.heap.size + 1) zs := hw3 ▸ S
       replace B : Blk w3 w.heap.size zs := hw3 ▸ B
       replace R : Rr w3 base g (l.drop a) e := hw3 ▸ R
       replace G : w.grownBy w3 (some g) := hw3 ▸ G
       clear hw3 T0)
    | fail)
  rw [HZS.out] at S
  obtain ⟨gC, hgC⟩ : ∃ z, z = w.heap.size + 1 := ⟨_, rfl⟩
  rw [← hgC] at S ne3
  have hCr : r < gC := by omega
  have HRS := Lib.hid hr
  rw [← hr] at B ne1 hg
  rw [← hgC, ← hr]
  have hgs : w.heap.size ≤ gC := by omega
  clear hgC hr
  refine (HA.out _ R).mono ?_
  rintro x' wA ⟨rfl, RA, GA⟩
  replace S := S.kept GA ne3
  replace B := B.kept GA ne1
  replace G := G.trans GA
  have f0 := S.frozen 0
  have q0 : wA.cell? ⟨gC, 0, none⟩ = some (.int .u32 0) := S.cell rfl
  have S2 : Blk (wA.setCell ⟨gC, 0, none⟩ (.int .u32 (x.toNat : Int))) gC (pcells (x.toNat : Int) 0 zeros) := S.set 0 _
  have R2 := RA.off (grown_set1 wA gC 0 (.int .u32 (x.toNat : Int))) (by omega)
  have B2 := B.setOther (b := gC) 0 (.int .u32 (x.toNat : Int)) (by omega)
  have G2 := grown_new G (grown_set1 wA gC 0 (.int .u32 (x.toNat : Int))) (by omega)
  have q2 : (wA.setCell ⟨gC, 0, none⟩ (.int .u32 (x.toNat : Int))).cell? ⟨gC, 0, none⟩ = some (.int .u32 (x.toNat : Int)) := S2.cell rfl
  clear S B G R RA GA
  go_wp2_with fail
  obtain ⟨w3, hw3⟩ : ∃ z, z = wA.setCell ⟨gC, 0, none⟩ (.int .u32 (x.toNat : Int)) := ⟨_, rfl⟩
  rw [← hw3] at S2 R2 B2 G2 q2 ⊢
  clear hw3 f0 q0
  refine (HLB.out _).mono ?_
  rintro x' wn ⟨rfl, rfl⟩
  cases b8
  · obtain ⟨p1, p2, p3⟩ := HBV.out.2 rfl
    have R5 : Rr w3 base g (l.drop aB) eB := by rw [p2, p3]; exact R2
    have S5 : Blk w3 gC (pcells (x.toNat : Int) lab zeros) := by rw [p1]; exact S2
    have B5 := B2
    have G5 := G2
    clear p1 p2 p3 R2 S2 B2 G2 q2
    go_wp2_with fail
    go_loopw [4] (fun i wr => ∃ (k a' : Nat) (e' : Int) (f : List V3), k ≤ 8 ∧ i = .int .i64 k ∧ Rr wr base g (l.drop a') e' ∧ Hid (a' ≤ l.length) ∧ Blk wr gC (pcells (x.toNat : Int) lab f) ∧ Hid (f.length = 8) ∧ Blk wr r zs ∧ Hid ((e' = 0 → FR = fldsOut false l (fromL x (8 - k) k) f a' e') ∧ (e' ≠ 0 → FR.2 = (a', e'))) ∧ w.grownBy wr (some g)) (fun i _ => 8 - (intOf i).toNat)
    case atStart => exact ⟨0, aB, eB, zeros, by omega, rfl, R5, HA4, S5, Lib.hid zeros_len, B5, HFR0, G5⟩
    case round =>
      obtain ⟨k, a', e', f, hk, rfl, R, HAt, S, HFL, B, HQ, G⟩ := hrel
      clear R5 S5 B5 G5
      obtain ⟨y0, y1, y2, y3⟩ := R.facts
      have s0 : wr.cell? ⟨gC, 0, none⟩ = some (.int .u32 (x.toNat : Int)) := S.cell rfl
      by_cases hlt : k < 8
      · have ki : (k : Int) < 8 := by omega
        have k0 : (0 : Int) ≤ (k : Int) := by omega
        have HXK := Lib.hid (fun wx : World => HX.out (k : Int) wx)
        have HFM := Lib.hid (show fromL x (8 - k) k = (if has x (k : Int) = true then [(k : Int)] else []) ++ fromL x (8 - (k + 1)) (k + 1) by rw [show 8 - k = 8 - (k + 1) + 1 by omega]; rfl)
        obtain ⟨bh, hbh⟩ : ∃ b, b = has x (k : Int) := ⟨_, rfl⟩
        rw [← hbh] at HXK HFM
        clear hbh
        cases bh
        · -- no such field
          have HN : Hid ((e' = 0 → FR = fldsOut false l (fromL x (8 - (k + 1)) (k + 1)) f a' e') ∧ (e' ≠ 0 → FR.2 = (a', e'))) := Lib.hid (by
            have h2 := HQ.out
            rw [HFM.out] at h2
            simpa using h2)
          go_wp2_with fail
          refine (HXK.out _).mono ?_
          rintro x' wn ⟨rfl, rfl⟩
          go_wp2_with fail
          go_roundw
          case rel => exact ⟨k + 1, a', e', f, by omega, by go_num, R, HAt, S, HFL, B, HN, G⟩
          case measure => simp [intOf]; omega
        · have HV := Lib.hid (rr_value base g l a' e' wr R HAt.out HM.out)
          have HAV := Lib.hid (valOut_at l a' e' HAt.out)
          have HQ2 : Hid (((valOut l a' e').2.2 = 0 → FR = fldsOut false l (fromL x (8 - (k + 1)) (k + 1)) (f.set k (valOut l a' e').1) (valOut l a' e').2.1 (valOut l a' e').2.2) ∧ ((valOut l a' e').2.2 ≠ 0 → FR.2 = ((valOut l a' e').2.1, (valOut l a' e').2.2))) := Lib.hid (by
            have h2 := HQ.out
            by_cases h0 : e' = 0
            · have h3 := h2.1 h0
              rw [HFM.out, if_pos rfl] at h3
              exact patch_step h3
            · have h3 := h2.2 h0
              rw [valOut_err l a' e' h0]
              exact ⟨fun hh => absurd hh h0, fun _ => h3⟩)
          obtain ⟨r1, hr1⟩ : ∃ r, r = valOut l a' e' := ⟨_, rfl⟩
          rw [← hr1] at HV HQ2 HAV
          clear hr1
          obtain ⟨⟨v0, v1, v2⟩, a1, e1⟩ := r1
          simp only at HV HQ2 HAV
          have HFS : Hid ((f.set k (v0, v1, v2)).length = 8) := Lib.hid (by rw [List.length_set]; exact HFL.out)
          go_wp2_with fail
          refine (HXK.out _).mono ?_
          rintro x' wn ⟨rfl, rfl⟩
          go_wp2_with fail
          refine HV.out.mono ?_
          rintro x' w1 ⟨rfl, R1, G1⟩
          replace S := S.kept G1 ne3
          replace B := B.kept G1 ne1
          replace G1 := G.trans G1
          have T1 := S.there (2 + k * 3) 3 (by rw [pcells_len _ _ HFL.out]; omega)
          have S1 := Blk.putField (pre := [.int .u32 (x.toNat : Int), .int .u32 lab]) S k (by rw [HFL.out]; omega) (v0, v1, v2)
          have B1 := Blk.setsOther (b := gC) (g := r) (by omega) (vcells (v0, v1, v2)) (2 + k * 3) B
          have RS1 := R1.off (grown_sets4 gC (vcells (v0, v1, v2)) (2 + k * 3) w1) (by omega)
          have GS1 := grown_new G1 (grown_sets4 gC (vcells (v0, v1, v2)) (2 + k * 3) w1) (by omega)
          have O1 : (vcells (v0, v1, v2)).toArray.all (·.oneCell') = true := vcells_all _
          clear S B R G R1 G1 y0 y1 y2 y3 s0
          go_wp2_with (first
            | (refine wpList_store_mid rfl 27 (.tmp 29) (.tmp 27) rfl gC (2 + k * 3) (vcells (v0, v1, v2)).toArray rfl rfl T1 info_val O1 ?_
               simp only [Act.put]
               generalize hw3 : World.setCells _ gC (2 + k * 3) (vcells (v0, v1, v2)).toArray.toList = w3
               have S3 : Blk w3 gC ([.int .u32 (x.toNat : Int), .int .u32 lab] ++ fcells (f.set k (v0, v1, v2))) := hw3 ▸ S1
               have B3 : Blk w3 r zs := hw3 ▸ B1
               have R3 : Rr w3 base g (l.drop a1) e1 := hw3 ▸ RS1
               have G3 : w.grownBy w3 (some g) := hw3 ▸ GS1
               clear hw3 S1 B1 RS1 GS1 T1 O1)
            | fail)
          go_roundw
          case rel => exact ⟨k + 1, a1, e1, f.set k (v0, v1, v2), by omega, by go_num, R3, HAV, S3, HFS, B3, HQ2, G3⟩
          case measure => simp [intOf]; omega
      · obtain rfl : k = 8 := by omega
        by_cases e0 : e' = 0
        · have hq2 : FR = (f, a', e') := by
            have h2 := HQ.out.1 e0
            rw [show fromL x (8 - 8) 8 = [] from rfl] at h2
            exact h2
          have ke : (e' != 0) = false := by simpa using e0
          have HTE : Hid (T = (((x.toNat : Int), lab, f), a', e')) := Lib.hid (by
            rw [HT.out, hq2]
            simp only
            rw [if_pos e0])
          clear hq2 e0 s0
          have hrr : r = w.heap.size := HRS.out
          obtain ⟨cs, hcs⟩ : ∃ cs, cs = (pcells (x.toNat : Int) lab f) := ⟨_, rfl⟩
          have HCL := Lib.hid (show cs.length = 26 by rw [hcs]; exact pcells_len (x.toNat : Int) lab HFL.out)
          have O8 : cs.toArray.all (·.oneCell') = true := all_oneCell_toArray (by rw [hcs]; exact pcells_one _ _ _)
          rw [← hcs] at S
          have RG := S.range 0 cs (by rw [List.drop_zero, List.take_length])
          have HCS := Lib.hid hcs
          clear hcs
          have T8 := B.there 0 26 (by rw [HZL.out]; omega)
          have FIN := B.wholeT (ds := cs) (by rw [HCL.out, HZL.out])
          have R9 := R.off (grown_sets4 r cs 0 wr) (by omega)
          have G9 := grown_new G (grown_sets4 r cs 0 wr) (by omega)
          clear S R B G hrr
          go_wp2_with (first
            | (refine wpList_load_mid rfl 61 (.tmp 3) rfl gC 0 rfl cs _ RG hu rfl (by rw [HCL.out]; exact info_patch) ?_)
            | (refine wpList_store_mid rfl 61 (.tmp 2) (.tmp 36) rfl r 0 cs.toArray rfl rfl (by simpa [HCL.out] using T8) (by simpa [HCL.out] using info_patch) O8 ?_)
            | fail)
          exact bodyPost_ret (v := .agg cs.toArray) (tok_results (q := 2) rfl _ _ r cs _ rfl FIN hu rfl (by rw [HCL.out]; exact info_patch)) rfl ⟨by rw [HTE.out, HCS.out]; rfl, by rw [HTE.out]; exact R9, G9⟩
        · have hq2 : FR.2 = (a', e') := HQ.out.2 e0
          have ke : (e' != 0) = true := by simpa using e0
          have HTE : Hid (T = ((0, 0, zeros), a', e')) := Lib.hid (by
            rw [HT.out, hq2]
            simp only
            rw [if_neg e0])
          clear hq2 e0 s0
          have hrr : r = w.heap.size := HRS.out
          obtain ⟨cs, hcs⟩ : ∃ cs, cs = zs := ⟨_, rfl⟩
          have HCL := Lib.hid (show cs.length = 26 by rw [hcs]; exact HZL.out)
          have O8 : cs.toArray.all (·.oneCell') = true := by rw [hcs]; exact hone
          have HCS := Lib.hid (hcs.trans HZS.out)
          clear hcs
          have T8 := B.there 0 26 (by rw [HZL.out]; omega)
          have FIN := B.wholeT (ds := cs) (by rw [HCL.out, HZL.out])
          have R9 := R.off (grown_sets4 r cs 0 wr) (by omega)
          have G9 := grown_new G (grown_sets4 r cs 0 wr) (by omega)
          clear S R B G hrr
          go_wp2_with (first
            | (refine wpList_store_mid rfl 61 (.tmp 2) (.tmp 35) rfl r 0 cs.toArray rfl (by rw [HCS.out]; rfl) (by simpa [HCL.out] using T8) (by simpa [HCL.out] using info_patch) O8 ?_)
            | fail)
          exact bodyPost_ret (v := .agg cs.toArray) (tok_results (q := 2) rfl _ _ r cs _ rfl FIN hu rfl (by rw [HCL.out]; exact info_patch)) rfl ⟨by rw [HTE.out, HCS.out]; rfl, by rw [HTE.out]; exact R9, G9⟩
  · obtain ⟨p1, p2, p3⟩ := HBV.out.1 rfl
    have HP := Lib.hid (And.intro p1 (And.intro p2 p3))
    clear p1 p2 p3 q2
    go_wp2_with fail
    refine (HC.out _ R2).mono ?_
    rintro x' wA ⟨rfl, RA, GA⟩
    have S := S2.kept GA ne3
    have B := B2.kept GA ne1
    have G := G2.trans GA
    have f0 := S.frozen 1
    have q0 : wA.cell? ⟨gC, 1, none⟩ = some (.int .u32 0) := S.cell rfl
    have S5 : Blk (wA.setCell ⟨gC, 1, none⟩ (.int .u32 labC)) gC (pcells (x.toNat : Int) labC zeros) := S.set 1 _
    have R5 := RA.off (grown_set1 wA gC 1 (.int .u32 labC)) (by omega)
    have B5 := B.setOther (b := gC) 1 (.int .u32 labC) (by omega)
    have G5 := grown_new G (grown_set1 wA gC 1 (.int .u32 labC)) (by omega)
    clear S B G R2 S2 B2 G2 RA GA
    go_wp2_with fail
    obtain ⟨w5, hw5⟩ : ∃ z, z = wA.setCell ⟨gC, 1, none⟩ (.int .u32 labC) := ⟨_, rfl⟩
    rw [← hw5] at S5 R5 B5 G5 ⊢
    clear hw5 f0 q0
    rw [← HP.out.2.1, ← HP.out.2.2] at R5
    rw [← HP.out.1] at S5
    go_loopw [4] (fun i wr => ∃ (k a' : Nat) (e' : Int) (f : List V3), k ≤ 8 ∧ i = .int .i64 k ∧ Rr wr base g (l.drop a') e' ∧ Hid (a' ≤ l.length) ∧ Blk wr gC (pcells (x.toNat : Int) lab f) ∧ Hid (f.length = 8) ∧ Blk wr r zs ∧ Hid ((e' = 0 → FR = fldsOut false l (fromL x (8 - k) k) f a' e') ∧ (e' ≠ 0 → FR.2 = (a', e'))) ∧ w.grownBy wr (some g)) (fun i _ => 8 - (intOf i).toNat)
    case atStart => exact ⟨0, aB, eB, zeros, by omega, rfl, R5, HA4, S5, Lib.hid zeros_len, B5, HFR0, G5⟩
    case round =>
      obtain ⟨k, a', e', f, hk, rfl, R, HAt, S, HFL, B, HQ, G⟩ := hrel
      clear R5 S5 B5 G5
      obtain ⟨y0, y1, y2, y3⟩ := R.facts
      have s0 : wr.cell? ⟨gC, 0, none⟩ = some (.int .u32 (x.toNat : Int)) := S.cell rfl
      by_cases hlt : k < 8
      · have ki : (k : Int) < 8 := by omega
        have k0 : (0 : Int) ≤ (k : Int) := by omega
        have HXK := Lib.hid (fun wx : World => HX.out (k : Int) wx)
        have HFM := Lib.hid (show fromL x (8 - k) k = (if has x (k : Int) = true then [(k : Int)] else []) ++ fromL x (8 - (k + 1)) (k + 1) by rw [show 8 - k = 8 - (k + 1) + 1 by omega]; rfl)
        obtain ⟨bh, hbh⟩ : ∃ b, b = has x (k : Int) := ⟨_, rfl⟩
        rw [← hbh] at HXK HFM
        clear hbh
        cases bh
        · -- no such field
          have HN : Hid ((e' = 0 → FR = fldsOut false l (fromL x (8 - (k + 1)) (k + 1)) f a' e') ∧ (e' ≠ 0 → FR.2 = (a', e'))) := Lib.hid (by
            have h2 := HQ.out
            rw [HFM.out] at h2
            simpa using h2)
          go_wp2_with fail
          refine (HXK.out _).mono ?_
          rintro x' wn ⟨rfl, rfl⟩
          go_wp2_with fail
          go_roundw
          case rel => exact ⟨k + 1, a', e', f, by omega, by go_num, R, HAt, S, HFL, B, HN, G⟩
          case measure => simp [intOf]; omega
        · have HV := Lib.hid (rr_value base g l a' e' wr R HAt.out HM.out)
          have HAV := Lib.hid (valOut_at l a' e' HAt.out)
          have HQ2 : Hid (((valOut l a' e').2.2 = 0 → FR = fldsOut false l (fromL x (8 - (k + 1)) (k + 1)) (f.set k (valOut l a' e').1) (valOut l a' e').2.1 (valOut l a' e').2.2) ∧ ((valOut l a' e').2.2 ≠ 0 → FR.2 = ((valOut l a' e').2.1, (valOut l a' e').2.2))) := Lib.hid (by
            have h2 := HQ.out
            by_cases h0 : e' = 0
            · have h3 := h2.1 h0
              rw [HFM.out, if_pos rfl] at h3
              exact patch_step h3
            · have h3 := h2.2 h0
              rw [valOut_err l a' e' h0]
              exact ⟨fun hh => absurd hh h0, fun _ => h3⟩)
          obtain ⟨r1, hr1⟩ : ∃ r, r = valOut l a' e' := ⟨_, rfl⟩
          rw [← hr1] at HV HQ2 HAV
          clear hr1
          obtain ⟨⟨v0, v1, v2⟩, a1, e1⟩ := r1
          simp only at HV HQ2 HAV
          have HFS : Hid ((f.set k (v0, v1, v2)).length = 8) := Lib.hid (by rw [List.length_set]; exact HFL.out)
          go_wp2_with fail
          refine (HXK.out _).mono ?_
          rintro x' wn ⟨rfl, rfl⟩
          go_wp2_with fail
          refine HV.out.mono ?_
          rintro x' w1 ⟨rfl, R1, G1⟩
          replace S := S.kept G1 ne3
          replace B := B.kept G1 ne1
          replace G1 := G.trans G1
          have T1 := S.there (2 + k * 3) 3 (by rw [pcells_len _ _ HFL.out]; omega)
          have S1 := Blk.putField (pre := [.int .u32 (x.toNat : Int), .int .u32 lab]) S k (by rw [HFL.out]; omega) (v0, v1, v2)
          have B1 := Blk.setsOther (b := gC) (g := r) (by omega) (vcells (v0, v1, v2)) (2 + k * 3) B
          have RS1 := R1.off (grown_sets4 gC (vcells (v0, v1, v2)) (2 + k * 3) w1) (by omega)
          have GS1 := grown_new G1 (grown_sets4 gC (vcells (v0, v1, v2)) (2 + k * 3) w1) (by omega)
          have O1 : (vcells (v0, v1, v2)).toArray.all (·.oneCell') = true := vcells_all _
          clear S B R G R1 G1 y0 y1 y2 y3 s0
          go_wp2_with (first
            | (refine wpList_store_mid rfl 27 (.tmp 29) (.tmp 27) rfl gC (2 + k * 3) (vcells (v0, v1, v2)).toArray rfl rfl T1 info_val O1 ?_
               simp only [Act.put]
               generalize hw3 : World.setCells _ gC (2 + k * 3) (vcells (v0, v1, v2)).toArray.toList = w3
               have S3 : Blk w3 gC ([.int .u32 (x.toNat : Int), .int .u32 lab] ++ fcells (f.set k (v0, v1, v2))) := hw3 ▸ S1
               have B3 : Blk w3 r zs := hw3 ▸ B1
               have R3 : Rr w3 base g (l.drop a1) e1 := hw3 ▸ RS1
               have G3 : w.grownBy w3 (some g) := hw3 ▸ GS1
               clear hw3 S1 B1 RS1 GS1 T1 O1)
            | fail)
          go_roundw
          case rel => exact ⟨k + 1, a1, e1, f.set k (v0, v1, v2), by omega, by go_num, R3, HAV, S3, HFS, B3, HQ2, G3⟩
          case measure => simp [intOf]; omega
      · obtain rfl : k = 8 := by omega
        by_cases e0 : e' = 0
        · have hq2 : FR = (f, a', e') := by
            have h2 := HQ.out.1 e0
            rw [show fromL x (8 - 8) 8 = [] from rfl] at h2
            exact h2
          have ke : (e' != 0) = false := by simpa using e0
          have HTE : Hid (T = (((x.toNat : Int), lab, f), a', e')) := Lib.hid (by
            rw [HT.out, hq2]
            simp only
            rw [if_pos e0])
          clear hq2 e0 s0
          have hrr : r = w.heap.size := HRS.out
          obtain ⟨cs, hcs⟩ : ∃ cs, cs = (pcells (x.toNat : Int) lab f) := ⟨_, rfl⟩
          have HCL := Lib.hid (show cs.length = 26 by rw [hcs]; exact pcells_len (x.toNat : Int) lab HFL.out)
          have O8 : cs.toArray.all (·.oneCell') = true := all_oneCell_toArray (by rw [hcs]; exact pcells_one _ _ _)
          rw [← hcs] at S
          have RG := S.range 0 cs (by rw [List.drop_zero, List.take_length])
          have HCS := Lib.hid hcs
          clear hcs
          have T8 := B.there 0 26 (by rw [HZL.out]; omega)
          have FIN := B.wholeT (ds := cs) (by rw [HCL.out, HZL.out])
          have R9 := R.off (grown_sets4 r cs 0 wr) (by omega)
          have G9 := grown_new G (grown_sets4 r cs 0 wr) (by omega)
          clear S R B G hrr
          go_wp2_with (first
            | (refine wpList_load_mid rfl 61 (.tmp 3) rfl gC 0 rfl cs _ RG hu rfl (by rw [HCL.out]; exact info_patch) ?_)
            | (refine wpList_store_mid rfl 61 (.tmp 2) (.tmp 36) rfl r 0 cs.toArray rfl rfl (by simpa [HCL.out] using T8) (by simpa [HCL.out] using info_patch) O8 ?_)
            | fail)
          exact bodyPost_ret (v := .agg cs.toArray) (tok_results (q := 2) rfl _ _ r cs _ rfl FIN hu rfl (by rw [HCL.out]; exact info_patch)) rfl ⟨by rw [HTE.out, HCS.out]; rfl, by rw [HTE.out]; exact R9, G9⟩
        · have hq2 : FR.2 = (a', e') := HQ.out.2 e0
          have ke : (e' != 0) = true := by simpa using e0
          have HTE : Hid (T = ((0, 0, zeros), a', e')) := Lib.hid (by
            rw [HT.out, hq2]
            simp only
            rw [if_neg e0])
          clear hq2 e0 s0
          have hrr : r = w.heap.size := HRS.out
          obtain ⟨cs, hcs⟩ : ∃ cs, cs = zs := ⟨_, rfl⟩
          have HCL := Lib.hid (show cs.length = 26 by rw [hcs]; exact HZL.out)
          have O8 : cs.toArray.all (·.oneCell') = true := by rw [hcs]; exact hone
          have HCS := Lib.hid (hcs.trans HZS.out)
          clear hcs
          have T8 := B.there 0 26 (by rw [HZL.out]; omega)
          have FIN := B.wholeT (ds := cs) (by rw [HCL.out, HZL.out])
          have R9 := R.off (grown_sets4 r cs 0 wr) (by omega)
          have G9 := grown_new G (grown_sets4 r cs 0 wr) (by omega)
          clear S R B G hrr
          go_wp2_with (first
            | (refine wpList_store_mid rfl 61 (.tmp 2) (.tmp 35) rfl r 0 cs.toArray rfl (by rw [HCS.out]; rfl) (by simpa [HCL.out] using T8) (by simpa [HCL.out] using info_patch) O8 ?_)
            | fail)
          exact bodyPost_ret (v := .agg cs.toArray) (tok_results (q := 2) rfl _ _ r cs _ rfl FIN hu rfl (by rw [HCL.out]; exact info_patch)) rfl ⟨by rw [HTE.out, HCS.out]; rfl, by rw [HTE.out]; exact R9, G9⟩
end Go.Proofs.Ytgpbglmlakildaa

/- What was put is read: values, cards, patches: mathematics. -/
namespace Go.Proofs.Ytgpbglmlakildaa
set_option linter.unusedVariables false
set_option linter.unusedSimpArgs false
open Go Go.RowKit OctM BitM

theorem held_nat {z : Int} (h0 : 0 ≤ z) (h1 : z ≤ 1099511627776) : held z = z.toNat := by
  unfold held
  simp only [Int.min_def, Int.max_def]
  split <;> (try split) <;> omega
theorem valOut_put (pre rest : List UInt8) (v : V3) (h : vchk v = true) : valOut (pre ++ (vbs v ++ rest)) pre.length 0 = (v, pre.length + (vbs v).length, 0) := by
  have hv : vbs v = if v.1 = 1 then enc 1 ++ enc (held v.2.1) else if v.1 = 2 then enc 2 ++ (enc v.2.2.data.toList.length ++ v.2.2.data.toList) else enc 0 := by
    unfold vbs
    rw [if_neg (by rw [h]; simp)]
  obtain ⟨k, n, s⟩ := v
  simp only at hv
  unfold vchk at h
  simp only at h
  by_cases k0 : k = 0
  · subst k0
    rw [if_pos rfl] at h
    obtain ⟨rfl, rfl⟩ := of_decide_eq_true h
    rw [if_neg (by decide), if_neg (by decide)] at hv
    rw [hv]
    unfold valOut
    rw [num_put pre rest 0 2 (by omega) (by omega), if_neg (by simp), if_neg (by simp)]
    unfold valEnd
    rw [if_pos rfl]
    rfl
  · rw [if_neg k0] at h
    by_cases k1 : k = 1
    · subst k1
      rw [if_pos rfl] at h
      obtain ⟨h0, h1, rfl⟩ := of_decide_eq_true h
      rw [if_pos rfl] at hv
      rw [hv]
      have n1 := num_put pre (enc (held n) ++ rest) 1 2 (by omega) (by omega)
      have n2 := num_put (pre ++ enc 1) rest (held n) 1099511627776 (held_le n) (by have := held_le n; omega)
      simp only [List.append_assoc, List.length_append] at n1 n2 ⊢
      unfold valOut
      rw [n1, if_pos rfl]
      simp only
      rw [n2]
      unfold valEnd
      simp only
      rw [if_pos trivial, held_self h0 h1, Nat.add_assoc]
      rfl
    · rw [if_neg k1] at h
      by_cases k2 : k = 2
      · subst k2
        rw [if_pos rfl] at h
        obtain ⟨rfl, h1⟩ := of_decide_eq_true h
        rw [if_neg (by decide), if_pos rfl] at hv
        rw [hv]
        have hl : s.data.toList.length ≤ 24 := by simpa using h1
        have n1 := num_put pre (enc s.data.toList.length ++ (s.data.toList ++ rest)) 2 2 (by omega) (by omega)
        have n2 := str_put (pre ++ enc 2) s.data.toList rest 24 (by omega) (by omega)
        simp only [List.append_assoc, List.length_append] at n1 n2 ⊢
        unfold valOut
        rw [n1, if_neg (by simp), if_pos rfl]
        simp only
        rw [n2]
        unfold valEnd
        simp only
        rw [if_pos trivial, str_eta]
        simp only [Nat.add_assoc]
      · rw [if_neg k2] at h
        cases h
/-- The fields of a list are put. -/
def setL (L : List Int) (f g : List V3) : List V3 := L.foldl (fun g i => g.set i.toNat (f.getD i.toNat zv)) g
theorem setL_len (f : List V3) : ∀ (L : List Int) (g : List V3), (setL L f g).length = g.length
  | [], g => rfl
  | i :: L, g => by
    show (setL L f _).length = _
    rw [setL_len f L, List.length_set]
theorem setL_get (f : List V3) (j : Nat) : ∀ (L : List Int) (g : List V3), (∀ i ∈ L, 0 ≤ i) → j < g.length → (setL L f g).getD j zv = if (j : Int) ∈ L then f.getD j zv else g.getD j zv
  | [], g, _, _ => by simp [setL]
  | i :: L, g, h0, hj => by
    show (setL L f _).getD j zv = _
    rw [setL_get f j L _ (fun i hi => h0 i (by simp [hi])) (by simpa using hj)]
    have hi := h0 i (by simp)
    by_cases hm : (j : Int) ∈ L
    · simp [hm]
    · by_cases hij : (j : Int) = i
      · subst hij
        simp [hm, List.getD, hj]
      · have : i.toNat ≠ j := by omega
        simp [hm, hij, List.getD, List.getElem?_set, this]
theorem getD_ext {f g : List V3} (h : f.length = g.length) (hh : ∀ j, j < f.length → f.getD j zv = g.getD j zv) : f = g := by
  apply List.ext_getElem h
  intro j h1 h2
  have := hh j h1
  simpa [List.getD, h1, h2] using this
theorem fbs_cons (i : Int) (L : List Int) (f : List V3) : fbs (i :: L) f = vbs (f.getD i.toNat zv) ++ fbs L f := by
  unfold fbs
  rw [List.flatMap_cons]
theorem fldsOut_put (must : Bool) (f : List V3) (rest : List UInt8) : ∀ (L : List Int) (pre : List UInt8) (g : List V3), (∀ i ∈ L, vchk (f.getD i.toNat zv) = true ∧ (must = true → (f.getD i.toNat zv).1 ≠ 0)) →
    fldsOut must (pre ++ (fbs L f ++ rest)) L g pre.length 0 = (setL L f g, pre.length + (fbs L f).length, 0)
  | [], pre, g, _ => by simp [fldsOut, setL, fbs]
  | i :: L, pre, g, h => by
    obtain ⟨h1, h2⟩ := h i (by simp)
    have hf : fldOut must (pre ++ (fbs (i :: L) f ++ rest)) pre.length 0 = (f.getD i.toNat zv, pre.length + (vbs (f.getD i.toNat zv)).length, 0) := by
      unfold fldOut
      rw [fbs_cons, List.append_assoc, valOut_put pre _ _ h1]
      simp only
      rw [if_neg (fun hh => h2 hh.1 hh.2)]
    rw [fldsOut, hf]
    simp only
    rw [if_pos trivial]
    have ih := fldsOut_put must f rest L (pre ++ vbs (f.getD i.toNat zv)) (g.set i.toNat (f.getD i.toNat zv)) (fun j hj => h j (by simp [hj]))
    rw [fbs_cons]
    simp only [List.append_assoc, List.length_append] at ih ⊢
    rw [ih]
    simp only [Nat.add_assoc]
    rfl
theorem vk_get {f : List V3} (hv : vk f 8 = true) (i : Nat) (h : i < 8) : vchk (f.getD i zv) = true := by
  unfold vk at hv
  rw [List.all_eq_true] at hv
  exact hv i (List.mem_range.2 h)
theorem vchk_zero {v : V3} (h : vchk v = true) (h0 : v.1 = 0) : v = zv := by
  obtain ⟨k, n, s⟩ := v
  simp only at h0
  subst h0
  unfold vchk at h
  simp only [if_pos] at h
  obtain ⟨rfl, rfl⟩ := of_decide_eq_true h
  rfl
theorem setL_kl {f : List V3} (hf : f.length = 8) (hv : vk f 8 = true) : setL (kl f 8) f zeros = f := by
  apply getD_ext
  · rw [setL_len, zeros_len, hf]
  · intro j hj
    rw [setL_len, zeros_len] at hj
    rw [setL_get f j (kl f 8) zeros (fun i hi => by obtain ⟨k, _, rfl, _⟩ := (mem_kl f 8 i).1 hi; omega) (by rw [zeros_len]; exact hj)]
    split
    · rfl
    · rename_i hn
      rw [zeros_getD]
      have : (f.getD j zv).1 = 0 := by
        by_cases h0 : (f.getD j zv).1 = 0
        · exact h0
        · exact absurd ((mem_kl f 8 j).2 ⟨j, hj, rfl, h0⟩) hn
      exact (vchk_zero (vk_get hv j hj) this).symm
theorem kl_le (f : List V3) : (ofl (kl f 8)).toNat ≤ 255 := by
  have h : ofl (kl f 8) &&& 255#32 = ofl (kl f 8) := by
    apply BitM.ext
    intro n
    rw [has_and_255, has_ofl]
    by_cases hn : n ∈ kl f 8
    · obtain ⟨k, hk, rfl, _⟩ := (mem_kl f 8 n).1 hn
      simp [hn]; omega
    · simp [hn]
  rw [← h, BitVec.toNat_and]
  exact Nat.and_le_right
theorem held_pos {z : Int} (h : 1 ≤ z) : held z ≠ 0 := by unfold held; omega
theorem abv_put (pre rest : List UInt8) (z m : Int) (h0 : 1 ≤ z) (h1 : z ≤ 1099511627776) (h2 : z ≤ m) : abvOut (pre ++ (enc (held z) ++ rest)) pre.length 0 m = (held z, pre.length + (enc (held z)).length, 0) := by
  unfold abvOut
  rw [num_put pre rest (held z) m (held_le z) (by rw [held_self (by omega) h1]; exact h2)]
  simp only
  rw [if_neg (held_pos h0)]
theorem cardOut_put (pre rest : List UInt8) (id ver lab : Int) (f : List V3) (hf : f.length = 8) (hl : 0 ≤ lab) (h : ccheck id ver lab f = true) :
    cardOut (pre ++ (cbs id ver lab f ++ rest)) pre.length 0 = ((id, ver, lab, f), pre.length + (cbs id ver lab f).length, 0) := by
  have hc : cbs id ver lab f = enc (held id) ++ (enc (held ver) ++ (enc (held lab) ++ (enc (held ((ofl (kl f 8)).toNat : Int)) ++ fbs (kl f 8) f))) := by
    unfold cbs
    rw [if_neg (by rw [h]; simp)]
    simp only [List.append_assoc]
  unfold ccheck at h
  rw [Bool.and_eq_true] at h
  have h1 := of_decide_eq_true h.1
  have hv := h.2
  have hX := kl_le f
  have hh : held ((ofl (kl f 8)).toNat : Int) = (ofl (kl f 8)).toNat := by rw [held_nat (by omega) (by omega)]; rfl
  rw [hh] at hc
  obtain ⟨x, hx⟩ : ∃ x, x = ofl (kl f 8) := ⟨_, rfl⟩
  have hfl : flds x = kl f 8 := by rw [hx, flds_kl]
  rw [← hx] at hc hX hh
  have n1 := abv_put pre (enc (held ver) ++ (enc (held lab) ++ (enc x.toNat ++ fbs (kl f 8) f)) ++ rest) id 1073741823 (by omega) (by omega) (by omega)
  have n2 := abv_put (pre ++ enc (held id)) ((enc (held lab) ++ (enc x.toNat ++ fbs (kl f 8) f)) ++ rest) ver 1099511627776 (by omega) (by omega) (by omega)
  have n3 := num_put (pre ++ enc (held id) ++ enc (held ver)) ((enc x.toNat ++ fbs (kl f 8) f) ++ rest) (held lab) 65535 (held_le lab) (by rw [held_self hl (by omega)]; omega)
  have n4 := num_put (pre ++ enc (held id) ++ enc (held ver) ++ enc (held lab)) (fbs (kl f 8) f ++ rest) x.toNat 255 (by omega) (by omega)
  have n5 := fldsOut_put true f rest (kl f 8) (pre ++ enc (held id) ++ enc (held ver) ++ enc (held lab) ++ enc x.toNat) zeros (fun i hi => by
    obtain ⟨k, hk, rfl, hne⟩ := (mem_kl f 8 i).1 hi
    exact ⟨vk_get hv k hk, fun _ => hne⟩)
  rw [setL_kl hf hv] at n5
  rw [hc]
  simp only [List.append_assoc, List.length_append] at n1 n2 n3 n4 n5 ⊢
  simp only [← Nat.add_assoc] at n1 n2 n3 n4 n5 ⊢
  obtain ⟨l, hll⟩ : ∃ l, l = pre ++ (enc (held id) ++ (enc (held ver) ++ (enc (held lab) ++ (enc x.toNat ++ (fbs (kl f 8) f ++ rest))))) := ⟨_, rfl⟩
  rw [← hll] at n1 n2 n3 n4 n5 ⊢
  have kA : cardA l pre.length 0 = (held id, pre.length + (enc (held id)).length, 0) := n1
  have kB : cardB l pre.length 0 = (held ver, pre.length + (enc (held id)).length + (enc (held ver)).length, 0) := by unfold cardB; rw [kA]; exact n2
  have kC : cardC l pre.length 0 = (held lab, pre.length + (enc (held id)).length + (enc (held ver)).length + (enc (held lab)).length, 0) := by unfold cardC; rw [kB]; exact n3
  have kD : cardD l pre.length 0 = (x.toNat, pre.length + (enc (held id)).length + (enc (held ver)).length + (enc (held lab)).length + (enc x.toNat).length, 0) := by unfold cardD; rw [kC]; exact n4
  have kE : cardE l pre.length 0 = (f, pre.length + (enc (held id)).length + (enc (held ver)).length + (enc (held lab)).length + (enc x.toNat).length + (fbs (kl f 8) f).length, 0) := by
    unfold cardE
    rw [kD]
    simp only
    rw [BitVec.ofNat_toNat, BitVec.setWidth_eq, hfl]
    exact n5
  unfold cardOut
  rw [kA, kB, kC, kE]
  simp only
  rw [if_pos trivial, held_self (by omega) (by omega), held_self (by omega) (by omega), held_self hl (by omega)]
theorem fok_get {x : BitVec 32} {f : List V3} (h : fok x f 8 = true) (i : Nat) (hi : i < 8) : vchk (f.getD i zv) = true ∧ ((f.getD i zv).1 = 0 ∨ has x (i : Int) = true) := by
  unfold fok at h
  rw [List.all_eq_true] at h
  have := h i (List.mem_range.2 hi)
  simp only [Bool.and_eq_true, Bool.or_eq_true, decide_eq_true_eq] at this
  exact this
theorem patOut_put (pre rest : List UInt8) (x : BitVec 32) (lab : Int) (f : List V3) (hf : f.length = 8) (hl : 0 ≤ lab) (h : pchk x lab f = 0) :
    patOut (pre ++ (pbs x lab f ++ rest)) pre.length 0 = (((x.toNat : Int), lab, f), pre.length + (pbs x lab f).length, 0) := by
  have hc : pbs x lab f = enc (held (x.toNat : Int)) ++ ((if has x 8 = true then enc (held lab) else []) ++ fbs (flds x) f) := by
    unfold pbs
    rw [if_neg (by rw [h]; simp)]
    simp only [List.append_assoc]
  unfold pchk at h
  have h1 : ¬ (511 < x.toNat ∨ x.toNat = 0) := fun hh => by rw [if_pos hh] at h; cases h
  rw [if_neg h1] at h
  have h2 : ¬ (65536 ≤ lab ∨ (lab ≠ 0 ∧ has x 8 = false)) := fun hh => by rw [if_pos hh] at h; cases h
  rw [if_neg h2] at h
  have h3 : fok x f 8 = true := by
    by_cases hh : fok x f 8 = true
    · exact hh
    · rw [if_neg hh] at h; cases h
  have hh : held (x.toNat : Int) = x.toNat := by rw [held_nat (by omega) (by omega)]; rfl
  have hset : setL (flds x) f zeros = f := by
    apply getD_ext
    · rw [setL_len, zeros_len, hf]
    · intro j hj
      rw [setL_len, zeros_len] at hj
      rw [setL_get f j (flds x) zeros (fun i hi => ((mem_flds x i).1 hi).1) (by rw [zeros_len]; exact hj)]
      split
      · rfl
      · rename_i hn
        rw [zeros_getD]
        obtain ⟨g1, g2⟩ := fok_get h3 j hj
        rcases g2 with g2 | g2
        · exact (vchk_zero g1 g2).symm
        · exact absurd ((mem_flds x j).2 ⟨by omega, by omega, g2⟩) hn
  have hm : ∀ i ∈ flds x, vchk (f.getD i.toNat zv) = true ∧ (false = true → (f.getD i.toNat zv).1 ≠ 0) := fun i hi => by
    obtain ⟨i0, i8, _⟩ := (mem_flds x i).1 hi
    exact ⟨(fok_get h3 i.toNat (by omega)).1, fun e => by cases e⟩
  rw [hh] at hc
  cases h8 : has x 8
  · rw [h8, if_neg (by simp), List.nil_append] at hc
    have hl0 : lab = 0 := by
      by_cases e : lab = 0
      · exact e
      · exact absurd (.inr ⟨e, h8⟩) h2
    subst hl0
    have n1 := abv_put pre (fbs (flds x) f ++ rest) (x.toNat : Int) 511 (by omega) (by omega) (by omega)
    have n5 := fldsOut_put false f rest (flds x) (pre ++ enc x.toNat) zeros hm
    rw [hset] at n5
    rw [hh] at n1
    rw [hc]
    simp only [List.append_assoc, List.length_append] at n1 n5 ⊢
    obtain ⟨l, hll⟩ : ∃ l, l = pre ++ (enc x.toNat ++ (fbs (flds x) f ++ rest)) := ⟨_, rfl⟩
    rw [← hll] at n1 n5 ⊢
    have kA : patA l pre.length 0 = (x.toNat, pre.length + (enc x.toNat).length, 0) := n1
    have kX : patX l pre.length 0 = x := by unfold patX; rw [kA, BitVec.ofNat_toNat, BitVec.setWidth_eq]
    have kB : patB l pre.length 0 = (0, pre.length + (enc x.toNat).length, 0) := by unfold patB; rw [kX, kA, h8, if_neg (by simp)]
    have kE : patE l pre.length 0 = (f, pre.length + (enc x.toNat).length + (fbs (flds x) f).length, 0) := by
      unfold patE
      rw [kB, kX]
      exact n5
    unfold patOut
    rw [kX, kB, kE]
    simp only
    rw [if_pos trivial]
    simp only [Nat.add_assoc]
    rfl
  · rw [h8, if_pos rfl] at hc
    have n1 := abv_put pre ((enc (held lab) ++ fbs (flds x) f) ++ rest) (x.toNat : Int) 511 (by omega) (by omega) (by omega)
    have n2 := num_put (pre ++ enc x.toNat) (fbs (flds x) f ++ rest) (held lab) 65535 (held_le lab) (by rw [held_self hl (by omega)]; omega)
    have n5 := fldsOut_put false f rest (flds x) (pre ++ enc x.toNat ++ enc (held lab)) zeros hm
    rw [hset] at n5
    rw [hh] at n1
    rw [hc]
    simp only [List.append_assoc, List.length_append] at n1 n2 n5 ⊢
    simp only [← Nat.add_assoc] at n1 n2 n5 ⊢
    obtain ⟨l, hll⟩ : ∃ l, l = pre ++ (enc x.toNat ++ (enc (held lab) ++ (fbs (flds x) f ++ rest))) := ⟨_, rfl⟩
    rw [← hll] at n1 n2 n5 ⊢
    have kA : patA l pre.length 0 = (x.toNat, pre.length + (enc x.toNat).length, 0) := n1
    have kX : patX l pre.length 0 = x := by unfold patX; rw [kA, BitVec.ofNat_toNat, BitVec.setWidth_eq]
    have kB : patB l pre.length 0 = (held lab, pre.length + (enc x.toNat).length + (enc (held lab)).length, 0) := by unfold patB; rw [kX, kA, h8, if_pos rfl]; exact n2
    have kE : patE l pre.length 0 = (f, pre.length + (enc x.toNat).length + (enc (held lab)).length + (fbs (flds x) f).length, 0) := by
      unfold patE
      rw [kB, kX]
      exact n5
    unfold patOut
    rw [kX, kB, kE]
    simp only
    rw [if_pos trivial, held_self hl (by omega)]
end Go.Proofs.Ytgpbglmlakildaa

/- What is read may be, and has just the bytes that were taken: mathematics. -/
namespace Go.Proofs.Ytgpbglmlakildaa
set_option linter.unusedVariables false
set_option linter.unusedSimpArgs false
open Go Go.RowKit OctM BitM

theorem scan_only : ∀ (l : List UInt8) (i v : Nat), (scan l i v).2.2 = 0 → ∃ n, scan l i v = (v + n * 128 ^ i, i + (enc n).length, 0) ∧ l = enc n ++ l.drop (enc n).length ∧ (0 < i → 0 < n)
  | [], i, v, h => by
    unfold scan at h
    split at h <;> cases h
  | c :: l, i, v, h => by
    unfold scan at h ⊢
    by_cases h6 : i = 6
    · rw [if_pos h6] at h; cases h
    · rw [if_neg h6] at h ⊢
      by_cases hc : c.toNat < 128
      · rw [if_pos hc] at h ⊢
        by_cases hz : c.toNat = 0 ∧ 0 < i
        · rw [if_pos hz] at h; cases h
        · rw [if_neg hz] at h ⊢
          have he : enc c.toNat = [c] := by rw [enc_low hc]; simp
          refine ⟨c.toNat, ?_, ?_, fun hi => ?_⟩
          · rw [he, Nat.mod_eq_of_lt hc]; rfl
          · rw [he]; rfl
          · rcases Nat.eq_zero_or_pos c.toNat with h0 | h0
            · exact absurd ⟨h0, hi⟩ hz
            · exact h0
      · rw [if_neg hc] at h ⊢
        obtain ⟨n, e1, e2, e3⟩ := scan_only l (i + 1) _ h
        have hn := e3 (by omega)
        have hcl := c.toNat_lt
        have hlow : (c.toNat % 128 + n * 128) % 128 = c.toNat % 128 := by omega
        have hdiv : (c.toNat % 128 + n * 128) / 128 = n := by omega
        have he : enc (c.toNat % 128 + n * 128) = c :: enc n := by
          rw [enc_high (by omega), hlow, hdiv, show c.toNat % 128 + 128 = c.toNat by omega]
          simp
        refine ⟨c.toNat % 128 + n * 128, ?_, ?_, fun _ => by omega⟩
        · rw [e1, he, List.length_cons]
          have e4 : v + c.toNat % 128 * 128 ^ i + n * 128 ^ (i + 1) = v + (c.toNat % 128 + n * 128) * 128 ^ i := by
            rw [Nat.add_mul, Nat.pow_succ, Nat.mul_comm (128 ^ i) 128, ← Nat.mul_assoc, Nat.add_assoc]
          rw [e4]
          congr 2; omega
        · rw [he, List.length_cons, List.drop_succ_cons, List.cons_append, ← e2]
theorem num_only {l : List UInt8} {a : Nat} {e m : Int} (h : (numOut l a e m).2.2 = 0) :
    e = 0 ∧ (numOut l a e m).2.1 = a + (enc (numOut l a e m).1).length ∧ l.drop a = enc (numOut l a e m).1 ++ l.drop (numOut l a e m).2.1 ∧ ((numOut l a e m).1 : Int) ≤ m ∧ (numOut l a e m).1 ≤ 1099511627776 := by
  unfold numOut at *
  by_cases he : e ≠ 0
  · rw [if_pos he] at h; exact absurd h he
  · rw [if_neg he] at h ⊢
    by_cases hs : (scan (l.drop a) 0 0).2.2 ≠ 0
    · rw [if_pos hs] at h
      simp only at h
      omega
    · rw [if_neg hs] at h ⊢
      by_cases hb : 1099511627776 < ((scan (l.drop a) 0 0).1 : Int) ∨ m < ((scan (l.drop a) 0 0).1 : Int)
      · rw [if_pos hb] at h; cases h
      · rw [if_neg hb] at h ⊢
        obtain ⟨n, e1, e2, _⟩ := scan_only (l.drop a) 0 0 (by omega)
        rw [e1] at hb ⊢
        simp only [Nat.pow_zero, Nat.mul_one, Nat.zero_add] at hb ⊢
        refine ⟨by omega, by first | rfl | trivial, ?_, by omega, by omega⟩
        rw [List.drop_drop] at e2
        exact e2
theorem str_only {l : List UInt8} {a : Nat} {e m : Int} (h : (strOut l a e m).2.2 = 0) :
    e = 0 ∧ (strOut l a e m).2.1 = a + (enc (strOut l a e m).1.length).length + (strOut l a e m).1.length ∧ l.drop a = enc (strOut l a e m).1.length ++ ((strOut l a e m).1 ++ l.drop (strOut l a e m).2.1) ∧ ((strOut l a e m).1.length : Int) ≤ m := by
  unfold strOut at *
  by_cases he : e ≠ 0
  · rw [if_pos he] at h; exact absurd h he
  · rw [if_neg he] at h ⊢
    by_cases hs : (numOut l a 0 m).2.2 ≠ 0
    · rw [if_pos hs] at h; exact absurd h hs
    · rw [if_neg hs] at h ⊢
      by_cases hb : l.length < (numOut l a 0 m).2.1 + (numOut l a 0 m).1
      · rw [if_pos hb] at h; cases h
      · rw [if_neg hb] at h ⊢
        obtain ⟨_, e1, e2, e3, _⟩ := num_only (l := l) (a := a) (e := 0) (m := m) (by simpa using hs)
        have hl : ((l.drop (numOut l a 0 m).2.1).take (numOut l a 0 m).1).length = (numOut l a 0 m).1 := by
          rw [List.length_take, List.length_drop]; omega
        simp only [hl]
        refine ⟨by omega, by rw [e1], ?_, e3⟩
        rw [← List.drop_drop, List.take_append_drop]
        exact e2
theorem enc_zero : enc 0 = [0] := by rw [enc_low (by omega)]; rfl
/-- A value that is read without an error. -/
theorem val_only {l : List UInt8} {a : Nat} {e : Int} (h : (valOut l a e).2.2 = 0) :
    e = 0 ∧ vchk (valOut l a e).1 = true ∧ (valOut l a e).2.1 = a + (vbs (valOut l a e).1).length ∧ l.drop a = vbs (valOut l a e).1 ++ l.drop (valOut l a e).2.1 := by
  have hcase : (numOut l a e 2).2.2 = 0 := by
    by_cases h0 : (numOut l a e 2).2.2 = 0
    · exact h0
    · have hz := numOut_err l a e 2 h0
      unfold valOut at h
      rw [hz, if_neg (by decide), if_neg (by decide)] at h
      exact h
  obtain ⟨he, n1, n2, n3, _⟩ := num_only hcase
  obtain ⟨r1, hr1⟩ : ∃ r, r = numOut l a e 2 := ⟨_, rfl⟩
  unfold valOut at h ⊢
  rw [← hr1] at h n1 n2 n3 hcase ⊢
  obtain ⟨k, a1, e1⟩ := r1
  simp only at h n1 n2 n3 hcase ⊢
  subst hcase
  refine ⟨he, ?_⟩
  by_cases k1 : k = 1
  · subst k1
    rw [if_pos rfl] at h ⊢
    have h' : (numOut l a1 0 1099511627776).2.2 = 0 := by unfold valEnd at h; exact h
    obtain ⟨_, m1, m2, m3, m4⟩ := num_only h'
    unfold valEnd
    rw [if_pos h']
    simp only
    obtain ⟨r2, hr2⟩ : ∃ r, r = numOut l a1 0 1099511627776 := ⟨_, rfl⟩
    rw [← hr2] at m1 m2 m3 m4 ⊢
    have hv : vchk (1, (r2.1 : Int), str []) = true := by
      unfold vchk
      simp only
      rw [if_neg (by decide), if_pos trivial, decide_eq_true_eq]
      exact ⟨by omega, by omega, rfl⟩
    have hb : vbs (1, (r2.1 : Int), str []) = enc 1 ++ enc r2.1 := by
      unfold vbs
      rw [if_neg (by rw [hv]; simp)]
      simp only
      rw [if_pos trivial, held_nat (by omega) (by omega)]
      rfl
    rw [hb]
    refine ⟨hv, by rw [m1, n1, List.length_append]; omega, ?_⟩
    rw [n2, m2, List.append_assoc]
  · rw [if_neg k1] at h ⊢
    by_cases k2 : k = 2
    · subst k2
      rw [if_pos rfl] at h ⊢
      have h' : (strOut l a1 0 24).2.2 = 0 := by unfold valEnd at h; exact h
      obtain ⟨_, m1, m2, m3⟩ := str_only h'
      unfold valEnd
      rw [if_pos h']
      simp only
      obtain ⟨r2, hr2⟩ : ∃ r, r = strOut l a1 0 24 := ⟨_, rfl⟩
      rw [← hr2] at m1 m2 m3 ⊢
      have hd : (str r2.1).data.toList = r2.1 := by unfold str; simp
      have hv : vchk (2, 0, str r2.1) = true := by
        unfold vchk
        simp only
        rw [if_neg (by decide), if_neg (by decide), if_pos trivial, decide_eq_true_eq]
        exact ⟨trivial, by rw [str_size]; omega⟩
      have hb : vbs (2, 0, str r2.1) = enc 2 ++ (enc r2.1.length ++ r2.1) := by
        unfold vbs
        rw [if_neg (by rw [hv]; simp)]
        simp only
        rw [if_neg (by decide), if_pos trivial, hd]
      rw [hb]
      refine ⟨hv, by rw [m1, n1, List.length_append, List.length_append]; omega, ?_⟩
      rw [n2, m2]
      simp only [List.append_assoc]
    · rw [if_neg k2] at h ⊢
      have k0 : k = 0 := by omega
      subst k0
      unfold valEnd
      rw [if_pos rfl]
      exact ⟨rfl, n1, n2⟩
/-- Fields that are read without an error. -/
theorem flds_only (must : Bool) (l : List UInt8) : ∀ (L : List Int) (f : List V3) (a : Nat) (e : Int), L.Nodup → (∀ i ∈ L, 0 ≤ i ∧ i.toNat < f.length) → (fldsOut must l L f a e).2.2 = 0 →
    e = 0 ∧ (∀ j : Nat, (j : Int) ∉ L → (fldsOut must l L f a e).1.getD j zv = f.getD j zv) ∧ (∀ i ∈ L, vchk ((fldsOut must l L f a e).1.getD i.toNat zv) = true ∧ (must = true → ((fldsOut must l L f a e).1.getD i.toNat zv).1 ≠ 0)) ∧
    (fldsOut must l L f a e).2.1 = a + (fbs L (fldsOut must l L f a e).1).length ∧ l.drop a = fbs L (fldsOut must l L f a e).1 ++ l.drop (fldsOut must l L f a e).2.1
  | [], f, a, e, _, _, h => by
    refine ⟨h, fun _ _ => rfl, fun i hi => (by cases hi), ?_, ?_⟩
    · simp [fldsOut, fbs]
    · simp [fldsOut, fbs]
  | i :: L, f, a, e, hn, hL, h => by
    unfold fldsOut at h ⊢
    by_cases h0 : (fldOut must l a e).2.2 = 0
    · rw [if_pos h0] at h ⊢
      obtain ⟨hi0, hil⟩ := hL i (by simp)
      rw [List.nodup_cons] at hn
      obtain ⟨_, r1, r2, r3, r4⟩ := flds_only must l L (f.set i.toNat (fldOut must l a e).1) (fldOut must l a e).2.1 (fldOut must l a e).2.2 hn.2 (fun j hj => by rw [List.length_set]; exact hL j (by simp [hj])) h
      obtain ⟨R, hR⟩ : ∃ R, R = fldsOut must l L (f.set i.toNat (fldOut must l a e).1) (fldOut must l a e).2.1 (fldOut must l a e).2.2 := ⟨_, rfl⟩
      rw [← hR] at r1 r2 r3 r4 ⊢
      have hRi : R.1.getD i.toNat zv = (fldOut must l a e).1 := by
        rw [r1 i.toNat (by rw [Int.toNat_of_nonneg hi0]; exact hn.1)]
        simp [List.getD, hil]
      have hv0 : (valOut l a e).2.2 = 0 := by
        unfold fldOut at h0
        simp only at h0
        split at h0
        · unfold failOut at h0
          split at h0
          · cases h0
          · exact h0
        · exact h0
      have hk : must = true → (valOut l a e).1.1 ≠ 0 := fun hm hz => by
        unfold fldOut at h0
        simp only at h0
        rw [if_pos ⟨hm, hz⟩] at h0
        unfold failOut at h0
        rw [if_pos hv0] at h0
        cases h0
      obtain ⟨he, v1, v2, v3⟩ := val_only hv0
      have hf1 : (fldOut must l a e).1 = (valOut l a e).1 := rfl
      have hf2 : (fldOut must l a e).2.1 = (valOut l a e).2.1 := rfl
      rw [hf1] at hRi
      rw [hf2] at r3 r4
      refine ⟨he, fun j hj => ?_, fun j hj => ?_, ?_, ?_⟩
      · rw [r1 j (fun hh => hj (by simp [hh]))]
        have : i.toNat ≠ j := fun hh => hj (by rw [← hh, Int.toNat_of_nonneg hi0]; simp)
        simp [List.getD, List.getElem?_set, this]
      · rcases List.mem_cons.1 hj with rfl | hj
        · rw [hRi]; exact ⟨v1, hk⟩
        · exact r2 j hj
      · rw [fbs_cons, hRi, List.length_append, r3, v2]; omega
      · rw [fbs_cons, hRi, List.append_assoc, ← r4, ← v3]
    · rw [if_neg h0] at h
      exact absurd h h0
theorem lst_nodup (x : BitVec 32) (k : Nat) : (lst x k).Nodup := by
  unfold lst
  unfold List.Nodup
  rw [List.pairwise_map]
  exact (List.Pairwise.filter _ List.nodup_range).imp (fun h e => h (by omega))
theorem flds_ok (x : BitVec 32) : (flds x).Nodup ∧ ∀ i ∈ flds x, 0 ≤ i ∧ i.toNat < zeros.length := by
  refine ⟨lst_nodup _ _, fun i hi => ?_⟩
  obtain ⟨h0, h8, _⟩ := (mem_flds x i).1 hi
  rw [zeros_len]
  exact ⟨h0, by omega⟩
end Go.Proofs.Ytgpbglmlakildaa

/- Cards and patches that are read: they may be, and have just the bytes that were taken: mathematics. -/
namespace Go.Proofs.Ytgpbglmlakildaa
set_option linter.unusedVariables false
set_option linter.unusedSimpArgs false
open Go Go.RowKit OctM BitM

theorem abv_only {l : List UInt8} {a : Nat} {e m : Int} (h : (abvOut l a e m).2.2 = 0) :
    e = 0 ∧ (abvOut l a e m).1 ≠ 0 ∧ (abvOut l a e m).2.1 = a + (enc (abvOut l a e m).1).length ∧ l.drop a = enc (abvOut l a e m).1 ++ l.drop (abvOut l a e m).2.1 ∧ ((abvOut l a e m).1 : Int) ≤ m ∧ (abvOut l a e m).1 ≤ 1099511627776 := by
  unfold abvOut at *
  simp only at h ⊢
  by_cases hz : (numOut l a e m).1 = 0
  · rw [if_pos hz] at h
    unfold failOut at h
    split at h
    · cases h
    · rename_i hne; exact absurd h hne
  · rw [if_neg hz] at h
    obtain ⟨h1, h2, h3, h4, h5⟩ := num_only h
    exact ⟨h1, hz, h2, h3, h4, h5⟩
theorem kl_flds (R : List V3) (x : BitVec 32) (h : ∀ i : Nat, i < 8 → ((R.getD i zv).1 ≠ 0 ↔ has x (i : Int) = true)) : kl R 8 = flds x := by
  unfold flds
  rw [lst_end (j := 8) (fun i hi => by rw [has_and_255, decide_eq_false (by omega), Bool.and_false]) 32 (by omega)]
  unfold kl lst
  congr 1
  apply List.filter_congr
  intro i hi
  have hi8 := List.mem_range.1 hi
  rw [has_and_255, decide_eq_true (show (i : Int) < 8 by omega), Bool.and_true]
  have := h i hi8
  by_cases hb : has x (i : Int) = true
  · rw [hb, decide_eq_true (this.2 hb)]
  · rw [decide_eq_false (fun hh => hb (this.1 hh))]
    simpa using hb
theorem ofl_flds (x : BitVec 32) (h : x.toNat ≤ 255) : ofl (flds x) = x := by
  have hx : x &&& 255#32 = x := by
    apply BitVec.eq_of_toNat_eq
    rw [BitVec.toNat_and, show (255#32 : BitVec 32).toNat = 2 ^ 8 - 1 from rfl, Nat.and_two_pow_sub_one_eq_mod]
    omega
  apply BitM.ext
  intro n
  rw [has_ofl]
  by_cases hn : n ∈ flds x
  · obtain ⟨h0, h8, hb⟩ := (mem_flds x n).1 hn
    rw [hb, decide_eq_true hn, decide_eq_true (by omega)]
    rfl
  · rw [decide_eq_false hn, Bool.and_false]
    by_cases hb : has x n = true
    · exfalso
      apply hn
      have h2 := hb
      rw [← hx, has_and_255, Bool.and_eq_true, decide_eq_true_eq] at h2
      have h0 : 0 ≤ n := by
        unfold has at hb
        rw [Bool.and_eq_true, decide_eq_true_eq] at hb
        exact hb.1.1
      exact (mem_flds x n).2 ⟨h0, h2.2, hb⟩
    · simpa using hb
theorem card_only {l : List UInt8} {a : Nat} {e : Int} (h : (cardOut l a e).2.2 = 0) :
    ccheck (cardOut l a e).1.1 (cardOut l a e).1.2.1 (cardOut l a e).1.2.2.1 (cardOut l a e).1.2.2.2 = true ∧ 0 ≤ (cardOut l a e).1.2.2.1 ∧
      l.drop a = cbs (cardOut l a e).1.1 (cardOut l a e).1.2.1 (cardOut l a e).1.2.2.1 (cardOut l a e).1.2.2.2 ++ l.drop (cardOut l a e).2.1 ∧
      (cardOut l a e).2.1 = a + (cbs (cardOut l a e).1.1 (cardOut l a e).1.2.1 (cardOut l a e).1.2.2.1 (cardOut l a e).1.2.2.2).length := by
  have hE : (cardE l a e).2.2 = 0 := h
  have hvD : (cardD l a e).1 ≤ 255 := by
    have := numOut_le l (cardC l a e).2.1 (cardC l a e).2.2 255 (by omega)
    unfold cardD; omega
  obtain ⟨x, hx⟩ : ∃ x, x = BitVec.ofNat 32 (cardD l a e).1 := ⟨_, rfl⟩
  have hxn : x.toNat = (cardD l a e).1 := by rw [hx, BitVec.toNat_ofNat]; omega
  have e0 := flds_only true l (flds x) zeros (cardD l a e).2.1 (cardD l a e).2.2 (flds_ok x).1 (flds_ok x).2 (by rw [hx]; exact hE)
  rw [show fldsOut true l (flds x) zeros (cardD l a e).2.1 (cardD l a e).2.2 = cardE l a e from by unfold cardE; rw [hx]] at e0
  obtain ⟨eD, r1, r2, r3, r4⟩ := e0
  obtain ⟨eC, d1, d2, d3, _⟩ := num_only (l := l) (a := (cardC l a e).2.1) (e := (cardC l a e).2.2) (m := 255) eD
  obtain ⟨eB, c1, c2, c3, _⟩ := num_only (l := l) (a := (cardB l a e).2.1) (e := (cardB l a e).2.2) (m := 65535) eC
  obtain ⟨eA, b0, b1, b2, b3, _⟩ := abv_only (l := l) (a := (cardA l a e).2.1) (e := (cardA l a e).2.2) (m := 1099511627776) eB
  obtain ⟨_, a0, a1, a2, a3, _⟩ := abv_only (l := l) (a := a) (e := e) (m := 1073741823) eA
  change (cardD l a e).2.1 = _ + (enc (cardD l a e).1).length at d1
  change l.drop _ = enc (cardD l a e).1 ++ l.drop (cardD l a e).2.1 at d2
  change (cardC l a e).2.1 = _ + (enc (cardC l a e).1).length at c1
  change l.drop _ = enc (cardC l a e).1 ++ l.drop (cardC l a e).2.1 at c2
  change ((cardC l a e).1 : Int) ≤ 65535 at c3
  change (cardB l a e).1 ≠ 0 at b0
  change (cardB l a e).2.1 = _ + (enc (cardB l a e).1).length at b1
  change l.drop _ = enc (cardB l a e).1 ++ l.drop (cardB l a e).2.1 at b2
  change ((cardB l a e).1 : Int) ≤ 1099511627776 at b3
  change (cardA l a e).1 ≠ 0 at a0
  change (cardA l a e).2.1 = _ + (enc (cardA l a e).1).length at a1
  change l.drop _ = enc (cardA l a e).1 ++ l.drop (cardA l a e).2.1 at a2
  change ((cardA l a e).1 : Int) ≤ 1073741823 at a3
  have hout : cardOut l a e = ((((cardA l a e).1 : Int), ((cardB l a e).1 : Int), ((cardC l a e).1 : Int), (cardE l a e).1), (cardE l a e).2) := by
    unfold cardOut
    rw [if_pos hE]
  obtain ⟨R, hR⟩ : ∃ R, R = (cardE l a e).1 := ⟨_, rfl⟩
  rw [← hR] at r1 r2 r3 r4 hout
  have hnot : ∀ j : Nat, j < 8 → has x (j : Int) = false → R.getD j zv = zv := fun j hj hb => by
    rw [r1 j (fun hm => by have := ((mem_flds x j).1 hm).2.2; rw [hb] at this; cases this), zeros_getD]
  have hin : ∀ j : Nat, j < 8 → has x (j : Int) = true → vchk (R.getD j zv) = true ∧ (R.getD j zv).1 ≠ 0 := fun j hj hb => by
    have := r2 (j : Int) ((mem_flds x j).2 ⟨by omega, by omega, hb⟩)
    rw [Int.toNat_natCast] at this
    exact ⟨this.1, this.2 rfl⟩
  have hkl : kl R 8 = flds x := kl_flds R x fun i hi => by
    constructor
    · intro hk
      by_cases hb : has x (i : Int) = true
      · exact hb
      · exact absurd (by rw [hnot i hi (by simpa using hb)]; rfl) hk
    · intro hb
      exact (hin i hi hb).2
  have hvk : vk R 8 = true := by
    unfold vk
    rw [List.all_eq_true]
    intro i hi
    have hi8 := List.mem_range.1 hi
    by_cases hb : has x (i : Int) = true
    · exact (hin i hi8 hb).1
    · rw [hnot i hi8 (by simpa using hb)]; exact vchk_zv
  have hck : ccheck ((cardA l a e).1 : Int) ((cardB l a e).1 : Int) ((cardC l a e).1 : Int) R = true := by
    unfold ccheck
    rw [hvk, Bool.and_true, decide_eq_true_eq]
    omega
  have hcb : cbs ((cardA l a e).1 : Int) ((cardB l a e).1 : Int) ((cardC l a e).1 : Int) R = enc (cardA l a e).1 ++ (enc (cardB l a e).1 ++ (enc (cardC l a e).1 ++ (enc (cardD l a e).1 ++ fbs (flds x) R))) := by
    unfold cbs
    rw [if_neg (by rw [hck]; simp), hkl, ofl_flds x (by omega), held_nat (by omega) (by omega), held_nat (by omega) (by omega), held_nat (by omega) (by omega), held_nat (by omega) (by omega), ← hxn]
    simp only [Int.toNat_natCast, List.append_assoc]
  rw [hout]
  simp only
  rw [hcb]
  refine ⟨hck, by omega, ?_, ?_⟩
  · simp only [List.append_assoc]
    rw [← r4, ← d2, ← c2, ← b2, ← a2]
  · simp only [List.length_append]
    omega
theorem card_field {l : List UInt8} {a : Nat} {e : Int} : vchk ((cardOut l a e).1.2.2.2.getD 0 zv) = true := by
  by_cases h : (cardOut l a e).2.2 = 0
  · have h1 := (card_only h).1
    unfold ccheck at h1
    rw [Bool.and_eq_true] at h1
    exact vk_get h1.2 0 (by omega)
  · have hE : ¬ (cardE l a e).2.2 = 0 := h
    have : (cardOut l a e).1.2.2.2 = zeros := by
      unfold cardOut
      simp only
      rw [if_neg hE]
    rw [this, zeros_getD]
    exact vchk_zv
theorem pat_only {l : List UInt8} {a : Nat} {e : Int} (h : (patOut l a e).2.2 = 0) :
    ∃ x : BitVec 32, (patOut l a e).1.1 = (x.toNat : Int) ∧ pchk x (patOut l a e).1.2.1 (patOut l a e).1.2.2 = 0 ∧ 0 ≤ (patOut l a e).1.2.1 ∧
      l.drop a = pbs x (patOut l a e).1.2.1 (patOut l a e).1.2.2 ++ l.drop (patOut l a e).2.1 ∧ (patOut l a e).2.1 = a + (pbs x (patOut l a e).1.2.1 (patOut l a e).1.2.2).length := by
  have hE : (patE l a e).2.2 = 0 := h
  have hvA : (patA l a e).1 ≤ 511 := by
    have := numOut_le l a e 511 (by omega)
    unfold patA abvOut; simp only; omega
  obtain ⟨x, hx⟩ : ∃ x, x = patX l a e := ⟨_, rfl⟩
  have hxn : x.toNat = (patA l a e).1 := by rw [hx]; unfold patX; rw [BitVec.toNat_ofNat]; omega
  have e0 := flds_only false l (flds x) zeros (patB l a e).2.1 (patB l a e).2.2 (flds_ok x).1 (flds_ok x).2 (by rw [hx]; exact hE)
  rw [show fldsOut false l (flds x) zeros (patB l a e).2.1 (patB l a e).2.2 = patE l a e from by unfold patE; rw [hx]] at e0
  obtain ⟨eB, r1, r2, r3, r4⟩ := e0
  have hout : patOut l a e = (((x.toNat : Int), ((patB l a e).1 : Int), (patE l a e).1), (patE l a e).2) := by
    unfold patOut
    rw [if_pos hE, hx]
  obtain ⟨R, hR⟩ : ∃ R, R = (patE l a e).1 := ⟨_, rfl⟩
  rw [← hR] at r1 r2 r3 r4 hout
  have hB : (patB l a e) = if has x 8 = true then numOut l (patA l a e).2.1 (patA l a e).2.2 65535 else (0, (patA l a e).2) := by
    rw [hx]; rfl
  have hfok : fok x R 8 = true := by
    unfold fok
    rw [List.all_eq_true]
    intro i hi
    have hi8 := List.mem_range.1 hi
    by_cases hb : has x (i : Int) = true
    · have := (r2 (i : Int) ((mem_flds x i).2 ⟨by omega, by omega, hb⟩)).1
      rw [Int.toNat_natCast] at this
      rw [this, hb]; simp
    · rw [r1 i (fun hm => hb ((mem_flds x i).1 hm).2.2), zeros_getD, vchk_zv]
      rfl
  have fin : ∀ (lab : Nat) (mid : List UInt8), (patB l a e).1 = lab → lab ≤ 65535 → (has x 8 = false → lab = 0) → mid = (if has x 8 = true then enc lab else []) → (patA l a e).2.2 = 0 → (patB l a e).2.1 = (patA l a e).2.1 + mid.length → l.drop (patA l a e).2.1 = mid ++ l.drop (patB l a e).2.1 →
      pchk x (lab : Int) R = 0 ∧ l.drop a = pbs x (lab : Int) R ++ l.drop (patE l a e).2.1 ∧ (patE l a e).2.1 = a + (pbs x (lab : Int) R).length := by
    intro lab mid h1 h2 h3 h4 h5 h6 h7
    obtain ⟨_, a0, a1, a2, a3, _⟩ := abv_only (l := l) (a := a) (e := e) (m := 511) h5
    change (patA l a e).1 ≠ 0 at a0
    change (patA l a e).2.1 = _ + (enc (patA l a e).1).length at a1
    change l.drop _ = enc (patA l a e).1 ++ l.drop (patA l a e).2.1 at a2
    have hpk : pchk x (lab : Int) R = 0 := by
      unfold pchk
      rw [if_neg (by omega), if_neg, if_pos hfok]
      rintro (hh | ⟨hh, hb⟩)
      · omega
      · exact hh (by rw [h3 hb]; rfl)
    have hpb : pbs x (lab : Int) R = enc (patA l a e).1 ++ (mid ++ fbs (flds x) R) := by
      unfold pbs
      rw [if_neg (by rw [hpk]; simp), held_nat (by omega) (by omega), held_nat (by omega) (by omega), h4, ← hxn]
      simp only [Int.toNat_natCast, List.append_assoc]
    refine ⟨hpk, ?_, ?_⟩
    · rw [hpb]
      simp only [List.append_assoc]
      rw [← r4, ← h7, ← a2]
    · rw [hpb]
      simp only [List.length_append]
      omega
  refine ⟨x, by rw [hout], ?_⟩
  rw [hout]
  simp only
  cases h8 : has x 8
  · rw [h8, if_neg (by simp)] at hB
    have := fin 0 [] (by rw [hB]) (by omega) (fun _ => rfl) (by rw [h8]; rfl) (by rw [hB] at eB; exact eB) (by rw [hB]; rfl) (by rw [hB]; rfl)
    rw [show ((patB l a e).1 : Int) = ((0 : Nat) : Int) from by rw [hB]]
    exact ⟨this.1, by omega, this.2⟩
  · rw [h8, if_pos rfl] at hB
    rw [hB] at eB
    obtain ⟨eA, c1, c2, c3, _⟩ := num_only eB
    rw [← hB] at c1 c2 c3
    have := fin (patB l a e).1 (enc (patB l a e).1) rfl (by omega) (fun hh => by rw [h8] at hh; cases hh) (by rw [h8]; rfl) eA c1 c2
    exact ⟨this.1, by omega, this.2⟩
theorem abv_err {l : List UInt8} {a : Nat} {e m : Int} (h : (abvOut l a e m).2.2 = 0) : e = 0 := (abv_only h).1
theorem pat_err {l : List UInt8} {a : Nat} {e : Int} (h : (patOut l a e).2.2 = 0) : e = 0 := by
  have hE : (patE l a e).2.2 = 0 := h
  have e0 := flds_only false l (flds (patX l a e)) zeros (patB l a e).2.1 (patB l a e).2.2 (flds_ok _).1 (flds_ok _).2 hE
  have hB := e0.1
  have hA : (patA l a e).2.2 = 0 := by
    unfold patB at hB
    split at hB
    · exact (num_only hB).1
    · exact hB
  exact abv_err (l := l) (a := a) (e := e) (m := 511) hA
end Go.Proofs.Ytgpbglmlakildaa
