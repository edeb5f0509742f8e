/- Filters as bytes: what was put is read, and what is read was put: mathematics. -/
import Derived.Test.YtnhcjadkbogioaaGreatM21
import Derived.Test.YtnhcjadkbogioaaGreatM9
import Derived.Test.YtnhcjadkbogioaaGreatM22
import Derived.Test.YtnhcjadkbogioaaGreatM18
import Derived.Test.YtnhcjadkbogioaaGreatM19
import Derived.Maps.OwnSet
import Derived.Below
import Derived.Test.YtnhcjadkbogioaaGreatM12
import Derived.Deep.RegionLaw
import Derived.Test.YtnhcjadkbogioaaGreatM3
import Derived.OrdersHeld
set_option maxRecDepth 100000
set_option linter.unusedVariables false
set_option linter.unusedSimpArgs false
set_option maxHeartbeats 3200000
namespace Go.Proofs.YtnhcjadkbogioaaGreat
open Go Go.RowKit OctM
theorem npm_small (op : Int) : npm op ≤ 15 := by
  unfold npm
  split
  · omega
  · split <;> omega
theorem num_only' {l : List UInt8} {a : Nat} {m : Int} (h : (numOut l a 0 m).2.2 = 0) : (numOut l a 0 m).2.1 = a + (enc (numOut l a 0 m).1).length ∧ l.drop a = enc (numOut l a 0 m).1 ++ l.drop (numOut l a 0 m).2.1 := by
  obtain ⟨_, h1, h2, _⟩ := num_only h
  exact ⟨h1, h2⟩
theorem node_only {l : List UInt8} {a : Nat} (h : (nodeOut l a).2.2 = 0) : nok (nodeOut l a).1 = true ∧ (nodeOut l a).2.1 = a + (nbs (nodeOut l a).1).length ∧ l.drop a = nbs (nodeOut l a).1 ++ l.drop (nodeOut l a).2.1 := by
  have hk : nok (ndOf l a) = true := by
    cases hk : nok (ndOf l a) with
    | true => rfl
    | false =>
      have e : (nodeOut l a).2.2 = failOut (nV l a).2.2 3 := by unfold nodeOut; simp only; rw [if_neg (by rw [hk]; simp)]
      rw [e] at h
      unfold failOut at h
      split at h
      · cases h
      · rename_i h2; exact absurd h h2
  have e : (nodeOut l a).2.2 = (nV l a).2.2 := by unfold nodeOut; simp only; rw [if_pos hk]
  rw [e] at h
  have eB : (nB l a).2.2 = 0 := by
    by_cases hz : (nB l a).2.2 = 0
    · exact hz
    · have hv : (nV l a).2 = (nB l a).2 := by
        unfold nV
        split
        · rw [valOut_err _ _ _ hz]
        · rfl
      rw [hv] at h
      exact absurd h hz
  have eA : neA l a = 0 := by
    by_cases hz : neA l a = 0
    · exact hz
    · have hb : nB l a = (0, naA l a, neA l a) := by unfold nB; rw [neA_op hz]; rw [if_neg (by show ¬ hasN 0 = true; rw [hasN_zero]; simp)]
      rw [hb] at eB
      exact absurd eB hz
  have hop : ndA l a ≠ 0 := fun hz => neA_no hz eA
  have e0 : (numOut l a 0 12).2.2 = 0 := by unfold neA at eA; rwa [if_neg hop] at eA
  obtain ⟨a1, a2⟩ := num_only' e0
  have hop12 := ndA_le l a
  have ho : held (ndA l a : Int) = ndA l a := by
    have := held_self (n := (ndA l a : Int)) (by omega) (by omega)
    omega
  -- the number
  have hN : (nB l a).2.1 = naA l a + (if hasN (ndA l a : Int) = true then enc (held ((nB l a).1 : Int)) else []).length ∧ l.drop (naA l a) = (if hasN (ndA l a : Int) = true then enc (held ((nB l a).1 : Int)) else []) ++ l.drop (nB l a).2.1 := by
    by_cases hN : hasN (ndA l a : Int) = true
    · have hb : nB l a = numOut l (naA l a) 0 (npm (ndA l a : Int)) := by unfold nB; rw [if_pos hN, eA]
      have eB' := eB
      rw [hb] at eB'
      obtain ⟨b1, b2⟩ := num_only' eB'
      have hle := numOut_le l (naA l a) 0 (npm (ndA l a : Int)) (npm_ge _)
      have hs := npm_small (ndA l a : Int)
      rw [← hb] at b1 b2 hle
      have hh : held ((nB l a).1 : Int) = (nB l a).1 := by
        have := held_self (n := ((nB l a).1 : Int)) (by omega) (by omega)
        omega
      rw [if_pos hN, hh]
      exact ⟨b1, b2⟩
    · have hb : nB l a = (0, naA l a, neA l a) := by unfold nB; rw [if_neg hN]
      rw [if_neg hN, hb]
      exact ⟨by simp, by simp⟩
  have hV : (nV l a).2.1 = (nB l a).2.1 + (if hasV (ndA l a : Int) = true then vbs (nV l a).1 else []).length ∧ l.drop (nB l a).2.1 = (if hasV (ndA l a : Int) = true then vbs (nV l a).1 else []) ++ l.drop (nV l a).2.1 := by
    by_cases hV : hasV (ndA l a : Int) = true
    · have hv : nV l a = valOut l (nB l a).2.1 (nB l a).2.2 := by unfold nV; rw [if_pos hV]
      have h' := h
      rw [hv] at h'
      obtain ⟨_, _, b1, b2⟩ := val_only h'
      rw [← hv] at b1 b2
      rw [if_pos hV]
      exact ⟨b1, b2⟩
    · have hv : nV l a = (zv, (nB l a).2.1, (nB l a).2.2) := by unfold nV; rw [if_neg hV]
      rw [if_neg hV, hv]
      exact ⟨by simp, by simp⟩
  have hbs : nbs (ndOf l a) = enc (ndA l a) ++ ((if hasN (ndA l a : Int) = true then enc (held ((nB l a).1 : Int)) else []) ++ (if hasV (ndA l a : Int) = true then vbs (nV l a).1 else [])) := by
    unfold nbs ndOf
    simp only
    rw [ho]
  have f1 : (nodeOut l a).1 = ndOf l a := rfl
  have f2 : (nodeOut l a).2.1 = (nV l a).2.1 := rfl
  rw [f1, f2]
  refine ⟨hk, ?_, ?_⟩
  · rw [hV.1, hN.1, show naA l a = a + (enc (ndA l a)).length from a1, hbs]
    simp only [List.length_append]
    omega
  · rw [show l.drop a = enc (ndA l a) ++ l.drop (naA l a) from a2, hN.2, hV.2, hbs]
    simp only [List.append_assoc]
theorem nodes_only {l : List UInt8} {a : Nat} : ∀ k, (nodesOut l k a).2.2 = 0 → (nodesOut l k a).2.1 = a + ((nodesOut l k a).1.flatMap nbs).length ∧ l.drop a = (nodesOut l k a).1.flatMap nbs ++ l.drop (nodesOut l k a).2.1
  | 0, _ => ⟨by simp [nodesOut], by simp [nodesOut]⟩
  | k + 1, h => by
    have h0 : (nodesOut l k a).2.2 = 0 := by
      by_cases hz : (nodesOut l k a).2.2 = 0
      · exact hz
      · rw [nodes_stuck hz (k + 1) (by omega)] at h; exact absurd h hz
    obtain ⟨i1, i2⟩ := nodes_only k h0
    rw [nodes_step h0] at h ⊢
    simp only at h ⊢
    obtain ⟨_, n1, n2⟩ := node_only h
    rw [List.flatMap_append]
    refine ⟨?_, ?_⟩
    · rw [n1, i1]; simp; omega
    · conv => lhs; rw [i2, n2]
      simp
theorem filt_only {l : List UInt8} {a : Nat} {e : Int} (h : (filtOut l a e).2.2 = 0) : e = 0 ∧ lchk (filtOut l a e).1 = 0 ∧ (filtOut l a e).2.1 = a + (lbs (filtOut l a e).1).length ∧ l.drop a = lbs (filtOut l a e).1 ++ l.drop (filtOut l a e).2.1 := by
  have h1 : (mny l a e).2.2 = 0 := by
    by_cases hz : (mny l a e).2.2 = 0
    · exact hz
    · unfold filtOut at h; rw [if_pos hz] at h; exact absurd h hz
  have h2 : (nodesOut l (mny l a e).1 (mny l a e).2.1).2.2 = 0 := by
    by_cases hz : (nodesOut l (mny l a e).1 (mny l a e).2.1).2.2 = 0
    · exact hz
    · unfold filtOut at h; rw [if_neg (by rw [h1]; simp), if_pos hz] at h; exact absurd h hz
  have h3 : lchk (nodesOut l (mny l a e).1 (mny l a e).2.1).1 = 0 := by
    by_cases hz : lchk (nodesOut l (mny l a e).1 (mny l a e).2.1).1 = 0
    · exact hz
    · unfold filtOut at h
      rw [if_neg (by rw [h1]; simp), if_neg (by rw [h2]; simp), if_neg hz] at h
      simp only at h
      split at h
      · cases h
      · exact absurd h hz
  have hq : filtOut l a e = nodesOut l (mny l a e).1 (mny l a e).2.1 := by unfold filtOut; rw [if_neg (by rw [h1]; simp), if_neg (by rw [h2]; simp), if_pos h3]
  have hlen := nodes_full (l := l) (a := (mny l a e).2.1) _ h2
  obtain ⟨i1, i2⟩ := nodes_only _ h2
  have hm0 : (numOut l a e 31).1 ≠ 0 := fun hz => mny_none (show (mny l a e).1 = 0 from hz) h1
  have hme : (numOut l a e 31).2.2 = 0 := by
    have : (mny l a e).2.2 = (numOut l a e 31).2.2 := by unfold mny; simp only; rw [if_neg hm0]
    rw [← this]; exact h1
  obtain ⟨he, g1, g2, _, _⟩ := num_only hme
  have hm31 := mny_le l a e
  have hh : held (((nodesOut l (mny l a e).1 (mny l a e).2.1).1.length : Nat) : Int) = (mny l a e).1 := by
    have := held_self (n := (((nodesOut l (mny l a e).1 (mny l a e).2.1).1.length : Nat) : Int)) (by omega) (by omega)
    omega
  have hbs : lbs (filtOut l a e).1 = enc (mny l a e).1 ++ (nodesOut l (mny l a e).1 (mny l a e).2.1).1.flatMap nbs := by
    unfold lbs
    rw [hq, if_pos h3, hh]
  refine ⟨he, by rw [hq]; exact h3, ?_, ?_⟩
  · rw [hbs, hq, i1, show (mny l a e).2.1 = a + (enc (mny l a e).1).length from g1, List.length_append]; omega
  · rw [hbs, hq, List.append_assoc, ← i2]
    exact g2
end Go.Proofs.YtnhcjadkbogioaaGreat
namespace Go.Proofs.YtnhcjadkbogioaaGreat
open Go Go.RowKit OctM BitM
def cab (x : Cm) : Cm := { x with A := none, n := 0, c := 0 }
theorem cab_cok {x y : Cm} (h : cab x = cab y) : cok x ↔ cok y := by
  have e : cok (cab x) ↔ cok (cab y) := by rw [h]
  exact e
theorem cab_csm {x y : Cm} (h : cab x = cab y) : csm x y := by
  have e : csm (cab x) (cab y) := by rw [h]; exact csm_self _
  exact e
def u32 (z : Int) : BitVec 32 := BitVec.ofNat 32 z.toNat
theorem u32_nat (x : BitVec 32) : u32 (x.toNat : Int) = x := by simp [u32]
theorem u32_to {z : Int} (h0 : 0 ≤ z) (h1 : z < 4294967296) : ((u32 z).toNat : Int) = z := by
  unfold u32
  rw [BitVec.toNat_ofNat, Nat.mod_eq_of_lt (by omega)]
  omega
def edCm (t : Int × Int × Int × Int × Int × List V3) (x : Cm) : Cm := { x with ek := t.1, eid := t.2.1, eg := t.2.2.1, em := u32 t.2.2.2.1, el := u32 t.2.2.2.2.1, ef := t.2.2.2.2.2 }
def ptCm (t : Int × Int × List V3) (x : Cm) : Cm := { x with pm := u32 t.1, pl := u32 t.2.1, pf := t.2.2 }
section
variable (l : List UInt8) (a : Nat) (e : Int)
def roA : Nat × Nat × Int := abvOut l a e 5
def roE : (Int × Int × Int × Int × Int × List V3) × Nat × Int := editOut l (roA l a e).2.1 (roA l a e).2.2
def roT : Nat × Nat × Int := numOut l (roA l a e).2.1 (roA l a e).2.2 1099511627776
def roD : Nat × Nat × Int := numOut l (roA l a e).2.1 (roA l a e).2.2 5
def roR : Nat × Nat × Int := abvOut l (roD l a e).2.1 (roD l a e).2.2 1099511627776
def roI : Nat × Nat × Int := abvOut l (roR l a e).2.1 (roR l a e).2.2 1073741823
def roB : Nat × Nat × Int := abvOut l (roI l a e).2.1 (roI l a e).2.2 1099511627776
def roP : (Int × Int × List V3) × Nat × Int := patOut l (roB l a e).2.1 (roB l a e).2.2
def roF : List Nd × Nat × Int := filtOut l (roR l a e).2.1 (roR l a e).2.2
def roM : Nat × Nat × Int := numOut l (roF l a e).2.1 (roF l a e).2.2 511
def rx1 : Cm := edCm (roE l a e).1 { zcm with kd := 1 }
def rx5 : Cm := { zcm with kd := 5, kp := ((roT l a e).1 : Int) }
def rxq (k : Int) : Cm := { zcm with kd := k, dv := ((roD l a e).1 : Int), rq := ((roR l a e).1 : Int) }
def rx2 : Cm := ptCm (roP l a e).1 { rxq l a e 2 with id := ((roI l a e).1 : Int), bs := ((roB l a e).1 : Int) }
def rx3 : Cm := { rxq l a e 3 with f := (roF l a e).1, ms := BitVec.ofNat 32 (roM l a e).1 }
def roRaw : Cm × Nat × Int :=
  if (roA l a e).1 = 1 then (rx1 l a e, (roE l a e).2)
  else if (roA l a e).1 = 5 then (rx5 l a e, (roT l a e).2)
  else if (roA l a e).1 = 2 then (rx2 l a e, (roP l a e).2)
  else if (roA l a e).1 = 3 then (rx3 l a e, (roM l a e).2)
  else if (roA l a e).1 = 4 then (rxq l a e 4, (roR l a e).2)
  else (zcm, (roA l a e).2)
def cmOut : Cm × Nat × Int := (if (roRaw l a e).2.2 = 0 then (roRaw l a e).1 else zcm, (roRaw l a e).2)
end
section
variable {l : List UInt8} {a : Nat} {e : Int}
theorem roA_le : ((roA l a e).1 : Int) ≤ 5 := numOut_le l a e 5 (by omega)
theorem ro_1 (h : (roA l a e).1 = 1) : roRaw l a e = (rx1 l a e, (roE l a e).2) := by unfold roRaw; rw [if_pos h]
theorem ro_5 (h : (roA l a e).1 = 5) : roRaw l a e = (rx5 l a e, (roT l a e).2) := by unfold roRaw; rw [if_neg (by omega), if_pos h]
theorem ro_2 (h : (roA l a e).1 = 2) : roRaw l a e = (rx2 l a e, (roP l a e).2) := by unfold roRaw; rw [if_neg (by omega), if_neg (by omega), if_pos h]
theorem ro_3 (h : (roA l a e).1 = 3) : roRaw l a e = (rx3 l a e, (roM l a e).2) := by unfold roRaw; rw [if_neg (by omega), if_neg (by omega), if_neg (by omega), if_pos h]
theorem ro_4 (h : (roA l a e).1 = 4) : roRaw l a e = (rxq l a e 4, (roR l a e).2) := by unfold roRaw; rw [if_neg (by omega), if_neg (by omega), if_neg (by omega), if_neg (by omega), if_pos h]
theorem ro_0 (h : (roA l a e).1 = 0) : roRaw l a e = (zcm, (roA l a e).2) := by unfold roRaw; rw [if_neg (by omega), if_neg (by omega), if_neg (by omega), if_neg (by omega), if_neg (by omega)]
theorem roA_0 (h : (roA l a e).1 = 0) : (roA l a e).2.2 ≠ 0 := fun h0 => (abv_only h0).2.1 h
theorem roA_cases : (roA l a e).1 = 0 ∨ (roA l a e).1 = 1 ∨ (roA l a e).1 = 2 ∨ (roA l a e).1 = 3 ∨ (roA l a e).1 = 4 ∨ (roA l a e).1 = 5 := by
  have := roA_le (l := l) (a := a) (e := e)
  omega
theorem ro_at (h : a ≤ l.length) : (roA l a e).2.1 ≤ l.length ∧ (roE l a e).2.1 ≤ l.length ∧ (roT l a e).2.1 ≤ l.length ∧ (roD l a e).2.1 ≤ l.length ∧ (roR l a e).2.1 ≤ l.length ∧ (roI l a e).2.1 ≤ l.length ∧ (roB l a e).2.1 ≤ l.length ∧ (roP l a e).2.1 ≤ l.length ∧ (roF l a e).2.1 ≤ l.length ∧ (roM l a e).2.1 ≤ l.length := by
  have hA : (roA l a e).2.1 ≤ l.length := abvOut_at _ _ _ _ h
  have hE : (roE l a e).2.1 ≤ l.length := editOut_at _ _ _ hA
  have hT : (roT l a e).2.1 ≤ l.length := numOut_at _ _ _ _ hA
  have hD : (roD l a e).2.1 ≤ l.length := numOut_at _ _ _ _ hA
  have hR : (roR l a e).2.1 ≤ l.length := abvOut_at _ _ _ _ hD
  have hI : (roI l a e).2.1 ≤ l.length := abvOut_at _ _ _ _ hR
  have hB : (roB l a e).2.1 ≤ l.length := abvOut_at _ _ _ _ hI
  have hP : (roP l a e).2.1 ≤ l.length := patOut_at _ _ _ hB
  have hF : (roF l a e).2.1 ≤ l.length := filt_at hR
  have hM : (roM l a e).2.1 ≤ l.length := numOut_at _ _ _ _ hF
  exact ⟨hA, hE, hT, hD, hR, hI, hB, hP, hF, hM⟩
theorem cmOut_at (h : a ≤ l.length) : (cmOut l a e).2.1 ≤ l.length := by
  obtain ⟨hA, hE, hT, hD, hR, hI, hB, hP, hF, hM⟩ := ro_at (e := e) h
  show (roRaw l a e).2.1 ≤ l.length
  rcases roA_cases (l := l) (a := a) (e := e) with k | k | k | k | k | k
  · rw [ro_0 k]; exact hA
  · rw [ro_1 k]; exact hE
  · rw [ro_2 k]; exact hP
  · rw [ro_3 k]; exact hM
  · rw [ro_4 k]; exact hR
  · rw [ro_5 k]; exact hT
theorem patB_lab (l : List UInt8) (a : Nat) (e : Int) : (patB l a e).1 ≤ 65535 := by
  unfold patB
  split
  · have := numOut_le l (patA l a e).2.1 (patA l a e).2.2 65535 (by omega)
    omega
  · exact Nat.zero_le _
theorem patOut_u32 (l : List UInt8) (a : Nat) (e : Int) : (((u32 (patOut l a e).1.1).toNat : Nat) : Int) = (patOut l a e).1.1 ∧ (((u32 (patOut l a e).1.2.1).toNat : Nat) : Int) = (patOut l a e).1.2.1 := by
  obtain ⟨x, hx⟩ := patOut_mask l a e
  have hlab : 0 ≤ (patOut l a e).1.2.1 ∧ (patOut l a e).1.2.1 ≤ 65535 := by
    unfold patOut
    have := patB_lab l a e
    simp only
    split <;> simp <;> omega
  have := x.isLt
  exact ⟨by rw [hx]; exact u32_to (by omega) (by omega), u32_to (by omega) (by omega)⟩
theorem editOut_u32 (l : List UInt8) (a : Nat) (e : Int) : (((u32 (editOut l a e).1.2.2.2.1).toNat : Nat) : Int) = (editOut l a e).1.2.2.2.1 ∧ (((u32 (editOut l a e).1.2.2.2.2.1).toNat : Nat) : Int) = (editOut l a e).1.2.2.2.2.1 := by
  unfold editOut
  simp only
  split
  · unfold edP
    split
    · exact patOut_u32 _ _ _
    · exact ⟨rfl, rfl⟩
  · exact ⟨rfl, rfl⟩
theorem held_id {n : Nat} (h : n ≤ 1099511627776) : held (n : Int) = n := by unfold held; omega
theorem edit_err0 {l : List UInt8} {a : Nat} {e : Int} (h : (editOut l a e).2.2 = 0) : e = 0 := by
  have hP : (edP l a e).2.2 = 0 := h
  have hI : (edI l a e).2.2 = 0 := by
    unfold edP at hP
    split at hP
    · exact pat_err hP
    · exact hP
  have hG : (edG l a e).2.2 = 0 := by
    unfold edI at hI
    split at hI
    · exact abv_err hI
    · exact hI
  have hA : (edA l a e).2.2 = 0 := by
    unfold edG at hG
    split at hG
    · exact (num_only hG).1
    · exact hG
  exact abv_err hA
theorem cmb_1 {x : Cm} (k : x.kd = 1) : cmb x = enc (held x.kd) ++ ebs x.ek x.eid x.eg x.em (x.el.toNat : Int) x.ef := by unfold cmb; rw [if_pos k]
theorem cmb_2 {x : Cm} (k : x.kd = 2) : cmb x = enc (held x.kd) ++ ((enc (held x.dv) ++ enc (held x.rq)) ++ ((enc (held x.id) ++ enc (held x.bs)) ++ pbs x.pm (x.pl.toNat : Int) x.pf)) := by unfold cmb; rw [if_neg (by omega), if_neg (by omega), if_pos k]
theorem cmb_3 {x : Cm} (k : x.kd = 3) : cmb x = enc (held x.kd) ++ ((enc (held x.dv) ++ enc (held x.rq)) ++ (lbs x.f ++ enc (held (x.ms.toNat : Int)))) := by unfold cmb; rw [if_neg (by omega), if_neg (by omega), if_neg (by omega), if_pos k]
theorem cmb_4 {x : Cm} (k : x.kd = 4) : cmb x = enc (held x.kd) ++ (enc (held x.dv) ++ enc (held x.rq)) := by unfold cmb; rw [if_neg (by omega), if_neg (by omega), if_neg (by omega), if_neg (by omega), List.append_nil]
theorem cmb_5 {x : Cm} (k : x.kd = 5) : cmb x = enc (held x.kd) ++ enc (held x.kp) := by unfold cmb; rw [if_neg (by omega), if_pos k]
theorem cm_only (h : (cmOut l a e).2.2 = 0) : e = 0 ∧ cok (cmOut l a e).1 ∧ l.drop a = putC (cmOut l a e).1 ++ l.drop (cmOut l a e).2.1 ∧ (cmOut l a e).2.1 = a + (putC (cmOut l a e).1).length := by
  have h' : (roRaw l a e).2.2 = 0 := h
  have h1 : (cmOut l a e).1 = (roRaw l a e).1 := by unfold cmOut; simp only; rw [if_pos h']
  have h2 : (cmOut l a e).2.1 = (roRaw l a e).2.1 := rfl
  rw [h1, h2]
  clear h1 h2 h
  rcases roA_cases (l := l) (a := a) (e := e) with k | k | k | k | k | k
  · rw [ro_0 k] at h'
    exact absurd h' (roA_0 k)
  · rw [ro_1 k] at h' ⊢
    simp only at h' ⊢
    obtain ⟨x, m1, m2, m3, m4, m5⟩ := edit_only (l := l) (a := (roA l a e).2.1) (e := (roA l a e).2.2) h'
    have hA : (roA l a e).2.2 = 0 := by
      by_cases hz : (roA l a e).2.2 = 0
      · exact hz
      · exact absurd (edit_err0 h') hz
    obtain ⟨e0, _, A2, A3, _, _⟩ := abv_only hA
    have hx : rx1 l a e = { zcm with kd := 1, ek := (roE l a e).1.1, eid := (roE l a e).1.2.1, eg := (roE l a e).1.2.2.1, em := x, el := u32 (roE l a e).1.2.2.2.2.1, ef := (roE l a e).1.2.2.2.2.2 } := by
      unfold rx1 edCm
      rw [show (roE l a e).1.2.2.2.1 = (x.toNat : Int) from m1, u32_nat]
    have hel := (editOut_u32 l (roA l a e).2.1 (roA l a e).2.2).2
    have hck : cok (rx1 l a e) := by
      rw [hx]
      refine ⟨Or.inl rfl, fun _ => ⟨?_, ⟨rfl, rfl, rfl⟩, rfl, rfl, rfl, rfl, rfl, rfl, rfl⟩, fun h => absurd (show (1 : Int) = 5 from h) (by decide), fun h => absurd (show (1 : Int) = 2 ∨ (1 : Int) = 3 ∨ (1 : Int) = 4 from h) (by decide), fun h => absurd (show (1 : Int) = 2 from h) (by decide), fun h => absurd (show (1 : Int) = 3 from h) (by decide), fun h => absurd (show (1 : Int) = 4 from h) (by decide)⟩
      show echk _ _ _ x ((u32 (roE l a e).1.2.2.2.2.1).toNat : Int) _ = 0
      rw [show ((u32 (roE l a e).1.2.2.2.2.1).toNat : Int) = (roE l a e).1.2.2.2.2.1 from hel]
      exact m3
    have hb : putC (rx1 l a e) = enc (roA l a e).1 ++ ebs (roE l a e).1.1 (roE l a e).1.2.1 (roE l a e).1.2.2.1 x (roE l a e).1.2.2.2.2.1 (roE l a e).1.2.2.2.2.2 := by
      unfold putC
      rw [if_pos hck, hx]
      rw [cmb_1 rfl]
      show enc (held 1) ++ ebs _ _ _ x ((u32 (roE l a e).1.2.2.2.2.1).toNat : Int) _ = _
      rw [show ((u32 (roE l a e).1.2.2.2.2.1).toNat : Int) = (roE l a e).1.2.2.2.2.1 from hel, k]
      rfl
    refine ⟨e0, hck, ?_, ?_⟩
    · rw [hb, List.append_assoc]
      exact A3.trans (congrArg (enc (roA l a e).1 ++ ·) m4)
    · rw [hb, List.length_append]
      have q1 : (roA l a e).2.1 = a + (enc (roA l a e).1).length := A2
      have q2 : (roE l a e).2.1 = (roA l a e).2.1 + (ebs (roE l a e).1.1 (roE l a e).1.2.1 (roE l a e).1.2.2.1 x (roE l a e).1.2.2.2.2.1 (roE l a e).1.2.2.2.2.2).length := m5
      omega
  · rw [ro_2 k] at h' ⊢
    simp only at h' ⊢
    obtain ⟨x, m1, m2, m3, m4, m5⟩ := pat_only (l := l) (a := (roB l a e).2.1) (e := (roB l a e).2.2) h'
    have hB : (roB l a e).2.2 = 0 := pat_err h'
    obtain ⟨hI, B1, B2, B3, B4, B5⟩ := abv_only hB
    obtain ⟨hR, I1, I2, I3, I4, I5⟩ := abv_only (show (roI l a e).2.2 = 0 from hI)
    obtain ⟨hD, R1, R2, R3, R4, R5⟩ := abv_only (show (roR l a e).2.2 = 0 from hR)
    obtain ⟨hA, D2, D3, D4, D5⟩ := num_only (show (roD l a e).2.2 = 0 from hD)
    obtain ⟨e0, _, A2, A3, _, _⟩ := abv_only (show (roA l a e).2.2 = 0 from hA)
    have hx : rx2 l a e = { rxq l a e 2 with id := ((roI l a e).1 : Int), bs := ((roB l a e).1 : Int), pm := x, pl := u32 (roP l a e).1.2.1, pf := (roP l a e).1.2.2 } := by
      unfold rx2 ptCm
      rw [show (roP l a e).1.1 = (x.toNat : Int) from m1, u32_nat]
    have hel := (patOut_u32 l (roB l a e).2.1 (roB l a e).2.2).2
    have hck : cok (rx2 l a e) := by
      rw [hx]
      refine ⟨Or.inr (Or.inl rfl), fun h => absurd (show (2 : Int) = 1 from h) (by decide), fun h => absurd (show (2 : Int) = 5 from h) (by decide), fun _ => ⟨⟨Int.natCast_nonneg _, ?_⟩, ⟨?_, ?_⟩, ⟨rfl, rfl, rfl, rfl, rfl, rfl⟩, rfl⟩, fun _ => ⟨⟨?_, ?_⟩, ⟨?_, ?_⟩, ?_, rfl, rfl⟩, fun h => absurd (show (2 : Int) = 3 from h) (by decide), fun h => absurd (show (2 : Int) = 4 from h) (by decide)⟩
      · show ((roD l a e).1 : Int) < 6
        have : ((roD l a e).1 : Int) ≤ 5 := D4
        omega
      · show 1 ≤ ((roR l a e).1 : Int)
        have : (roR l a e).1 ≠ 0 := R1
        omega
      · exact R4
      · show 1 ≤ ((roI l a e).1 : Int)
        have : (roI l a e).1 ≠ 0 := I1
        omega
      · show ((roI l a e).1 : Int) < 1073741824
        have : ((roI l a e).1 : Int) ≤ 1073741823 := I4
        omega
      · show 1 ≤ ((roB l a e).1 : Int)
        have : (roB l a e).1 ≠ 0 := B1
        omega
      · exact B4
      · show pchk x ((u32 (roP l a e).1.2.1).toNat : Int) _ = 0
        rw [show ((u32 (roP l a e).1.2.1).toNat : Int) = (roP l a e).1.2.1 from hel]
        exact m2
    have hb : putC (rx2 l a e) = enc (roA l a e).1 ++ ((enc (roD l a e).1 ++ enc (roR l a e).1) ++ ((enc (roI l a e).1 ++ enc (roB l a e).1) ++ pbs x (roP l a e).1.2.1 (roP l a e).1.2.2)) := by
      unfold putC
      rw [if_pos hck, hx]
      rw [cmb_2 rfl]
      show enc (held 2) ++ ((enc (held ((roD l a e).1 : Int)) ++ enc (held ((roR l a e).1 : Int))) ++ ((enc (held ((roI l a e).1 : Int)) ++ enc (held ((roB l a e).1 : Int))) ++ pbs x ((u32 (roP l a e).1.2.1).toNat : Int) _)) = _
      rw [show ((u32 (roP l a e).1.2.1).toNat : Int) = (roP l a e).1.2.1 from hel, k, held_id (n := (roD l a e).1) D5, held_id (n := (roR l a e).1) R5, held_id (n := (roI l a e).1) I5, held_id (n := (roB l a e).1) B5]
      rfl
    refine ⟨e0, hck, ?_, ?_⟩
    · rw [hb]
      have q1 : l.drop a = enc (roA l a e).1 ++ l.drop (roA l a e).2.1 := A3
      have q2 : l.drop (roA l a e).2.1 = enc (roD l a e).1 ++ l.drop (roD l a e).2.1 := D3
      have q3 : l.drop (roD l a e).2.1 = enc (roR l a e).1 ++ l.drop (roR l a e).2.1 := R3
      have q4 : l.drop (roR l a e).2.1 = enc (roI l a e).1 ++ l.drop (roI l a e).2.1 := I3
      have q5 : l.drop (roI l a e).2.1 = enc (roB l a e).1 ++ l.drop (roB l a e).2.1 := B3
      have q6 : l.drop (roB l a e).2.1 = pbs x (roP l a e).1.2.1 (roP l a e).1.2.2 ++ l.drop (roP l a e).2.1 := m4
      rw [q1, q2, q3, q4, q5, q6]
      simp only [List.append_assoc]
    · rw [hb]
      simp only [List.length_append]
      have q1 : (roA l a e).2.1 = a + (enc (roA l a e).1).length := A2
      have q2 : (roD l a e).2.1 = (roA l a e).2.1 + (enc (roD l a e).1).length := D2
      have q3 : (roR l a e).2.1 = (roD l a e).2.1 + (enc (roR l a e).1).length := R2
      have q4 : (roI l a e).2.1 = (roR l a e).2.1 + (enc (roI l a e).1).length := I2
      have q5 : (roB l a e).2.1 = (roI l a e).2.1 + (enc (roB l a e).1).length := B2
      have q6 : (roP l a e).2.1 = (roB l a e).2.1 + (pbs x (roP l a e).1.2.1 (roP l a e).1.2.2).length := m5
      omega
  · rw [ro_3 k] at h' ⊢
    simp only at h' ⊢
    obtain ⟨hF, M2, M3, M4, M5⟩ := num_only (show (roM l a e).2.2 = 0 from h')
    obtain ⟨hR, F1, F2, F3⟩ := filt_only (show (roF l a e).2.2 = 0 from hF)
    obtain ⟨hD, R1, R2, R3, R4, R5⟩ := abv_only (show (roR l a e).2.2 = 0 from hR)
    obtain ⟨hA, D2, D3, D4, D5⟩ := num_only (show (roD l a e).2.2 = 0 from hD)
    obtain ⟨e0, _, A2, A3, _, _⟩ := abv_only (show (roA l a e).2.2 = 0 from hA)
    have hms : ((BitVec.ofNat 32 (roM l a e).1).toNat : Int) = ((roM l a e).1 : Int) := by
      have : ((roM l a e).1 : Int) ≤ 511 := M4
      rw [BitVec.toNat_ofNat, Nat.mod_eq_of_lt (by omega)]
    have hck : cok (rx3 l a e) := by
      refine ⟨Or.inr (Or.inr (Or.inl rfl)), fun h => absurd (show (3 : Int) = 1 from h) (by decide), fun h => absurd (show (3 : Int) = 5 from h) (by decide), fun _ => ⟨⟨Int.natCast_nonneg _, ?_⟩, ⟨?_, ?_⟩, ⟨rfl, rfl, rfl, rfl, rfl, rfl⟩, rfl⟩, fun h => absurd (show (3 : Int) = 2 from h) (by decide), fun _ => ⟨F1, ?_, ⟨rfl, rfl, rfl⟩, rfl, rfl⟩, fun h => absurd (show (3 : Int) = 4 from h) (by decide)⟩
      · show ((roD l a e).1 : Int) < 6
        have : ((roD l a e).1 : Int) ≤ 5 := D4
        omega
      · show 1 ≤ ((roR l a e).1 : Int)
        have : (roR l a e).1 ≠ 0 := R1
        omega
      · exact R4
      · show (BitVec.ofNat 32 (roM l a e).1).toNat ≤ 511
        have : ((roM l a e).1 : Int) ≤ 511 := M4
        omega
    have hb : putC (rx3 l a e) = enc (roA l a e).1 ++ ((enc (roD l a e).1 ++ enc (roR l a e).1) ++ (lbs (roF l a e).1 ++ enc (roM l a e).1)) := by
      unfold putC
      rw [if_pos hck]
      rw [cmb_3 rfl]
      show enc (held 3) ++ ((enc (held ((roD l a e).1 : Int)) ++ enc (held ((roR l a e).1 : Int))) ++ (lbs (roF l a e).1 ++ enc (held ((BitVec.ofNat 32 (roM l a e).1).toNat : Int)))) = _
      rw [hms, k, held_id (n := (roD l a e).1) D5, held_id (n := (roR l a e).1) R5, held_id (n := (roM l a e).1) M5]
      rfl
    refine ⟨e0, hck, ?_, ?_⟩
    · rw [hb]
      have q1 : l.drop a = enc (roA l a e).1 ++ l.drop (roA l a e).2.1 := A3
      have q2 : l.drop (roA l a e).2.1 = enc (roD l a e).1 ++ l.drop (roD l a e).2.1 := D3
      have q3 : l.drop (roD l a e).2.1 = enc (roR l a e).1 ++ l.drop (roR l a e).2.1 := R3
      have q4 : l.drop (roR l a e).2.1 = lbs (roF l a e).1 ++ l.drop (roF l a e).2.1 := F3
      have q5 : l.drop (roF l a e).2.1 = enc (roM l a e).1 ++ l.drop (roM l a e).2.1 := M3
      rw [q1, q2, q3, q4, q5]
      simp only [List.append_assoc]
    · rw [hb]
      simp only [List.length_append]
      have q1 : (roA l a e).2.1 = a + (enc (roA l a e).1).length := A2
      have q2 : (roD l a e).2.1 = (roA l a e).2.1 + (enc (roD l a e).1).length := D2
      have q3 : (roR l a e).2.1 = (roD l a e).2.1 + (enc (roR l a e).1).length := R2
      have q4 : (roF l a e).2.1 = (roR l a e).2.1 + (lbs (roF l a e).1).length := F2
      have q5 : (roM l a e).2.1 = (roF l a e).2.1 + (enc (roM l a e).1).length := M2
      omega
  · rw [ro_4 k] at h' ⊢
    simp only at h' ⊢
    obtain ⟨hD, R1, R2, R3, R4, R5⟩ := abv_only (show (roR l a e).2.2 = 0 from h')
    obtain ⟨hA, D2, D3, D4, D5⟩ := num_only (show (roD l a e).2.2 = 0 from hD)
    obtain ⟨e0, _, A2, A3, _, _⟩ := abv_only (show (roA l a e).2.2 = 0 from hA)
    have hck : cok (rxq l a e 4) := by
      refine ⟨Or.inr (Or.inr (Or.inr (Or.inl rfl))), fun h => absurd (show (4 : Int) = 1 from h) (by decide), fun h => absurd (show (4 : Int) = 5 from h) (by decide), fun _ => ⟨⟨Int.natCast_nonneg _, ?_⟩, ⟨?_, ?_⟩, ⟨rfl, rfl, rfl, rfl, rfl, rfl⟩, rfl⟩, fun h => absurd (show (4 : Int) = 2 from h) (by decide), fun h => absurd (show (4 : Int) = 3 from h) (by decide), fun _ => ⟨⟨rfl, rfl, rfl⟩, rfl, rfl, rfl, rfl⟩⟩
      · show ((roD l a e).1 : Int) < 6
        have : ((roD l a e).1 : Int) ≤ 5 := D4
        omega
      · show 1 ≤ ((roR l a e).1 : Int)
        have : (roR l a e).1 ≠ 0 := R1
        omega
      · exact R4
    have hb : putC (rxq l a e 4) = enc (roA l a e).1 ++ (enc (roD l a e).1 ++ enc (roR l a e).1) := by
      unfold putC
      rw [if_pos hck]
      rw [cmb_4 rfl]
      show enc (held 4) ++ (enc (held ((roD l a e).1 : Int)) ++ enc (held ((roR l a e).1 : Int))) = _
      rw [k, held_id (n := (roD l a e).1) D5, held_id (n := (roR l a e).1) R5]
      rfl
    refine ⟨e0, hck, ?_, ?_⟩
    · rw [hb]
      have q1 : l.drop a = enc (roA l a e).1 ++ l.drop (roA l a e).2.1 := A3
      have q2 : l.drop (roA l a e).2.1 = enc (roD l a e).1 ++ l.drop (roD l a e).2.1 := D3
      have q3 : l.drop (roD l a e).2.1 = enc (roR l a e).1 ++ l.drop (roR l a e).2.1 := R3
      rw [q1, q2, q3]
      simp only [List.append_assoc, List.append_nil, List.nil_append]
    · rw [hb]
      simp only [List.length_append, List.length_nil]
      have q1 : (roA l a e).2.1 = a + (enc (roA l a e).1).length := A2
      have q2 : (roD l a e).2.1 = (roA l a e).2.1 + (enc (roD l a e).1).length := D2
      have q3 : (roR l a e).2.1 = (roD l a e).2.1 + (enc (roR l a e).1).length := R2
      omega
  · rw [ro_5 k] at h' ⊢
    simp only at h' ⊢
    obtain ⟨hA, D2, D3, D4, D5⟩ := num_only (show (roT l a e).2.2 = 0 from h')
    obtain ⟨e0, _, A2, A3, _, _⟩ := abv_only (show (roA l a e).2.2 = 0 from hA)
    have hck : cok (rx5 l a e) := by
      refine ⟨Or.inr (Or.inr (Or.inr (Or.inr rfl))), fun h => absurd (show (5 : Int) = 1 from h) (by decide), fun _ => ⟨⟨Int.natCast_nonneg _, D4⟩, ⟨rfl, rfl, rfl, rfl, rfl, rfl⟩, ⟨rfl, rfl, rfl⟩, rfl, rfl, rfl, rfl, rfl, rfl⟩, fun h => absurd (show (5 : Int) = 2 ∨ (5 : Int) = 3 ∨ (5 : Int) = 4 from h) (by decide), fun h => absurd (show (5 : Int) = 2 from h) (by decide), fun h => absurd (show (5 : Int) = 3 from h) (by decide), fun h => absurd (show (5 : Int) = 4 from h) (by decide)⟩
    have hb : putC (rx5 l a e) = enc (roA l a e).1 ++ enc (roT l a e).1 := by
      unfold putC
      rw [if_pos hck]
      rw [cmb_5 rfl]
      show enc (held 5) ++ enc (held ((roT l a e).1 : Int)) = _
      rw [k, held_id (n := (roT l a e).1) D5]
      rfl
    refine ⟨e0, hck, ?_, ?_⟩
    · rw [hb]
      have q1 : l.drop a = enc (roA l a e).1 ++ l.drop (roA l a e).2.1 := A3
      have q2 : l.drop (roA l a e).2.1 = enc (roT l a e).1 ++ l.drop (roT l a e).2.1 := D3
      rw [q1, q2]
      simp only [List.append_assoc]
    · rw [hb]
      simp only [List.length_append]
      have q1 : (roA l a e).2.1 = a + (enc (roA l a e).1).length := A2
      have q2 : (roT l a e).2.1 = (roA l a e).2.1 + (enc (roT l a e).1).length := D2
      omega
end
end Go.Proofs.YtnhcjadkbogioaaGreat
namespace Go.Proofs.YtnhcjadkbogioaaGreat
open Go Go.RowKit Go.Maps
def RV : Value → Option (DataW Value × List MemPlace) := fun v => some (.held v, [])
def mlit (p : Int × Value) : Lit × DataW Value := (.int .i64 p.1, .held p.2)
abbrev IM := List (Int × Value)
def mget (m : IM) (x : Int) : Option Value := (m.find? (fun p => decide (p.1 = x))).map (·.2)
def mput : IM → Int → Value → IM
  | [], x, v => [(x, v)]
  | p :: m, x, v => if x < p.1 then (x, v) :: p :: m else if p.1 = x then (x, v) :: m else p :: mput m x v
def mdel (m : IM) (x : Int) : IM := m.filter (fun p => !decide (p.1 = x))
abbrev Rise (m : IM) : Prop := m.Pairwise (fun p q => p.1 < q.1)
theorem same_lit (p : Int × Value) (x : Int) : (mlit p).1.sameKey (.int .i64 x) = decide (p.1 = x) := by simp [mlit, Lit.sameKey]
theorem has_lit (m : IM) (x : Int) : Maps.has (.map (m.map mlit)) (.int .i64 x) = (mget m x).isSome := by
  show (m.map mlit).any (fun p => p.1.sameKey (.int .i64 x)) = _
  induction m with
  | nil => rfl
  | cons p m ih =>
    rw [List.map_cons, List.any_cons, ih, same_lit]
    unfold mget
    rw [List.find?_cons]
    by_cases h : p.1 = x
    · simp [h]
    · simp [h]
theorem at_lit (m : IM) (x : Int) (z : Value) : (DataW.map (m.map mlit)).atKey (.int .i64 x) (.held z) = .held ((mget m x).getD z) := by
  unfold DataW.atKey
  dsimp only
  induction m with
  | nil => rfl
  | cons p m ih =>
    rw [List.map_cons, List.find?_cons, same_lit]
    unfold mget
    rw [List.find?_cons]
    by_cases h : p.1 = x
    · simp [h, mlit]
    · have h2 : decide (p.1 = x) = false := by simp [h]
      rw [h2]
      exact ih
theorem filter_lit (m : IM) (x : Int) : (m.map mlit).filter (fun p => !p.1.sameKey (.int .i64 x)) = (mdel m x).map mlit := by
  unfold mdel
  induction m with
  | nil => rfl
  | cons p m ih =>
    rw [List.map_cons, List.filter_cons, List.filter_cons, same_lit]
    by_cases h : p.1 = x
    · simp only [h, decide_true, Bool.not_true]
      exact ih
    · have h2 : decide (p.1 = x) = false := by simp [h]
      rw [h2]
      simp only [Bool.not_false, if_true, List.map_cons]
      rw [ih]
theorem del_lit (m : IM) (x : Int) : (DataW.map (m.map mlit)).del (.int .i64 x) = .map ((mdel m x).map mlit) := congrArg DataW.map (filter_lit m x)
theorem mdel_none {m : IM} {x : Int} (h : ∀ p ∈ m, x < p.1) : mdel m x = m := by
  unfold mdel
  rw [List.filter_eq_self]
  intro p hp
  have := h p hp
  simp
  omega
theorem insert_front {m : IM} {x : Int} (v : Value) (h : ∀ p ∈ m, x < p.1) : DataW.insert (mlit (x, v)) (m.map mlit) = ((x, v) :: m).map mlit := by
  match m, h with
  | [], _ => rfl
  | p :: m, h =>
    have h1 := h p (List.mem_cons_self ..)
    show (if (Lit.int .i64 x).before (Lit.int .i64 p.1) = true then _ else _) = _
    rw [if_pos (by simpa [Lit.before] using h1)]
    rfl
theorem put_list (m : IM) (x : Int) (v : Value) (hr : Rise m) : DataW.insert (mlit (x, v)) ((mdel m x).map mlit) = (mput m x v).map mlit := by
  induction m with
  | nil => rfl
  | cons p m ih =>
    obtain ⟨h1, h2⟩ := List.pairwise_cons.1 hr
    unfold mput
    by_cases hx : x < p.1
    · rw [if_pos hx, mdel_none (fun q hq => by rcases List.mem_cons.1 hq with rfl | hq; exact hx; have := h1 q hq; omega)]
      exact insert_front v (fun q hq => by rcases List.mem_cons.1 hq with rfl | hq; exact hx; have := h1 q hq; omega)
    · rw [if_neg hx]
      by_cases he : p.1 = x
      · rw [if_pos he]
        have hd : mdel (p :: m) x = m := by
          unfold mdel
          rw [List.filter_cons, if_neg (by simp [he])]
          exact mdel_none (m := m) (x := x) (fun q hq => by have := h1 q hq; omega)
        rw [hd]
        exact insert_front v (fun q hq => by have := h1 q hq; omega)
      · rw [if_neg he]
        have hd : mdel (p :: m) x = p :: mdel m x := by
          unfold mdel
          rw [List.filter_cons, if_pos (by simp [he])]
        rw [hd, List.map_cons, List.map_cons, ← ih h2]
        show (if (Lit.int .i64 x).before (Lit.int .i64 p.1) = true then _ else _) = _
        rw [if_neg (by simp [Lit.before]; omega)]
theorem put_lit (m : IM) (x : Int) (v : Value) (hr : Rise m) : (DataW.map (m.map mlit)).put (.int .i64 x) (.held v) = .map ((mput m x v).map mlit) := by
  show DataW.map (DataW.insert (mlit (x, v)) ((m.map mlit).filter (fun p => !p.1.sameKey (.int .i64 x)))) = _
  rw [filter_lit, put_list m x v hr]
theorem mput_mem {m : IM} {x : Int} {v : Value} {q : Int × Value} (h : q ∈ mput m x v) : q = (x, v) ∨ q ∈ m := by
  induction m with
  | nil => exact .inl (by simpa [mput] using h)
  | cons p m ih =>
    unfold mput at h
    split at h
    · rcases List.mem_cons.1 h with h | h
      · exact .inl h
      · exact .inr h
    · split at h
      · rcases List.mem_cons.1 h with h | h
        · exact .inl h
        · exact .inr (List.mem_cons_of_mem _ h)
      · rcases List.mem_cons.1 h with h | h
        · exact .inr (by rw [h]; exact List.mem_cons_self ..)
        · rcases ih h with h | h
          · exact .inl h
          · exact .inr (List.mem_cons_of_mem _ h)
theorem Rise.put {m : IM} (hr : Rise m) (x : Int) (v : Value) : Rise (mput m x v) := by
  induction m with
  | nil => exact List.pairwise_singleton _ _
  | cons p m ih =>
    obtain ⟨h1, h2⟩ := List.pairwise_cons.1 hr
    unfold mput
    split
    · rename_i hx
      exact List.pairwise_cons.2 ⟨fun q hq => by rcases List.mem_cons.1 hq with rfl | hq; exact hx; have := h1 q hq; show x < q.1; omega, hr⟩
    · split
      · rename_i hx he
        exact List.pairwise_cons.2 ⟨fun q hq => by have := h1 q hq; show x < q.1; omega, h2⟩
      · rename_i hx he
        exact List.pairwise_cons.2 ⟨fun q hq => by rcases mput_mem hq with rfl | hq; show p.1 < x; omega; exact h1 q hq, ih h2⟩
theorem Rise.del {m : IM} (hr : Rise m) (x : Int) : Rise (mdel m x) := hr.filter _
structure MapI (P : Program) (k : TypeId) (w : World) (b N : Nat) (m : IM) : Prop where
  own : w.ownsMap P k RV b N (.map (m.map mlit))
  rise : Rise m
section
variable {P : Program} {k t e : TypeId} {w w' : World} {b N : Nat} {m : IM}
theorem MapI.lt (h : MapI P k w b N m) : b < w.heap.size := h.own.lt
theorem MapI.kept {row : Option Nat} (h : MapI P k w b N m) (hg : w.grownBy w' row) (hne : some b ≠ row) : MapI P k w' b N m := ⟨h.own.kept hg hne, h.rise⟩
theorem MapI.later (h : MapI P k w b N m) (hb : Below w.heap.size w w') : MapI P k w' b N m := h.kept (row := none) ⟨hb.os, hb.tape, hb.output, hb.size, fun j hj _ => hb.block j hj⟩ (by intro e; cases e)
theorem MapI.setCell (h : MapI P k w b N m) {a : Addr} (ha : b ≠ a.block) (u : Value) : MapI P k (w.setCell a u) b N m := ⟨h.own.setCell ha u, h.rise⟩
theorem MapI.new (P : Program) (k : TypeId) (w : World) : MapI P k (w.alloc (.map #[] 0)) w.heap.size 0 [] := ⟨World.ownsMap_made w P k RV, List.Pairwise.nil⟩
theorem MapI.size (h : MapI P k w b N m) : m.length ≤ N := by
  have := h.own.size_le
  simpa [Maps.size] using this
theorem MapI.look2 (h : MapI P k w b N m) (hk : P.underlying k = some (.int .i64)) (ht : P.underlying t = some (.map k e)) {z : Value} (hz : (zeroValue e).run P w = .ok z w) {x : Int} (hx : (Lit.int .i64 x).wf = true) :
    (Instr.lookup t (.map (some b)) (.int .i64 x) true).run P w = .ok (.tuple #[(mget m x).getD z, .bool (mget m x).isSome]) w := by
  obtain ⟨v, ps, hr, hv⟩ := h.own.look_ok (int_keyed hk) ht hz (zd := .held z) (zp := []) rfl (key := .int .i64 x) (kl := .int .i64 x) (by simp [keyOf, hk, mapKey, hx])
  rw [has_lit] at hr
  rw [at_lit] at hv
  have : v = (mget m x).getD z := by
    simp only [RV, Option.some.injEq, Prod.mk.injEq, DataW.held.injEq] at hv
    exact hv.1
  rw [hr, this]
theorem MapI.store (h : MapI P k w b N m) (hk : P.underlying k = some (.int .i64)) (ht : P.underlying t = some (.map k e)) (hn : N < maxLen) {x : Int} (hx : (Lit.int .i64 x).wf = true) (v : Value) :
    ∃ w', (Instr.mapUpdate t (.map (some b)) (.int .i64 x) v).run P w = .ok () w' ∧ MapI P k w' b (N + 1) (mput m x v) ∧ w.grownBy w' (some b) := by
  obtain ⟨w', hr, ho, hg⟩ := h.own.update (int_keyed hk) ht hn (key := .int .i64 x) (kl := .int .i64 x) (d := .held v) (ps := []) (by simp [keyOf, hk, mapKey, hx]) rfl
  rw [put_lit m x v h.rise] at ho
  exact ⟨w', hr, ⟨ho, h.rise.put x v⟩, hg⟩
theorem MapI.drop (h : MapI P k w b N m) (hk : P.underlying k = some (.int .i64)) (ht : P.underlying t = some (.map k e)) {x : Int} (hx : (Lit.int .i64 x).wf = true) (ty : TypeId) :
    ∃ w', (Builtin.delete_ #[t, k] ty #[.map (some b), .int .i64 x]).run P w = .ok (.tuple #[]) w' ∧ MapI P k w' b N (mdel m x) ∧ w.mapTurned w' b := by
  obtain ⟨w', hr, ho, hg⟩ := h.own.drop (int_keyed hk) ht (key := .int .i64 x) (kl := .int .i64 x) (by simp [keyOf, hk, mapKey, hx]) ty
  rw [del_lit] at ho
  exact ⟨w', hr, ⟨ho, h.rise.del x⟩, hg⟩
theorem MapI.len (h : MapI P k w b N m) (ht : P.underlying t = some (.map k e)) (ty : TypeId) : (Builtin.len_ #[t] ty #[.map (some b)]).run P w = .ok (.int .i64 (m.length : Int)) w := by
  have := h.own.len ht ty
  simpa [Maps.size] using this
end
end Go.Proofs.YtnhcjadkbogioaaGreat
namespace Go.Proofs.YtnhcjadkbogioaaGreat
open Go Go.RowKit
end Go.Proofs.YtnhcjadkbogioaaGreat
namespace Go.Proofs.YtnhcjadkbogioaaGreat
open Go Go.RowKit
section
variable {P : Program} {md : Region.Mode} {ops : Array Oper} {Q : Exit → Act → World → Prop} {S : World → Prop} {i : Nat} {oi : Oper} {v : Value} {fuel : Nat} {listed : Array Bool} {a : Act} {w : World}
theorem takeH (d : Option Tmp) (hi : ops[i]? = some oi) (hd : oi.dst = d) (hs : Region.noSelect ops = true) (hf : Region.free md ops listed i = true) (hr : (Region.ready md ops listed).contains i = true)
    (hQ : ∀ c a w, Q (.panic c) (a.put oi.dst v) w → Q (.panic c) a w) (hy : YieldsIf P ops S oi v a) (hS : S w)
    (h : Go.wpAnyH P md ops Q S fuel (listed.setIfInBounds i true) (a.put d v) w) : Go.wpAnyH P md ops Q S (fuel + 1) listed a w := by
  subst hd
  exact wpAnyH_take hi hs hf hr hQ hy hS h
theorem allH (rs : List Nat) (k : Nat) (hr : Region.ready md ops listed = [k])
    (h : wpOp P ops Q k (fun a' w' => S w' ∧ Go.wpAnyH P md ops Q S fuel (listed.setIfInBounds k true) a' w') a w) : Go.wpAnyH P md ops Q S (fuel + 1) listed a w :=
  wpAnyH_all hr (by simp) (fun i hi => by
    simp only [List.mem_singleton] at hi
    subst hi
    exact h)
theorem runH {K : Act → World → Prop} {w' : World} (d : Option Tmp) (o : Oper) (ho : ops[i]? = some o) (hd : o.dst = d) (hw : Region.wanted o (yielded ops a.tmps) = true) (v : Value)
    (he : (execOp a.eval o).run P w = .ok (.value v) w') (h : K (a.put d v) w') : wpOp P ops Q i K a w := by
  subst hd
  unfold wpOp
  simp only [ho, hw, if_true]
  left
  unfold Oper.wp
  rw [he]
  exact h
theorem callH {K : Act → World → Prop} (d : Option Tmp) (o : Oper) (ho : ops[i]? = some o) (hd : o.dst = d) (f : FuncId) (args : Array Value) (hx : (execOp a.eval o).run P w = .ok (.enter f args) w) (hw : Region.wanted o (yielded ops a.tmps) = true)
    (h : Calls P f args w fun e w' => ∃ v, e = .returned v ∧ K (a.put d v) w') : wpOp P ops Q i K a w := by
  subst hd
  unfold wpOp
  simp only [ho, hw, if_true]
  left
  unfold Oper.wp
  rw [hx]
  simp only [Oper.upon]
  exact h.mono fun e w' ⟨v, he, hk⟩ => by subst he; exact hk
theorem storeH {K : Act → World → Prop} (o : Oper) (ho : ops[i]? = some o) (hd : o.dst = none) (hw : Region.wanted o (yielded ops a.tmps) = true) (ty : TypeId) (x y : Operand) (hop : o.op = .store ty x y)
    (b off : Nat) (cells : Array Value) (hx : a.eval x = .pointer (some ⟨b, off, none⟩)) (hy : a.eval y = .agg cells)
    (ht : w.there b off cells.size) (hi : (P.info? ty).map (·.size) = some cells.size) (h1 : cells.all (·.oneCell') = true)
    (h : K a (w.setCells b off cells.toList)) : wpOp P ops Q i K a w := by
  unfold wpOp
  simp only [ho, hw, if_true]
  left
  refine wp_store_mid ty x y hop b off cells hx hy ht hi h1 ?_
  rw [hd]
  exact h
theorem store1H {K : Act → World → Prop} (o : Oper) (ho : ops[i]? = some o) (hd : o.dst = none) (hw : Region.wanted o (yielded ops a.tmps) = true) (ty : TypeId) (x y : Operand) (hop : o.op = .store ty x y)
    (b off : Nat) (u v : Value) (hx : a.eval x = .pointer (some ⟨b, off, none⟩)) (hy : a.eval y = v) (hag : ∀ w, (sizeOf ty).run P w = .ok 1 w) (hna : ∀ cs, v ≠ .agg cs) (hv : v.oneCell' = true) (cz : w.cell? ⟨b, off, none⟩ = some u) (fz : w.frozen? ⟨b, off, none⟩ = false)
    (h : K a (w.setCell ⟨b, off, none⟩ v)) : wpOp P ops Q i K a w := by
  unfold wpOp
  simp only [ho, hw, if_true]
  left
  unfold Oper.wp execOp
  generalize a.eval = ρ at hx hy
  have hm : (match v with | .agg cs => cs | v => #[v]) = #[v] := by
    cases v <;> first | rfl | exact absurd rfl (hna _)
  simp only [hop, hx, hy]
  simp [go_sem, hag, hm, cz, fz, hv]
  rw [run_store P w _ v .plain hv, cz]
  simp only [fz, Bool.false_eq_true, if_false, Result.andThen_ok]
  simp only [Oper.upon]
  rw [hd]
  exact h
end
end Go.Proofs.YtnhcjadkbogioaaGreat
namespace Go.Proofs.YtnhcjadkbogioaaGreat
open Go Go.RowKit OctM BitM
theorem row_capC {w : World} {base : Nat} {e : TypeId} {size n c : Nat} {A : Option Addr} {xs : List Value} (h : w.ownsRow base e size (.slice A n c) n xs) : n ≤ c ∧ c ≤ maxLen := by
  rcases h.2 with ⟨e, h0⟩ | ⟨g, cap, cur, e, hx⟩
  · cases e; exact ⟨by omega, by simp [maxLen]⟩
  · cases e; exact ⟨hx.2.2.1, hx.2.2.2.1⟩
def farCm (g : Nat) (x : Cm) : Prop := ∀ ad, x.A = some ad → 0 < x.n → ad.block ≠ g
def lowCm (g : Nat) (x : Cm) : Prop := ∀ ad, x.A = some ad → 0 < x.n → g < ad.block
theorem lowCm.far {g b : Nat} {x : Cm} (h : lowCm g x) (hb : b ≤ g) : farCm b x := fun ad e hn => by have := h ad e hn; omega
section
variable {w w' wx : World} {g c b : Nat} {x : Cm}
theorem Blk.kept2 {cs : List Value} (h : Blk w b cs) (hG : Grown2 w w' g c) (h1 : b ≠ g) (h2 : b ≠ c) : Blk w' b cs := by
  have hlt := h.lt
  obtain ⟨t, ht⟩ := h
  exact ⟨t, (hG.block b hlt h1 h2).trans ht⟩
theorem okCm.pos (h : okCm w x) (hx : 0 < (ncs x.f).length) : 0 < x.n := by
  rw [ncs_len] at hx
  have := h.len
  omega
theorem okCm.kept2 (h : okCm w x) (h1 : farCm g x) (h2 : farCm c x) (hG : Grown2 w w' g c) : okCm w' x := by
  refine ⟨h.e8, h.p8, h.len, h.cap, h.max, fun hx => ?_⟩
  obtain ⟨b, o', e, hb, hc⟩ := h.see hx
  refine ⟨b, o', e, Nat.lt_of_lt_of_le hb hG.size, fun j hj => ?_⟩
  have n1 : b ≠ g := h1 ⟨b, o', none⟩ e (h.pos hx)
  have n2 : b ≠ c := h2 ⟨b, o', none⟩ e (h.pos hx)
  rw [World.cell?_of_block (a := ⟨b, o' + j, none⟩) (hG.block b hb n1 n2)]
  exact hc j hj
theorem okCm.low (h : okCm w x) (hg : w.heap.size ≤ g) : farCm g x := fun ad e hn => by
  have hx : 0 < (ncs x.f).length := by rw [ncs_len]; have := h.len; omega
  obtain ⟨b, o', e', hb, _⟩ := h.see hx
  rw [e] at e'
  injection e' with e'
  rw [e']
  show b ≠ g
  omega
end
structure RC (w : World) (base g b2 b3 gC : Nat) (l : List UInt8) (wx : World) (x : Cm) (a : Nat) (e : Int) : Prop where
  rd : Rd wx base g l a e
  p2 : Blk wx b2 [.pointer (some ⟨g, 0, none⟩)]
  p3 : Blk wx b3 [.pointer (some ⟨gC, 0, none⟩)]
  c : Blk wx gC (cmc x)
  ok : okCm wx x
  n31 : x.n ≤ 31
  fl : lowCm gC x
  gr : w.grownBy wx (some g)
  hg : g < w.heap.size
  h2 : w.heap.size ≤ b2
  h3 : w.heap.size ≤ b3
  hC : w.heap.size ≤ gC
  n2 : b2 ≠ gC
  n3 : b3 ≠ gC
section
variable {w wx w' : World} {base g b2 b3 gC : Nat} {l : List UInt8} {x : Cm} {a a' : Nat} {e e' : Int}
theorem RC.grow (h : RC w base g b2 b3 gC l wx x a e) (hr : Rd w' base g l a' e') (hG : wx.grownBy w' (some g)) : RC w base g b2 b3 gC l w' x a' e' := by
  have h1 := h.hg
  have h2 := h.h2
  have h3 := h.h3
  have hC := h.hC
  exact ⟨hr, h.p2.kept hG (by intro e; injection e with e; omega), h.p3.kept hG (by intro e; injection e with e; omega), h.c.kept hG (by intro e; injection e with e; omega), h.ok.kept2 (h.fl.far (by omega)) (h.fl.far (Nat.le_refl _)) (Grown2.one hG), h.n31, h.fl, h.gr.trans hG, h.hg, h.h2, h.h3, h.hC, h.n2, h.n3⟩
theorem RC.later (h : RC w base g b2 b3 gC l wx x a e) (hb : Below wx.heap.size wx w') : RC w base g b2 b3 gC l w' x a e :=
  ⟨h.rd.later hb, h.p2.later hb, h.p3.later hb, h.c.later hb, h.ok.later hb, h.n31, h.fl, grown_onto h.gr hb, h.hg, h.h2, h.h3, h.hC, h.n2, h.n3⟩
theorem RC.drew (h : RC w base g b2 b3 gC l wx x a e) : RC w base g b2 b3 gC l wx.drew x a e := h.later (Below.refl _ _).drew
theorem RC.low (h : RC w base g b2 b3 gC l wx x a e) {x' : Cm} (hA : x'.A = x.A) (hn : x'.n = x.n) : lowCm gC x' := fun ad e hn' => h.fl ad (hA ▸ e) (hn ▸ hn')
theorem RC.puts (h : RC w base g b2 b3 gC l wx x a e) (x' : Cm) (ok' : okCm wx x') (n' : x'.n ≤ 31) (fl' : lowCm gC x') (o : Nat) (vs : List Value) (ho : o + vs.length ≤ 63) (hset : (cmc x).take o ++ vs ++ (cmc x).drop (o + vs.length) = cmc x') :
    RC w base g b2 b3 gC l (wx.setCells gC o vs) x' a e ∧ Grown2 wx (wx.setCells gC o vs) g gC := by
  have h1 := h.hg
  have hC := h.hC
  have hG : Grown2 wx (wx.setCells gC o vs) g gC := Grown2.two (grown_sets gC vs o wx)
  have B := h.c.sets vs o (by rw [cmc_len h.ok.e8 h.ok.p8]; exact ho)
  rw [hset] at B
  exact ⟨⟨h.rd.sets2 (by omega), h.p2.kept2 hG (by have := h.h2; omega) h.n2, h.p3.kept2 hG (by have := h.h3; omega) h.n3, B, ok'.kept2 (fl'.far (by omega)) (fl'.far (Nat.le_refl _)) hG, n', fl', (Grown2.trans (Grown2.one h.gr) hG).grown hC, h.hg, h.h2, h.h3, h.hC, h.n2, h.n3⟩, hG⟩
theorem RC.put (h : RC w base g b2 b3 gC l wx x a e) (x' : Cm) (ok' : okCm wx x') (n' : x'.n ≤ 31) (fl' : lowCm gC x') (j : Nat) (v : Value) (hset : (cmc x).set j v = cmc x') :
    RC w base g b2 b3 gC l (wx.setCell ⟨gC, j, none⟩ v) x' a e ∧ Grown2 wx (wx.setCell ⟨gC, j, none⟩ v) g gC := by
  have h1 := h.hg
  have hC := h.hC
  have hG : Grown2 wx (wx.setCell ⟨gC, j, none⟩ v) g gC := Grown2.two (grown_setCell wx gC j v)
  have B := h.c.set j v
  rw [hset] at B
  exact ⟨⟨h.rd.set2 (by omega), h.p2.kept2 hG (by have := h.h2; omega) h.n2, h.p3.kept2 hG (by have := h.h3; omega) h.n3, B, ok'.kept2 (fl'.far (by omega)) (fl'.far (Nat.le_refl _)) hG, n', fl', (Grown2.trans (Grown2.one h.gr) hG).grown hC, h.hg, h.h2, h.h3, h.hC, h.n2, h.n3⟩, hG⟩
theorem RC.two (h : RC w base g b2 b3 gC l wx x a e) : wx.cell? ⟨b2, 0, none⟩ = some (.pointer (some ⟨g, 0, none⟩)) ∧ wx.cell? ⟨b3, 0, none⟩ = some (.pointer (some ⟨gC, 0, none⟩)) := ⟨h.p2.cell (j := 0) rfl, h.p3.cell (j := 0) rfl⟩
theorem RC.num (h : RC w base g b2 b3 gC l wx x a e) (ha : a ≤ l.length) (hm : l.length ≤ 4000) (m : Int) (q : Nat × Nat × Int) (hq : q = numOut l a e m) (k : Int) (hk : k = (q.1 : Int)) :
    Calls Tryz.prog 33 #[.pointer (some ⟨g, 0, none⟩), .int .i64 m] wx fun r w' => r = .returned (.int .i64 k) ∧ RC w base g b2 b3 gC l w' x q.2.1 q.2.2 ∧ Grown2 wx w' g gC := by
  subst hk
  subst hq
  refine (rd_num base g l a e m wx h.rd ha (by omega)).mono ?_
  rintro r w' ⟨rfl, hr, hG⟩
  exact ⟨rfl, h.grow hr hG, Grown2.one hG⟩
theorem cm_above (base g : Nat) (l : List UInt8) (a : Nat) (e m : Int) (w : World) (h : Rd w base g l a e) (ha : a ≤ l.length) (hm : l.length ≤ 4000) :
    Calls Tryz.prog 16 #[.pointer (some ⟨g, 0, none⟩), .int .i64 m] w fun x w' => x = .returned (.int .i64 ((abvOut l a e m).1 : Nat)) ∧ Rd w' base g l (abvOut l a e m).2.1 (abvOut l a e m).2.2 ∧ w.grownBy w' (some g) := by
  have H1 := hid (rd_num base g l a e m w h ha (by omega))
  unfold abvOut
  simp only
  obtain ⟨r1, hr1⟩ : ∃ r, r = numOut l a e m := ⟨_, rfl⟩
  rw [← hr1] at H1 ⊢
  obtain ⟨v1, a1, e1⟩ := r1
  simp only at H1 ⊢
  have HF := hid (fun wx (hx : Rd wx base g l a1 e1) => rd_fail base g l a1 e1 3 wx hx)
  clear hr1
  by_cases c1 : v1 = 0
  · subst c1
    rw [if_pos rfl]
    have HK := hid (show ((0 : Nat) : Int) = 0 from rfl)
    obtain ⟨k, hk⟩ : ∃ k : Int, k = ((0 : Nat) : Int) := ⟨_, rfl⟩
    rw [← hk] at H1 ⊢
    have t1 : (k == 0) = true := by rw [hk]; rfl
    clear hk
    go_enter Tryz.func16, Tryz.ntmps16
    go_wp2_with fail
    refine H1.out.mono ?_
    rintro x w1 ⟨rfl, R1, G1⟩
    go_wp2_with fail
    refine (HF.out _ R1).mono ?_
    rintro x w2 ⟨rfl, R2, G2⟩
    go_wp2_with fail
    go_ret
    exact ⟨rfl, R2, G1.trans G2⟩
  · rw [if_neg c1]
    obtain ⟨k, hk⟩ : ∃ k : Int, k = (v1 : Int) := ⟨_, rfl⟩
    have t1 : (k == 0) = false := by rw [hk]; simpa using c1
    rw [← hk] at H1 ⊢
    clear hk c1
    go_enter Tryz.func16, Tryz.ntmps16
    go_wp2_with fail
    refine H1.out.mono ?_
    rintro x w1 ⟨rfl, R1, G1⟩
    go_wp2_with fail
    go_ret
    exact ⟨rfl, R1, G1⟩
theorem RC.abv (h : RC w base g b2 b3 gC l wx x a e) (ha : a ≤ l.length) (hm : l.length ≤ 4000) (m : Int) (q : Nat × Nat × Int) (hq : q = abvOut l a e m) (k : Int) (hk : k = (q.1 : Int)) :
    Calls Tryz.prog 16 #[.pointer (some ⟨g, 0, none⟩), .int .i64 m] wx fun r w' => r = .returned (.int .i64 k) ∧ RC w base g b2 b3 gC l w' x q.2.1 q.2.2 ∧ Grown2 wx w' g gC := by
  subst hk
  subst hq
  refine (cm_above base g l a e m wx h.rd ha hm).mono ?_
  rintro r w' ⟨rfl, hr, hG⟩
  exact ⟨rfl, h.grow hr hG, Grown2.one hG⟩
theorem RC.edit (h : RC w base g b2 b3 gC l wx x a e) (ha : a ≤ l.length) (hm : l.length ≤ 4000) (q : (Int × Int × Int × Int × Int × List V3) × Nat × Int) (hq : q = editOut l a e) (cs : Array Value) (hk : cs = (ec6 q.1).toArray) :
    Calls Tryz.prog 36 #[.pointer (some ⟨g, 0, none⟩)] wx fun r w' => r = .returned (.agg cs) ∧ RC w base g b2 b3 gC l w' x q.2.1 q.2.2 ∧ Grown2 wx w' g gC := by
  subst hk
  subst hq
  refine (rd_edit base g l a e wx h.rd ha hm).mono ?_
  rintro r w' ⟨rfl, hr, hG⟩
  exact ⟨rfl, h.grow hr hG, Grown2.one hG⟩
theorem RC.patch (h : RC w base g b2 b3 gC l wx x a e) (ha : a ≤ l.length) (hm : l.length ≤ 4000) (q : (Int × Int × List V3) × Nat × Int) (hq : q = patOut l a e) (cs : Array Value) (hk : cs = (pc3 q.1).toArray) :
    Calls Tryz.prog 39 #[.pointer (some ⟨g, 0, none⟩)] wx fun r w' => r = .returned (.agg cs) ∧ RC w base g b2 b3 gC l w' x q.2.1 q.2.2 ∧ Grown2 wx w' g gC := by
  subst hk
  subst hq
  refine (rd_patch base g l a e wx h.rd ha hm).mono ?_
  rintro r w' ⟨rfl, hr, hG⟩
  exact ⟨rfl, h.grow hr hG, Grown2.one hG⟩
theorem RC.filt (h : RC w base g b2 b3 gC l wx x a e) (ha : a ≤ l.length) (hm : l.length ≤ 4000) (q : List Nd × Nat × Int) (hq : q = filtOut l a e) (n : Nat) (hn : n = q.1.length) :
    Calls Tryz.prog 41 #[.pointer (some ⟨g, 0, none⟩)] wx fun r w' => ∃ A c, r = .returned (.slice A n c) ∧ okCm w' { x with A := A, n := n, c := c, f := q.1 } ∧ lowCm gC { x with A := A, n := n, c := c, f := q.1 } ∧ RC w base g b2 b3 gC l w' x q.2.1 q.2.2 ∧ Grown2 wx w' g gC := by
  subst hn
  subst hq
  have hlt := h.c.lt
  have hlt2 := h.rd.block.2
  refine (rd_filter base g l a e wx h.rd ha hm).mono ?_
  rintro r w' ⟨⟨A, c, rfl, ho⟩, hr, hG⟩
  refine ⟨A, c, rfl, ?_, ?_, h.grow hr hG, Grown2.one hG⟩
  · have hc := row_capC ho
    exact ⟨h.ok.e8, h.ok.p8, rfl, hc.1, hc.2, row_sees ho⟩
  · intro ad e hp
    have e' : A = some ad := e
    have := (World.ownsRow.lt ho ad.block (by rw [e']; rfl)).1
    omega
end
section
variable {w wx : World} {base g b2 b3 gC : Nat} {l : List UInt8} {x : Cm} {a : Nat} {e : Int}
theorem tk_req (h : RC w base g b2 b3 gC l wx x a e) (ha : a ≤ l.length) (hm : l.length ≤ 4000) :
    Calls Tryz.prog 34 #[.pointer (some ⟨b2, 0, none⟩), .pointer (some ⟨b3, 0, none⟩)] wx fun r w' => r = .returned (.tuple #[]) ∧ RC w base g b2 b3 gC l w' { x with dv := ((numOut l a e 5).1 : Int), rq := ((abvOut l (numOut l a e 5).2.1 (numOut l a e 5).2.2 1099511627776).1 : Int) } (abvOut l (numOut l a e 5).2.1 (numOut l a e 5).2.2 1099511627776).2.1 (abvOut l (numOut l a e 5).2.1 (numOut l a e 5).2.2 1099511627776).2.2 ∧ Grown2 wx w' g gC := by
  have HR := h
  have HG := Grown2.refl wx g gC
  clear h
  obtain ⟨q1, hq1⟩ : ∃ q, q = numOut l a e 5 := ⟨_, rfl⟩
  obtain ⟨k1, hk1⟩ : ∃ k : Int, k = (q1.1 : Int) := ⟨_, rfl⟩
  obtain ⟨q2, hq2⟩ : ∃ q, q = abvOut l q1.2.1 q1.2.2 1099511627776 := ⟨_, rfl⟩
  obtain ⟨k2, hk2⟩ : ∃ k : Int, k = (q2.1 : Int) := ⟨_, rfl⟩
  have at1 : q1.2.1 ≤ l.length := by rw [hq1]; exact numOut_at _ _ _ _ ha
  rw [← hq1, ← hq2, ← hk1, ← hk2]
  have EQ1 := hid hq1
  have HK1 := hid hk1
  have EQ2 := hid hq2
  have HK2 := hid hk2
  clear hq1 hq2 hk1 hk2
  go_enter Tryz.func34, Tryz.ntmps34
  refine wp_region_held (S := fun wz => wz.cell? ⟨b2, 0, none⟩ = some (.pointer (some ⟨g, 0, none⟩)) ∧ wz.cell? ⟨b3, 0, none⟩ = some (.pointer (some ⟨gC, 0, none⟩))) (by kernel_rfl) ?_
  show Go.wpAnyH Tryz.prog Region.Mode.any _ _ _ _ _ _ wx.drew
  have HR := HR.drew
  have HG := Grown2.trans HG (Grown2.none_ (Below.refl wx.heap.size wx).drew)
  have hS := HR.two
  generalize wx.drew = wd at HR HG hS ⊢
  refine takeH (i := 0) (oi := _) (v := (.pointer (some ⟨gC, 0, none⟩))) (fuel := 11) (some 2) rfl rfl (by kernel_rfl) (by kernel_rfl) (by kernel_rfl) (fun _ _ _ h => h) (.inl ⟨by rfl, fun wz hS => by simp [go_sem, hS.2]⟩) hS ?_
  simp only [pq4]
  refine takeH (i := 1) (oi := _) (v := (.pointer (some ⟨gC, 0, none⟩))) (fuel := 10) (some 3) rfl rfl (by kernel_rfl) (by kernel_rfl) (by kernel_rfl) (fun _ _ _ h => h) (.inl ⟨by rfl, fun wz hS => by simp [go_sem, hS.2]⟩) hS ?_
  simp only [pq4]
  refine takeH (i := 2) (oi := _) (v := (.pointer (some ⟨g, 0, none⟩))) (fuel := 9) (some 4) rfl rfl (by kernel_rfl) (by kernel_rfl) (by kernel_rfl) (fun _ _ _ h => h) (.inl ⟨by rfl, fun wz hS => by simp [go_sem, hS.1]⟩) hS ?_
  simp only [pq4]
  refine takeH (i := 4) (oi := _) (v := (.pointer (some ⟨g, 0, none⟩))) (fuel := 8) (some 6) rfl rfl (by kernel_rfl) (by kernel_rfl) (by kernel_rfl) (fun _ _ _ h => h) (.inl ⟨by rfl, fun wz hS => by simp [go_sem, hS.1]⟩) hS ?_
  simp only [pq4]
  refine allH [3] 3 (fuel := 7) (by kernel_rfl) ?_
  refine callH (some 5) _ rfl rfl 33 #[.pointer (some ⟨g, 0, none⟩), .int .i64 5] (by simp [go_sem]) (by rfl) ?_
  refine (HR.num ha hm 5 q1 EQ1.out k1 HK1.out).mono ?_
  rintro r w1 ⟨rfl, HR1, HG1⟩
  have HG := HG.trans HG1
  have HR := HR1
  clear HR1 HG1
  have hS := HR.two
  refine ⟨_, rfl, hS, ?_⟩
  simp only [pq4]
  refine allH [5] 5 (fuel := 6) (by kernel_rfl) ?_
  refine callH (some 7) _ rfl rfl 16 #[.pointer (some ⟨g, 0, none⟩), .int .i64 1099511627776] (by simp [go_sem]) (by rfl) ?_
  refine (HR.abv at1 hm 1099511627776 q2 EQ2.out k2 HK2.out).mono ?_
  rintro r w2 ⟨rfl, HR1, HG1⟩
  have HG := HG.trans HG1
  have HR := HR1
  clear HR1 HG1
  have hS := HR.two
  refine ⟨_, rfl, hS, ?_⟩
  simp only [pq4]
  refine takeH (i := 6) (oi := _) (v := (.pointer (some ⟨gC, 0, none⟩))) (fuel := 5) (some 8) rfl rfl (by kernel_rfl) (by kernel_rfl) (by kernel_rfl) (fun _ _ _ h => h) (.inl ⟨by rfl, fun wz hS => by simp [go_sem]⟩) hS ?_
  simp only [pq4]
  refine takeH (i := 7) (oi := _) (v := (.pointer (some ⟨gC, 30, none⟩))) (fuel := 4) (some 9) rfl rfl (by kernel_rfl) (by kernel_rfl) (by kernel_rfl) (fun _ _ _ h => h) (.inl ⟨by rfl, fun wz hS => by simp [go_sem]⟩) hS ?_
  simp only [pq4]
  have cz := HR.c.cell (cm_at HR.ok.e8 HR.ok.p8).2.1
  have fz := HR.c.frozen 30
  obtain ⟨HR1, HG1⟩ := HR.put { x with dv := k1 } ⟨HR.ok.e8, HR.ok.p8, HR.ok.len, HR.ok.cap, HR.ok.max, HR.ok.see⟩ (HR.n31) (HR.low rfl rfl) 30 (.int .i64 k1) (cm_sets HR.ok.e8 HR.ok.p8 k1 0#32).2.1
  have hS := HR1.two
  refine allH [8] 8 (fuel := 3) (by kernel_rfl) ?_
  refine store1H _ rfl rfl (by rfl) 3 (.tmp 9) (.tmp 5) rfl gC 30 _ (.int .i64 k1) rfl rfl (fun w => by kernel_rfl) (fun cs => by simp) rfl cz fz ⟨hS, ?_⟩
  have HG := HG.trans HG1
  have HR := HR1
  clear HR1 HG1 cz fz
  generalize w2.setCell ⟨gC, 30, none⟩ (.int .i64 k1) = w3 at HR HG hS ⊢
  refine takeH (i := 9) (oi := _) (v := (.pointer (some ⟨gC, 0, none⟩))) (fuel := 2) (some 10) rfl rfl (by kernel_rfl) (by kernel_rfl) (by kernel_rfl) (fun _ _ _ h => h) (.inl ⟨by rfl, fun wz hS => by simp [go_sem]⟩) hS ?_
  simp only [pq4]
  refine takeH (i := 10) (oi := _) (v := (.pointer (some ⟨gC, 31, none⟩))) (fuel := 1) (some 11) rfl rfl (by kernel_rfl) (by kernel_rfl) (by kernel_rfl) (fun _ _ _ h => h) (.inl ⟨by rfl, fun wz hS => by simp [go_sem]⟩) hS ?_
  simp only [pq4]
  have cz := HR.c.cell (cm_at HR.ok.e8 HR.ok.p8).2.2.1
  have fz := HR.c.frozen 31
  obtain ⟨HR1, HG1⟩ := HR.put { x with dv := k1, rq := k2 } ⟨HR.ok.e8, HR.ok.p8, HR.ok.len, HR.ok.cap, HR.ok.max, HR.ok.see⟩ (HR.n31) (HR.low rfl rfl) 31 (.int .i64 k2) (cm_sets HR.ok.e8 HR.ok.p8 k2 0#32).2.2.1
  have hS := HR1.two
  refine allH [11] 11 (fuel := 0) (by kernel_rfl) ?_
  refine store1H _ rfl rfl (by rfl) 3 (.tmp 11) (.tmp 7) rfl gC 31 _ (.int .i64 k2) rfl rfl (fun w => by kernel_rfl) (fun cs => by simp) rfl cz fz ⟨hS, ?_⟩
  have HG := HG.trans HG1
  have HR := HR1
  clear HR1 HG1 cz fz
  generalize w3.setCell ⟨gC, 31, none⟩ (.int .i64 k2) = w4 at HR HG hS ⊢
  refine wpAnyH_done (by kernel_rfl) ?_ 0
  go_end0
  exact ⟨rfl, HR, HG⟩
theorem tk_keep (h : RC w base g b2 b3 gC l wx x a e) (ha : a ≤ l.length) (hm : l.length ≤ 4000) :
    Calls Tryz.prog 37 #[.pointer (some ⟨b2, 0, none⟩), .pointer (some ⟨b3, 0, none⟩)] wx fun r w' => r = .returned (.tuple #[]) ∧ RC w base g b2 b3 gC l w' { x with kp := ((numOut l a e 1099511627776).1 : Int) } (numOut l a e 1099511627776).2.1 (numOut l a e 1099511627776).2.2 ∧ Grown2 wx w' g gC := by
  have HR := h
  have HG := Grown2.refl wx g gC
  clear h
  obtain ⟨q1, hq1⟩ : ∃ q, q = numOut l a e 1099511627776 := ⟨_, rfl⟩
  obtain ⟨k1, hk1⟩ : ∃ k : Int, k = (q1.1 : Int) := ⟨_, rfl⟩
  rw [← hq1, ← hk1]
  have EQ1 := hid hq1
  have HK1 := hid hk1
  clear hq1 hk1
  go_enter Tryz.func37, Tryz.ntmps37
  refine wp_region_held (S := fun wz => wz.cell? ⟨b2, 0, none⟩ = some (.pointer (some ⟨g, 0, none⟩)) ∧ wz.cell? ⟨b3, 0, none⟩ = some (.pointer (some ⟨gC, 0, none⟩))) (by kernel_rfl) ?_
  show Go.wpAnyH Tryz.prog Region.Mode.any _ _ _ _ _ _ wx.drew
  have HR := HR.drew
  have HG := Grown2.trans HG (Grown2.none_ (Below.refl wx.heap.size wx).drew)
  have hS := HR.two
  generalize wx.drew = wd at HR HG hS ⊢
  refine takeH (i := 0) (oi := _) (v := (.pointer (some ⟨gC, 0, none⟩))) (fuel := 5) (some 2) rfl rfl (by kernel_rfl) (by kernel_rfl) (by kernel_rfl) (fun _ _ _ h => h) (.inl ⟨by rfl, fun wz hS => by simp [go_sem, hS.2]⟩) hS ?_
  simp only [pq4]
  refine takeH (i := 1) (oi := _) (v := (.pointer (some ⟨g, 0, none⟩))) (fuel := 4) (some 3) rfl rfl (by kernel_rfl) (by kernel_rfl) (by kernel_rfl) (fun _ _ _ h => h) (.inl ⟨by rfl, fun wz hS => by simp [go_sem, hS.1]⟩) hS ?_
  simp only [pq4]
  refine allH [2] 2 (fuel := 3) (by kernel_rfl) ?_
  refine callH (some 4) _ rfl rfl 33 #[.pointer (some ⟨g, 0, none⟩), .int .i64 1099511627776] (by simp [go_sem]) (by rfl) ?_
  refine (HR.num ha hm 1099511627776 q1 EQ1.out k1 HK1.out).mono ?_
  rintro r w1 ⟨rfl, HR1, HG1⟩
  have HG := HG.trans HG1
  have HR := HR1
  clear HR1 HG1
  have hS := HR.two
  refine ⟨_, rfl, hS, ?_⟩
  simp only [pq4]
  refine takeH (i := 3) (oi := _) (v := (.pointer (some ⟨gC, 0, none⟩))) (fuel := 2) (some 5) rfl rfl (by kernel_rfl) (by kernel_rfl) (by kernel_rfl) (fun _ _ _ h => h) (.inl ⟨by rfl, fun wz hS => by simp [go_sem]⟩) hS ?_
  simp only [pq4]
  refine takeH (i := 4) (oi := _) (v := (.pointer (some ⟨gC, 34, none⟩))) (fuel := 1) (some 6) rfl rfl (by kernel_rfl) (by kernel_rfl) (by kernel_rfl) (fun _ _ _ h => h) (.inl ⟨by rfl, fun wz hS => by simp [go_sem]⟩) hS ?_
  simp only [pq4]
  have cz := HR.c.cell (cm_at HR.ok.e8 HR.ok.p8).2.2.2.2.2.1
  have fz := HR.c.frozen 34
  obtain ⟨HR1, HG1⟩ := HR.put { x with kp := k1 } ⟨HR.ok.e8, HR.ok.p8, HR.ok.len, HR.ok.cap, HR.ok.max, HR.ok.see⟩ (HR.n31) (HR.low rfl rfl) 34 (.int .i64 k1) (cm_sets HR.ok.e8 HR.ok.p8 k1 0#32).2.2.2.2.2.1
  have hS := HR1.two
  refine allH [5] 5 (fuel := 0) (by kernel_rfl) ?_
  refine store1H _ rfl rfl (by rfl) 3 (.tmp 6) (.tmp 4) rfl gC 34 _ (.int .i64 k1) rfl rfl (fun w => by kernel_rfl) (fun cs => by simp) rfl cz fz ⟨hS, ?_⟩
  have HG := HG.trans HG1
  have HR := HR1
  clear HR1 HG1 cz fz
  generalize w1.setCell ⟨gC, 34, none⟩ (.int .i64 k1) = w2 at HR HG hS ⊢
  refine wpAnyH_done (by kernel_rfl) ?_ 0
  go_end0
  exact ⟨rfl, HR, HG⟩
end
end Go.Proofs.YtnhcjadkbogioaaGreat
