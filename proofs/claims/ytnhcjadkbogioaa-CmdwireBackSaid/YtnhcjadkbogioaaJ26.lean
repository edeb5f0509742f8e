/- Filters as bytes: what was put is read, and what is read was put: mathematics. -/
import Derived.Test.YtnhcjadkbogioaaJ25
import Derived.Test.YtnhcjadkbogioaaJ8
import Derived.Test.YtnhcjadkbogioaaJ23
import Derived.Test.YtnhcjadkbogioaaJ24
import Derived.Maps.OwnSet
import Derived.Below
import Derived.Test.YtnhcjadkbogioaaJ12
import Derived.Deep.RegionLaw
import Derived.Test.YtnhcjadkbogioaaJ3
import Derived.OrdersHeld
set_option linter.unusedVariables false
set_option linter.unusedSimpArgs false
namespace Go.Proofs.Ytnhcjadkbogioaa
open Go Go.RowKit OctM
theorem nok_parts {n : Nd} (h : nok n = true) : 1 ≤ n.1 ∧ n.1 ≤ 12 ∧ (hasN n.1 = true → 0 ≤ n.2.1 ∧ n.2.1 ≤ npm n.1) ∧ (hasN n.1 = false → n.2.1 = 0) ∧ (hasV n.1 = true → vchk n.2.2 = true) ∧ (hasV n.1 = false → n.2.2 = zv) := by
  obtain ⟨op, m, v⟩ := n
  unfold nok at h
  simp only at h ⊢
  have dN : ∀ b, hasN op = b → decide (3 ≤ op ∧ op ≤ 9) = b := fun b h => h
  have dV : ∀ b, hasV op = b → decide (6 ≤ op ∧ op ≤ 9) = b := fun b h => h
  by_cases c1 : op = 1 ∨ op = 2 ∨ op = 10 ∨ op = 11 ∨ op = 12
  · rw [if_pos c1] at h
    have h := of_decide_eq_true h
    refine ⟨by omega, by omega, fun hh => ?_, fun _ => h.1, fun hh => ?_, fun _ => h.2⟩
    · have := of_decide_eq_true (dN _ hh); omega
    · have := of_decide_eq_true (dV _ hh); omega
  · rw [if_neg c1] at h
    by_cases c2 : op = 3 ∨ op = 4
    · rw [if_pos c2] at h
      have h := of_decide_eq_true h
      refine ⟨by omega, by omega, fun _ => ⟨h.1, by unfold npm; rw [if_pos c2]; omega⟩, fun hh => ?_, fun hh => ?_, fun _ => h.2.2⟩
      · have := of_decide_eq_false (dN _ hh); omega
      · have := of_decide_eq_true (dV _ hh); omega
    · rw [if_neg c2] at h
      have p7 : hasN op = true → npm op = 7 := fun hh => by unfold npm; rw [if_neg c2, if_pos hh]
      by_cases c3 : op = 5
      · rw [if_pos c3] at h
        have h := of_decide_eq_true h
        refine ⟨by omega, by omega, fun hh => ⟨h.1, by rw [p7 hh]; omega⟩, fun hh => ?_, fun hh => ?_, fun _ => h.2.2⟩
        · have := of_decide_eq_false (dN _ hh); omega
        · have := of_decide_eq_true (dV _ hh); omega
      · rw [if_neg c3] at h
        by_cases c4 : op = 6 ∨ op = 7 ∨ op = 8
        · rw [if_pos c4] at h
          have h := of_decide_eq_true h
          refine ⟨by omega, by omega, fun hh => ⟨h.1, by rw [p7 hh]; omega⟩, fun hh => ?_, fun _ => h.2.2.1, fun hh => ?_⟩
          · have := of_decide_eq_false (dN _ hh); omega
          · have := of_decide_eq_false (dV _ hh); omega
        · rw [if_neg c4] at h
          by_cases c5 : op = 9
          · rw [if_pos c5] at h
            have h := of_decide_eq_true h
            refine ⟨by omega, by omega, fun hh => ⟨h.1, by rw [p7 hh]; omega⟩, fun hh => ?_, fun _ => h.2.2.1, fun hh => ?_⟩
            · have := of_decide_eq_false (dN _ hh); omega
            · have := of_decide_eq_false (dV _ hh); omega
          · rw [if_neg c5] at h; cases h
theorem npm_small (op : Int) : npm op ≤ 15 := by
  unfold npm
  split
  · omega
  · split <;> omega
theorem nodeOut_put (pre rest : List UInt8) (n : Nd) (h : nok n = true) : nodeOut (pre ++ (nbs n ++ rest)) pre.length = (n, pre.length + (nbs n).length, 0) := by
  obtain ⟨h1, h2, h3, h4, h5, h6⟩ := nok_parts h
  obtain ⟨op, m, v⟩ := n
  simp only at h1 h2 h3 h4 h5 h6
  obtain ⟨bn, hbn⟩ : ∃ z, z = (if hasN op = true then enc (held m) else []) := ⟨_, rfl⟩
  obtain ⟨bv, hbv⟩ : ∃ z, z = (if hasV op = true then vbs v else []) := ⟨_, rfl⟩
  have hb : nbs (op, m, v) = enc (held op) ++ (bn ++ bv) := by unfold nbs; rw [hbn, hbv]
  have ho : ((held op : Nat) : Int) = op := held_self (by omega) (by omega)
  obtain ⟨l, hl⟩ : ∃ l, l = pre ++ (nbs (op, m, v) ++ rest) := ⟨_, rfl⟩
  have hl1 : l = pre ++ (enc (held op) ++ (bn ++ (bv ++ rest))) := by rw [hl, hb]; simp only [List.append_assoc]
  have n1 := num_put pre (bn ++ (bv ++ rest)) (held op) 12 (held_le op) (by rw [ho]; exact h2)
  rw [← hl1] at n1
  have kA : ndA l pre.length = held op := by unfold ndA; rw [n1]
  have kA2 : naA l pre.length = pre.length + (enc (held op)).length := by unfold naA; rw [n1]
  have kE : neA l pre.length = 0 := by unfold neA; rw [kA, if_neg (by omega), n1]
  have kB : nB l pre.length = (held m, pre.length + (enc (held op)).length + bn.length, 0) := by
    unfold nB
    rw [kA, ho, kA2, kE]
    by_cases hN : hasN op = true
    · rw [if_pos hN]
      rw [if_pos hN] at hbn
      obtain ⟨g1, g2⟩ := h3 hN
      have g3 := npm_small op
      have n2 := num_put (pre ++ enc (held op)) (bv ++ rest) (held m) (npm op) (held_le m) (by rw [held_self g1 (by omega)]; exact g2)
      rw [← hbn] at n2
      simp only [List.append_assoc, List.length_append] at n2
      rw [← hl1] at n2
      exact n2
    · rw [if_neg hN]
      rw [if_neg hN] at hbn
      rw [hbn, h4 (by simpa using hN)]
      rfl
  have kV : nV l pre.length = (v, pre.length + (enc (held op)).length + bn.length + bv.length, 0) := by
    unfold nV
    rw [kA, ho, kB]
    by_cases hV : hasV op = true
    · rw [if_pos hV]
      rw [if_pos hV] at hbv
      have n3 := valOut_put (pre ++ enc (held op) ++ bn) rest v (h5 hV)
      rw [← hbv] at n3
      simp only [List.append_assoc, List.length_append] at n3
      rw [← hl1] at n3
      simp only [← Nat.add_assoc] at n3
      exact n3
    · rw [if_neg hV]
      rw [if_neg hV] at hbv
      rw [hbv, h6 (by simpa using hV)]
      rfl
  have hm : ((held m : Nat) : Int) = m := by
    by_cases hN : hasN op = true
    · have := h3 hN
      have g3 := npm_small op
      exact held_self (by omega) (by omega)
    · rw [h4 (by simpa using hN)]; rfl
  have kD : ndOf l pre.length = (op, m, v) := by unfold ndOf; rw [kA, kB, kV, ho]; simp only; rw [hm]
  rw [← hl]
  unfold nodeOut
  rw [kD, if_pos h, kV, hb]
  simp only [List.length_append, Nat.add_assoc]
theorem nodes_put (pre rest : List UInt8) (ns : List Nd) (h : ∀ n ∈ ns, nok n = true) : ∀ k, k ≤ ns.length → nodesOut (pre ++ (ns.flatMap nbs ++ rest)) k pre.length = (ns.take k, pre.length + ((ns.take k).flatMap nbs).length, 0)
  | 0, _ => by simp [nodesOut]
  | k + 1, hk => by
    have hkl : k < ns.length := by omega
    have ih := nodes_put pre rest ns h k (by omega)
    rw [nodes_step (by rw [ih]), ih]
    simp only
    have e1 : ns.flatMap nbs = (ns.take k).flatMap nbs ++ (nbs ns[k] ++ (ns.drop (k + 1)).flatMap nbs) := by
      have : ns = ns.take k ++ (ns[k] :: ns.drop (k + 1)) := by rw [← List.drop_eq_getElem_cons hkl, List.take_append_drop]
      conv => lhs; rw [this]
      rw [List.flatMap_append, List.flatMap_cons]
    have e2 : pre ++ (ns.flatMap nbs ++ rest) = (pre ++ (ns.take k).flatMap nbs) ++ (nbs ns[k] ++ ((ns.drop (k + 1)).flatMap nbs ++ rest)) := by rw [e1]; simp only [List.append_assoc]
    have n1 := nodeOut_put (pre ++ (ns.take k).flatMap nbs) ((ns.drop (k + 1)).flatMap nbs ++ rest) ns[k] (h _ (List.getElem_mem hkl))
    rw [← e2, List.length_append] at n1
    rw [n1, nbs_take ns k hkl, List.take_succ_eq_append_getElem hkl, List.length_append]
    simp only [Nat.add_assoc]
theorem filt_put (pre rest : List UInt8) (ns : List Nd) (h : lchk ns = 0) : filtOut (pre ++ (lbs ns ++ rest)) pre.length 0 = (ns, pre.length + (lbs ns).length, 0) := by
  obtain ⟨h1, h2, h3, h4⟩ := lchk_ok h
  have hb : lbs ns = enc (held (ns.length : Int)) ++ ns.flatMap nbs := by unfold lbs; rw [if_pos h]
  have hpos : 0 < ns.length := by
    cases ns with
    | nil => cases h3
    | cons _ _ => simp
  have hh : held (ns.length : Int) = ns.length := by
    have := held_self (n := (ns.length : Int)) (by omega) (by omega)
    omega
  obtain ⟨l, hl⟩ : ∃ l, l = pre ++ (lbs ns ++ rest) := ⟨_, rfl⟩
  have hl1 : l = pre ++ (enc ns.length ++ (ns.flatMap nbs ++ rest)) := by rw [hl, hb, hh]; simp only [List.append_assoc]
  have n1 := num_put pre (ns.flatMap nbs ++ rest) ns.length 31 (by omega) (by omega)
  rw [← hl1] at n1
  have m1 : mny l pre.length 0 = (ns.length, pre.length + (enc ns.length).length, 0) := by
    unfold mny
    rw [n1]
    simp only
    rw [if_neg (by omega)]
  have hl2 : l = (pre ++ enc ns.length) ++ (ns.flatMap nbs ++ rest) := by rw [hl1]; simp only [List.append_assoc]
  have n2 := nodes_put (pre ++ enc ns.length) rest ns h2 ns.length (Nat.le_refl _)
  rw [← hl2, List.take_length, List.length_append] at n2
  rw [← hl]
  unfold filtOut
  rw [m1]
  simp only
  rw [if_neg (by simp), n2]
  simp only
  rw [if_neg (by simp), if_pos h, hb, hh, List.length_append, Nat.add_assoc]
theorem num_only' {l : List UInt8} {a : Nat} {m : Int} (h : (numOut l a 0 m).2.2 = 0) : (numOut l a 0 m).2.1 = a + (enc (numOut l a 0 m).1).length ∧ l.drop a = enc (numOut l a 0 m).1 ++ l.drop (numOut l a 0 m).2.1 := by
  obtain ⟨_, h1, h2, _⟩ := num_only h
  exact ⟨h1, h2⟩
theorem node_only {l : List UInt8} {a : Nat} (h : (nodeOut l a).2.2 = 0) : nok (nodeOut l a).1 = true ∧ (nodeOut l a).2.1 = a + (nbs (nodeOut l a).1).length ∧ l.drop a = nbs (nodeOut l a).1 ++ l.drop (nodeOut l a).2.1 := by
  have hk : nok (ndOf l a) = true := by
    cases hk : nok (ndOf l a) with
    | true => rfl
    | false =>
      have e : (nodeOut l a).2.2 = failOut (nV l a).2.2 3 := by unfold nodeOut; simp only; rw [if_neg (by rw [hk]; simp)]
      rw [e] at h
      unfold failOut at h
      split at h
      · cases h
      · rename_i h2; exact absurd h h2
  have e : (nodeOut l a).2.2 = (nV l a).2.2 := by unfold nodeOut; simp only; rw [if_pos hk]
  rw [e] at h
  have eB : (nB l a).2.2 = 0 := by
    by_cases hz : (nB l a).2.2 = 0
    · exact hz
    · have hv : (nV l a).2 = (nB l a).2 := by
        unfold nV
        split
        · rw [valOut_err _ _ _ hz]
        · rfl
      rw [hv] at h
      exact absurd h hz
  have eA : neA l a = 0 := by
    by_cases hz : neA l a = 0
    · exact hz
    · have hb : nB l a = (0, naA l a, neA l a) := by unfold nB; rw [neA_op hz]; rw [if_neg (by show ¬ hasN 0 = true; rw [hasN_zero]; simp)]
      rw [hb] at eB
      exact absurd eB hz
  have hop : ndA l a ≠ 0 := fun hz => neA_no hz eA
  have e0 : (numOut l a 0 12).2.2 = 0 := by unfold neA at eA; rwa [if_neg hop] at eA
  obtain ⟨a1, a2⟩ := num_only' e0
  have hop12 := ndA_le l a
  have ho : held (ndA l a : Int) = ndA l a := by
    have := held_self (n := (ndA l a : Int)) (by omega) (by omega)
    omega
  -- the number
  have hN : (nB l a).2.1 = naA l a + (if hasN (ndA l a : Int) = true then enc (held ((nB l a).1 : Int)) else []).length ∧ l.drop (naA l a) = (if hasN (ndA l a : Int) = true then enc (held ((nB l a).1 : Int)) else []) ++ l.drop (nB l a).2.1 := by
    by_cases hN : hasN (ndA l a : Int) = true
    · have hb : nB l a = numOut l (naA l a) 0 (npm (ndA l a : Int)) := by unfold nB; rw [if_pos hN, eA]
      have eB' := eB
      rw [hb] at eB'
      obtain ⟨b1, b2⟩ := num_only' eB'
      have hle := numOut_le l (naA l a) 0 (npm (ndA l a : Int)) (npm_ge _)
      have hs := npm_small (ndA l a : Int)
      rw [← hb] at b1 b2 hle
      have hh : held ((nB l a).1 : Int) = (nB l a).1 := by
        have := held_self (n := ((nB l a).1 : Int)) (by omega) (by omega)
        omega
      rw [if_pos hN, hh]
      exact ⟨b1, b2⟩
    · have hb : nB l a = (0, naA l a, neA l a) := by unfold nB; rw [if_neg hN]
      rw [if_neg hN, hb]
      exact ⟨by simp, by simp⟩
  have hV : (nV l a).2.1 = (nB l a).2.1 + (if hasV (ndA l a : Int) = true then vbs (nV l a).1 else []).length ∧ l.drop (nB l a).2.1 = (if hasV (ndA l a : Int) = true then vbs (nV l a).1 else []) ++ l.drop (nV l a).2.1 := by
    by_cases hV : hasV (ndA l a : Int) = true
    · have hv : nV l a = valOut l (nB l a).2.1 (nB l a).2.2 := by unfold nV; rw [if_pos hV]
      have h' := h
      rw [hv] at h'
      obtain ⟨_, _, b1, b2⟩ := val_only h'
      rw [← hv] at b1 b2
      rw [if_pos hV]
      exact ⟨b1, b2⟩
    · have hv : nV l a = (zv, (nB l a).2.1, (nB l a).2.2) := by unfold nV; rw [if_neg hV]
      rw [if_neg hV, hv]
      exact ⟨by simp, by simp⟩
  have hbs : nbs (ndOf l a) = enc (ndA l a) ++ ((if hasN (ndA l a : Int) = true then enc (held ((nB l a).1 : Int)) else []) ++ (if hasV (ndA l a : Int) = true then vbs (nV l a).1 else [])) := by
    unfold nbs ndOf
    simp only
    rw [ho]
  have f1 : (nodeOut l a).1 = ndOf l a := rfl
  have f2 : (nodeOut l a).2.1 = (nV l a).2.1 := rfl
  rw [f1, f2]
  refine ⟨hk, ?_, ?_⟩
  · rw [hV.1, hN.1, show naA l a = a + (enc (ndA l a)).length from a1, hbs]
    simp only [List.length_append]
    omega
  · rw [show l.drop a = enc (ndA l a) ++ l.drop (naA l a) from a2, hN.2, hV.2, hbs]
    simp only [List.append_assoc]
theorem nodes_only {l : List UInt8} {a : Nat} : ∀ k, (nodesOut l k a).2.2 = 0 → (nodesOut l k a).2.1 = a + ((nodesOut l k a).1.flatMap nbs).length ∧ l.drop a = (nodesOut l k a).1.flatMap nbs ++ l.drop (nodesOut l k a).2.1
  | 0, _ => ⟨by simp [nodesOut], by simp [nodesOut]⟩
  | k + 1, h => by
    have h0 : (nodesOut l k a).2.2 = 0 := by
      by_cases hz : (nodesOut l k a).2.2 = 0
      · exact hz
      · rw [nodes_stuck hz (k + 1) (by omega)] at h; exact absurd h hz
    obtain ⟨i1, i2⟩ := nodes_only k h0
    rw [nodes_step h0] at h ⊢
    simp only at h ⊢
    obtain ⟨_, n1, n2⟩ := node_only h
    rw [List.flatMap_append]
    refine ⟨?_, ?_⟩
    · rw [n1, i1]; simp; omega
    · conv => lhs; rw [i2, n2]
      simp
theorem filt_only {l : List UInt8} {a : Nat} {e : Int} (h : (filtOut l a e).2.2 = 0) : e = 0 ∧ lchk (filtOut l a e).1 = 0 ∧ (filtOut l a e).2.1 = a + (lbs (filtOut l a e).1).length ∧ l.drop a = lbs (filtOut l a e).1 ++ l.drop (filtOut l a e).2.1 := by
  have h1 : (mny l a e).2.2 = 0 := by
    by_cases hz : (mny l a e).2.2 = 0
    · exact hz
    · unfold filtOut at h; rw [if_pos hz] at h; exact absurd h hz
  have h2 : (nodesOut l (mny l a e).1 (mny l a e).2.1).2.2 = 0 := by
    by_cases hz : (nodesOut l (mny l a e).1 (mny l a e).2.1).2.2 = 0
    · exact hz
    · unfold filtOut at h; rw [if_neg (by rw [h1]; simp), if_pos hz] at h; exact absurd h hz
  have h3 : lchk (nodesOut l (mny l a e).1 (mny l a e).2.1).1 = 0 := by
    by_cases hz : lchk (nodesOut l (mny l a e).1 (mny l a e).2.1).1 = 0
    · exact hz
    · unfold filtOut at h
      rw [if_neg (by rw [h1]; simp), if_neg (by rw [h2]; simp), if_neg hz] at h
      simp only at h
      split at h
      · cases h
      · exact absurd h hz
  have hq : filtOut l a e = nodesOut l (mny l a e).1 (mny l a e).2.1 := by unfold filtOut; rw [if_neg (by rw [h1]; simp), if_neg (by rw [h2]; simp), if_pos h3]
  have hlen := nodes_full (l := l) (a := (mny l a e).2.1) _ h2
  obtain ⟨i1, i2⟩ := nodes_only _ h2
  have hm0 : (numOut l a e 31).1 ≠ 0 := fun hz => mny_none (show (mny l a e).1 = 0 from hz) h1
  have hme : (numOut l a e 31).2.2 = 0 := by
    have : (mny l a e).2.2 = (numOut l a e 31).2.2 := by unfold mny; simp only; rw [if_neg hm0]
    rw [← this]; exact h1
  obtain ⟨he, g1, g2, _, _⟩ := num_only hme
  have hm31 := mny_le l a e
  have hh : held (((nodesOut l (mny l a e).1 (mny l a e).2.1).1.length : Nat) : Int) = (mny l a e).1 := by
    have := held_self (n := (((nodesOut l (mny l a e).1 (mny l a e).2.1).1.length : Nat) : Int)) (by omega) (by omega)
    omega
  have hbs : lbs (filtOut l a e).1 = enc (mny l a e).1 ++ (nodesOut l (mny l a e).1 (mny l a e).2.1).1.flatMap nbs := by
    unfold lbs
    rw [hq, if_pos h3, hh]
  refine ⟨he, by rw [hq]; exact h3, ?_, ?_⟩
  · rw [hbs, hq, i1, show (mny l a e).2.1 = a + (enc (mny l a e).1).length from g1, List.length_append]; omega
  · rw [hbs, hq, List.append_assoc, ← i2]
    exact g2
end Go.Proofs.Ytnhcjadkbogioaa
namespace Go.Proofs.Ytnhcjadkbogioaa
open Go Go.RowKit OctM BitM
def cab (x : Cm) : Cm := { x with A := none, n := 0, c := 0 }
theorem cab_cok {x y : Cm} (h : cab x = cab y) : cok x ↔ cok y := by
  have e : cok (cab x) ↔ cok (cab y) := by rw [h]
  exact e
theorem cab_bytes (x : Cm) : putC (cab x) = putC x := by
  have e : cok (cab x) ↔ cok x := Iff.rfl
  unfold putC
  by_cases h : cok x
  · rw [if_pos h, if_pos (e.2 h)]; rfl
  · rw [if_neg h, if_neg (fun h' => h (e.1 h'))]
theorem cab_csm {x y : Cm} (h : cab x = cab y) : csm x y := by
  have e : csm (cab x) (cab y) := by rw [h]; exact csm_self _
  exact e
def u32 (z : Int) : BitVec 32 := BitVec.ofNat 32 z.toNat
theorem u32_nat (x : BitVec 32) : u32 (x.toNat : Int) = x := by simp [u32]
theorem u32_to {z : Int} (h0 : 0 ≤ z) (h1 : z < 4294967296) : ((u32 z).toNat : Int) = z := by
  unfold u32
  rw [BitVec.toNat_ofNat, Nat.mod_eq_of_lt (by omega)]
  omega
def edCm (t : Int × Int × Int × Int × Int × List V3) (x : Cm) : Cm := { x with ek := t.1, eid := t.2.1, eg := t.2.2.1, em := u32 t.2.2.2.1, el := u32 t.2.2.2.2.1, ef := t.2.2.2.2.2 }
def ptCm (t : Int × Int × List V3) (x : Cm) : Cm := { x with pm := u32 t.1, pl := u32 t.2.1, pf := t.2.2 }
section
variable (l : List UInt8) (a : Nat) (e : Int)
def roA : Nat × Nat × Int := abvOut l a e 5
def roE : (Int × Int × Int × Int × Int × List V3) × Nat × Int := editOut l (roA l a e).2.1 (roA l a e).2.2
def roT : Nat × Nat × Int := numOut l (roA l a e).2.1 (roA l a e).2.2 1099511627776
def roD : Nat × Nat × Int := numOut l (roA l a e).2.1 (roA l a e).2.2 5
def roR : Nat × Nat × Int := abvOut l (roD l a e).2.1 (roD l a e).2.2 1099511627776
def roI : Nat × Nat × Int := abvOut l (roR l a e).2.1 (roR l a e).2.2 1073741823
def roB : Nat × Nat × Int := abvOut l (roI l a e).2.1 (roI l a e).2.2 1099511627776
def roP : (Int × Int × List V3) × Nat × Int := patOut l (roB l a e).2.1 (roB l a e).2.2
def roF : List Nd × Nat × Int := filtOut l (roR l a e).2.1 (roR l a e).2.2
def roM : Nat × Nat × Int := numOut l (roF l a e).2.1 (roF l a e).2.2 511
def rx1 : Cm := edCm (roE l a e).1 { zcm with kd := 1 }
def rx5 : Cm := { zcm with kd := 5, kp := ((roT l a e).1 : Int) }
def rxq (k : Int) : Cm := { zcm with kd := k, dv := ((roD l a e).1 : Int), rq := ((roR l a e).1 : Int) }
def rx2 : Cm := ptCm (roP l a e).1 { rxq l a e 2 with id := ((roI l a e).1 : Int), bs := ((roB l a e).1 : Int) }
def rx3 : Cm := { rxq l a e 3 with f := (roF l a e).1, ms := BitVec.ofNat 32 (roM l a e).1 }
def roRaw : Cm × Nat × Int :=
  if (roA l a e).1 = 1 then (rx1 l a e, (roE l a e).2)
  else if (roA l a e).1 = 5 then (rx5 l a e, (roT l a e).2)
  else if (roA l a e).1 = 2 then (rx2 l a e, (roP l a e).2)
  else if (roA l a e).1 = 3 then (rx3 l a e, (roM l a e).2)
  else if (roA l a e).1 = 4 then (rxq l a e 4, (roR l a e).2)
  else (zcm, (roA l a e).2)
def cmOut : Cm × Nat × Int := (if (roRaw l a e).2.2 = 0 then (roRaw l a e).1 else zcm, (roRaw l a e).2)
end
section
variable {l : List UInt8} {a : Nat} {e : Int}
theorem roA_le : ((roA l a e).1 : Int) ≤ 5 := numOut_le l a e 5 (by omega)
theorem ro_1 (h : (roA l a e).1 = 1) : roRaw l a e = (rx1 l a e, (roE l a e).2) := by unfold roRaw; rw [if_pos h]
theorem ro_5 (h : (roA l a e).1 = 5) : roRaw l a e = (rx5 l a e, (roT l a e).2) := by unfold roRaw; rw [if_neg (by omega), if_pos h]
theorem ro_2 (h : (roA l a e).1 = 2) : roRaw l a e = (rx2 l a e, (roP l a e).2) := by unfold roRaw; rw [if_neg (by omega), if_neg (by omega), if_pos h]
theorem ro_3 (h : (roA l a e).1 = 3) : roRaw l a e = (rx3 l a e, (roM l a e).2) := by unfold roRaw; rw [if_neg (by omega), if_neg (by omega), if_neg (by omega), if_pos h]
theorem ro_4 (h : (roA l a e).1 = 4) : roRaw l a e = (rxq l a e 4, (roR l a e).2) := by unfold roRaw; rw [if_neg (by omega), if_neg (by omega), if_neg (by omega), if_neg (by omega), if_pos h]
theorem ro_0 (h : (roA l a e).1 = 0) : roRaw l a e = (zcm, (roA l a e).2) := by unfold roRaw; rw [if_neg (by omega), if_neg (by omega), if_neg (by omega), if_neg (by omega), if_neg (by omega)]
theorem roA_0 (h : (roA l a e).1 = 0) : (roA l a e).2.2 ≠ 0 := fun h0 => (abv_only h0).2.1 h
theorem roA_cases : (roA l a e).1 = 0 ∨ (roA l a e).1 = 1 ∨ (roA l a e).1 = 2 ∨ (roA l a e).1 = 3 ∨ (roA l a e).1 = 4 ∨ (roA l a e).1 = 5 := by
  have := roA_le (l := l) (a := a) (e := e)
  omega
theorem ro_at (h : a ≤ l.length) : (roA l a e).2.1 ≤ l.length ∧ (roE l a e).2.1 ≤ l.length ∧ (roT l a e).2.1 ≤ l.length ∧ (roD l a e).2.1 ≤ l.length ∧ (roR l a e).2.1 ≤ l.length ∧ (roI l a e).2.1 ≤ l.length ∧ (roB l a e).2.1 ≤ l.length ∧ (roP l a e).2.1 ≤ l.length ∧ (roF l a e).2.1 ≤ l.length ∧ (roM l a e).2.1 ≤ l.length := by
  have hA : (roA l a e).2.1 ≤ l.length := abvOut_at _ _ _ _ h
  have hE : (roE l a e).2.1 ≤ l.length := editOut_at _ _ _ hA
  have hT : (roT l a e).2.1 ≤ l.length := numOut_at _ _ _ _ hA
  have hD : (roD l a e).2.1 ≤ l.length := numOut_at _ _ _ _ hA
  have hR : (roR l a e).2.1 ≤ l.length := abvOut_at _ _ _ _ hD
  have hI : (roI l a e).2.1 ≤ l.length := abvOut_at _ _ _ _ hR
  have hB : (roB l a e).2.1 ≤ l.length := abvOut_at _ _ _ _ hI
  have hP : (roP l a e).2.1 ≤ l.length := patOut_at _ _ _ hB
  have hF : (roF l a e).2.1 ≤ l.length := filt_at hR
  have hM : (roM l a e).2.1 ≤ l.length := numOut_at _ _ _ _ hF
  exact ⟨hA, hE, hT, hD, hR, hI, hB, hP, hF, hM⟩
theorem cmOut_at (h : a ≤ l.length) : (cmOut l a e).2.1 ≤ l.length := by
  obtain ⟨hA, hE, hT, hD, hR, hI, hB, hP, hF, hM⟩ := ro_at (e := e) h
  show (roRaw l a e).2.1 ≤ l.length
  rcases roA_cases (l := l) (a := a) (e := e) with k | k | k | k | k | k
  · rw [ro_0 k]; exact hA
  · rw [ro_1 k]; exact hE
  · rw [ro_2 k]; exact hP
  · rw [ro_3 k]; exact hM
  · rw [ro_4 k]; exact hR
  · rw [ro_5 k]; exact hT
theorem patB_lab (l : List UInt8) (a : Nat) (e : Int) : (patB l a e).1 ≤ 65535 := by
  unfold patB
  split
  · have := numOut_le l (patA l a e).2.1 (patA l a e).2.2 65535 (by omega)
    omega
  · exact Nat.zero_le _
theorem patOut_u32 (l : List UInt8) (a : Nat) (e : Int) : (((u32 (patOut l a e).1.1).toNat : Nat) : Int) = (patOut l a e).1.1 ∧ (((u32 (patOut l a e).1.2.1).toNat : Nat) : Int) = (patOut l a e).1.2.1 := by
  obtain ⟨x, hx⟩ := patOut_mask l a e
  have hlab : 0 ≤ (patOut l a e).1.2.1 ∧ (patOut l a e).1.2.1 ≤ 65535 := by
    unfold patOut
    have := patB_lab l a e
    simp only
    split <;> simp <;> omega
  have := x.isLt
  exact ⟨by rw [hx]; exact u32_to (by omega) (by omega), u32_to (by omega) (by omega)⟩
theorem editOut_u32 (l : List UInt8) (a : Nat) (e : Int) : (((u32 (editOut l a e).1.2.2.2.1).toNat : Nat) : Int) = (editOut l a e).1.2.2.2.1 ∧ (((u32 (editOut l a e).1.2.2.2.2.1).toNat : Nat) : Int) = (editOut l a e).1.2.2.2.2.1 := by
  unfold editOut
  simp only
  split
  · unfold edP
    split
    · exact patOut_u32 _ _ _
    · exact ⟨rfl, rfl⟩
  · exact ⟨rfl, rfl⟩
theorem held_id {n : Nat} (h : n ≤ 1099511627776) : held (n : Int) = n := by unfold held; omega
theorem edit_err0 {l : List UInt8} {a : Nat} {e : Int} (h : (editOut l a e).2.2 = 0) : e = 0 := by
  have hP : (edP l a e).2.2 = 0 := h
  have hI : (edI l a e).2.2 = 0 := by
    unfold edP at hP
    split at hP
    · exact pat_err hP
    · exact hP
  have hG : (edG l a e).2.2 = 0 := by
    unfold edI at hI
    split at hI
    · exact abv_err hI
    · exact hI
  have hA : (edA l a e).2.2 = 0 := by
    unfold edG at hG
    split at hG
    · exact (num_only hG).1
    · exact hG
  exact abv_err hA
theorem cmb_1 {x : Cm} (k : x.kd = 1) : cmb x = enc (held x.kd) ++ ebs x.ek x.eid x.eg x.em (x.el.toNat : Int) x.ef := by unfold cmb; rw [if_pos k]
theorem cmb_2 {x : Cm} (k : x.kd = 2) : cmb x = enc (held x.kd) ++ ((enc (held x.dv) ++ enc (held x.rq)) ++ ((enc (held x.id) ++ enc (held x.bs)) ++ pbs x.pm (x.pl.toNat : Int) x.pf)) := by unfold cmb; rw [if_neg (by omega), if_neg (by omega), if_pos k]
theorem cmb_3 {x : Cm} (k : x.kd = 3) : cmb x = enc (held x.kd) ++ ((enc (held x.dv) ++ enc (held x.rq)) ++ (lbs x.f ++ enc (held (x.ms.toNat : Int)))) := by unfold cmb; rw [if_neg (by omega), if_neg (by omega), if_neg (by omega), if_pos k]
theorem cmb_4 {x : Cm} (k : x.kd = 4) : cmb x = enc (held x.kd) ++ (enc (held x.dv) ++ enc (held x.rq)) := by unfold cmb; rw [if_neg (by omega), if_neg (by omega), if_neg (by omega), if_neg (by omega), List.append_nil]
theorem cmb_5 {x : Cm} (k : x.kd = 5) : cmb x = enc (held x.kd) ++ enc (held x.kp) := by unfold cmb; rw [if_neg (by omega), if_pos k]
theorem cm_only (h : (cmOut l a e).2.2 = 0) : e = 0 ∧ cok (cmOut l a e).1 ∧ l.drop a = putC (cmOut l a e).1 ++ l.drop (cmOut l a e).2.1 ∧ (cmOut l a e).2.1 = a + (putC (cmOut l a e).1).length := by
  have h' : (roRaw l a e).2.2 = 0 := h
  have h1 : (cmOut l a e).1 = (roRaw l a e).1 := by unfold cmOut; simp only; rw [if_pos h']
  have h2 : (cmOut l a e).2.1 = (roRaw l a e).2.1 := rfl
  rw [h1, h2]
  clear h1 h2 h
  rcases roA_cases (l := l) (a := a) (e := e) with k | k | k | k | k | k
  · rw [ro_0 k] at h'
    exact absurd h' (roA_0 k)
  · rw [ro_1 k] at h' ⊢
    simp only at h' ⊢
    obtain ⟨x, m1, m2, m3, m4, m5⟩ := edit_only (l := l) (a := (roA l a e).2.1) (e := (roA l a e).2.2) h'
    have hA : (roA l a e).2.2 = 0 := by
      by_cases hz : (roA l a e).2.2 = 0
      · exact hz
      · exact absurd (edit_err0 h') hz
    obtain ⟨e0, _, A2, A3, _, _⟩ := abv_only hA
    have hx : rx1 l a e = { zcm with kd := 1, ek := (roE l a e).1.1, eid := (roE l a e).1.2.1, eg := (roE l a e).1.2.2.1, em := x, el := u32 (roE l a e).1.2.2.2.2.1, ef := (roE l a e).1.2.2.2.2.2 } := by
      unfold rx1 edCm
      rw [show (roE l a e).1.2.2.2.1 = (x.toNat : Int) from m1, u32_nat]
    have hel := (editOut_u32 l (roA l a e).2.1 (roA l a e).2.2).2
    have hck : cok (rx1 l a e) := by
      rw [hx]
      refine ⟨Or.inl rfl, fun _ => ⟨?_, ⟨rfl, rfl, rfl⟩, rfl, rfl, rfl, rfl, rfl, rfl, rfl⟩, fun h => absurd (show (1 : Int) = 5 from h) (by decide), fun h => absurd (show (1 : Int) = 2 ∨ (1 : Int) = 3 ∨ (1 : Int) = 4 from h) (by decide), fun h => absurd (show (1 : Int) = 2 from h) (by decide), fun h => absurd (show (1 : Int) = 3 from h) (by decide), fun h => absurd (show (1 : Int) = 4 from h) (by decide)⟩
      show echk _ _ _ x ((u32 (roE l a e).1.2.2.2.2.1).toNat : Int) _ = 0
      rw [show ((u32 (roE l a e).1.2.2.2.2.1).toNat : Int) = (roE l a e).1.2.2.2.2.1 from hel]
      exact m3
    have hb : putC (rx1 l a e) = enc (roA l a e).1 ++ ebs (roE l a e).1.1 (roE l a e).1.2.1 (roE l a e).1.2.2.1 x (roE l a e).1.2.2.2.2.1 (roE l a e).1.2.2.2.2.2 := by
      unfold putC
      rw [if_pos hck, hx]
      rw [cmb_1 rfl]
      show enc (held 1) ++ ebs _ _ _ x ((u32 (roE l a e).1.2.2.2.2.1).toNat : Int) _ = _
      rw [show ((u32 (roE l a e).1.2.2.2.2.1).toNat : Int) = (roE l a e).1.2.2.2.2.1 from hel, k]
      rfl
    refine ⟨e0, hck, ?_, ?_⟩
    · rw [hb, List.append_assoc]
      exact A3.trans (congrArg (enc (roA l a e).1 ++ ·) m4)
    · rw [hb, List.length_append]
      have q1 : (roA l a e).2.1 = a + (enc (roA l a e).1).length := A2
      have q2 : (roE l a e).2.1 = (roA l a e).2.1 + (ebs (roE l a e).1.1 (roE l a e).1.2.1 (roE l a e).1.2.2.1 x (roE l a e).1.2.2.2.2.1 (roE l a e).1.2.2.2.2.2).length := m5
      omega
  · rw [ro_2 k] at h' ⊢
    simp only at h' ⊢
    obtain ⟨x, m1, m2, m3, m4, m5⟩ := pat_only (l := l) (a := (roB l a e).2.1) (e := (roB l a e).2.2) h'
    have hB : (roB l a e).2.2 = 0 := pat_err h'
    obtain ⟨hI, B1, B2, B3, B4, B5⟩ := abv_only hB
    obtain ⟨hR, I1, I2, I3, I4, I5⟩ := abv_only (show (roI l a e).2.2 = 0 from hI)
    obtain ⟨hD, R1, R2, R3, R4, R5⟩ := abv_only (show (roR l a e).2.2 = 0 from hR)
    obtain ⟨hA, D2, D3, D4, D5⟩ := num_only (show (roD l a e).2.2 = 0 from hD)
    obtain ⟨e0, _, A2, A3, _, _⟩ := abv_only (show (roA l a e).2.2 = 0 from hA)
    have hx : rx2 l a e = { rxq l a e 2 with id := ((roI l a e).1 : Int), bs := ((roB l a e).1 : Int), pm := x, pl := u32 (roP l a e).1.2.1, pf := (roP l a e).1.2.2 } := by
      unfold rx2 ptCm
      rw [show (roP l a e).1.1 = (x.toNat : Int) from m1, u32_nat]
    have hel := (patOut_u32 l (roB l a e).2.1 (roB l a e).2.2).2
    have hck : cok (rx2 l a e) := by
      rw [hx]
      refine ⟨Or.inr (Or.inl rfl), fun h => absurd (show (2 : Int) = 1 from h) (by decide), fun h => absurd (show (2 : Int) = 5 from h) (by decide), fun _ => ⟨⟨Int.natCast_nonneg _, ?_⟩, ⟨?_, ?_⟩, ⟨rfl, rfl, rfl, rfl, rfl, rfl⟩, rfl⟩, fun _ => ⟨⟨?_, ?_⟩, ⟨?_, ?_⟩, ?_, rfl, rfl⟩, fun h => absurd (show (2 : Int) = 3 from h) (by decide), fun h => absurd (show (2 : Int) = 4 from h) (by decide)⟩
      · show ((roD l a e).1 : Int) < 6
        have : ((roD l a e).1 : Int) ≤ 5 := D4
        omega
      · show 1 ≤ ((roR l a e).1 : Int)
        have : (roR l a e).1 ≠ 0 := R1
        omega
      · exact R4
      · show 1 ≤ ((roI l a e).1 : Int)
        have : (roI l a e).1 ≠ 0 := I1
        omega
      · show ((roI l a e).1 : Int) < 1073741824
        have : ((roI l a e).1 : Int) ≤ 1073741823 := I4
        omega
      · show 1 ≤ ((roB l a e).1 : Int)
        have : (roB l a e).1 ≠ 0 := B1
        omega
      · exact B4
      · show pchk x ((u32 (roP l a e).1.2.1).toNat : Int) _ = 0
        rw [show ((u32 (roP l a e).1.2.1).toNat : Int) = (roP l a e).1.2.1 from hel]
        exact m2
    have hb : putC (rx2 l a e) = enc (roA l a e).1 ++ ((enc (roD l a e).1 ++ enc (roR l a e).1) ++ ((enc (roI l a e).1 ++ enc (roB l a e).1) ++ pbs x (roP l a e).1.2.1 (roP l a e).1.2.2)) := by
      unfold putC
      rw [if_pos hck, hx]
      rw [cmb_2 rfl]
      show enc (held 2) ++ ((enc (held ((roD l a e).1 : Int)) ++ enc (held ((roR l a e).1 : Int))) ++ ((enc (held ((roI l a e).1 : Int)) ++ enc (held ((roB l a e).1 : Int))) ++ pbs x ((u32 (roP l a e).1.2.1).toNat : Int) _)) = _
      rw [show ((u32 (roP l a e).1.2.1).toNat : Int) = (roP l a e).1.2.1 from hel, k, held_id (n := (roD l a e).1) D5, held_id (n := (roR l a e).1) R5, held_id (n := (roI l a e).1) I5, held_id (n := (roB l a e).1) B5]
      rfl
    refine ⟨e0, hck, ?_, ?_⟩
    · rw [hb]
      have q1 : l.drop a = enc (roA l a e).1 ++ l.drop (roA l a e).2.1 := A3
      have q2 : l.drop (roA l a e).2.1 = enc (roD l a e).1 ++ l.drop (roD l a e).2.1 := D3
      have q3 : l.drop (roD l a e).2.1 = enc (roR l a e).1 ++ l.drop (roR l a e).2.1 := R3
      have q4 : l.drop (roR l a e).2.1 = enc (roI l a e).1 ++ l.drop (roI l a e).2.1 := I3
      have q5 : l.drop (roI l a e).2.1 = enc (roB l a e).1 ++ l.drop (roB l a e).2.1 := B3
      have q6 : l.drop (roB l a e).2.1 = pbs x (roP l a e).1.2.1 (roP l a e).1.2.2 ++ l.drop (roP l a e).2.1 := m4
      rw [q1, q2, q3, q4, q5, q6]
      simp only [List.append_assoc]
    · rw [hb]
      simp only [List.length_append]
      have q1 : (roA l a e).2.1 = a + (enc (roA l a e).1).length := A2
      have q2 : (roD l a e).2.1 = (roA l a e).2.1 + (enc (roD l a e).1).length := D2
      have q3 : (roR l a e).2.1 = (roD l a e).2.1 + (enc (roR l a e).1).length := R2
      have q4 : (roI l a e).2.1 = (roR l a e).2.1 + (enc (roI l a e).1).length := I2
      have q5 : (roB l a e).2.1 = (roI l a e).2.1 + (enc (roB l a e).1).length := B2
      have q6 : (roP l a e).2.1 = (roB l a e).2.1 + (pbs x (roP l a e).1.2.1 (roP l a e).1.2.2).length := m5
      omega
  · rw [ro_3 k] at h' ⊢
    simp only at h' ⊢
    obtain ⟨hF, M2, M3, M4, M5⟩ := num_only (show (roM l a e).2.2 = 0 from h')
    obtain ⟨hR, F1, F2, F3⟩ := filt_only (show (roF l a e).2.2 = 0 from hF)
    obtain ⟨hD, R1, R2, R3, R4, R5⟩ := abv_only (show (roR l a e).2.2 = 0 from hR)
    obtain ⟨hA, D2, D3, D4, D5⟩ := num_only (show (roD l a e).2.2 = 0 from hD)
    obtain ⟨e0, _, A2, A3, _, _⟩ := abv_only (show (roA l a e).2.2 = 0 from hA)
    have hms : ((BitVec.ofNat 32 (roM l a e).1).toNat : Int) = ((roM l a e).1 : Int) := by
      have : ((roM l a e).1 : Int) ≤ 511 := M4
      rw [BitVec.toNat_ofNat, Nat.mod_eq_of_lt (by omega)]
    have hck : cok (rx3 l a e) := by
      refine ⟨Or.inr (Or.inr (Or.inl rfl)), fun h => absurd (show (3 : Int) = 1 from h) (by decide), fun h => absurd (show (3 : Int) = 5 from h) (by decide), fun _ => ⟨⟨Int.natCast_nonneg _, ?_⟩, ⟨?_, ?_⟩, ⟨rfl, rfl, rfl, rfl, rfl, rfl⟩, rfl⟩, fun h => absurd (show (3 : Int) = 2 from h) (by decide), fun _ => ⟨F1, ?_, ⟨rfl, rfl, rfl⟩, rfl, rfl⟩, fun h => absurd (show (3 : Int) = 4 from h) (by decide)⟩
      · show ((roD l a e).1 : Int) < 6
        have : ((roD l a e).1 : Int) ≤ 5 := D4
        omega
      · show 1 ≤ ((roR l a e).1 : Int)
        have : (roR l a e).1 ≠ 0 := R1
        omega
      · exact R4
      · show (BitVec.ofNat 32 (roM l a e).1).toNat ≤ 511
        have : ((roM l a e).1 : Int) ≤ 511 := M4
        omega
    have hb : putC (rx3 l a e) = enc (roA l a e).1 ++ ((enc (roD l a e).1 ++ enc (roR l a e).1) ++ (lbs (roF l a e).1 ++ enc (roM l a e).1)) := by
      unfold putC
      rw [if_pos hck]
      rw [cmb_3 rfl]
      show enc (held 3) ++ ((enc (held ((roD l a e).1 : Int)) ++ enc (held ((roR l a e).1 : Int))) ++ (lbs (roF l a e).1 ++ enc (held ((BitVec.ofNat 32 (roM l a e).1).toNat : Int)))) = _
      rw [hms, k, held_id (n := (roD l a e).1) D5, held_id (n := (roR l a e).1) R5, held_id (n := (roM l a e).1) M5]
      rfl
    refine ⟨e0, hck, ?_, ?_⟩
    · rw [hb]
      have q1 : l.drop a = enc (roA l a e).1 ++ l.drop (roA l a e).2.1 := A3
      have q2 : l.drop (roA l a e).2.1 = enc (roD l a e).1 ++ l.drop (roD l a e).2.1 := D3
      have q3 : l.drop (roD l a e).2.1 = enc (roR l a e).1 ++ l.drop (roR l a e).2.1 := R3
      have q4 : l.drop (roR l a e).2.1 = lbs (roF l a e).1 ++ l.drop (roF l a e).2.1 := F3
      have q5 : l.drop (roF l a e).2.1 = enc (roM l a e).1 ++ l.drop (roM l a e).2.1 := M3
      rw [q1, q2, q3, q4, q5]
      simp only [List.append_assoc]
    · rw [hb]
      simp only [List.length_append]
      have q1 : (roA l a e).2.1 = a + (enc (roA l a e).1).length := A2
      have q2 : (roD l a e).2.1 = (roA l a e).2.1 + (enc (roD l a e).1).length := D2
      have q3 : (roR l a e).2.1 = (roD l a e).2.1 + (enc (roR l a e).1).length := R2
      have q4 : (roF l a e).2.1 = (roR l a e).2.1 + (lbs (roF l a e).1).length := F2
      have q5 : (roM l a e).2.1 = (roF l a e).2.1 + (enc (roM l a e).1).length := M2
      omega
  · rw [ro_4 k] at h' ⊢
    simp only at h' ⊢
    obtain ⟨hD, R1, R2, R3, R4, R5⟩ := abv_only (show (roR l a e).2.2 = 0 from h')
    obtain ⟨hA, D2, D3, D4, D5⟩ := num_only (show (roD l a e).2.2 = 0 from hD)
    obtain ⟨e0, _, A2, A3, _, _⟩ := abv_only (show (roA l a e).2.2 = 0 from hA)
    have hck : cok (rxq l a e 4) := by
      refine ⟨Or.inr (Or.inr (Or.inr (Or.inl rfl))), fun h => absurd (show (4 : Int) = 1 from h) (by decide), fun h => absurd (show (4 : Int) = 5 from h) (by decide), fun _ => ⟨⟨Int.natCast_nonneg _, ?_⟩, ⟨?_, ?_⟩, ⟨rfl, rfl, rfl, rfl, rfl, rfl⟩, rfl⟩, fun h => absurd (show (4 : Int) = 2 from h) (by decide), fun h => absurd (show (4 : Int) = 3 from h) (by decide), fun _ => ⟨⟨rfl, rfl, rfl⟩, rfl, rfl, rfl, rfl⟩⟩
      · show ((roD l a e).1 : Int) < 6
        have : ((roD l a e).1 : Int) ≤ 5 := D4
        omega
      · show 1 ≤ ((roR l a e).1 : Int)
        have : (roR l a e).1 ≠ 0 := R1
        omega
      · exact R4
    have hb : putC (rxq l a e 4) = enc (roA l a e).1 ++ (enc (roD l a e).1 ++ enc (roR l a e).1) := by
      unfold putC
      rw [if_pos hck]
      rw [cmb_4 rfl]
      show enc (held 4) ++ (enc (held ((roD l a e).1 : Int)) ++ enc (held ((roR l a e).1 : Int))) = _
      rw [k, held_id (n := (roD l a e).1) D5, held_id (n := (roR l a e).1) R5]
      rfl
    refine ⟨e0, hck, ?_, ?_⟩
    · rw [hb]
      have q1 : l.drop a = enc (roA l a e).1 ++ l.drop (roA l a e).2.1 := A3
      have q2 : l.drop (roA l a e).2.1 = enc (roD l a e).1 ++ l.drop (roD l a e).2.1 := D3
      have q3 : l.drop (roD l a e).2.1 = enc (roR l a e).1 ++ l.drop (roR l a e).2.1 := R3
      rw [q1, q2, q3]
      simp only [List.append_assoc, List.append_nil, List.nil_append]
    · rw [hb]
      simp only [List.length_append, List.length_nil]
      have q1 : (roA l a e).2.1 = a + (enc (roA l a e).1).length := A2
      have q2 : (roD l a e).2.1 = (roA l a e).2.1 + (enc (roD l a e).1).length := D2
      have q3 : (roR l a e).2.1 = (roD l a e).2.1 + (enc (roR l a e).1).length := R2
      omega
  · rw [ro_5 k] at h' ⊢
    simp only at h' ⊢
    obtain ⟨hA, D2, D3, D4, D5⟩ := num_only (show (roT l a e).2.2 = 0 from h')
    obtain ⟨e0, _, A2, A3, _, _⟩ := abv_only (show (roA l a e).2.2 = 0 from hA)
    have hck : cok (rx5 l a e) := by
      refine ⟨Or.inr (Or.inr (Or.inr (Or.inr rfl))), fun h => absurd (show (5 : Int) = 1 from h) (by decide), fun _ => ⟨⟨Int.natCast_nonneg _, D4⟩, ⟨rfl, rfl, rfl, rfl, rfl, rfl⟩, ⟨rfl, rfl, rfl⟩, rfl, rfl, rfl, rfl, rfl, rfl⟩, fun h => absurd (show (5 : Int) = 2 ∨ (5 : Int) = 3 ∨ (5 : Int) = 4 from h) (by decide), fun h => absurd (show (5 : Int) = 2 from h) (by decide), fun h => absurd (show (5 : Int) = 3 from h) (by decide), fun h => absurd (show (5 : Int) = 4 from h) (by decide)⟩
    have hb : putC (rx5 l a e) = enc (roA l a e).1 ++ enc (roT l a e).1 := by
      unfold putC
      rw [if_pos hck]
      rw [cmb_5 rfl]
      show enc (held 5) ++ enc (held ((roT l a e).1 : Int)) = _
      rw [k, held_id (n := (roT l a e).1) D5]
      rfl
    refine ⟨e0, hck, ?_, ?_⟩
    · rw [hb]
      have q1 : l.drop a = enc (roA l a e).1 ++ l.drop (roA l a e).2.1 := A3
      have q2 : l.drop (roA l a e).2.1 = enc (roT l a e).1 ++ l.drop (roT l a e).2.1 := D3
      rw [q1, q2]
      simp only [List.append_assoc]
    · rw [hb]
      simp only [List.length_append]
      have q1 : (roA l a e).2.1 = a + (enc (roA l a e).1).length := A2
      have q2 : (roT l a e).2.1 = (roA l a e).2.1 + (enc (roT l a e).1).length := D2
      omega
theorem bv_zero {m : BitVec 32} (h : (m.toNat : Int) = 0) : m = 0#32 := by
  apply BitVec.eq_of_toNat_eq
  simp
  omega
theorem cm_put (pre rest : List UInt8) (x : Cm) (h : cok x) (h8 : x.ef.length = 8) (h8' : x.pf.length = 8) : cmOut (pre ++ (putC x ++ rest)) pre.length 0 = (cab x, pre.length + (putC x).length, 0) := by
  have hp : putC x = cmb x := by unfold putC; rw [if_pos h]
  rw [hp]
  clear hp
  obtain ⟨L, hL⟩ : ∃ L, L = pre ++ (cmb x ++ rest) := ⟨_, rfl⟩
  rw [← hL]
  obtain ⟨hk, c1, c5, cr, c2, c3, c4⟩ := h
  obtain ⟨Y, hY⟩ : ∃ Y, cmb x = enc (held x.kd) ++ Y := ⟨_, rfl⟩
  obtain ⟨p1, hp1⟩ : ∃ p, p = pre ++ enc (held x.kd) := ⟨_, rfl⟩
  have z1 : p1.length = pre.length + (enc (held x.kd)).length := by rw [hp1, List.length_append]
  have l1 : L = p1 ++ (Y ++ rest) := by rw [hL, hY, hp1]; simp
  have gA : roA L pre.length 0 = (held x.kd, p1.length, 0) := by
    unfold roA
    rw [z1, hL, hY, List.append_assoc]
    exact abv_put pre (Y ++ rest) x.kd 5 (by omega) (by omega) (by omega)
  have hraw : ∀ (y : Cm) (q : Nat), roRaw L pre.length 0 = (y, q, 0) → y = cab x → q = pre.length + (cmb x).length → cmOut L pre.length 0 = (cab x, pre.length + (cmb x).length, 0) := by
    intro y q h1 h2 h3
    unfold cmOut
    rw [h1]
    simp only [if_true]
    rw [h2, h3]
  rcases hk with k | k | k | k | k
  · -- a change
    obtain ⟨e1, ⟨p1', p2', p3'⟩, f0, m0, d0, r0, i0, b0, t0⟩ := c1 k
    have hYe : Y = ebs x.ek x.eid x.eg x.em (x.el.toNat : Int) x.ef := by
      have : cmb x = enc (held x.kd) ++ ebs x.ek x.eid x.eg x.em (x.el.toNat : Int) x.ef := by unfold cmb; rw [if_pos k]
      rw [this] at hY
      exact (List.append_cancel_left hY).symm
    have kA : (roA L pre.length 0).1 = 1 := by rw [gA, k]; rfl
    have gE : roE L pre.length 0 = ((x.ek, x.eid, x.eg, (x.em.toNat : Int), (x.el.toNat : Int), x.ef), p1.length + Y.length, 0) := by
      unfold roE
      rw [gA]
      simp only
      rw [l1, hYe]
      exact edit_put p1 rest x.ek x.eid x.eg x.em (x.el.toNat : Int) x.ef h8 (Int.natCast_nonneg _) e1
    refine hraw (rx1 L pre.length 0) (p1.length + Y.length) (by rw [ro_1 kA, gE]) ?_ (by rw [hY, z1, List.length_append]; omega)
    have f0' := List.length_eq_zero_iff.1 f0
    have m0' : x.ms = 0#32 := bv_zero (by omega)
    simp [rx1, gE, edCm, cab, zcm, u32_nat, k, bv_zero p1', bv_zero p2', p3', f0', m0', d0, r0, i0, b0, t0]
  · -- a put
    obtain ⟨⟨d1, d2⟩, ⟨r1, r2⟩, ⟨g1, g2, g3, g4, g5, g6⟩, t0⟩ := cr (Or.inl k)
    obtain ⟨⟨i1, i2⟩, ⟨b1, b2⟩, ph, f0, m0⟩ := c2 k
    have hYe : Y = (enc (held x.dv) ++ enc (held x.rq)) ++ ((enc (held x.id) ++ enc (held x.bs)) ++ pbs x.pm (x.pl.toNat : Int) x.pf) := by
      have : cmb x = enc (held x.kd) ++ ((enc (held x.dv) ++ enc (held x.rq)) ++ ((enc (held x.id) ++ enc (held x.bs)) ++ pbs x.pm (x.pl.toNat : Int) x.pf)) := by unfold cmb; rw [if_neg (by omega), if_neg (by omega), if_pos k]
      rw [this] at hY
      exact (List.append_cancel_left hY).symm
    obtain ⟨p2, hp2⟩ : ∃ p, p = p1 ++ enc (held x.dv) := ⟨_, rfl⟩
    obtain ⟨p3, hp3⟩ : ∃ p, p = p2 ++ enc (held x.rq) := ⟨_, rfl⟩
    obtain ⟨p4, hp4⟩ : ∃ p, p = p3 ++ enc (held x.id) := ⟨_, rfl⟩
    obtain ⟨p5, hp5⟩ : ∃ p, p = p4 ++ enc (held x.bs) := ⟨_, rfl⟩
    have l1' : L = p1 ++ (enc (held x.dv) ++ (enc (held x.rq) ++ (enc (held x.id) ++ (enc (held x.bs) ++ (pbs x.pm (x.pl.toNat : Int) x.pf ++ rest))))) := by rw [l1, hYe]; simp
    have l2 : L = p2 ++ (enc (held x.rq) ++ (enc (held x.id) ++ (enc (held x.bs) ++ (pbs x.pm (x.pl.toNat : Int) x.pf ++ rest)))) := by rw [l1', hp2]; simp
    have l3 : L = p3 ++ (enc (held x.id) ++ (enc (held x.bs) ++ (pbs x.pm (x.pl.toNat : Int) x.pf ++ rest))) := by rw [l2, hp3]; simp
    have l4 : L = p4 ++ (enc (held x.bs) ++ (pbs x.pm (x.pl.toNat : Int) x.pf ++ rest)) := by rw [l3, hp4]; simp
    have l5 : L = p5 ++ (pbs x.pm (x.pl.toNat : Int) x.pf ++ rest) := by rw [l4, hp5]; simp
    have kA : (roA L pre.length 0).1 = 2 := by rw [gA, k]; rfl
    have gD : roD L pre.length 0 = (held x.dv, p2.length, 0) := by
      unfold roD
      rw [gA]
      simp only
      rw [hp2, List.length_append, l1']
      exact num_put p1 _ (held x.dv) 5 (held_le _) (by rw [held_self d1 (by omega)]; omega)
    have gR : roR L pre.length 0 = (held x.rq, p3.length, 0) := by
      unfold roR
      rw [gD]
      simp only
      rw [hp3, List.length_append, l2]
      exact abv_put p2 _ x.rq _ r1 r2 r2
    have gI : roI L pre.length 0 = (held x.id, p4.length, 0) := by
      unfold roI
      rw [gR]
      simp only
      rw [hp4, List.length_append, l3]
      exact abv_put p3 _ x.id _ i1 (by omega) (by omega)
    have gB : roB L pre.length 0 = (held x.bs, p5.length, 0) := by
      unfold roB
      rw [gI]
      simp only
      rw [hp5, List.length_append, l4]
      exact abv_put p4 _ x.bs _ b1 b2 b2
    have gP : roP L pre.length 0 = (((x.pm.toNat : Int), (x.pl.toNat : Int), x.pf), p5.length + (pbs x.pm (x.pl.toNat : Int) x.pf).length, 0) := by
      unfold roP
      rw [gB]
      simp only
      rw [l5]
      exact patOut_put p5 rest x.pm (x.pl.toNat : Int) x.pf h8' (Int.natCast_nonneg _) ph
    refine hraw (rx2 L pre.length 0) _ (by rw [ro_2 kA, gP]) ?_ (by rw [hY, hYe, hp5, hp4, hp3, hp2, hp1]; simp only [List.length_append]; omega)
    have f0' := List.length_eq_zero_iff.1 f0
    have m0' : x.ms = 0#32 := bv_zero (by omega)
    simp [rx2, rxq, gP, gD, gR, gI, gB, ptCm, cab, zcm, u32_nat, k, g1, g2, g3, bv_zero g4, bv_zero g5, g6, f0', m0', t0, held_self d1 (by omega : x.dv ≤ 1099511627776), held_self (by omega : 0 ≤ x.rq) r2, held_self (by omega : 0 ≤ x.id) (by omega : x.id ≤ 1099511627776), held_self (by omega : 0 ≤ x.bs) b2]
  · -- a sub
    obtain ⟨⟨d1, d2⟩, ⟨r1, r2⟩, ⟨g1, g2, g3, g4, g5, g6⟩, t0⟩ := cr (Or.inr (Or.inl k))
    obtain ⟨fh, m1, ⟨q1, q2, q3⟩, i0, b0⟩ := c3 k
    have hYe : Y = (enc (held x.dv) ++ enc (held x.rq)) ++ (lbs x.f ++ enc (held (x.ms.toNat : Int))) := by
      have : cmb x = enc (held x.kd) ++ ((enc (held x.dv) ++ enc (held x.rq)) ++ (lbs x.f ++ enc (held (x.ms.toNat : Int)))) := by unfold cmb; rw [if_neg (by omega), if_neg (by omega), if_neg (by omega), if_pos k]
      rw [this] at hY
      exact (List.append_cancel_left hY).symm
    obtain ⟨p2, hp2⟩ : ∃ p, p = p1 ++ enc (held x.dv) := ⟨_, rfl⟩
    obtain ⟨p3, hp3⟩ : ∃ p, p = p2 ++ enc (held x.rq) := ⟨_, rfl⟩
    obtain ⟨p4, hp4⟩ : ∃ p, p = p3 ++ lbs x.f := ⟨_, rfl⟩
    have l1' : L = p1 ++ (enc (held x.dv) ++ (enc (held x.rq) ++ (lbs x.f ++ (enc (held (x.ms.toNat : Int)) ++ rest)))) := by rw [l1, hYe]; simp
    have l2 : L = p2 ++ (enc (held x.rq) ++ (lbs x.f ++ (enc (held (x.ms.toNat : Int)) ++ rest))) := by rw [l1', hp2]; simp
    have l3 : L = p3 ++ (lbs x.f ++ (enc (held (x.ms.toNat : Int)) ++ rest)) := by rw [l2, hp3]; simp
    have l4 : L = p4 ++ (enc (held (x.ms.toNat : Int)) ++ rest) := by rw [l3, hp4]; simp
    have kA : (roA L pre.length 0).1 = 3 := by rw [gA, k]; rfl
    have gD : roD L pre.length 0 = (held x.dv, p2.length, 0) := by
      unfold roD
      rw [gA]
      simp only
      rw [hp2, List.length_append, l1']
      exact num_put p1 _ (held x.dv) 5 (held_le _) (by rw [held_self d1 (by omega)]; omega)
    have gR : roR L pre.length 0 = (held x.rq, p3.length, 0) := by
      unfold roR
      rw [gD]
      simp only
      rw [hp3, List.length_append, l2]
      exact abv_put p2 _ x.rq _ r1 r2 r2
    have gF : roF L pre.length 0 = (x.f, p4.length, 0) := by
      unfold roF
      rw [gR]
      simp only
      rw [hp4, List.length_append, l3]
      exact filt_put p3 _ x.f fh
    have gM : roM L pre.length 0 = (held (x.ms.toNat : Int), p4.length + (enc (held (x.ms.toNat : Int))).length, 0) := by
      unfold roM
      rw [gF]
      simp only
      rw [l4]
      exact num_put p4 rest (held (x.ms.toNat : Int)) 511 (held_le _) (by rw [held_self (Int.natCast_nonneg _) (by omega)]; omega)
    refine hraw (rx3 L pre.length 0) _ (by rw [ro_3 kA, gM]) ?_ (by rw [hY, hYe, hp4, hp3, hp2, hp1]; simp only [List.length_append]; omega)
    have hmm : BitVec.ofNat 32 (held (x.ms.toNat : Int)) = x.ms := by rw [held_id (by omega)]; simp
    simp [rx3, rxq, gF, gD, gR, gM, cab, zcm, k, g1, g2, g3, bv_zero g4, bv_zero g5, g6, bv_zero q1, bv_zero q2, q3, hmm, i0, b0, t0, held_self d1 (by omega : x.dv ≤ 1099511627776), held_self (by omega : 0 ≤ x.rq) r2]
  · -- a leave
    obtain ⟨⟨d1, d2⟩, ⟨r1, r2⟩, ⟨g1, g2, g3, g4, g5, g6⟩, t0⟩ := cr (Or.inr (Or.inr k))
    obtain ⟨⟨q1, q2, q3⟩, f0, m0, i0, b0⟩ := c4 k
    have hYe : Y = enc (held x.dv) ++ enc (held x.rq) := by
      have : cmb x = enc (held x.kd) ++ (enc (held x.dv) ++ enc (held x.rq)) := by unfold cmb; rw [if_neg (by omega), if_neg (by omega), if_neg (by omega), if_neg (by omega), List.append_nil]
      rw [this] at hY
      exact (List.append_cancel_left hY).symm
    obtain ⟨p2, hp2⟩ : ∃ p, p = p1 ++ enc (held x.dv) := ⟨_, rfl⟩
    obtain ⟨p3, hp3⟩ : ∃ p, p = p2 ++ enc (held x.rq) := ⟨_, rfl⟩
    have l1' : L = p1 ++ (enc (held x.dv) ++ (enc (held x.rq) ++ rest)) := by rw [l1, hYe]; simp
    have l2 : L = p2 ++ (enc (held x.rq) ++ rest) := by rw [l1', hp2]; simp
    have kA : (roA L pre.length 0).1 = 4 := by rw [gA, k]; rfl
    have gD : roD L pre.length 0 = (held x.dv, p2.length, 0) := by
      unfold roD
      rw [gA]
      simp only
      rw [hp2, List.length_append, l1']
      exact num_put p1 _ (held x.dv) 5 (held_le _) (by rw [held_self d1 (by omega)]; omega)
    have gR : roR L pre.length 0 = (held x.rq, p3.length, 0) := by
      unfold roR
      rw [gD]
      simp only
      rw [hp3, List.length_append, l2]
      exact abv_put p2 _ x.rq _ r1 r2 r2
    refine hraw (rxq L pre.length 0 4) _ (by rw [ro_4 kA, gR]) ?_ (by rw [hY, hYe, hp3, hp2, hp1]; simp only [List.length_append]; omega)
    have f0' := List.length_eq_zero_iff.1 f0
    have m0' : x.ms = 0#32 := bv_zero (by omega)
    simp [rxq, gD, gR, cab, zcm, k, g1, g2, g3, bv_zero g4, bv_zero g5, g6, bv_zero q1, bv_zero q2, q3, f0', m0', i0, b0, t0, held_self d1 (by omega : x.dv ≤ 1099511627776), held_self (by omega : 0 ≤ x.rq) r2]
  · -- a trim
    obtain ⟨⟨t1, t2⟩, ⟨g1, g2, g3, g4, g5, g6⟩, ⟨q1, q2, q3⟩, f0, m0, d0, r0, i0, b0⟩ := c5 k
    have hYe : Y = enc (held x.kp) := by
      have : cmb x = enc (held x.kd) ++ enc (held x.kp) := by unfold cmb; rw [if_neg (by omega), if_pos k]
      rw [this] at hY
      exact (List.append_cancel_left hY).symm
    have kA : (roA L pre.length 0).1 = 5 := by rw [gA, k]; rfl
    have gT : roT L pre.length 0 = (held x.kp, p1.length + (enc (held x.kp)).length, 0) := by
      unfold roT
      rw [gA]
      simp only
      rw [l1, hYe]
      exact num_put p1 rest (held x.kp) _ (held_le _) (by rw [held_self t1 t2]; exact t2)
    refine hraw (rx5 L pre.length 0) _ (by rw [ro_5 kA, gT]) ?_ (by rw [hY, hYe, hp1]; simp only [List.length_append]; omega)
    have f0' := List.length_eq_zero_iff.1 f0
    have m0' : x.ms = 0#32 := bv_zero (by omega)
    simp [rx5, gT, cab, zcm, k, g1, g2, g3, bv_zero g4, bv_zero g5, g6, bv_zero q1, bv_zero q2, q3, f0', m0', i0, b0, d0, r0, held_self t1 t2]
end
end Go.Proofs.Ytnhcjadkbogioaa
namespace Go.Proofs.Ytnhcjadkbogioaa
open Go Go.RowKit Go.Maps
def RV : Value → Option (DataW Value × List MemPlace) := fun v => some (.held v, [])
def mlit (p : Int × Value) : Lit × DataW Value := (.int .i64 p.1, .held p.2)
abbrev IM := List (Int × Value)
def mget (m : IM) (x : Int) : Option Value := (m.find? (fun p => decide (p.1 = x))).map (·.2)
def mput : IM → Int → Value → IM
  | [], x, v => [(x, v)]
  | p :: m, x, v => if x < p.1 then (x, v) :: p :: m else if p.1 = x then (x, v) :: m else p :: mput m x v
def mdel (m : IM) (x : Int) : IM := m.filter (fun p => !decide (p.1 = x))
abbrev Rise (m : IM) : Prop := m.Pairwise (fun p q => p.1 < q.1)
theorem same_lit (p : Int × Value) (x : Int) : (mlit p).1.sameKey (.int .i64 x) = decide (p.1 = x) := by simp [mlit, Lit.sameKey]
theorem has_lit (m : IM) (x : Int) : Maps.has (.map (m.map mlit)) (.int .i64 x) = (mget m x).isSome := by
  show (m.map mlit).any (fun p => p.1.sameKey (.int .i64 x)) = _
  induction m with
  | nil => rfl
  | cons p m ih =>
    rw [List.map_cons, List.any_cons, ih, same_lit]
    unfold mget
    rw [List.find?_cons]
    by_cases h : p.1 = x
    · simp [h]
    · simp [h]
theorem at_lit (m : IM) (x : Int) (z : Value) : (DataW.map (m.map mlit)).atKey (.int .i64 x) (.held z) = .held ((mget m x).getD z) := by
  unfold DataW.atKey
  dsimp only
  induction m with
  | nil => rfl
  | cons p m ih =>
    rw [List.map_cons, List.find?_cons, same_lit]
    unfold mget
    rw [List.find?_cons]
    by_cases h : p.1 = x
    · simp [h, mlit]
    · have h2 : decide (p.1 = x) = false := by simp [h]
      rw [h2]
      exact ih
theorem filter_lit (m : IM) (x : Int) : (m.map mlit).filter (fun p => !p.1.sameKey (.int .i64 x)) = (mdel m x).map mlit := by
  unfold mdel
  induction m with
  | nil => rfl
  | cons p m ih =>
    rw [List.map_cons, List.filter_cons, List.filter_cons, same_lit]
    by_cases h : p.1 = x
    · simp only [h, decide_true, Bool.not_true]
      exact ih
    · have h2 : decide (p.1 = x) = false := by simp [h]
      rw [h2]
      simp only [Bool.not_false, if_true, List.map_cons]
      rw [ih]
theorem del_lit (m : IM) (x : Int) : (DataW.map (m.map mlit)).del (.int .i64 x) = .map ((mdel m x).map mlit) := congrArg DataW.map (filter_lit m x)
theorem mdel_none {m : IM} {x : Int} (h : ∀ p ∈ m, x < p.1) : mdel m x = m := by
  unfold mdel
  rw [List.filter_eq_self]
  intro p hp
  have := h p hp
  simp
  omega
theorem insert_front {m : IM} {x : Int} (v : Value) (h : ∀ p ∈ m, x < p.1) : DataW.insert (mlit (x, v)) (m.map mlit) = ((x, v) :: m).map mlit := by
  match m, h with
  | [], _ => rfl
  | p :: m, h =>
    have h1 := h p (List.mem_cons_self ..)
    show (if (Lit.int .i64 x).before (Lit.int .i64 p.1) = true then _ else _) = _
    rw [if_pos (by simpa [Lit.before] using h1)]
    rfl
theorem put_list (m : IM) (x : Int) (v : Value) (hr : Rise m) : DataW.insert (mlit (x, v)) ((mdel m x).map mlit) = (mput m x v).map mlit := by
  induction m with
  | nil => rfl
  | cons p m ih =>
    obtain ⟨h1, h2⟩ := List.pairwise_cons.1 hr
    unfold mput
    by_cases hx : x < p.1
    · rw [if_pos hx, mdel_none (fun q hq => by rcases List.mem_cons.1 hq with rfl | hq; exact hx; have := h1 q hq; omega)]
      exact insert_front v (fun q hq => by rcases List.mem_cons.1 hq with rfl | hq; exact hx; have := h1 q hq; omega)
    · rw [if_neg hx]
      by_cases he : p.1 = x
      · rw [if_pos he]
        have hd : mdel (p :: m) x = m := by
          unfold mdel
          rw [List.filter_cons, if_neg (by simp [he])]
          exact mdel_none (m := m) (x := x) (fun q hq => by have := h1 q hq; omega)
        rw [hd]
        exact insert_front v (fun q hq => by have := h1 q hq; omega)
      · rw [if_neg he]
        have hd : mdel (p :: m) x = p :: mdel m x := by
          unfold mdel
          rw [List.filter_cons, if_pos (by simp [he])]
        rw [hd, List.map_cons, List.map_cons, ← ih h2]
        show (if (Lit.int .i64 x).before (Lit.int .i64 p.1) = true then _ else _) = _
        rw [if_neg (by simp [Lit.before]; omega)]
theorem put_lit (m : IM) (x : Int) (v : Value) (hr : Rise m) : (DataW.map (m.map mlit)).put (.int .i64 x) (.held v) = .map ((mput m x v).map mlit) := by
  show DataW.map (DataW.insert (mlit (x, v)) ((m.map mlit).filter (fun p => !p.1.sameKey (.int .i64 x)))) = _
  rw [filter_lit, put_list m x v hr]
theorem mput_mem {m : IM} {x : Int} {v : Value} {q : Int × Value} (h : q ∈ mput m x v) : q = (x, v) ∨ q ∈ m := by
  induction m with
  | nil => exact .inl (by simpa [mput] using h)
  | cons p m ih =>
    unfold mput at h
    split at h
    · rcases List.mem_cons.1 h with h | h
      · exact .inl h
      · exact .inr h
    · split at h
      · rcases List.mem_cons.1 h with h | h
        · exact .inl h
        · exact .inr (List.mem_cons_of_mem _ h)
      · rcases List.mem_cons.1 h with h | h
        · exact .inr (by rw [h]; exact List.mem_cons_self ..)
        · rcases ih h with h | h
          · exact .inl h
          · exact .inr (List.mem_cons_of_mem _ h)
theorem Rise.put {m : IM} (hr : Rise m) (x : Int) (v : Value) : Rise (mput m x v) := by
  induction m with
  | nil => exact List.pairwise_singleton _ _
  | cons p m ih =>
    obtain ⟨h1, h2⟩ := List.pairwise_cons.1 hr
    unfold mput
    split
    · rename_i hx
      exact List.pairwise_cons.2 ⟨fun q hq => by rcases List.mem_cons.1 hq with rfl | hq; exact hx; have := h1 q hq; show x < q.1; omega, hr⟩
    · split
      · rename_i hx he
        exact List.pairwise_cons.2 ⟨fun q hq => by have := h1 q hq; show x < q.1; omega, h2⟩
      · rename_i hx he
        exact List.pairwise_cons.2 ⟨fun q hq => by rcases mput_mem hq with rfl | hq; show p.1 < x; omega; exact h1 q hq, ih h2⟩
theorem Rise.del {m : IM} (hr : Rise m) (x : Int) : Rise (mdel m x) := hr.filter _
structure MapI (P : Program) (k : TypeId) (w : World) (b N : Nat) (m : IM) : Prop where
  own : w.ownsMap P k RV b N (.map (m.map mlit))
  rise : Rise m
section
variable {P : Program} {k t e : TypeId} {w w' : World} {b N : Nat} {m : IM}
theorem MapI.lt (h : MapI P k w b N m) : b < w.heap.size := h.own.lt
theorem MapI.kept {row : Option Nat} (h : MapI P k w b N m) (hg : w.grownBy w' row) (hne : some b ≠ row) : MapI P k w' b N m := ⟨h.own.kept hg hne, h.rise⟩
theorem MapI.later (h : MapI P k w b N m) (hb : Below w.heap.size w w') : MapI P k w' b N m := h.kept (row := none) ⟨hb.os, hb.tape, hb.output, hb.size, fun j hj _ => hb.block j hj⟩ (by intro e; cases e)
theorem MapI.setCell (h : MapI P k w b N m) {a : Addr} (ha : b ≠ a.block) (u : Value) : MapI P k (w.setCell a u) b N m := ⟨h.own.setCell ha u, h.rise⟩
theorem MapI.new (P : Program) (k : TypeId) (w : World) : MapI P k (w.alloc (.map #[] 0)) w.heap.size 0 [] := ⟨World.ownsMap_made w P k RV, List.Pairwise.nil⟩
theorem MapI.size (h : MapI P k w b N m) : m.length ≤ N := by
  have := h.own.size_le
  simpa [Maps.size] using this
theorem MapI.look2 (h : MapI P k w b N m) (hk : P.underlying k = some (.int .i64)) (ht : P.underlying t = some (.map k e)) {z : Value} (hz : (zeroValue e).run P w = .ok z w) {x : Int} (hx : (Lit.int .i64 x).wf = true) :
    (Instr.lookup t (.map (some b)) (.int .i64 x) true).run P w = .ok (.tuple #[(mget m x).getD z, .bool (mget m x).isSome]) w := by
  obtain ⟨v, ps, hr, hv⟩ := h.own.look_ok (int_keyed hk) ht hz (zd := .held z) (zp := []) rfl (key := .int .i64 x) (kl := .int .i64 x) (by simp [keyOf, hk, mapKey, hx])
  rw [has_lit] at hr
  rw [at_lit] at hv
  have : v = (mget m x).getD z := by
    simp only [RV, Option.some.injEq, Prod.mk.injEq, DataW.held.injEq] at hv
    exact hv.1
  rw [hr, this]
theorem MapI.store (h : MapI P k w b N m) (hk : P.underlying k = some (.int .i64)) (ht : P.underlying t = some (.map k e)) (hn : N < maxLen) {x : Int} (hx : (Lit.int .i64 x).wf = true) (v : Value) :
    ∃ w', (Instr.mapUpdate t (.map (some b)) (.int .i64 x) v).run P w = .ok () w' ∧ MapI P k w' b (N + 1) (mput m x v) ∧ w.grownBy w' (some b) := by
  obtain ⟨w', hr, ho, hg⟩ := h.own.update (int_keyed hk) ht hn (key := .int .i64 x) (kl := .int .i64 x) (d := .held v) (ps := []) (by simp [keyOf, hk, mapKey, hx]) rfl
  rw [put_lit m x v h.rise] at ho
  exact ⟨w', hr, ⟨ho, h.rise.put x v⟩, hg⟩
theorem MapI.drop (h : MapI P k w b N m) (hk : P.underlying k = some (.int .i64)) (ht : P.underlying t = some (.map k e)) {x : Int} (hx : (Lit.int .i64 x).wf = true) (ty : TypeId) :
    ∃ w', (Builtin.delete_ #[t, k] ty #[.map (some b), .int .i64 x]).run P w = .ok (.tuple #[]) w' ∧ MapI P k w' b N (mdel m x) ∧ w.mapTurned w' b := by
  obtain ⟨w', hr, ho, hg⟩ := h.own.drop (int_keyed hk) ht (key := .int .i64 x) (kl := .int .i64 x) (by simp [keyOf, hk, mapKey, hx]) ty
  rw [del_lit] at ho
  exact ⟨w', hr, ⟨ho, h.rise.del x⟩, hg⟩
theorem MapI.len (h : MapI P k w b N m) (ht : P.underlying t = some (.map k e)) (ty : TypeId) : (Builtin.len_ #[t] ty #[.map (some b)]).run P w = .ok (.int .i64 (m.length : Int)) w := by
  have := h.own.len ht ty
  simpa [Maps.size] using this
end
end Go.Proofs.Ytnhcjadkbogioaa
namespace Go.Proofs.Ytnhcjadkbogioaa
open Go Go.RowKit
end Go.Proofs.Ytnhcjadkbogioaa
namespace Go.Proofs.Ytnhcjadkbogioaa
open Go Go.RowKit
section
variable {P : Program} {md : Region.Mode} {ops : Array Oper} {Q : Exit → Act → World → Prop} {S : World → Prop} {i : Nat} {oi : Oper} {v : Value} {fuel : Nat} {listed : Array Bool} {a : Act} {w : World}
theorem takeH (d : Option Tmp) (hi : ops[i]? = some oi) (hd : oi.dst = d) (hs : Region.noSelect ops = true) (hf : Region.free md ops listed i = true) (hr : (Region.ready md ops listed).contains i = true)
    (hQ : ∀ c a w, Q (.panic c) (a.put oi.dst v) w → Q (.panic c) a w) (hy : YieldsIf P ops S oi v a) (hS : S w)
    (h : Go.wpAnyH P md ops Q S fuel (listed.setIfInBounds i true) (a.put d v) w) : Go.wpAnyH P md ops Q S (fuel + 1) listed a w := by
  subst hd
  exact wpAnyH_take hi hs hf hr hQ hy hS h
theorem allH (rs : List Nat) (k : Nat) (hr : Region.ready md ops listed = [k])
    (h : wpOp P ops Q k (fun a' w' => S w' ∧ Go.wpAnyH P md ops Q S fuel (listed.setIfInBounds k true) a' w') a w) : Go.wpAnyH P md ops Q S (fuel + 1) listed a w :=
  wpAnyH_all hr (by simp) (fun i hi => by
    simp only [List.mem_singleton] at hi
    subst hi
    exact h)
theorem runH {K : Act → World → Prop} {w' : World} (d : Option Tmp) (o : Oper) (ho : ops[i]? = some o) (hd : o.dst = d) (hw : Region.wanted o (yielded ops a.tmps) = true) (v : Value)
    (he : (execOp a.eval o).run P w = .ok (.value v) w') (h : K (a.put d v) w') : wpOp P ops Q i K a w := by
  subst hd
  unfold wpOp
  simp only [ho, hw, if_true]
  left
  unfold Oper.wp
  rw [he]
  exact h
theorem callH {K : Act → World → Prop} (d : Option Tmp) (o : Oper) (ho : ops[i]? = some o) (hd : o.dst = d) (f : FuncId) (args : Array Value) (hx : (execOp a.eval o).run P w = .ok (.enter f args) w) (hw : Region.wanted o (yielded ops a.tmps) = true)
    (h : Calls P f args w fun e w' => ∃ v, e = .returned v ∧ K (a.put d v) w') : wpOp P ops Q i K a w := by
  subst hd
  unfold wpOp
  simp only [ho, hw, if_true]
  left
  unfold Oper.wp
  rw [hx]
  simp only [Oper.upon]
  exact h.mono fun e w' ⟨v, he, hk⟩ => by subst he; exact hk
theorem storeH {K : Act → World → Prop} (o : Oper) (ho : ops[i]? = some o) (hd : o.dst = none) (hw : Region.wanted o (yielded ops a.tmps) = true) (ty : TypeId) (x y : Operand) (hop : o.op = .store ty x y)
    (b off : Nat) (cells : Array Value) (hx : a.eval x = .pointer (some ⟨b, off, none⟩)) (hy : a.eval y = .agg cells)
    (ht : w.there b off cells.size) (hi : (P.info? ty).map (·.size) = some cells.size) (h1 : cells.all (·.oneCell') = true)
    (h : K a (w.setCells b off cells.toList)) : wpOp P ops Q i K a w := by
  unfold wpOp
  simp only [ho, hw, if_true]
  left
  refine wp_store_mid ty x y hop b off cells hx hy ht hi h1 ?_
  rw [hd]
  exact h
theorem store1H {K : Act → World → Prop} (o : Oper) (ho : ops[i]? = some o) (hd : o.dst = none) (hw : Region.wanted o (yielded ops a.tmps) = true) (ty : TypeId) (x y : Operand) (hop : o.op = .store ty x y)
    (b off : Nat) (u v : Value) (hx : a.eval x = .pointer (some ⟨b, off, none⟩)) (hy : a.eval y = v) (hag : ∀ w, (sizeOf ty).run P w = .ok 1 w) (hna : ∀ cs, v ≠ .agg cs) (hv : v.oneCell' = true) (cz : w.cell? ⟨b, off, none⟩ = some u) (fz : w.frozen? ⟨b, off, none⟩ = false)
    (h : K a (w.setCell ⟨b, off, none⟩ v)) : wpOp P ops Q i K a w := by
  unfold wpOp
  simp only [ho, hw, if_true]
  left
  unfold Oper.wp execOp
  generalize a.eval = ρ at hx hy
  have hm : (match v with | .agg cs => cs | v => #[v]) = #[v] := by
    cases v <;> first | rfl | exact absurd rfl (hna _)
  simp only [hop, hx, hy]
  simp [go_sem, hag, hm, cz, fz, hv]
  rw [run_store P w _ v .plain hv, cz]
  simp only [fz, Bool.false_eq_true, if_false, Result.andThen_ok]
  simp only [Oper.upon]
  rw [hd]
  exact h
end
end Go.Proofs.Ytnhcjadkbogioaa
