/- What was put is read: values, cards, patches: mathematics. -/
import Derived.Test.YticdpfjajkfheaaP10
import Derived.Test.YticdpfjajkfheaaP11
import Derived.Test.YticdpfjajkfheaaP2
import Derived.Test.YticdpfjajkfheaaP6
namespace Go.Proofs.Yticdpfjajkfheaa
set_option linter.unusedVariables false
set_option linter.unusedSimpArgs false
open Go Go.RowKit OctM BitM

theorem held_nat {z : Int} (h0 : 0 ≤ z) (h1 : z ≤ 1099511627776) : held z = z.toNat := by
  unfold held
  simp only [Int.min_def, Int.max_def]
  split <;> (try split) <;> omega
theorem valOut_put (pre rest : List UInt8) (v : V3) (h : vchk v = true) : valOut (pre ++ (vbs v ++ rest)) pre.length 0 = (v, pre.length + (vbs v).length, 0) := by
  have hv : vbs v = if v.1 = 1 then enc 1 ++ enc (held v.2.1) else if v.1 = 2 then enc 2 ++ (enc v.2.2.data.toList.length ++ v.2.2.data.toList) else enc 0 := by
    unfold vbs
    rw [if_neg (by rw [h]; simp)]
  obtain ⟨k, n, s⟩ := v
  simp only at hv
  unfold vchk at h
  simp only at h
  by_cases k0 : k = 0
  · subst k0
    rw [if_pos rfl] at h
    obtain ⟨rfl, rfl⟩ := of_decide_eq_true h
    rw [if_neg (by decide), if_neg (by decide)] at hv
    rw [hv]
    unfold valOut
    rw [num_put pre rest 0 2 (by omega) (by omega), if_neg (by simp), if_neg (by simp)]
    unfold valEnd
    rw [if_pos rfl]
    rfl
  · rw [if_neg k0] at h
    by_cases k1 : k = 1
    · subst k1
      rw [if_pos rfl] at h
      obtain ⟨h0, h1, rfl⟩ := of_decide_eq_true h
      rw [if_pos rfl] at hv
      rw [hv]
      have n1 := num_put pre (enc (held n) ++ rest) 1 2 (by omega) (by omega)
      have n2 := num_put (pre ++ enc 1) rest (held n) 1099511627776 (held_le n) (by have := held_le n; omega)
      simp only [List.append_assoc, List.length_append] at n1 n2 ⊢
      unfold valOut
      rw [n1, if_pos rfl]
      simp only
      rw [n2]
      unfold valEnd
      simp only
      rw [if_pos trivial, held_self h0 h1, Nat.add_assoc]
      rfl
    · rw [if_neg k1] at h
      by_cases k2 : k = 2
      · subst k2
        rw [if_pos rfl] at h
        obtain ⟨rfl, h1⟩ := of_decide_eq_true h
        rw [if_neg (by decide), if_pos rfl] at hv
        rw [hv]
        have hl : s.data.toList.length ≤ 24 := by simpa using h1
        have n1 := num_put pre (enc s.data.toList.length ++ (s.data.toList ++ rest)) 2 2 (by omega) (by omega)
        have n2 := str_put (pre ++ enc 2) s.data.toList rest 24 (by omega) (by omega)
        simp only [List.append_assoc, List.length_append] at n1 n2 ⊢
        unfold valOut
        rw [n1, if_neg (by simp), if_pos rfl]
        simp only
        rw [n2]
        unfold valEnd
        simp only
        rw [if_pos trivial, str_eta]
        simp only [Nat.add_assoc]
      · rw [if_neg k2] at h
        cases h
/-- The fields of a list are put. -/
def setL (L : List Int) (f g : List V3) : List V3 := L.foldl (fun g i => g.set i.toNat (f.getD i.toNat zv)) g
theorem setL_len (f : List V3) : ∀ (L : List Int) (g : List V3), (setL L f g).length = g.length
  | [], g => rfl
  | i :: L, g => by
    show (setL L f _).length = _
    rw [setL_len f L, List.length_set]
theorem setL_get (f : List V3) (j : Nat) : ∀ (L : List Int) (g : List V3), (∀ i ∈ L, 0 ≤ i) → j < g.length → (setL L f g).getD j zv = if (j : Int) ∈ L then f.getD j zv else g.getD j zv
  | [], g, _, _ => by simp [setL]
  | i :: L, g, h0, hj => by
    show (setL L f _).getD j zv = _
    rw [setL_get f j L _ (fun i hi => h0 i (by simp [hi])) (by simpa using hj)]
    have hi := h0 i (by simp)
    by_cases hm : (j : Int) ∈ L
    · simp [hm]
    · by_cases hij : (j : Int) = i
      · subst hij
        simp [hm, List.getD, hj]
      · have : i.toNat ≠ j := by omega
        simp [hm, hij, List.getD, List.getElem?_set, this]
theorem getD_ext {f g : List V3} (h : f.length = g.length) (hh : ∀ j, j < f.length → f.getD j zv = g.getD j zv) : f = g := by
  apply List.ext_getElem h
  intro j h1 h2
  have := hh j h1
  simpa [List.getD, h1, h2] using this
theorem fbs_cons (i : Int) (L : List Int) (f : List V3) : fbs (i :: L) f = vbs (f.getD i.toNat zv) ++ fbs L f := by
  unfold fbs
  rw [List.flatMap_cons]
theorem fldsOut_put (must : Bool) (f : List V3) (rest : List UInt8) : ∀ (L : List Int) (pre : List UInt8) (g : List V3), (∀ i ∈ L, vchk (f.getD i.toNat zv) = true ∧ (must = true → (f.getD i.toNat zv).1 ≠ 0)) →
    fldsOut must (pre ++ (fbs L f ++ rest)) L g pre.length 0 = (setL L f g, pre.length + (fbs L f).length, 0)
  | [], pre, g, _ => by simp [fldsOut, setL, fbs]
  | i :: L, pre, g, h => by
    obtain ⟨h1, h2⟩ := h i (by simp)
    have hf : fldOut must (pre ++ (fbs (i :: L) f ++ rest)) pre.length 0 = (f.getD i.toNat zv, pre.length + (vbs (f.getD i.toNat zv)).length, 0) := by
      unfold fldOut
      rw [fbs_cons, List.append_assoc, valOut_put pre _ _ h1]
      simp only
      rw [if_neg (fun hh => h2 hh.1 hh.2)]
    rw [fldsOut, hf]
    simp only
    rw [if_pos trivial]
    have ih := fldsOut_put must f rest L (pre ++ vbs (f.getD i.toNat zv)) (g.set i.toNat (f.getD i.toNat zv)) (fun j hj => h j (by simp [hj]))
    rw [fbs_cons]
    simp only [List.append_assoc, List.length_append] at ih ⊢
    rw [ih]
    simp only [Nat.add_assoc]
    rfl
theorem vk_get {f : List V3} (hv : vk f 8 = true) (i : Nat) (h : i < 8) : vchk (f.getD i zv) = true := by
  unfold vk at hv
  rw [List.all_eq_true] at hv
  exact hv i (List.mem_range.2 h)
theorem vchk_zero {v : V3} (h : vchk v = true) (h0 : v.1 = 0) : v = zv := by
  obtain ⟨k, n, s⟩ := v
  simp only at h0
  subst h0
  unfold vchk at h
  simp only [if_pos] at h
  obtain ⟨rfl, rfl⟩ := of_decide_eq_true h
  rfl
theorem setL_kl {f : List V3} (hf : f.length = 8) (hv : vk f 8 = true) : setL (kl f 8) f zeros = f := by
  apply getD_ext
  · rw [setL_len, zeros_len, hf]
  · intro j hj
    rw [setL_len, zeros_len] at hj
    rw [setL_get f j (kl f 8) zeros (fun i hi => by obtain ⟨k, _, rfl, _⟩ := (mem_kl f 8 i).1 hi; omega) (by rw [zeros_len]; exact hj)]
    split
    · rfl
    · rename_i hn
      rw [zeros_getD]
      have : (f.getD j zv).1 = 0 := by
        by_cases h0 : (f.getD j zv).1 = 0
        · exact h0
        · exact absurd ((mem_kl f 8 j).2 ⟨j, hj, rfl, h0⟩) hn
      exact (vchk_zero (vk_get hv j hj) this).symm
theorem kl_le (f : List V3) : (ofl (kl f 8)).toNat ≤ 255 := by
  have h : ofl (kl f 8) &&& 255#32 = ofl (kl f 8) := by
    apply BitM.ext
    intro n
    rw [has_and_255, has_ofl]
    by_cases hn : n ∈ kl f 8
    · obtain ⟨k, hk, rfl, _⟩ := (mem_kl f 8 n).1 hn
      simp [hn]; omega
    · simp [hn]
  rw [← h, BitVec.toNat_and]
  exact Nat.and_le_right
theorem held_pos {z : Int} (h : 1 ≤ z) : held z ≠ 0 := by unfold held; omega
theorem abv_put (pre rest : List UInt8) (z m : Int) (h0 : 1 ≤ z) (h1 : z ≤ 1099511627776) (h2 : z ≤ m) : abvOut (pre ++ (enc (held z) ++ rest)) pre.length 0 m = (held z, pre.length + (enc (held z)).length, 0) := by
  unfold abvOut
  rw [num_put pre rest (held z) m (held_le z) (by rw [held_self (by omega) h1]; exact h2)]
  simp only
  rw [if_neg (held_pos h0)]
theorem cardOut_put (pre rest : List UInt8) (id ver lab : Int) (f : List V3) (hf : f.length = 8) (hl : 0 ≤ lab) (h : ccheck id ver lab f = true) :
    cardOut (pre ++ (cbs id ver lab f ++ rest)) pre.length 0 = ((id, ver, lab, f), pre.length + (cbs id ver lab f).length, 0) := by
  have hc : cbs id ver lab f = enc (held id) ++ (enc (held ver) ++ (enc (held lab) ++ (enc (held ((ofl (kl f 8)).toNat : Int)) ++ fbs (kl f 8) f))) := by
    unfold cbs
    rw [if_neg (by rw [h]; simp)]
    simp only [List.append_assoc]
  unfold ccheck at h
  rw [Bool.and_eq_true] at h
  have h1 := of_decide_eq_true h.1
  have hv := h.2
  have hX := kl_le f
  have hh : held ((ofl (kl f 8)).toNat : Int) = (ofl (kl f 8)).toNat := by rw [held_nat (by omega) (by omega)]; rfl
  rw [hh] at hc
  obtain ⟨x, hx⟩ : ∃ x, x = ofl (kl f 8) := ⟨_, rfl⟩
  have hfl : flds x = kl f 8 := by rw [hx, flds_kl]
  rw [← hx] at hc hX hh
  have n1 := abv_put pre (enc (held ver) ++ (enc (held lab) ++ (enc x.toNat ++ fbs (kl f 8) f)) ++ rest) id 1073741823 (by omega) (by omega) (by omega)
  have n2 := abv_put (pre ++ enc (held id)) ((enc (held lab) ++ (enc x.toNat ++ fbs (kl f 8) f)) ++ rest) ver 1099511627776 (by omega) (by omega) (by omega)
  have n3 := num_put (pre ++ enc (held id) ++ enc (held ver)) ((enc x.toNat ++ fbs (kl f 8) f) ++ rest) (held lab) 65535 (held_le lab) (by rw [held_self hl (by omega)]; omega)
  have n4 := num_put (pre ++ enc (held id) ++ enc (held ver) ++ enc (held lab)) (fbs (kl f 8) f ++ rest) x.toNat 255 (by omega) (by omega)
  have n5 := fldsOut_put true f rest (kl f 8) (pre ++ enc (held id) ++ enc (held ver) ++ enc (held lab) ++ enc x.toNat) zeros (fun i hi => by
    obtain ⟨k, hk, rfl, hne⟩ := (mem_kl f 8 i).1 hi
    exact ⟨vk_get hv k hk, fun _ => hne⟩)
  rw [setL_kl hf hv] at n5
  rw [hc]
  simp only [List.append_assoc, List.length_append] at n1 n2 n3 n4 n5 ⊢
  simp only [← Nat.add_assoc] at n1 n2 n3 n4 n5 ⊢
  obtain ⟨l, hll⟩ : ∃ l, l = pre ++ (enc (held id) ++ (enc (held ver) ++ (enc (held lab) ++ (enc x.toNat ++ (fbs (kl f 8) f ++ rest))))) := ⟨_, rfl⟩
  rw [← hll] at n1 n2 n3 n4 n5 ⊢
  have kA : cardA l pre.length 0 = (held id, pre.length + (enc (held id)).length, 0) := n1
  have kB : cardB l pre.length 0 = (held ver, pre.length + (enc (held id)).length + (enc (held ver)).length, 0) := by unfold cardB; rw [kA]; exact n2
  have kC : cardC l pre.length 0 = (held lab, pre.length + (enc (held id)).length + (enc (held ver)).length + (enc (held lab)).length, 0) := by unfold cardC; rw [kB]; exact n3
  have kD : cardD l pre.length 0 = (x.toNat, pre.length + (enc (held id)).length + (enc (held ver)).length + (enc (held lab)).length + (enc x.toNat).length, 0) := by unfold cardD; rw [kC]; exact n4
  have kE : cardE l pre.length 0 = (f, pre.length + (enc (held id)).length + (enc (held ver)).length + (enc (held lab)).length + (enc x.toNat).length + (fbs (kl f 8) f).length, 0) := by
    unfold cardE
    rw [kD]
    simp only
    rw [BitVec.ofNat_toNat, BitVec.setWidth_eq, hfl]
    exact n5
  unfold cardOut
  rw [kA, kB, kC, kE]
  simp only
  rw [if_pos trivial, held_self (by omega) (by omega), held_self (by omega) (by omega), held_self hl (by omega)]
theorem fok_get {x : BitVec 32} {f : List V3} (h : fok x f 8 = true) (i : Nat) (hi : i < 8) : vchk (f.getD i zv) = true ∧ ((f.getD i zv).1 = 0 ∨ has x (i : Int) = true) := by
  unfold fok at h
  rw [List.all_eq_true] at h
  have := h i (List.mem_range.2 hi)
  simp only [Bool.and_eq_true, Bool.or_eq_true, decide_eq_true_eq] at this
  exact this
theorem patOut_put (pre rest : List UInt8) (x : BitVec 32) (lab : Int) (f : List V3) (hf : f.length = 8) (hl : 0 ≤ lab) (h : pchk x lab f = 0) :
    patOut (pre ++ (pbs x lab f ++ rest)) pre.length 0 = (((x.toNat : Int), lab, f), pre.length + (pbs x lab f).length, 0) := by
  have hc : pbs x lab f = enc (held (x.toNat : Int)) ++ ((if has x 8 = true then enc (held lab) else []) ++ fbs (flds x) f) := by
    unfold pbs
    rw [if_neg (by rw [h]; simp)]
    simp only [List.append_assoc]
  unfold pchk at h
  have h1 : ¬ (511 < x.toNat ∨ x.toNat = 0) := fun hh => by rw [if_pos hh] at h; cases h
  rw [if_neg h1] at h
  have h2 : ¬ (65536 ≤ lab ∨ (lab ≠ 0 ∧ has x 8 = false)) := fun hh => by rw [if_pos hh] at h; cases h
  rw [if_neg h2] at h
  have h3 : fok x f 8 = true := by
    by_cases hh : fok x f 8 = true
    · exact hh
    · rw [if_neg hh] at h; cases h
  have hh : held (x.toNat : Int) = x.toNat := by rw [held_nat (by omega) (by omega)]; rfl
  have hset : setL (flds x) f zeros = f := by
    apply getD_ext
    · rw [setL_len, zeros_len, hf]
    · intro j hj
      rw [setL_len, zeros_len] at hj
      rw [setL_get f j (flds x) zeros (fun i hi => ((mem_flds x i).1 hi).1) (by rw [zeros_len]; exact hj)]
      split
      · rfl
      · rename_i hn
        rw [zeros_getD]
        obtain ⟨g1, g2⟩ := fok_get h3 j hj
        rcases g2 with g2 | g2
        · exact (vchk_zero g1 g2).symm
        · exact absurd ((mem_flds x j).2 ⟨by omega, by omega, g2⟩) hn
  have hm : ∀ i ∈ flds x, vchk (f.getD i.toNat zv) = true ∧ (false = true → (f.getD i.toNat zv).1 ≠ 0) := fun i hi => by
    obtain ⟨i0, i8, _⟩ := (mem_flds x i).1 hi
    exact ⟨(fok_get h3 i.toNat (by omega)).1, fun e => by cases e⟩
  rw [hh] at hc
  cases h8 : has x 8
  · rw [h8, if_neg (by simp), List.nil_append] at hc
    have hl0 : lab = 0 := by
      by_cases e : lab = 0
      · exact e
      · exact absurd (.inr ⟨e, h8⟩) h2
    subst hl0
    have n1 := abv_put pre (fbs (flds x) f ++ rest) (x.toNat : Int) 511 (by omega) (by omega) (by omega)
    have n5 := fldsOut_put false f rest (flds x) (pre ++ enc x.toNat) zeros hm
    rw [hset] at n5
    rw [hh] at n1
    rw [hc]
    simp only [List.append_assoc, List.length_append] at n1 n5 ⊢
    obtain ⟨l, hll⟩ : ∃ l, l = pre ++ (enc x.toNat ++ (fbs (flds x) f ++ rest)) := ⟨_, rfl⟩
    rw [← hll] at n1 n5 ⊢
    have kA : patA l pre.length 0 = (x.toNat, pre.length + (enc x.toNat).length, 0) := n1
    have kX : patX l pre.length 0 = x := by unfold patX; rw [kA, BitVec.ofNat_toNat, BitVec.setWidth_eq]
    have kB : patB l pre.length 0 = (0, pre.length + (enc x.toNat).length, 0) := by unfold patB; rw [kX, kA, h8, if_neg (by simp)]
    have kE : patE l pre.length 0 = (f, pre.length + (enc x.toNat).length + (fbs (flds x) f).length, 0) := by
      unfold patE
      rw [kB, kX]
      exact n5
    unfold patOut
    rw [kX, kB, kE]
    simp only
    rw [if_pos trivial]
    simp only [Nat.add_assoc]
    rfl
  · rw [h8, if_pos rfl] at hc
    have n1 := abv_put pre ((enc (held lab) ++ fbs (flds x) f) ++ rest) (x.toNat : Int) 511 (by omega) (by omega) (by omega)
    have n2 := num_put (pre ++ enc x.toNat) (fbs (flds x) f ++ rest) (held lab) 65535 (held_le lab) (by rw [held_self hl (by omega)]; omega)
    have n5 := fldsOut_put false f rest (flds x) (pre ++ enc x.toNat ++ enc (held lab)) zeros hm
    rw [hset] at n5
    rw [hh] at n1
    rw [hc]
    simp only [List.append_assoc, List.length_append] at n1 n2 n5 ⊢
    simp only [← Nat.add_assoc] at n1 n2 n5 ⊢
    obtain ⟨l, hll⟩ : ∃ l, l = pre ++ (enc x.toNat ++ (enc (held lab) ++ (fbs (flds x) f ++ rest))) := ⟨_, rfl⟩
    rw [← hll] at n1 n2 n5 ⊢
    have kA : patA l pre.length 0 = (x.toNat, pre.length + (enc x.toNat).length, 0) := n1
    have kX : patX l pre.length 0 = x := by unfold patX; rw [kA, BitVec.ofNat_toNat, BitVec.setWidth_eq]
    have kB : patB l pre.length 0 = (held lab, pre.length + (enc x.toNat).length + (enc (held lab)).length, 0) := by unfold patB; rw [kX, kA, h8, if_pos rfl]; exact n2
    have kE : patE l pre.length 0 = (f, pre.length + (enc x.toNat).length + (enc (held lab)).length + (fbs (flds x) f).length, 0) := by
      unfold patE
      rw [kB, kX]
      exact n5
    unfold patOut
    rw [kX, kB, kE]
    simp only
    rw [if_pos trivial, held_self hl (by omega)]
end Go.Proofs.Yticdpfjajkfheaa

/- What is read may be, and has just the bytes that were taken: mathematics. -/
namespace Go.Proofs.Yticdpfjajkfheaa
set_option linter.unusedVariables false
set_option linter.unusedSimpArgs false
open Go Go.RowKit OctM BitM

theorem scan_only : ∀ (l : List UInt8) (i v : Nat), (scan l i v).2.2 = 0 → ∃ n, scan l i v = (v + n * 128 ^ i, i + (enc n).length, 0) ∧ l = enc n ++ l.drop (enc n).length ∧ (0 < i → 0 < n)
  | [], i, v, h => by
    unfold scan at h
    split at h <;> cases h
  | c :: l, i, v, h => by
    unfold scan at h ⊢
    by_cases h6 : i = 6
    · rw [if_pos h6] at h; cases h
    · rw [if_neg h6] at h ⊢
      by_cases hc : c.toNat < 128
      · rw [if_pos hc] at h ⊢
        by_cases hz : c.toNat = 0 ∧ 0 < i
        · rw [if_pos hz] at h; cases h
        · rw [if_neg hz] at h ⊢
          have he : enc c.toNat = [c] := by rw [enc_low hc]; simp
          refine ⟨c.toNat, ?_, ?_, fun hi => ?_⟩
          · rw [he, Nat.mod_eq_of_lt hc]; rfl
          · rw [he]; rfl
          · rcases Nat.eq_zero_or_pos c.toNat with h0 | h0
            · exact absurd ⟨h0, hi⟩ hz
            · exact h0
      · rw [if_neg hc] at h ⊢
        obtain ⟨n, e1, e2, e3⟩ := scan_only l (i + 1) _ h
        have hn := e3 (by omega)
        have hcl := c.toNat_lt
        have hlow : (c.toNat % 128 + n * 128) % 128 = c.toNat % 128 := by omega
        have hdiv : (c.toNat % 128 + n * 128) / 128 = n := by omega
        have he : enc (c.toNat % 128 + n * 128) = c :: enc n := by
          rw [enc_high (by omega), hlow, hdiv, show c.toNat % 128 + 128 = c.toNat by omega]
          simp
        refine ⟨c.toNat % 128 + n * 128, ?_, ?_, fun _ => by omega⟩
        · rw [e1, he, List.length_cons]
          have e4 : v + c.toNat % 128 * 128 ^ i + n * 128 ^ (i + 1) = v + (c.toNat % 128 + n * 128) * 128 ^ i := by
            rw [Nat.add_mul, Nat.pow_succ, Nat.mul_comm (128 ^ i) 128, ← Nat.mul_assoc, Nat.add_assoc]
          rw [e4]
          congr 2; omega
        · rw [he, List.length_cons, List.drop_succ_cons, List.cons_append, ← e2]
theorem num_only {l : List UInt8} {a : Nat} {e m : Int} (h : (numOut l a e m).2.2 = 0) :
    e = 0 ∧ (numOut l a e m).2.1 = a + (enc (numOut l a e m).1).length ∧ l.drop a = enc (numOut l a e m).1 ++ l.drop (numOut l a e m).2.1 ∧ ((numOut l a e m).1 : Int) ≤ m ∧ (numOut l a e m).1 ≤ 1099511627776 := by
  unfold numOut at *
  by_cases he : e ≠ 0
  · rw [if_pos he] at h; exact absurd h he
  · rw [if_neg he] at h ⊢
    by_cases hs : (scan (l.drop a) 0 0).2.2 ≠ 0
    · rw [if_pos hs] at h
      simp only at h
      omega
    · rw [if_neg hs] at h ⊢
      by_cases hb : 1099511627776 < ((scan (l.drop a) 0 0).1 : Int) ∨ m < ((scan (l.drop a) 0 0).1 : Int)
      · rw [if_pos hb] at h; cases h
      · rw [if_neg hb] at h ⊢
        obtain ⟨n, e1, e2, _⟩ := scan_only (l.drop a) 0 0 (by omega)
        rw [e1] at hb ⊢
        simp only [Nat.pow_zero, Nat.mul_one, Nat.zero_add] at hb ⊢
        refine ⟨by omega, by first | rfl | trivial, ?_, by omega, by omega⟩
        rw [List.drop_drop] at e2
        exact e2
theorem str_only {l : List UInt8} {a : Nat} {e m : Int} (h : (strOut l a e m).2.2 = 0) :
    e = 0 ∧ (strOut l a e m).2.1 = a + (enc (strOut l a e m).1.length).length + (strOut l a e m).1.length ∧ l.drop a = enc (strOut l a e m).1.length ++ ((strOut l a e m).1 ++ l.drop (strOut l a e m).2.1) ∧ ((strOut l a e m).1.length : Int) ≤ m := by
  unfold strOut at *
  by_cases he : e ≠ 0
  · rw [if_pos he] at h; exact absurd h he
  · rw [if_neg he] at h ⊢
    by_cases hs : (numOut l a 0 m).2.2 ≠ 0
    · rw [if_pos hs] at h; exact absurd h hs
    · rw [if_neg hs] at h ⊢
      by_cases hb : l.length < (numOut l a 0 m).2.1 + (numOut l a 0 m).1
      · rw [if_pos hb] at h; cases h
      · rw [if_neg hb] at h ⊢
        obtain ⟨_, e1, e2, e3, _⟩ := num_only (l := l) (a := a) (e := 0) (m := m) (by simpa using hs)
        have hl : ((l.drop (numOut l a 0 m).2.1).take (numOut l a 0 m).1).length = (numOut l a 0 m).1 := by
          rw [List.length_take, List.length_drop]; omega
        simp only [hl]
        refine ⟨by omega, by rw [e1], ?_, e3⟩
        rw [← List.drop_drop, List.take_append_drop]
        exact e2
theorem enc_zero : enc 0 = [0] := by rw [enc_low (by omega)]; rfl
/-- A value that is read without an error. -/
theorem val_only {l : List UInt8} {a : Nat} {e : Int} (h : (valOut l a e).2.2 = 0) :
    e = 0 ∧ vchk (valOut l a e).1 = true ∧ (valOut l a e).2.1 = a + (vbs (valOut l a e).1).length ∧ l.drop a = vbs (valOut l a e).1 ++ l.drop (valOut l a e).2.1 := by
  have hcase : (numOut l a e 2).2.2 = 0 := by
    by_cases h0 : (numOut l a e 2).2.2 = 0
    · exact h0
    · have hz := numOut_err l a e 2 h0
      unfold valOut at h
      rw [hz, if_neg (by decide), if_neg (by decide)] at h
      exact h
  obtain ⟨he, n1, n2, n3, _⟩ := num_only hcase
  obtain ⟨r1, hr1⟩ : ∃ r, r = numOut l a e 2 := ⟨_, rfl⟩
  unfold valOut at h ⊢
  rw [← hr1] at h n1 n2 n3 hcase ⊢
  obtain ⟨k, a1, e1⟩ := r1
  simp only at h n1 n2 n3 hcase ⊢
  subst hcase
  refine ⟨he, ?_⟩
  by_cases k1 : k = 1
  · subst k1
    rw [if_pos rfl] at h ⊢
    have h' : (numOut l a1 0 1099511627776).2.2 = 0 := by unfold valEnd at h; exact h
    obtain ⟨_, m1, m2, m3, m4⟩ := num_only h'
    unfold valEnd
    rw [if_pos h']
    simp only
    obtain ⟨r2, hr2⟩ : ∃ r, r = numOut l a1 0 1099511627776 := ⟨_, rfl⟩
    rw [← hr2] at m1 m2 m3 m4 ⊢
    have hv : vchk (1, (r2.1 : Int), str []) = true := by
      unfold vchk
      simp only
      rw [if_neg (by decide), if_pos trivial, decide_eq_true_eq]
      exact ⟨by omega, by omega, rfl⟩
    have hb : vbs (1, (r2.1 : Int), str []) = enc 1 ++ enc r2.1 := by
      unfold vbs
      rw [if_neg (by rw [hv]; simp)]
      simp only
      rw [if_pos trivial, held_nat (by omega) (by omega)]
      rfl
    rw [hb]
    refine ⟨hv, by rw [m1, n1, List.length_append]; omega, ?_⟩
    rw [n2, m2, List.append_assoc]
  · rw [if_neg k1] at h ⊢
    by_cases k2 : k = 2
    · subst k2
      rw [if_pos rfl] at h ⊢
      have h' : (strOut l a1 0 24).2.2 = 0 := by unfold valEnd at h; exact h
      obtain ⟨_, m1, m2, m3⟩ := str_only h'
      unfold valEnd
      rw [if_pos h']
      simp only
      obtain ⟨r2, hr2⟩ : ∃ r, r = strOut l a1 0 24 := ⟨_, rfl⟩
      rw [← hr2] at m1 m2 m3 ⊢
      have hd : (str r2.1).data.toList = r2.1 := by unfold str; simp
      have hv : vchk (2, 0, str r2.1) = true := by
        unfold vchk
        simp only
        rw [if_neg (by decide), if_neg (by decide), if_pos trivial, decide_eq_true_eq]
        exact ⟨trivial, by rw [str_size]; omega⟩
      have hb : vbs (2, 0, str r2.1) = enc 2 ++ (enc r2.1.length ++ r2.1) := by
        unfold vbs
        rw [if_neg (by rw [hv]; simp)]
        simp only
        rw [if_neg (by decide), if_pos trivial, hd]
      rw [hb]
      refine ⟨hv, by rw [m1, n1, List.length_append, List.length_append]; omega, ?_⟩
      rw [n2, m2]
      simp only [List.append_assoc]
    · rw [if_neg k2] at h ⊢
      have k0 : k = 0 := by omega
      subst k0
      unfold valEnd
      rw [if_pos rfl]
      exact ⟨rfl, n1, n2⟩
/-- Fields that are read without an error. -/
theorem flds_only (must : Bool) (l : List UInt8) : ∀ (L : List Int) (f : List V3) (a : Nat) (e : Int), L.Nodup → (∀ i ∈ L, 0 ≤ i ∧ i.toNat < f.length) → (fldsOut must l L f a e).2.2 = 0 →
    e = 0 ∧ (∀ j : Nat, (j : Int) ∉ L → (fldsOut must l L f a e).1.getD j zv = f.getD j zv) ∧ (∀ i ∈ L, vchk ((fldsOut must l L f a e).1.getD i.toNat zv) = true ∧ (must = true → ((fldsOut must l L f a e).1.getD i.toNat zv).1 ≠ 0)) ∧
    (fldsOut must l L f a e).2.1 = a + (fbs L (fldsOut must l L f a e).1).length ∧ l.drop a = fbs L (fldsOut must l L f a e).1 ++ l.drop (fldsOut must l L f a e).2.1
  | [], f, a, e, _, _, h => by
    refine ⟨h, fun _ _ => rfl, fun i hi => (by cases hi), ?_, ?_⟩
    · simp [fldsOut, fbs]
    · simp [fldsOut, fbs]
  | i :: L, f, a, e, hn, hL, h => by
    unfold fldsOut at h ⊢
    by_cases h0 : (fldOut must l a e).2.2 = 0
    · rw [if_pos h0] at h ⊢
      obtain ⟨hi0, hil⟩ := hL i (by simp)
      rw [List.nodup_cons] at hn
      obtain ⟨_, r1, r2, r3, r4⟩ := flds_only must l L (f.set i.toNat (fldOut must l a e).1) (fldOut must l a e).2.1 (fldOut must l a e).2.2 hn.2 (fun j hj => by rw [List.length_set]; exact hL j (by simp [hj])) h
      obtain ⟨R, hR⟩ : ∃ R, R = fldsOut must l L (f.set i.toNat (fldOut must l a e).1) (fldOut must l a e).2.1 (fldOut must l a e).2.2 := ⟨_, rfl⟩
      rw [← hR] at r1 r2 r3 r4 ⊢
      have hRi : R.1.getD i.toNat zv = (fldOut must l a e).1 := by
        rw [r1 i.toNat (by rw [Int.toNat_of_nonneg hi0]; exact hn.1)]
        simp [List.getD, hil]
      have hv0 : (valOut l a e).2.2 = 0 := by
        unfold fldOut at h0
        simp only at h0
        split at h0
        · unfold failOut at h0
          split at h0
          · cases h0
          · exact h0
        · exact h0
      have hk : must = true → (valOut l a e).1.1 ≠ 0 := fun hm hz => by
        unfold fldOut at h0
        simp only at h0
        rw [if_pos ⟨hm, hz⟩] at h0
        unfold failOut at h0
        rw [if_pos hv0] at h0
        cases h0
      obtain ⟨he, v1, v2, v3⟩ := val_only hv0
      have hf1 : (fldOut must l a e).1 = (valOut l a e).1 := rfl
      have hf2 : (fldOut must l a e).2.1 = (valOut l a e).2.1 := rfl
      rw [hf1] at hRi
      rw [hf2] at r3 r4
      refine ⟨he, fun j hj => ?_, fun j hj => ?_, ?_, ?_⟩
      · rw [r1 j (fun hh => hj (by simp [hh]))]
        have : i.toNat ≠ j := fun hh => hj (by rw [← hh, Int.toNat_of_nonneg hi0]; simp)
        simp [List.getD, List.getElem?_set, this]
      · rcases List.mem_cons.1 hj with rfl | hj
        · rw [hRi]; exact ⟨v1, hk⟩
        · exact r2 j hj
      · rw [fbs_cons, hRi, List.length_append, r3, v2]; omega
      · rw [fbs_cons, hRi, List.append_assoc, ← r4, ← v3]
    · rw [if_neg h0] at h
      exact absurd h h0
theorem lst_nodup (x : BitVec 32) (k : Nat) : (lst x k).Nodup := by
  unfold lst
  unfold List.Nodup
  rw [List.pairwise_map]
  exact (List.Pairwise.filter _ List.nodup_range).imp (fun h e => h (by omega))
theorem flds_ok (x : BitVec 32) : (flds x).Nodup ∧ ∀ i ∈ flds x, 0 ≤ i ∧ i.toNat < zeros.length := by
  refine ⟨lst_nodup _ _, fun i hi => ?_⟩
  obtain ⟨h0, h8, _⟩ := (mem_flds x i).1 hi
  rw [zeros_len]
  exact ⟨h0, by omega⟩
end Go.Proofs.Yticdpfjajkfheaa

/- Cards and patches that are read: they may be, and have just the bytes that were taken: mathematics. -/
namespace Go.Proofs.Yticdpfjajkfheaa
set_option linter.unusedVariables false
set_option linter.unusedSimpArgs false
open Go Go.RowKit OctM BitM

theorem abv_only {l : List UInt8} {a : Nat} {e m : Int} (h : (abvOut l a e m).2.2 = 0) :
    e = 0 ∧ (abvOut l a e m).1 ≠ 0 ∧ (abvOut l a e m).2.1 = a + (enc (abvOut l a e m).1).length ∧ l.drop a = enc (abvOut l a e m).1 ++ l.drop (abvOut l a e m).2.1 ∧ ((abvOut l a e m).1 : Int) ≤ m ∧ (abvOut l a e m).1 ≤ 1099511627776 := by
  unfold abvOut at *
  simp only at h ⊢
  by_cases hz : (numOut l a e m).1 = 0
  · rw [if_pos hz] at h
    unfold failOut at h
    split at h
    · cases h
    · rename_i hne; exact absurd h hne
  · rw [if_neg hz] at h
    obtain ⟨h1, h2, h3, h4, h5⟩ := num_only h
    exact ⟨h1, hz, h2, h3, h4, h5⟩
theorem vchk_zv : vchk zv = true := by decide
theorem kl_flds (R : List V3) (x : BitVec 32) (h : ∀ i : Nat, i < 8 → ((R.getD i zv).1 ≠ 0 ↔ has x (i : Int) = true)) : kl R 8 = flds x := by
  unfold flds
  rw [lst_end (j := 8) (fun i hi => by rw [has_and_255, decide_eq_false (by omega), Bool.and_false]) 32 (by omega)]
  unfold kl lst
  congr 1
  apply List.filter_congr
  intro i hi
  have hi8 := List.mem_range.1 hi
  rw [has_and_255, decide_eq_true (show (i : Int) < 8 by omega), Bool.and_true]
  have := h i hi8
  by_cases hb : has x (i : Int) = true
  · rw [hb, decide_eq_true (this.2 hb)]
  · rw [decide_eq_false (fun hh => hb (this.1 hh))]
    simpa using hb
theorem ofl_flds (x : BitVec 32) (h : x.toNat ≤ 255) : ofl (flds x) = x := by
  have hx : x &&& 255#32 = x := by
    apply BitVec.eq_of_toNat_eq
    rw [BitVec.toNat_and, show (255#32 : BitVec 32).toNat = 2 ^ 8 - 1 from rfl, Nat.and_two_pow_sub_one_eq_mod]
    omega
  apply BitM.ext
  intro n
  rw [has_ofl]
  by_cases hn : n ∈ flds x
  · obtain ⟨h0, h8, hb⟩ := (mem_flds x n).1 hn
    rw [hb, decide_eq_true hn, decide_eq_true (by omega)]
    rfl
  · rw [decide_eq_false hn, Bool.and_false]
    by_cases hb : has x n = true
    · exfalso
      apply hn
      have h2 := hb
      rw [← hx, has_and_255, Bool.and_eq_true, decide_eq_true_eq] at h2
      have h0 : 0 ≤ n := by
        unfold has at hb
        rw [Bool.and_eq_true, decide_eq_true_eq] at hb
        exact hb.1.1
      exact (mem_flds x n).2 ⟨h0, h2.2, hb⟩
    · simpa using hb
theorem card_only {l : List UInt8} {a : Nat} {e : Int} (h : (cardOut l a e).2.2 = 0) :
    ccheck (cardOut l a e).1.1 (cardOut l a e).1.2.1 (cardOut l a e).1.2.2.1 (cardOut l a e).1.2.2.2 = true ∧ 0 ≤ (cardOut l a e).1.2.2.1 ∧
      l.drop a = cbs (cardOut l a e).1.1 (cardOut l a e).1.2.1 (cardOut l a e).1.2.2.1 (cardOut l a e).1.2.2.2 ++ l.drop (cardOut l a e).2.1 ∧
      (cardOut l a e).2.1 = a + (cbs (cardOut l a e).1.1 (cardOut l a e).1.2.1 (cardOut l a e).1.2.2.1 (cardOut l a e).1.2.2.2).length := by
  have hE : (cardE l a e).2.2 = 0 := h
  have hvD : (cardD l a e).1 ≤ 255 := by
    have := numOut_le l (cardC l a e).2.1 (cardC l a e).2.2 255 (by omega)
    unfold cardD; omega
  obtain ⟨x, hx⟩ : ∃ x, x = BitVec.ofNat 32 (cardD l a e).1 := ⟨_, rfl⟩
  have hxn : x.toNat = (cardD l a e).1 := by rw [hx, BitVec.toNat_ofNat]; omega
  have e0 := flds_only true l (flds x) zeros (cardD l a e).2.1 (cardD l a e).2.2 (flds_ok x).1 (flds_ok x).2 (by rw [hx]; exact hE)
  rw [show fldsOut true l (flds x) zeros (cardD l a e).2.1 (cardD l a e).2.2 = cardE l a e from by unfold cardE; rw [hx]] at e0
  obtain ⟨eD, r1, r2, r3, r4⟩ := e0
  obtain ⟨eC, d1, d2, d3, _⟩ := num_only (l := l) (a := (cardC l a e).2.1) (e := (cardC l a e).2.2) (m := 255) eD
  obtain ⟨eB, c1, c2, c3, _⟩ := num_only (l := l) (a := (cardB l a e).2.1) (e := (cardB l a e).2.2) (m := 65535) eC
  obtain ⟨eA, b0, b1, b2, b3, _⟩ := abv_only (l := l) (a := (cardA l a e).2.1) (e := (cardA l a e).2.2) (m := 1099511627776) eB
  obtain ⟨_, a0, a1, a2, a3, _⟩ := abv_only (l := l) (a := a) (e := e) (m := 1073741823) eA
  change (cardD l a e).2.1 = _ + (enc (cardD l a e).1).length at d1
  change l.drop _ = enc (cardD l a e).1 ++ l.drop (cardD l a e).2.1 at d2
  change (cardC l a e).2.1 = _ + (enc (cardC l a e).1).length at c1
  change l.drop _ = enc (cardC l a e).1 ++ l.drop (cardC l a e).2.1 at c2
  change ((cardC l a e).1 : Int) ≤ 65535 at c3
  change (cardB l a e).1 ≠ 0 at b0
  change (cardB l a e).2.1 = _ + (enc (cardB l a e).1).length at b1
  change l.drop _ = enc (cardB l a e).1 ++ l.drop (cardB l a e).2.1 at b2
  change ((cardB l a e).1 : Int) ≤ 1099511627776 at b3
  change (cardA l a e).1 ≠ 0 at a0
  change (cardA l a e).2.1 = _ + (enc (cardA l a e).1).length at a1
  change l.drop _ = enc (cardA l a e).1 ++ l.drop (cardA l a e).2.1 at a2
  change ((cardA l a e).1 : Int) ≤ 1073741823 at a3
  have hout : cardOut l a e = ((((cardA l a e).1 : Int), ((cardB l a e).1 : Int), ((cardC l a e).1 : Int), (cardE l a e).1), (cardE l a e).2) := by
    unfold cardOut
    rw [if_pos hE]
  obtain ⟨R, hR⟩ : ∃ R, R = (cardE l a e).1 := ⟨_, rfl⟩
  rw [← hR] at r1 r2 r3 r4 hout
  have hnot : ∀ j : Nat, j < 8 → has x (j : Int) = false → R.getD j zv = zv := fun j hj hb => by
    rw [r1 j (fun hm => by have := ((mem_flds x j).1 hm).2.2; rw [hb] at this; cases this), zeros_getD]
  have hin : ∀ j : Nat, j < 8 → has x (j : Int) = true → vchk (R.getD j zv) = true ∧ (R.getD j zv).1 ≠ 0 := fun j hj hb => by
    have := r2 (j : Int) ((mem_flds x j).2 ⟨by omega, by omega, hb⟩)
    rw [Int.toNat_natCast] at this
    exact ⟨this.1, this.2 rfl⟩
  have hkl : kl R 8 = flds x := kl_flds R x fun i hi => by
    constructor
    · intro hk
      by_cases hb : has x (i : Int) = true
      · exact hb
      · exact absurd (by rw [hnot i hi (by simpa using hb)]; rfl) hk
    · intro hb
      exact (hin i hi hb).2
  have hvk : vk R 8 = true := by
    unfold vk
    rw [List.all_eq_true]
    intro i hi
    have hi8 := List.mem_range.1 hi
    by_cases hb : has x (i : Int) = true
    · exact (hin i hi8 hb).1
    · rw [hnot i hi8 (by simpa using hb)]; exact vchk_zv
  have hck : ccheck ((cardA l a e).1 : Int) ((cardB l a e).1 : Int) ((cardC l a e).1 : Int) R = true := by
    unfold ccheck
    rw [hvk, Bool.and_true, decide_eq_true_eq]
    omega
  have hcb : cbs ((cardA l a e).1 : Int) ((cardB l a e).1 : Int) ((cardC l a e).1 : Int) R = enc (cardA l a e).1 ++ (enc (cardB l a e).1 ++ (enc (cardC l a e).1 ++ (enc (cardD l a e).1 ++ fbs (flds x) R))) := by
    unfold cbs
    rw [if_neg (by rw [hck]; simp), hkl, ofl_flds x (by omega), held_nat (by omega) (by omega), held_nat (by omega) (by omega), held_nat (by omega) (by omega), held_nat (by omega) (by omega), ← hxn]
    simp only [Int.toNat_natCast, List.append_assoc]
  rw [hout]
  simp only
  rw [hcb]
  refine ⟨hck, by omega, ?_, ?_⟩
  · simp only [List.append_assoc]
    rw [← r4, ← d2, ← c2, ← b2, ← a2]
  · simp only [List.length_append]
    omega
theorem card_field {l : List UInt8} {a : Nat} {e : Int} : vchk ((cardOut l a e).1.2.2.2.getD 0 zv) = true := by
  by_cases h : (cardOut l a e).2.2 = 0
  · have h1 := (card_only h).1
    unfold ccheck at h1
    rw [Bool.and_eq_true] at h1
    exact vk_get h1.2 0 (by omega)
  · have hE : ¬ (cardE l a e).2.2 = 0 := h
    have : (cardOut l a e).1.2.2.2 = zeros := by
      unfold cardOut
      simp only
      rw [if_neg hE]
    rw [this, zeros_getD]
    exact vchk_zv
theorem pat_only {l : List UInt8} {a : Nat} {e : Int} (h : (patOut l a e).2.2 = 0) :
    ∃ x : BitVec 32, (patOut l a e).1.1 = (x.toNat : Int) ∧ pchk x (patOut l a e).1.2.1 (patOut l a e).1.2.2 = 0 ∧ 0 ≤ (patOut l a e).1.2.1 ∧
      l.drop a = pbs x (patOut l a e).1.2.1 (patOut l a e).1.2.2 ++ l.drop (patOut l a e).2.1 ∧ (patOut l a e).2.1 = a + (pbs x (patOut l a e).1.2.1 (patOut l a e).1.2.2).length := by
  have hE : (patE l a e).2.2 = 0 := h
  have hvA : (patA l a e).1 ≤ 511 := by
    have := numOut_le l a e 511 (by omega)
    unfold patA abvOut; simp only; omega
  obtain ⟨x, hx⟩ : ∃ x, x = patX l a e := ⟨_, rfl⟩
  have hxn : x.toNat = (patA l a e).1 := by rw [hx]; unfold patX; rw [BitVec.toNat_ofNat]; omega
  have e0 := flds_only false l (flds x) zeros (patB l a e).2.1 (patB l a e).2.2 (flds_ok x).1 (flds_ok x).2 (by rw [hx]; exact hE)
  rw [show fldsOut false l (flds x) zeros (patB l a e).2.1 (patB l a e).2.2 = patE l a e from by unfold patE; rw [hx]] at e0
  obtain ⟨eB, r1, r2, r3, r4⟩ := e0
  have hout : patOut l a e = (((x.toNat : Int), ((patB l a e).1 : Int), (patE l a e).1), (patE l a e).2) := by
    unfold patOut
    rw [if_pos hE, hx]
  obtain ⟨R, hR⟩ : ∃ R, R = (patE l a e).1 := ⟨_, rfl⟩
  rw [← hR] at r1 r2 r3 r4 hout
  have hB : (patB l a e) = if has x 8 = true then numOut l (patA l a e).2.1 (patA l a e).2.2 65535 else (0, (patA l a e).2) := by
    rw [hx]; rfl
  have hfok : fok x R 8 = true := by
    unfold fok
    rw [List.all_eq_true]
    intro i hi
    have hi8 := List.mem_range.1 hi
    by_cases hb : has x (i : Int) = true
    · have := (r2 (i : Int) ((mem_flds x i).2 ⟨by omega, by omega, hb⟩)).1
      rw [Int.toNat_natCast] at this
      rw [this, hb]; simp
    · rw [r1 i (fun hm => hb ((mem_flds x i).1 hm).2.2), zeros_getD, vchk_zv]
      rfl
  have fin : ∀ (lab : Nat) (mid : List UInt8), (patB l a e).1 = lab → lab ≤ 65535 → (has x 8 = false → lab = 0) → mid = (if has x 8 = true then enc lab else []) → (patA l a e).2.2 = 0 → (patB l a e).2.1 = (patA l a e).2.1 + mid.length → l.drop (patA l a e).2.1 = mid ++ l.drop (patB l a e).2.1 →
      pchk x (lab : Int) R = 0 ∧ l.drop a = pbs x (lab : Int) R ++ l.drop (patE l a e).2.1 ∧ (patE l a e).2.1 = a + (pbs x (lab : Int) R).length := by
    intro lab mid h1 h2 h3 h4 h5 h6 h7
    obtain ⟨_, a0, a1, a2, a3, _⟩ := abv_only (l := l) (a := a) (e := e) (m := 511) h5
    change (patA l a e).1 ≠ 0 at a0
    change (patA l a e).2.1 = _ + (enc (patA l a e).1).length at a1
    change l.drop _ = enc (patA l a e).1 ++ l.drop (patA l a e).2.1 at a2
    have hpk : pchk x (lab : Int) R = 0 := by
      unfold pchk
      rw [if_neg (by omega), if_neg, if_pos hfok]
      rintro (hh | ⟨hh, hb⟩)
      · omega
      · exact hh (by rw [h3 hb]; rfl)
    have hpb : pbs x (lab : Int) R = enc (patA l a e).1 ++ (mid ++ fbs (flds x) R) := by
      unfold pbs
      rw [if_neg (by rw [hpk]; simp), held_nat (by omega) (by omega), held_nat (by omega) (by omega), h4, ← hxn]
      simp only [Int.toNat_natCast, List.append_assoc]
    refine ⟨hpk, ?_, ?_⟩
    · rw [hpb]
      simp only [List.append_assoc]
      rw [← r4, ← h7, ← a2]
    · rw [hpb]
      simp only [List.length_append]
      omega
  refine ⟨x, by rw [hout], ?_⟩
  rw [hout]
  simp only
  cases h8 : has x 8
  · rw [h8, if_neg (by simp)] at hB
    have := fin 0 [] (by rw [hB]) (by omega) (fun _ => rfl) (by rw [h8]; rfl) (by rw [hB] at eB; exact eB) (by rw [hB]; rfl) (by rw [hB]; rfl)
    rw [show ((patB l a e).1 : Int) = ((0 : Nat) : Int) from by rw [hB]]
    exact ⟨this.1, by omega, this.2⟩
  · rw [h8, if_pos rfl] at hB
    rw [hB] at eB
    obtain ⟨eA, c1, c2, c3, _⟩ := num_only eB
    rw [← hB] at c1 c2 c3
    have := fin (patB l a e).1 (enc (patB l a e).1) rfl (by omega) (fun hh => by rw [h8] at hh; cases hh) (by rw [h8]; rfl) eA c1 c2
    exact ⟨this.1, by omega, this.2⟩
end Go.Proofs.Yticdpfjajkfheaa

/- Cards as they are read of bytes: the program's: the walk. -/
namespace Go.Proofs.Yticdpfjajkfheaa
set_option linter.unusedVariables false
open Go Go.RowKit OctM BitM

theorem run_newC (w : World) : (Instr.alloc 27 true (.tuple #[])).run Try.prog w = .ok (.pointer (some ⟨w.heap.size, 0, none⟩)) (w.alloc (.cells (ccells 0 0 0 zeros).toArray 27)) := by kernel_rfl
theorem exec_newC {a : Act} {op : Oper} (ho : op.op = .alloc 27) (w : World) : (execOp a.eval op).run Try.prog w = .ok (.value (.pointer (some ⟨w.heap.size, 0, none⟩))) (w.alloc (.cells (ccells 0 0 0 zeros).toArray 27)) := by
  unfold execOp
  simp only [ho, Sem.run_bind, run_newC, Result.andThen_ok, Sem.run_pure]
theorem fld_nat {x : BitVec 32} {k : Nat} {L : List Int} (hL : L = flds x) (hk : k < L.length) : ∃ j : Nat, L[k] = (j : Int) ∧ j < 8 := by
  obtain ⟨h0, h8, _⟩ := (mem_flds x L[k]).1 (by rw [← hL]; exact List.getElem_mem hk)
  obtain ⟨j, hj⟩ := Int.eq_ofNat_of_zero_le h0
  exact ⟨j, hj, by omega⟩

set_option maxRecDepth 100000 in
set_option maxHeartbeats 6400000 in
theorem rd_card (base g : Nat) (l : List UInt8) (a : Nat) (e : Int) (w : World) (h : Rd w base g l a e) (ha : a ≤ l.length) (hm : l.length ≤ 2000) :
    Calls Try.prog 18 #[.pointer (some ⟨g, 0, none⟩)] w fun x w' => x = .returned (.agg (cc4 (cardOut l a e).1).toArray) ∧ Rd w' base g l (cardOut l a e).2.1 (cardOut l a e).2.2 ∧ w.grownBy w' (some g) := by
  have hg := h.block.2
  obtain ⟨T, hT⟩ : ∃ T, T = cardOut l a e := ⟨_, rfl⟩
  rw [← hT]
  have HA := Lib.hid (fun wx (hx : Rd wx base g l a e) => rd_above base g l a e 1073741823 wx hx ha hm)
  have A1 := abvOut_at l a e 1073741823 ha
  obtain ⟨rA, hA⟩ : ∃ r, r = abvOut l a e 1073741823 := ⟨_, rfl⟩
  rw [← hA] at HA A1
  obtain ⟨vA, aA, eA⟩ := rA
  simp only at HA A1
  have HB := Lib.hid (fun wx (hx : Rd wx base g l aA eA) => rd_above base g l aA eA 1099511627776 wx hx A1 hm)
  have A2 := abvOut_at l aA eA 1099511627776 A1
  obtain ⟨rB, hB⟩ : ∃ r, r = abvOut l aA eA 1099511627776 := ⟨_, rfl⟩
  rw [← hB] at HB A2
  obtain ⟨vB, aB, eB⟩ := rB
  simp only at HB A2
  have HC := Lib.hid (fun wx (hx : Rd wx base g l aB eB) => rd_num base g l aB eB 65535 wx hx A2 (by omega))
  have A3 := numOut_at l aB eB 65535 A2
  have BC := numOut_le l aB eB 65535 (by omega)
  obtain ⟨rC, hC⟩ : ∃ r, r = numOut l aB eB 65535 := ⟨_, rfl⟩
  rw [← hC] at HC A3 BC
  obtain ⟨vC, aC, eC⟩ := rC
  simp only at HC A3 BC
  have HD := Lib.hid (fun wx (hx : Rd wx base g l aC eC) => rd_num base g l aC eC 255 wx hx A3 (by omega))
  have A4 := numOut_at l aC eC 255 A3
  have BD := numOut_le l aC eC 255 (by omega)
  obtain ⟨rD, hD⟩ : ∃ r, r = numOut l aC eC 255 := ⟨_, rfl⟩
  rw [← hD] at HD A4 BD
  obtain ⟨vD, aD, eD⟩ := rD
  simp only at HD A4 BD
  obtain ⟨x, hx⟩ : ∃ x : BitVec 32, vD = x.toNat := ⟨BitVec.ofNat 32 vD, by rw [BitVec.toNat_ofNat]; omega⟩
  subst hx
  have kA : cardA l a e = (vA, aA, eA) := hA.symm
  have kB : cardB l a e = (vB, aB, eB) := by unfold cardB; rw [kA]; exact hB.symm
  have kC : cardC l a e = (vC, aC, eC) := by unfold cardC; rw [kB]; exact hC.symm
  have kD : cardD l a e = (x.toNat, aD, eD) := by unfold cardD; rw [kC]; exact hD.symm
  obtain ⟨L, hL⟩ : ∃ L, L = flds x := ⟨_, rfl⟩
  have kE : cardE l a e = fldsOut true l L zeros aD eD := by
    unfold cardE
    rw [kD, hL, BitVec.ofNat_toNat, BitVec.setWidth_eq]
  unfold cardOut at hT
  rw [kA, kB, kC, kE] at hT
  obtain ⟨FR, hFR⟩ : ∃ FR, FR = fldsOut true l L zeros aD eD := ⟨_, rfl⟩
  rw [← hFR] at hT
  simp only at hT
  obtain ⟨id, hid⟩ : ∃ z : Int, z = (vA : Int) := ⟨_, rfl⟩
  obtain ⟨ver, hver⟩ : ∃ z : Int, z = (vB : Int) := ⟨_, rfl⟩
  obtain ⟨lab, hlab⟩ : ∃ z : Int, z = (vC : Int) := ⟨_, rfl⟩
  rw [← hid, ← hver, ← hlab] at hT
  rw [← hid] at HA
  rw [← hver] at HB
  rw [← hlab] at HC
  have HT := Lib.hid hT
  have HFR := Lib.hid hFR
  have HFI := Lib.hid (fun wx : World => fields_any x wx)
  have hfl := flds_len x
  have HJ := Lib.hid (fun k (hk : k < L.length) => fld_nat hL hk)
  rw [← hL] at HFI hfl
  obtain ⟨m, hm2⟩ : ∃ m, m = L.length := ⟨_, rfl⟩
  rw [← hm2] at HFI hfl
  have HLM := Lib.hid hm2
  have HA4 := Lib.hid A4
  have HM := Lib.hid hm
  have hwc : IntKind.u32.wrap lab = lab := by
    have h2 := wrap_nat (BitVec.ofNat 32 vC)
    rwa [BitVec.toNat_ofNat, Nat.mod_eq_of_lt (by omega), ← hlab] at h2
  have hwx : IntKind.u32.wrap (x.toNat : Int) = (x.toNat : Int) := wrap_nat x
  clear hid hver hlab BC BD
  clear hT hFR kA kB kC kD kE hA hB hC hD hL hm2 ha hm A1 A2 A3 A4
  have B1 : Blk (w.alloc (.cells #[.pointer (some ⟨g, 0, none⟩)] 41)) w.heap.size [.pointer (some ⟨g, 0, none⟩)] := Blk.new w [.pointer (some ⟨g, 0, none⟩)] 41
  have B2 := Blk.new (w.alloc (.cells #[.pointer (some ⟨g, 0, none⟩)] 41)) (ccells 0 0 0 zeros) 27
  replace B1 := B1.alloc (.cells (ccells 0 0 0 zeros).toArray 27)
  have hs1 : (w.alloc (.cells #[.pointer (some ⟨g, 0, none⟩)] 41)).heap.size = w.heap.size + 1 := by simp
  rw [hs1] at B2
  have hw0 : Below w.heap.size w ((w.alloc (.cells #[.pointer (some ⟨g, 0, none⟩)] 41)).alloc (.cells (ccells 0 0 0 zeros).toArray 27)) := ((Below.refl w.heap.size w).alloc (Nat.le_refl _) _).alloc (by simp) _
  have hsz : ((w.alloc (.cells #[.pointer (some ⟨g, 0, none⟩)] 41)).alloc (.cells (ccells 0 0 0 zeros).toArray 27)).heap.size = w.heap.size + 2 := by simp
  have R0 := h.later hw0
  have G0 : w.grownBy ((w.alloc (.cells #[.pointer (some ⟨g, 0, none⟩)] 41)).alloc (.cells (ccells 0 0 0 zeros).toArray 27)) (some g) := grown_none hw0 _
  generalize hW : (w.alloc (.cells #[.pointer (some ⟨g, 0, none⟩)] 41)).alloc (.cells (ccells 0 0 0 zeros).toArray 27) = W at *
  have HW := Lib.hid hW
  have hu := Try.underlying27
  have HZ := Lib.hid zc27
  have ne1 : (some g : Option Nat) ≠ some w.heap.size := by simp; omega
  have ne2 : (some g : Option Nat) ≠ some (w.heap.size + 1) := by simp; omega
  clear hW hw0 hs1 h
  go_enter Try.func18, Try.ntmps18
  go_wp2_with fail
  rw [← HZ.out, HW.out]
  clear HW HZ
  have hxx : ∀ k : GW W (rdTurns base g l [(a, e), (aA, eA), (aB, eB), (aC, eC)] [1, 3, 5]).row, k.val.cell? ⟨w.heap.size, 0, none⟩ = some (.pointer (some ⟨g, 0, none⟩)) := fun k => (B1.kept k.grown ne1).cell rfl
  refine wp_region_chain (rdTurns base g l [(a, e), (aA, eA), (aB, eB), (aC, eC)] [1, 3, 5]) [(3, relNew (rdTurns base g l [(a, e), (aA, eA), (aB, eB), (aC, eC)] [1, 3, 5]) g W.heap.size (rdTurns_row _ _ _ _ _) (by omega) (ccells 0 0 0 zeros))] 35 9 (by kernel_rfl) (by kernel_rfl) (by kernel_rfl) (by rfl) (rd_turns R0 _ _ (by decide) (by kernel_rfl)) R0 ?_
  simp only [List.take_succ_cons, List.take_zero, List.drop_succ_cons, List.drop_zero]
  refine wpT_quiet (by rfl) (by rfl) (by rfl) (by rfl) (fun K hK => ?_)
  go_big_quiet_op
  refine hK _ ?_
  clear hK K
  refine wpT_turn (by rfl) (by rfl) (by rfl) 47 #[.pointer (some ⟨g, 0, none⟩), .int .i64 1073741823] (.int .i64 id) (by intro _; simp [go_sem]) (by kernel_rfl) (fun w1 hg hz => (HA.out w1 hz).mono fun e' w' hh => ⟨hh.1, hh.2.2, hh.2.1⟩) ?_
  simp only [Act.put, List.setIfInBounds_toArray, List.set_cons_zero, List.set_cons_succ]
  refine wpT_quiet (by rfl) (by rfl) (by rfl) (by rfl) (fun K hK => ?_)
  go_big_quiet_op
  refine hK _ ?_
  clear hK K
  refine wpT_turn (by rfl) (by rfl) (by rfl) 47 #[.pointer (some ⟨g, 0, none⟩), .int .i64 1099511627776] (.int .i64 ver) (by intro _; simp [go_sem]) (by kernel_rfl) (fun w1 hg hz => (HB.out w1 hz).mono fun e' w' hh => ⟨hh.1, hh.2.2, hh.2.1⟩) ?_
  simp only [Act.put, List.setIfInBounds_toArray, List.set_cons_zero, List.set_cons_succ]
  refine wpT_quiet (by rfl) (by rfl) (by rfl) (by rfl) (fun K hK => ?_)
  go_big_quiet_op
  refine hK _ ?_
  clear hK K
  refine wpT_turn (by rfl) (by rfl) (by rfl) 43 #[.pointer (some ⟨g, 0, none⟩), .int .i64 65535] (.int .i64 lab) (by intro _; simp [go_sem]) (by kernel_rfl) (fun w1 hg hz => (HC.out w1 hz).mono fun e' w' hh => ⟨hh.1, hh.2.2, hh.2.1⟩) ?_
  simp only [Act.put, List.setIfInBounds_toArray, List.set_cons_zero, List.set_cons_succ]
  refine wpT_quiet (by rfl) (by rfl) (by rfl) (by rfl) (fun K hK => ?_)
  go_big_quiet_op
  refine hK _ ?_
  clear hK K
  refine wpT_run (by rfl) (by rfl) (by rfl) (.agg (ccells id ver lab zeros).toArray) (fun w1 _ => by kernel_rfl) ?_
  simp only [Act.put, List.setIfInBounds_toArray, List.set_cons_zero, List.set_cons_succ]
  refine wpT_made (relNew (rdTurns base g l [(a, e), (aA, eA), (aB, eB), (aC, eC)] [1, 3, 5]) g W.heap.size (rdTurns_row _ _ _ _ _) (by omega) (ccells 0 0 0 zeros)) (by rfl) (by rfl) (by rfl) (fun w1 => .pointer (some ⟨w1.heap.size, 0, none⟩)) (fun w1 => w1.alloc (.cells (ccells 0 0 0 zeros).toArray 27)) (fun w1 => exec_newC rfl w1) (fun w1 => (Below.refl _ _).alloc (Nat.le_refl _) _) (fun w1 hg1 => ⟨_, rfl, hg1.size, Blk.new w1 _ _⟩) ?_
  rintro _ ⟨_, _, _, ⟨gC, rfl, hgC, _⟩⟩
  simp only [Act.put, List.setIfInBounds_toArray, List.set_cons_zero, List.set_cons_succ]
  refine wpT_nil fun w1 hg1 hS hz => ?_
  obtain ⟨_, g', eg, _, C1⟩ := hS
  obtain rfl : gC = g' := by injection eg with eg; injection eg with eg; injection eg
  replace hz : Rd w1 base g l aC eC := hz
  replace hg1 : W.grownBy w1 (some g) := hg1
  have T1 := C1.there 0 27 (by rw [ccells_len 0 0 0 zeros_len]; omega)
  have S1 := C1.wholeT (ds := ccells id ver lab zeros) (by rw [ccells_len _ _ _ zeros_len, ccells_len _ _ _ zeros_len])
  have XS1 := Blk.setsOther (b := gC) (g := w.heap.size) (by omega) (ccells id ver lab zeros) 0 (B1.kept hg1 ne1)
  have BS1 := Blk.setsOther (b := gC) (g := w.heap.size + 1) (by omega) (ccells id ver lab zeros) 0 (B2.kept hg1 ne2)
  have RS1 := hz.other (grown_sets4 gC (ccells id ver lab zeros) 0 w1) (by omega)
  have GS1 := grown_new (G0.trans hg1) (grown_sets4 gC (ccells id ver lab zeros) 0 w1) (by omega)
  have O1 : (ccells id ver lab zeros).toArray.all (·.oneCell') = true := all_oneCell_toArray (ccells_one _ _ _ _)
  refine wpList_store_mid rfl 27 (.tmp 3) (.tmp 14) rfl gC 0 (ccells id ver lab zeros).toArray rfl rfl (by simpa [ccells_len _ _ _ zeros_len] using T1) (by simpa [ccells_len _ _ _ zeros_len] using info_card) O1 ?_
  simp only [Act.put]
  generalize hw3 : World.setCells w1 gC 0 (ccells id ver lab zeros).toArray.toList = w3
  have S3 : Blk w3 gC (ccells id ver lab zeros) := hw3 ▸ S1
  have X3 : Blk w3 w.heap.size [.pointer (some ⟨g, 0, none⟩)] := hw3 ▸ XS1
  have B3 : Blk w3 (w.heap.size + 1) (ccells 0 0 0 zeros) := hw3 ▸ BS1
  have R3 : Rd w3 base g l aC eC := hw3 ▸ RS1
  have G3 : w.grownBy w3 (some g) := hw3 ▸ GS1
  clear hw3 S1 XS1 BS1 RS1 GS1 O1 T1 C1 hz hg1 B1 B2 R0 G0 hxx
  have x3 : w3.cell? ⟨w.heap.size, 0, none⟩ = some (.pointer (some ⟨g, 0, none⟩)) := X3.cell rfl
  have hgC2 : w.heap.size + 2 ≤ gC := by omega
  have ne3 : (some g : Option Nat) ≠ some gC := by simp; omega
  clear hgC eg hsz
  obtain ⟨r, hr⟩ : ∃ r, r = w.heap.size := ⟨_, rfl⟩
  rw [← hr] at X3 B3 x3 hgC2 ne1 ne2
  rw [← hr] at hg
  have HRS := Lib.hid hr
  rw [← hr]
  clear hr
  go_wp2_with fail
  refine (HD.out _ R3).mono ?_
  rintro e' w4 ⟨rfl, R4, G4⟩
  have S4 := S3.kept G4 ne3
  have X4 := X3.kept G4 ne1
  have B4 := B3.kept G4 ne2
  replace G4 := G3.trans G4
  clear S3 X3 B3 R3 G3 x3
  go_wp2_with fail
  refine (HFI.out _).mono ?_
  rintro e' w5 ⟨A, c, rfl, O5, hb5⟩
  have R5 := R4.later hb5
  have hC4 := S4.lt
  have S5 := S4.later hb5
  have X5 := X4.later hb5
  have B5 := B4.later hb5
  have G5 := G4.trans (grown_none hb5 _)
  obtain ⟨b5, hbe⟩ : ∃ z, z = w4.heap.size := ⟨_, rfl⟩
  rw [← hbe] at O5 hC4
  clear hbe R4 S4 X4 B4 G4 hb5
  go_wp2_with fail
  go_loopw [21] (fun i wr => ∃ (k a' : Nat) (e' : Int) (f : List V3), k ≤ m ∧ i = .int .i64 k ∧ Rd wr base g l a' e' ∧ Hid (a' ≤ l.length) ∧ Blk wr gC (ccells id ver lab f) ∧ Hid (f.length = 8) ∧ Blk wr r [.pointer (some ⟨g, 0, none⟩)] ∧ Blk wr (r + 1) (ccells 0 0 0 zeros) ∧ Own wr b5 3 (.slice A m c) (ivs L) ∧ Hid (fldsOut true l (L.drop k) f a' e' = FR) ∧ w.grownBy wr (some g)) (fun i _ => m - (intOf i).toNat)
  case atStart => exact ⟨0, aD, eD, zeros, Nat.zero_le _, rfl, R5, HA4, S5, Lib.hid zeros_len, X5, B5, O5, Lib.hid (by rw [List.drop_zero]; exact HFR.out.symm), G5⟩
  case round =>
    obtain ⟨k, a', e', f, hk, rfl, R, HAt, S, HFL, X, B, O, HQ, G⟩ := hrel
    have hrr : r = w.heap.size := HRS.out
    by_cases hlt : k < m
    · have hkl : k < L.length := by rw [← HLM.out]; exact hlt
      obtain ⟨j, hj, hj8⟩ := HJ.out k hkl
      obtain ⟨b, rfl, hbb, _⟩ := Own.block O (by omega)
      have ck : wr.cell? ⟨b, k, none⟩ = some (.int .i64 (j : Int)) := by
        have h2 := Own.cell O k (by rw [ivs_length]; exact hkl)
        rw [h2]
        simp [ivs, hj]
      have H1 := Lib.hid (rd_cardfield base g r gC j hj8 l a' e' id ver lab f HFL.out wr R HAt.out HM.out S X (by omega) (by omega) (by omega))
      have GO := fun h => fldsOut_go (must := true) (l := l) (f := f) (a := a') (e := e') k hkl h
      have ST := fun h => fldsOut_stop (must := true) (l := l) (f := f) (a := a') (e := e') k hkl h
      rw [hj, Int.toNat_natCast] at GO ST
      have A2 := Lib.hid (fldOut_at true l a' e' HAt.out)
      obtain ⟨⟨v, a2, e2⟩, hq⟩ : ∃ q, q = fldOut true l a' e' := ⟨_, rfl⟩
      rw [← hq] at H1 GO ST A2
      simp only at H1 GO ST A2
      have ki : (k : Int) < (m : Int) := by omega
      have hF2 : Hid ((f.set j v).length = 8) := Lib.hid (by rw [List.length_set]; exact HFL.out)
      clear hq hj
      by_cases e0 : (e2 == 0) = true
      · have HN : Hid (fldsOut true l (L.drop (k + 1)) (f.set j v) a2 e2 = FR) := Lib.hid ((GO e0).symm.trans HQ.out)
        rw [e0] at H1
        clear GO ST e0 hrr hkl
        go_wp2_with fail
        refine H1.out.mono ?_
        rintro x wn ⟨rfl, Rn, Sn, Tn⟩
        have hrr : r = w.heap.size := HRS.out
        have Xn := Tn.blk X (by omega) (by omega)
        have Bn := Tn.blk B (by omega) (by omega)
        have On := Tn.own O (by omega) (by omega)
        have Gn := Tn.new G (by omega)
        clear R S X B O G Tn hrr
        go_wp2_with fail
        go_roundw
        case rel => exact ⟨k + 1, a2, e2, f.set j v, by omega, by go_num, Rn, A2, Sn, hF2, Xn, Bn, On, HN, Gn⟩
        case measure => simp [intOf]; omega
      · have e1 : (e2 == 0) = false := by simpa using e0
        have ke : (e2 != 0) = true := by simpa using e0
        have HTE : Hid (T = ((0, 0, 0, zeros), a2, e2)) := Lib.hid (by
          have h2 := (ST e1).symm.trans HQ.out
          rw [HT.out, ← h2]
          simp only
          rw [if_neg (by simpa using e0)])
        rw [e1] at H1
        clear GO ST e0 e1 hrr hkl
        go_wp2_with fail
        refine H1.out.mono ?_
        rintro x wn ⟨rfl, Rn, Sn, Tn⟩
        have hrr : r = w.heap.size := HRS.out
        have Xn := Tn.blk X (by omega) (by omega)
        have Bn := Tn.blk B (by omega) (by omega)
        have Gn := Tn.new G (by omega)
        have xn : wn.cell? ⟨r, 0, none⟩ = some (.pointer (some ⟨g, 0, none⟩)) := Xn.cell rfl
        clear R S X B O G Tn hrr
        go_wp2_with fail
        have hrr : r = w.heap.size := HRS.out
        refine (rd_err base g l a2 e2 wn Rn).mono ?_
        rintro x w9 ⟨rfl, rfl⟩
        obtain ⟨cs, hcs⟩ : ∃ cs, cs = (ccells 0 0 0 zeros) := ⟨_, rfl⟩
        have HCL := Lib.hid (show cs.length = 27 by rw [hcs]; exact (ccells_len 0 0 0 zeros_len))
        have hone : ∀ u ∈ cs, u.oneCell' = true := by rw [hcs]; exact ccells_one _ _ _ _
        have T8 := Bn.there 0 27 (by rw [ccells_len 0 0 0 zeros_len]; omega)
        have FIN := Bn.wholeT (ds := cs) (by rw [HCL.out, ccells_len 0 0 0 zeros_len])
        have O8 : cs.toArray.all (·.oneCell') = true := all_oneCell_toArray hone
        have R9 := Rn.other (grown_sets4 (r + 1) cs 0 wn) (by omega)
        have G9 := grown_new Gn (grown_sets4 (r + 1) cs 0 wn) (by omega)
        have HCS := Lib.hid hcs
        clear Sn Rn Bn Gn hrr hcs hone
        go_wp2_with (first
          | (refine wpList_store_mid rfl 27 (.tmp 2) (.tmp 33) rfl (r + 1) 0 cs.toArray rfl (by rw [HCS.out]; rfl) (by simpa [HCL.out] using T8) (by simpa [HCL.out] using info_card) O8 ?_)
          | fail)
        exact bodyPost_ret (v := .agg cs.toArray) (tok_results (q := 2) rfl _ _ (r + 1) cs _ rfl FIN hu rfl (by rw [HCL.out]; exact info_card)) rfl ⟨by rw [HTE.out, HCS.out]; rfl, by rw [HTE.out]; exact R9, G9⟩
    · obtain rfl : k = m := by omega
      have hq2 : FR = (f, a', e') := by
        have h2 := HQ.out
        rw [HLM.out, List.drop_length] at h2
        exact h2.symm
      have xn : wr.cell? ⟨r, 0, none⟩ = some (.pointer (some ⟨g, 0, none⟩)) := X.cell rfl
      have HFE := HFL
      by_cases e0 : e' = 0
      · have ke : (e' != 0) = false := by simpa using e0
        have HTE : Hid (T = ((id, ver, lab, f), a', e')) := Lib.hid (by
          rw [HT.out, hq2]
          simp only
          rw [if_pos e0])
        clear hq2 e0 hrr
        go_wp2_with fail
        have hrr : r = w.heap.size := HRS.out
        refine (rd_err base g l a' e' wr R).mono ?_
        rintro x w9 ⟨rfl, rfl⟩
        obtain ⟨cs, hcs⟩ : ∃ cs, cs = (ccells id ver lab f) := ⟨_, rfl⟩
        have HCL := Lib.hid (show cs.length = 27 by rw [hcs]; exact (ccells_len id ver lab HFE.out))
        have hone : ∀ u ∈ cs, u.oneCell' = true := by rw [hcs]; exact ccells_one _ _ _ _
        have T8 := B.there 0 27 (by rw [ccells_len 0 0 0 zeros_len]; omega)
        have FIN := B.wholeT (ds := cs) (by rw [HCL.out, ccells_len 0 0 0 zeros_len])
        have O8 : cs.toArray.all (·.oneCell') = true := all_oneCell_toArray hone
        rw [← hcs] at S
        have RG := S.range 0 cs (by rw [List.drop_zero, List.take_length])
        have R9 := R.other (grown_sets4 (r + 1) cs 0 wr) (by omega)
        have G9 := grown_new G (grown_sets4 (r + 1) cs 0 wr) (by omega)
        have HCS := Lib.hid hcs
        clear S R B G hrr hcs hone
        go_wp2_with (first
          | (refine wpList_load_mid rfl 27 (.tmp 3) rfl gC 0 rfl cs _ RG hu rfl (by rw [HCL.out]; exact info_card) ?_)
          | (refine wpList_store_mid rfl 27 (.tmp 2) (.tmp 34) rfl (r + 1) 0 cs.toArray rfl rfl (by simpa [HCL.out] using T8) (by simpa [HCL.out] using info_card) O8 ?_)
          | fail)
        exact bodyPost_ret (v := .agg cs.toArray) (tok_results (q := 2) rfl _ _ (r + 1) cs _ rfl FIN hu rfl (by rw [HCL.out]; exact info_card)) rfl ⟨by rw [HTE.out, HCS.out]; rfl, by rw [HTE.out]; exact R9, G9⟩
      · have ke : (e' != 0) = true := by simpa using e0
        have HTE : Hid (T = ((0, 0, 0, zeros), a', e')) := Lib.hid (by
          rw [HT.out, hq2]
          simp only
          rw [if_neg e0])
        clear hq2 e0 hrr
        go_wp2_with fail
        have hrr : r = w.heap.size := HRS.out
        refine (rd_err base g l a' e' wr R).mono ?_
        rintro x w9 ⟨rfl, rfl⟩
        obtain ⟨cs, hcs⟩ : ∃ cs, cs = (ccells 0 0 0 zeros) := ⟨_, rfl⟩
        have HCL := Lib.hid (show cs.length = 27 by rw [hcs]; exact (ccells_len 0 0 0 zeros_len))
        have hone : ∀ u ∈ cs, u.oneCell' = true := by rw [hcs]; exact ccells_one _ _ _ _
        have T8 := B.there 0 27 (by rw [ccells_len 0 0 0 zeros_len]; omega)
        have FIN := B.wholeT (ds := cs) (by rw [HCL.out, ccells_len 0 0 0 zeros_len])
        have O8 : cs.toArray.all (·.oneCell') = true := all_oneCell_toArray hone
        have R9 := R.other (grown_sets4 (r + 1) cs 0 wr) (by omega)
        have G9 := grown_new G (grown_sets4 (r + 1) cs 0 wr) (by omega)
        have HCS := Lib.hid hcs
        clear S R B G hrr hcs hone
        go_wp2_with (first
          | (refine wpList_store_mid rfl 27 (.tmp 2) (.tmp 33) rfl (r + 1) 0 cs.toArray rfl (by rw [HCS.out]; rfl) (by simpa [HCL.out] using T8) (by simpa [HCL.out] using info_card) O8 ?_)
          | fail)
        exact bodyPost_ret (v := .agg cs.toArray) (tok_results (q := 2) rfl _ _ (r + 1) cs _ rfl FIN hu rfl (by rw [HCL.out]; exact info_card)) rfl ⟨by rw [HTE.out, HCS.out]; rfl, by rw [HTE.out]; exact R9, G9⟩
end Go.Proofs.Yticdpfjajkfheaa
