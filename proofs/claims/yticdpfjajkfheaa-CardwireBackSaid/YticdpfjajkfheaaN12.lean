/- What was put is read: values, cards, patches: mathematics. -/
import Derived.Test.YticdpfjajkfheaaN10
import Derived.Test.YticdpfjajkfheaaN11
import Derived.Test.YticdpfjajkfheaaN2
import Derived.Test.YticdpfjajkfheaaN6
namespace Go.Proofs.Yticdpfjajkfheaa
set_option linter.unusedVariables false
set_option linter.unusedSimpArgs false
open Go Go.RowKit OctM BitM

theorem held_nat {z : Int} (h0 : 0 ≤ z) (h1 : z ≤ 1099511627776) : held z = z.toNat := by
  unfold held
  simp only [Int.min_def, Int.max_def]
  split <;> (try split) <;> omega
theorem valOut_put (pre rest : List UInt8) (v : V3) (h : vchk v = true) : valOut (pre ++ (vbs v ++ rest)) pre.length 0 = (v, pre.length + (vbs v).length, 0) := by
  have hv : vbs v = if v.1 = 1 then enc 1 ++ enc (held v.2.1) else if v.1 = 2 then enc 2 ++ (enc v.2.2.data.toList.length ++ v.2.2.data.toList) else enc 0 := by
    unfold vbs
    rw [if_neg (by rw [h]; simp)]
  obtain ⟨k, n, s⟩ := v
  simp only at hv
  unfold vchk at h
  simp only at h
  by_cases k0 : k = 0
  · subst k0
    rw [if_pos rfl] at h
    obtain ⟨rfl, rfl⟩ := of_decide_eq_true h
    rw [if_neg (by decide), if_neg (by decide)] at hv
    rw [hv]
    unfold valOut
    rw [num_put pre rest 0 2 (by omega) (by omega), if_neg (by simp), if_neg (by simp)]
    unfold valEnd
    rw [if_pos rfl]
    rfl
  · rw [if_neg k0] at h
    by_cases k1 : k = 1
    · subst k1
      rw [if_pos rfl] at h
      obtain ⟨h0, h1, rfl⟩ := of_decide_eq_true h
      rw [if_pos rfl] at hv
      rw [hv]
      have n1 := num_put pre (enc (held n) ++ rest) 1 2 (by omega) (by omega)
      have n2 := num_put (pre ++ enc 1) rest (held n) 1099511627776 (held_le n) (by have := held_le n; omega)
      simp only [List.append_assoc, List.length_append] at n1 n2 ⊢
      unfold valOut
      rw [n1, if_pos rfl]
      simp only
      rw [n2]
      unfold valEnd
      simp only
      rw [if_pos trivial, held_self h0 h1, Nat.add_assoc]
      rfl
    · rw [if_neg k1] at h
      by_cases k2 : k = 2
      · subst k2
        rw [if_pos rfl] at h
        obtain ⟨rfl, h1⟩ := of_decide_eq_true h
        rw [if_neg (by decide), if_pos rfl] at hv
        rw [hv]
        have hl : s.data.toList.length ≤ 24 := by simpa using h1
        have n1 := num_put pre (enc s.data.toList.length ++ (s.data.toList ++ rest)) 2 2 (by omega) (by omega)
        have n2 := str_put (pre ++ enc 2) s.data.toList rest 24 (by omega) (by omega)
        simp only [List.append_assoc, List.length_append] at n1 n2 ⊢
        unfold valOut
        rw [n1, if_neg (by simp), if_pos rfl]
        simp only
        rw [n2]
        unfold valEnd
        simp only
        rw [if_pos trivial, str_eta]
        simp only [Nat.add_assoc]
      · rw [if_neg k2] at h
        cases h
/-- The fields of a list are put. -/
def setL (L : List Int) (f g : List V3) : List V3 := L.foldl (fun g i => g.set i.toNat (f.getD i.toNat zv)) g
theorem setL_len (f : List V3) : ∀ (L : List Int) (g : List V3), (setL L f g).length = g.length
  | [], g => rfl
  | i :: L, g => by
    show (setL L f _).length = _
    rw [setL_len f L, List.length_set]
theorem setL_get (f : List V3) (j : Nat) : ∀ (L : List Int) (g : List V3), (∀ i ∈ L, 0 ≤ i) → j < g.length → (setL L f g).getD j zv = if (j : Int) ∈ L then f.getD j zv else g.getD j zv
  | [], g, _, _ => by simp [setL]
  | i :: L, g, h0, hj => by
    show (setL L f _).getD j zv = _
    rw [setL_get f j L _ (fun i hi => h0 i (by simp [hi])) (by simpa using hj)]
    have hi := h0 i (by simp)
    by_cases hm : (j : Int) ∈ L
    · simp [hm]
    · by_cases hij : (j : Int) = i
      · subst hij
        simp [hm, List.getD, hj]
      · have : i.toNat ≠ j := by omega
        simp [hm, hij, List.getD, List.getElem?_set, this]
theorem getD_ext {f g : List V3} (h : f.length = g.length) (hh : ∀ j, j < f.length → f.getD j zv = g.getD j zv) : f = g := by
  apply List.ext_getElem h
  intro j h1 h2
  have := hh j h1
  simpa [List.getD, h1, h2] using this
theorem fbs_cons (i : Int) (L : List Int) (f : List V3) : fbs (i :: L) f = vbs (f.getD i.toNat zv) ++ fbs L f := by
  unfold fbs
  rw [List.flatMap_cons]
theorem fldsOut_put (must : Bool) (f : List V3) (rest : List UInt8) : ∀ (L : List Int) (pre : List UInt8) (g : List V3), (∀ i ∈ L, vchk (f.getD i.toNat zv) = true ∧ (must = true → (f.getD i.toNat zv).1 ≠ 0)) →
    fldsOut must (pre ++ (fbs L f ++ rest)) L g pre.length 0 = (setL L f g, pre.length + (fbs L f).length, 0)
  | [], pre, g, _ => by simp [fldsOut, setL, fbs]
  | i :: L, pre, g, h => by
    obtain ⟨h1, h2⟩ := h i (by simp)
    have hf : fldOut must (pre ++ (fbs (i :: L) f ++ rest)) pre.length 0 = (f.getD i.toNat zv, pre.length + (vbs (f.getD i.toNat zv)).length, 0) := by
      unfold fldOut
      rw [fbs_cons, List.append_assoc, valOut_put pre _ _ h1]
      simp only
      rw [if_neg (fun hh => h2 hh.1 hh.2)]
    rw [fldsOut, hf]
    simp only
    rw [if_pos trivial]
    have ih := fldsOut_put must f rest L (pre ++ vbs (f.getD i.toNat zv)) (g.set i.toNat (f.getD i.toNat zv)) (fun j hj => h j (by simp [hj]))
    rw [fbs_cons]
    simp only [List.append_assoc, List.length_append] at ih ⊢
    rw [ih]
    simp only [Nat.add_assoc]
    rfl
theorem vk_get {f : List V3} (hv : vk f 8 = true) (i : Nat) (h : i < 8) : vchk (f.getD i zv) = true := by
  unfold vk at hv
  rw [List.all_eq_true] at hv
  exact hv i (List.mem_range.2 h)
theorem vchk_zero {v : V3} (h : vchk v = true) (h0 : v.1 = 0) : v = zv := by
  obtain ⟨k, n, s⟩ := v
  simp only at h0
  subst h0
  unfold vchk at h
  simp only [if_pos] at h
  obtain ⟨rfl, rfl⟩ := of_decide_eq_true h
  rfl
theorem setL_kl {f : List V3} (hf : f.length = 8) (hv : vk f 8 = true) : setL (kl f 8) f zeros = f := by
  apply getD_ext
  · rw [setL_len, zeros_len, hf]
  · intro j hj
    rw [setL_len, zeros_len] at hj
    rw [setL_get f j (kl f 8) zeros (fun i hi => by obtain ⟨k, _, rfl, _⟩ := (mem_kl f 8 i).1 hi; omega) (by rw [zeros_len]; exact hj)]
    split
    · rfl
    · rename_i hn
      rw [zeros_getD]
      have : (f.getD j zv).1 = 0 := by
        by_cases h0 : (f.getD j zv).1 = 0
        · exact h0
        · exact absurd ((mem_kl f 8 j).2 ⟨j, hj, rfl, h0⟩) hn
      exact (vchk_zero (vk_get hv j hj) this).symm
theorem kl_le (f : List V3) : (ofl (kl f 8)).toNat ≤ 255 := by
  have h : ofl (kl f 8) &&& 255#32 = ofl (kl f 8) := by
    apply BitM.ext
    intro n
    rw [has_and_255, has_ofl]
    by_cases hn : n ∈ kl f 8
    · obtain ⟨k, hk, rfl, _⟩ := (mem_kl f 8 n).1 hn
      simp [hn]; omega
    · simp [hn]
  rw [← h, BitVec.toNat_and]
  exact Nat.and_le_right
theorem held_pos {z : Int} (h : 1 ≤ z) : held z ≠ 0 := by unfold held; omega
theorem abv_put (pre rest : List UInt8) (z m : Int) (h0 : 1 ≤ z) (h1 : z ≤ 1099511627776) (h2 : z ≤ m) : abvOut (pre ++ (enc (held z) ++ rest)) pre.length 0 m = (held z, pre.length + (enc (held z)).length, 0) := by
  unfold abvOut
  rw [num_put pre rest (held z) m (held_le z) (by rw [held_self (by omega) h1]; exact h2)]
  simp only
  rw [if_neg (held_pos h0)]
theorem cardOut_put (pre rest : List UInt8) (id ver lab : Int) (f : List V3) (hf : f.length = 8) (hl : 0 ≤ lab) (h : ccheck id ver lab f = true) :
    cardOut (pre ++ (cbs id ver lab f ++ rest)) pre.length 0 = ((id, ver, lab, f), pre.length + (cbs id ver lab f).length, 0) := by
  have hc : cbs id ver lab f = enc (held id) ++ (enc (held ver) ++ (enc (held lab) ++ (enc (held ((ofl (kl f 8)).toNat : Int)) ++ fbs (kl f 8) f))) := by
    unfold cbs
    rw [if_neg (by rw [h]; simp)]
    simp only [List.append_assoc]
  unfold ccheck at h
  rw [Bool.and_eq_true] at h
  have h1 := of_decide_eq_true h.1
  have hv := h.2
  have hX := kl_le f
  have hh : held ((ofl (kl f 8)).toNat : Int) = (ofl (kl f 8)).toNat := by rw [held_nat (by omega) (by omega)]; rfl
  rw [hh] at hc
  obtain ⟨x, hx⟩ : ∃ x, x = ofl (kl f 8) := ⟨_, rfl⟩
  have hfl : flds x = kl f 8 := by rw [hx, flds_kl]
  rw [← hx] at hc hX hh
  have n1 := abv_put pre (enc (held ver) ++ (enc (held lab) ++ (enc x.toNat ++ fbs (kl f 8) f)) ++ rest) id 1073741823 (by omega) (by omega) (by omega)
  have n2 := abv_put (pre ++ enc (held id)) ((enc (held lab) ++ (enc x.toNat ++ fbs (kl f 8) f)) ++ rest) ver 1099511627776 (by omega) (by omega) (by omega)
  have n3 := num_put (pre ++ enc (held id) ++ enc (held ver)) ((enc x.toNat ++ fbs (kl f 8) f) ++ rest) (held lab) 65535 (held_le lab) (by rw [held_self hl (by omega)]; omega)
  have n4 := num_put (pre ++ enc (held id) ++ enc (held ver) ++ enc (held lab)) (fbs (kl f 8) f ++ rest) x.toNat 255 (by omega) (by omega)
  have n5 := fldsOut_put true f rest (kl f 8) (pre ++ enc (held id) ++ enc (held ver) ++ enc (held lab) ++ enc x.toNat) zeros (fun i hi => by
    obtain ⟨k, hk, rfl, hne⟩ := (mem_kl f 8 i).1 hi
    exact ⟨vk_get hv k hk, fun _ => hne⟩)
  rw [setL_kl hf hv] at n5
  rw [hc]
  simp only [List.append_assoc, List.length_append] at n1 n2 n3 n4 n5 ⊢
  simp only [← Nat.add_assoc] at n1 n2 n3 n4 n5 ⊢
  obtain ⟨l, hll⟩ : ∃ l, l = pre ++ (enc (held id) ++ (enc (held ver) ++ (enc (held lab) ++ (enc x.toNat ++ (fbs (kl f 8) f ++ rest))))) := ⟨_, rfl⟩
  rw [← hll] at n1 n2 n3 n4 n5 ⊢
  have kA : cardA l pre.length 0 = (held id, pre.length + (enc (held id)).length, 0) := n1
  have kB : cardB l pre.length 0 = (held ver, pre.length + (enc (held id)).length + (enc (held ver)).length, 0) := by unfold cardB; rw [kA]; exact n2
  have kC : cardC l pre.length 0 = (held lab, pre.length + (enc (held id)).length + (enc (held ver)).length + (enc (held lab)).length, 0) := by unfold cardC; rw [kB]; exact n3
  have kD : cardD l pre.length 0 = (x.toNat, pre.length + (enc (held id)).length + (enc (held ver)).length + (enc (held lab)).length + (enc x.toNat).length, 0) := by unfold cardD; rw [kC]; exact n4
  have kE : cardE l pre.length 0 = (f, pre.length + (enc (held id)).length + (enc (held ver)).length + (enc (held lab)).length + (enc x.toNat).length + (fbs (kl f 8) f).length, 0) := by
    unfold cardE
    rw [kD]
    simp only
    rw [BitVec.ofNat_toNat, BitVec.setWidth_eq, hfl]
    exact n5
  unfold cardOut
  rw [kA, kB, kC, kE]
  simp only
  rw [if_pos trivial, held_self (by omega) (by omega), held_self (by omega) (by omega), held_self hl (by omega)]
theorem fok_get {x : BitVec 32} {f : List V3} (h : fok x f 8 = true) (i : Nat) (hi : i < 8) : vchk (f.getD i zv) = true ∧ ((f.getD i zv).1 = 0 ∨ has x (i : Int) = true) := by
  unfold fok at h
  rw [List.all_eq_true] at h
  have := h i (List.mem_range.2 hi)
  simp only [Bool.and_eq_true, Bool.or_eq_true, decide_eq_true_eq] at this
  exact this
theorem patOut_put (pre rest : List UInt8) (x : BitVec 32) (lab : Int) (f : List V3) (hf : f.length = 8) (hl : 0 ≤ lab) (h : pchk x lab f = 0) :
    patOut (pre ++ (pbs x lab f ++ rest)) pre.length 0 = (((x.toNat : Int), lab, f), pre.length + (pbs x lab f).length, 0) := by
  have hc : pbs x lab f = enc (held (x.toNat : Int)) ++ ((if has x 8 = true then enc (held lab) else []) ++ fbs (flds x) f) := by
    unfold pbs
    rw [if_neg (by rw [h]; simp)]
    simp only [List.append_assoc]
  unfold pchk at h
  have h1 : ¬ (511 < x.toNat ∨ x.toNat = 0) := fun hh => by rw [if_pos hh] at h; cases h
  rw [if_neg h1] at h
  have h2 : ¬ (65536 ≤ lab ∨ (lab ≠ 0 ∧ has x 8 = false)) := fun hh => by rw [if_pos hh] at h; cases h
  rw [if_neg h2] at h
  have h3 : fok x f 8 = true := by
    by_cases hh : fok x f 8 = true
    · exact hh
    · rw [if_neg hh] at h; cases h
  have hh : held (x.toNat : Int) = x.toNat := by rw [held_nat (by omega) (by omega)]; rfl
  have hset : setL (flds x) f zeros = f := by
    apply getD_ext
    · rw [setL_len, zeros_len, hf]
    · intro j hj
      rw [setL_len, zeros_len] at hj
      rw [setL_get f j (flds x) zeros (fun i hi => ((mem_flds x i).1 hi).1) (by rw [zeros_len]; exact hj)]
      split
      · rfl
      · rename_i hn
        rw [zeros_getD]
        obtain ⟨g1, g2⟩ := fok_get h3 j hj
        rcases g2 with g2 | g2
        · exact (vchk_zero g1 g2).symm
        · exact absurd ((mem_flds x j).2 ⟨by omega, by omega, g2⟩) hn
  have hm : ∀ i ∈ flds x, vchk (f.getD i.toNat zv) = true ∧ (false = true → (f.getD i.toNat zv).1 ≠ 0) := fun i hi => by
    obtain ⟨i0, i8, _⟩ := (mem_flds x i).1 hi
    exact ⟨(fok_get h3 i.toNat (by omega)).1, fun e => by cases e⟩
  rw [hh] at hc
  cases h8 : has x 8
  · rw [h8, if_neg (by simp), List.nil_append] at hc
    have hl0 : lab = 0 := by
      by_cases e : lab = 0
      · exact e
      · exact absurd (.inr ⟨e, h8⟩) h2
    subst hl0
    have n1 := abv_put pre (fbs (flds x) f ++ rest) (x.toNat : Int) 511 (by omega) (by omega) (by omega)
    have n5 := fldsOut_put false f rest (flds x) (pre ++ enc x.toNat) zeros hm
    rw [hset] at n5
    rw [hh] at n1
    rw [hc]
    simp only [List.append_assoc, List.length_append] at n1 n5 ⊢
    obtain ⟨l, hll⟩ : ∃ l, l = pre ++ (enc x.toNat ++ (fbs (flds x) f ++ rest)) := ⟨_, rfl⟩
    rw [← hll] at n1 n5 ⊢
    have kA : patA l pre.length 0 = (x.toNat, pre.length + (enc x.toNat).length, 0) := n1
    have kX : patX l pre.length 0 = x := by unfold patX; rw [kA, BitVec.ofNat_toNat, BitVec.setWidth_eq]
    have kB : patB l pre.length 0 = (0, pre.length + (enc x.toNat).length, 0) := by unfold patB; rw [kX, kA, h8, if_neg (by simp)]
    have kE : patE l pre.length 0 = (f, pre.length + (enc x.toNat).length + (fbs (flds x) f).length, 0) := by
      unfold patE
      rw [kB, kX]
      exact n5
    unfold patOut
    rw [kX, kB, kE]
    simp only
    rw [if_pos trivial]
    simp only [Nat.add_assoc]
    rfl
  · rw [h8, if_pos rfl] at hc
    have n1 := abv_put pre ((enc (held lab) ++ fbs (flds x) f) ++ rest) (x.toNat : Int) 511 (by omega) (by omega) (by omega)
    have n2 := num_put (pre ++ enc x.toNat) (fbs (flds x) f ++ rest) (held lab) 65535 (held_le lab) (by rw [held_self hl (by omega)]; omega)
    have n5 := fldsOut_put false f rest (flds x) (pre ++ enc x.toNat ++ enc (held lab)) zeros hm
    rw [hset] at n5
    rw [hh] at n1
    rw [hc]
    simp only [List.append_assoc, List.length_append] at n1 n2 n5 ⊢
    simp only [← Nat.add_assoc] at n1 n2 n5 ⊢
    obtain ⟨l, hll⟩ : ∃ l, l = pre ++ (enc x.toNat ++ (enc (held lab) ++ (fbs (flds x) f ++ rest))) := ⟨_, rfl⟩
    rw [← hll] at n1 n2 n5 ⊢
    have kA : patA l pre.length 0 = (x.toNat, pre.length + (enc x.toNat).length, 0) := n1
    have kX : patX l pre.length 0 = x := by unfold patX; rw [kA, BitVec.ofNat_toNat, BitVec.setWidth_eq]
    have kB : patB l pre.length 0 = (held lab, pre.length + (enc x.toNat).length + (enc (held lab)).length, 0) := by unfold patB; rw [kX, kA, h8, if_pos rfl]; exact n2
    have kE : patE l pre.length 0 = (f, pre.length + (enc x.toNat).length + (enc (held lab)).length + (fbs (flds x) f).length, 0) := by
      unfold patE
      rw [kB, kX]
      exact n5
    unfold patOut
    rw [kX, kB, kE]
    simp only
    rw [if_pos trivial, held_self hl (by omega)]
end Go.Proofs.Yticdpfjajkfheaa

/- Cards as they are read of bytes: the program's: the walk. -/
namespace Go.Proofs.Yticdpfjajkfheaa
set_option linter.unusedVariables false
open Go Go.RowKit OctM BitM

theorem run_newC (w : World) : (Instr.alloc 27 true (.tuple #[])).run Try.prog w = .ok (.pointer (some ⟨w.heap.size, 0, none⟩)) (w.alloc (.cells (ccells 0 0 0 zeros).toArray 27)) := by kernel_rfl
theorem exec_newC {a : Act} {op : Oper} (ho : op.op = .alloc 27) (w : World) : (execOp a.eval op).run Try.prog w = .ok (.value (.pointer (some ⟨w.heap.size, 0, none⟩))) (w.alloc (.cells (ccells 0 0 0 zeros).toArray 27)) := by
  unfold execOp
  simp only [ho, Sem.run_bind, run_newC, Result.andThen_ok, Sem.run_pure]
theorem fld_nat {x : BitVec 32} {k : Nat} {L : List Int} (hL : L = flds x) (hk : k < L.length) : ∃ j : Nat, L[k] = (j : Int) ∧ j < 8 := by
  obtain ⟨h0, h8, _⟩ := (mem_flds x L[k]).1 (by rw [← hL]; exact List.getElem_mem hk)
  obtain ⟨j, hj⟩ := Int.eq_ofNat_of_zero_le h0
  exact ⟨j, hj, by omega⟩

set_option maxRecDepth 100000 in
set_option maxHeartbeats 6400000 in
theorem rd_card (base g : Nat) (l : List UInt8) (a : Nat) (e : Int) (w : World) (h : Rd w base g l a e) (ha : a ≤ l.length) (hm : l.length ≤ 2000) :
    Calls Try.prog 18 #[.pointer (some ⟨g, 0, none⟩)] w fun x w' => x = .returned (.agg (cc4 (cardOut l a e).1).toArray) ∧ Rd w' base g l (cardOut l a e).2.1 (cardOut l a e).2.2 ∧ w.grownBy w' (some g) := by
  have hg := h.block.2
  obtain ⟨T, hT⟩ : ∃ T, T = cardOut l a e := ⟨_, rfl⟩
  rw [← hT]
  have HA := Lib.hid (fun wx (hx : Rd wx base g l a e) => rd_above base g l a e 1073741823 wx hx ha hm)
  have A1 := abvOut_at l a e 1073741823 ha
  obtain ⟨rA, hA⟩ : ∃ r, r = abvOut l a e 1073741823 := ⟨_, rfl⟩
  rw [← hA] at HA A1
  obtain ⟨vA, aA, eA⟩ := rA
  simp only at HA A1
  have HB := Lib.hid (fun wx (hx : Rd wx base g l aA eA) => rd_above base g l aA eA 1099511627776 wx hx A1 hm)
  have A2 := abvOut_at l aA eA 1099511627776 A1
  obtain ⟨rB, hB⟩ : ∃ r, r = abvOut l aA eA 1099511627776 := ⟨_, rfl⟩
  rw [← hB] at HB A2
  obtain ⟨vB, aB, eB⟩ := rB
  simp only at HB A2
  have HC := Lib.hid (fun wx (hx : Rd wx base g l aB eB) => rd_num base g l aB eB 65535 wx hx A2 (by omega))
  have A3 := numOut_at l aB eB 65535 A2
  have BC := numOut_le l aB eB 65535 (by omega)
  obtain ⟨rC, hC⟩ : ∃ r, r = numOut l aB eB 65535 := ⟨_, rfl⟩
  rw [← hC] at HC A3 BC
  obtain ⟨vC, aC, eC⟩ := rC
  simp only at HC A3 BC
  have HD := Lib.hid (fun wx (hx : Rd wx base g l aC eC) => rd_num base g l aC eC 255 wx hx A3 (by omega))
  have A4 := numOut_at l aC eC 255 A3
  have BD := numOut_le l aC eC 255 (by omega)
  obtain ⟨rD, hD⟩ : ∃ r, r = numOut l aC eC 255 := ⟨_, rfl⟩
  rw [← hD] at HD A4 BD
  obtain ⟨vD, aD, eD⟩ := rD
  simp only at HD A4 BD
  obtain ⟨x, hx⟩ : ∃ x : BitVec 32, vD = x.toNat := ⟨BitVec.ofNat 32 vD, by rw [BitVec.toNat_ofNat]; omega⟩
  subst hx
  have kA : cardA l a e = (vA, aA, eA) := hA.symm
  have kB : cardB l a e = (vB, aB, eB) := by unfold cardB; rw [kA]; exact hB.symm
  have kC : cardC l a e = (vC, aC, eC) := by unfold cardC; rw [kB]; exact hC.symm
  have kD : cardD l a e = (x.toNat, aD, eD) := by unfold cardD; rw [kC]; exact hD.symm
  obtain ⟨L, hL⟩ : ∃ L, L = flds x := ⟨_, rfl⟩
  have kE : cardE l a e = fldsOut true l L zeros aD eD := by
    unfold cardE
    rw [kD, hL, BitVec.ofNat_toNat, BitVec.setWidth_eq]
  unfold cardOut at hT
  rw [kA, kB, kC, kE] at hT
  obtain ⟨FR, hFR⟩ : ∃ FR, FR = fldsOut true l L zeros aD eD := ⟨_, rfl⟩
  rw [← hFR] at hT
  simp only at hT
  obtain ⟨id, hid⟩ : ∃ z : Int, z = (vA : Int) := ⟨_, rfl⟩
  obtain ⟨ver, hver⟩ : ∃ z : Int, z = (vB : Int) := ⟨_, rfl⟩
  obtain ⟨lab, hlab⟩ : ∃ z : Int, z = (vC : Int) := ⟨_, rfl⟩
  rw [← hid, ← hver, ← hlab] at hT
  rw [← hid] at HA
  rw [← hver] at HB
  rw [← hlab] at HC
  have HT := Lib.hid hT
  have HFR := Lib.hid hFR
  have HFI := Lib.hid (fun wx : World => fields_any x wx)
  have hfl := flds_len x
  have HJ := Lib.hid (fun k (hk : k < L.length) => fld_nat hL hk)
  rw [← hL] at HFI hfl
  obtain ⟨m, hm2⟩ : ∃ m, m = L.length := ⟨_, rfl⟩
  rw [← hm2] at HFI hfl
  have HLM := Lib.hid hm2
  have HA4 := Lib.hid A4
  have HM := Lib.hid hm
  have hwc : IntKind.u32.wrap lab = lab := by
    have h2 := wrap_nat (BitVec.ofNat 32 vC)
    rwa [BitVec.toNat_ofNat, Nat.mod_eq_of_lt (by omega), ← hlab] at h2
  have hwx : IntKind.u32.wrap (x.toNat : Int) = (x.toNat : Int) := wrap_nat x
  clear hid hver hlab BC BD
  clear hT hFR kA kB kC kD kE hA hB hC hD hL hm2 ha hm A1 A2 A3 A4
  have B1 : Blk (w.alloc (.cells #[.pointer (some ⟨g, 0, none⟩)] 41)) w.heap.size [.pointer (some ⟨g, 0, none⟩)] := Blk.new w [.pointer (some ⟨g, 0, none⟩)] 41
  have B2 := Blk.new (w.alloc (.cells #[.pointer (some ⟨g, 0, none⟩)] 41)) (ccells 0 0 0 zeros) 27
  replace B1 := B1.alloc (.cells (ccells 0 0 0 zeros).toArray 27)
  have hs1 : (w.alloc (.cells #[.pointer (some ⟨g, 0, none⟩)] 41)).heap.size = w.heap.size + 1 := by simp
  rw [hs1] at B2
  have hw0 : Below w.heap.size w ((w.alloc (.cells #[.pointer (some ⟨g, 0, none⟩)] 41)).alloc (.cells (ccells 0 0 0 zeros).toArray 27)) := ((Below.refl w.heap.size w).alloc (Nat.le_refl _) _).alloc (by simp) _
  have hsz : ((w.alloc (.cells #[.pointer (some ⟨g, 0, none⟩)] 41)).alloc (.cells (ccells 0 0 0 zeros).toArray 27)).heap.size = w.heap.size + 2 := by simp
  have R0 := h.later hw0
  have G0 : w.grownBy ((w.alloc (.cells #[.pointer (some ⟨g, 0, none⟩)] 41)).alloc (.cells (ccells 0 0 0 zeros).toArray 27)) (some g) := grown_none hw0 _
  generalize hW : (w.alloc (.cells #[.pointer (some ⟨g, 0, none⟩)] 41)).alloc (.cells (ccells 0 0 0 zeros).toArray 27) = W at *
  have HW := Lib.hid hW
  have hu := Try.underlying27
  have HZ := Lib.hid zc27
  have ne1 : (some g : Option Nat) ≠ some w.heap.size := by simp; omega
  have ne2 : (some g : Option Nat) ≠ some (w.heap.size + 1) := by simp; omega
  clear hW hw0 hs1 h
  go_enter Try.func18, Try.ntmps18
  go_wp2_with fail
  rw [← HZ.out, HW.out]
  clear HW HZ
  have hxx : ∀ k : GW W (rdTurns base g l [(a, e), (aA, eA), (aB, eB), (aC, eC)] [1, 3, 5]).row, k.val.cell? ⟨w.heap.size, 0, none⟩ = some (.pointer (some ⟨g, 0, none⟩)) := fun k => (B1.kept k.grown ne1).cell rfl
  refine wp_region_chain (rdTurns base g l [(a, e), (aA, eA), (aB, eB), (aC, eC)] [1, 3, 5]) [(3, relNew (rdTurns base g l [(a, e), (aA, eA), (aB, eB), (aC, eC)] [1, 3, 5]) g W.heap.size (rdTurns_row _ _ _ _ _) (by omega) (ccells 0 0 0 zeros))] 35 9 (by kernel_rfl) (by kernel_rfl) (by kernel_rfl) (by rfl) (rd_turns R0 _ _ (by decide) (by kernel_rfl)) R0 ?_
  simp only [List.take_succ_cons, List.take_zero, List.drop_succ_cons, List.drop_zero]
  refine wpT_quiet (by rfl) (by rfl) (by rfl) (by rfl) (fun K hK => ?_)
  go_big_quiet_op
  refine hK _ ?_
  clear hK K
  refine wpT_turn (by rfl) (by rfl) (by rfl) 47 #[.pointer (some ⟨g, 0, none⟩), .int .i64 1073741823] (.int .i64 id) (by intro _; simp [go_sem]) (by kernel_rfl) (fun w1 hg hz => (HA.out w1 hz).mono fun e' w' hh => ⟨hh.1, hh.2.2, hh.2.1⟩) ?_
  simp only [Act.put, List.setIfInBounds_toArray, List.set_cons_zero, List.set_cons_succ]
  refine wpT_quiet (by rfl) (by rfl) (by rfl) (by rfl) (fun K hK => ?_)
  go_big_quiet_op
  refine hK _ ?_
  clear hK K
  refine wpT_turn (by rfl) (by rfl) (by rfl) 47 #[.pointer (some ⟨g, 0, none⟩), .int .i64 1099511627776] (.int .i64 ver) (by intro _; simp [go_sem]) (by kernel_rfl) (fun w1 hg hz => (HB.out w1 hz).mono fun e' w' hh => ⟨hh.1, hh.2.2, hh.2.1⟩) ?_
  simp only [Act.put, List.setIfInBounds_toArray, List.set_cons_zero, List.set_cons_succ]
  refine wpT_quiet (by rfl) (by rfl) (by rfl) (by rfl) (fun K hK => ?_)
  go_big_quiet_op
  refine hK _ ?_
  clear hK K
  refine wpT_turn (by rfl) (by rfl) (by rfl) 43 #[.pointer (some ⟨g, 0, none⟩), .int .i64 65535] (.int .i64 lab) (by intro _; simp [go_sem]) (by kernel_rfl) (fun w1 hg hz => (HC.out w1 hz).mono fun e' w' hh => ⟨hh.1, hh.2.2, hh.2.1⟩) ?_
  simp only [Act.put, List.setIfInBounds_toArray, List.set_cons_zero, List.set_cons_succ]
  refine wpT_quiet (by rfl) (by rfl) (by rfl) (by rfl) (fun K hK => ?_)
  go_big_quiet_op
  refine hK _ ?_
  clear hK K
  refine wpT_run (by rfl) (by rfl) (by rfl) (.agg (ccells id ver lab zeros).toArray) (fun w1 _ => by kernel_rfl) ?_
  simp only [Act.put, List.setIfInBounds_toArray, List.set_cons_zero, List.set_cons_succ]
  refine wpT_made (relNew (rdTurns base g l [(a, e), (aA, eA), (aB, eB), (aC, eC)] [1, 3, 5]) g W.heap.size (rdTurns_row _ _ _ _ _) (by omega) (ccells 0 0 0 zeros)) (by rfl) (by rfl) (by rfl) (fun w1 => .pointer (some ⟨w1.heap.size, 0, none⟩)) (fun w1 => w1.alloc (.cells (ccells 0 0 0 zeros).toArray 27)) (fun w1 => exec_newC rfl w1) (fun w1 => (Below.refl _ _).alloc (Nat.le_refl _) _) (fun w1 hg1 => ⟨_, rfl, hg1.size, Blk.new w1 _ _⟩) ?_
  rintro _ ⟨_, _, _, ⟨gC, rfl, hgC, _⟩⟩
  simp only [Act.put, List.setIfInBounds_toArray, List.set_cons_zero, List.set_cons_succ]
  refine wpT_nil fun w1 hg1 hS hz => ?_
  obtain ⟨_, g', eg, _, C1⟩ := hS
  obtain rfl : gC = g' := by injection eg with eg; injection eg with eg; injection eg
  replace hz : Rd w1 base g l aC eC := hz
  replace hg1 : W.grownBy w1 (some g) := hg1
  have T1 := C1.there 0 27 (by rw [ccells_len 0 0 0 zeros_len]; omega)
  have S1 := C1.wholeT (ds := ccells id ver lab zeros) (by rw [ccells_len _ _ _ zeros_len, ccells_len _ _ _ zeros_len])
  have XS1 := Blk.setsOther (b := gC) (g := w.heap.size) (by omega) (ccells id ver lab zeros) 0 (B1.kept hg1 ne1)
  have BS1 := Blk.setsOther (b := gC) (g := w.heap.size + 1) (by omega) (ccells id ver lab zeros) 0 (B2.kept hg1 ne2)
  have RS1 := hz.other (grown_sets4 gC (ccells id ver lab zeros) 0 w1) (by omega)
  have GS1 := grown_new (G0.trans hg1) (grown_sets4 gC (ccells id ver lab zeros) 0 w1) (by omega)
  have O1 : (ccells id ver lab zeros).toArray.all (·.oneCell') = true := all_oneCell_toArray (ccells_one _ _ _ _)
  refine wpList_store_mid rfl 27 (.tmp 3) (.tmp 14) rfl gC 0 (ccells id ver lab zeros).toArray rfl rfl (by simpa [ccells_len _ _ _ zeros_len] using T1) (by simpa [ccells_len _ _ _ zeros_len] using info_card) O1 ?_
  simp only [Act.put]
  generalize hw3 : World.setCells w1 gC 0 (ccells id ver lab zeros).toArray.toList = w3
  have S3 : Blk w3 gC (ccells id ver lab zeros) := hw3 ▸ S1
  have X3 : Blk w3 w.heap.size [.pointer (some ⟨g, 0, none⟩)] := hw3 ▸ XS1
  have B3 : Blk w3 (w.heap.size + 1) (ccells 0 0 0 zeros) := hw3 ▸ BS1
  have R3 : Rd w3 base g l aC eC := hw3 ▸ RS1
  have G3 : w.grownBy w3 (some g) := hw3 ▸ GS1
  clear hw3 S1 XS1 BS1 RS1 GS1 O1 T1 C1 hz hg1 B1 B2 R0 G0 hxx
  have x3 : w3.cell? ⟨w.heap.size, 0, none⟩ = some (.pointer (some ⟨g, 0, none⟩)) := X3.cell rfl
  have hgC2 : w.heap.size + 2 ≤ gC := by omega
  have ne3 : (some g : Option Nat) ≠ some gC := by simp; omega
  clear hgC eg hsz
  obtain ⟨r, hr⟩ : ∃ r, r = w.heap.size := ⟨_, rfl⟩
  rw [← hr] at X3 B3 x3 hgC2 ne1 ne2
  rw [← hr] at hg
  have HRS := Lib.hid hr
  rw [← hr]
  clear hr
  go_wp2_with fail
  refine (HD.out _ R3).mono ?_
  rintro e' w4 ⟨rfl, R4, G4⟩
  have S4 := S3.kept G4 ne3
  have X4 := X3.kept G4 ne1
  have B4 := B3.kept G4 ne2
  replace G4 := G3.trans G4
  clear S3 X3 B3 R3 G3 x3
  go_wp2_with fail
  refine (HFI.out _).mono ?_
  rintro e' w5 ⟨A, c, rfl, O5, hb5⟩
  have R5 := R4.later hb5
  have hC4 := S4.lt
  have S5 := S4.later hb5
  have X5 := X4.later hb5
  have B5 := B4.later hb5
  have G5 := G4.trans (grown_none hb5 _)
  obtain ⟨b5, hbe⟩ : ∃ z, z = w4.heap.size := ⟨_, rfl⟩
  rw [← hbe] at O5 hC4
  clear hbe R4 S4 X4 B4 G4 hb5
  go_wp2_with fail
  go_loopw [21] (fun i wr => ∃ (k a' : Nat) (e' : Int) (f : List V3), k ≤ m ∧ i = .int .i64 k ∧ Rd wr base g l a' e' ∧ Hid (a' ≤ l.length) ∧ Blk wr gC (ccells id ver lab f) ∧ Hid (f.length = 8) ∧ Blk wr r [.pointer (some ⟨g, 0, none⟩)] ∧ Blk wr (r + 1) (ccells 0 0 0 zeros) ∧ Own wr b5 3 (.slice A m c) (ivs L) ∧ Hid (fldsOut true l (L.drop k) f a' e' = FR) ∧ w.grownBy wr (some g)) (fun i _ => m - (intOf i).toNat)
  case atStart => exact ⟨0, aD, eD, zeros, Nat.zero_le _, rfl, R5, HA4, S5, Lib.hid zeros_len, X5, B5, O5, Lib.hid (by rw [List.drop_zero]; exact HFR.out.symm), G5⟩
  case round =>
    obtain ⟨k, a', e', f, hk, rfl, R, HAt, S, HFL, X, B, O, HQ, G⟩ := hrel
    have hrr : r = w.heap.size := HRS.out
    by_cases hlt : k < m
    · have hkl : k < L.length := by rw [← HLM.out]; exact hlt
      obtain ⟨j, hj, hj8⟩ := HJ.out k hkl
      obtain ⟨b, rfl, hbb, _⟩ := Own.block O (by omega)
      have ck : wr.cell? ⟨b, k, none⟩ = some (.int .i64 (j : Int)) := by
        have h2 := Own.cell O k (by rw [ivs_length]; exact hkl)
        rw [h2]
        simp [ivs, hj]
      have H1 := Lib.hid (rd_cardfield base g r gC j hj8 l a' e' id ver lab f HFL.out wr R HAt.out HM.out S X (by omega) (by omega) (by omega))
      have GO := fun h => fldsOut_go (must := true) (l := l) (f := f) (a := a') (e := e') k hkl h
      have ST := fun h => fldsOut_stop (must := true) (l := l) (f := f) (a := a') (e := e') k hkl h
      rw [hj, Int.toNat_natCast] at GO ST
      have A2 := Lib.hid (fldOut_at true l a' e' HAt.out)
      obtain ⟨⟨v, a2, e2⟩, hq⟩ : ∃ q, q = fldOut true l a' e' := ⟨_, rfl⟩
      rw [← hq] at H1 GO ST A2
      simp only at H1 GO ST A2
      have ki : (k : Int) < (m : Int) := by omega
      have hF2 : Hid ((f.set j v).length = 8) := Lib.hid (by rw [List.length_set]; exact HFL.out)
      clear hq hj
      by_cases e0 : (e2 == 0) = true
      · have HN : Hid (fldsOut true l (L.drop (k + 1)) (f.set j v) a2 e2 = FR) := Lib.hid ((GO e0).symm.trans HQ.out)
        rw [e0] at H1
        clear GO ST e0 hrr hkl
        go_wp2_with fail
        refine H1.out.mono ?_
        rintro x wn ⟨rfl, Rn, Sn, Tn⟩
        have hrr : r = w.heap.size := HRS.out
        have Xn := Tn.blk X (by omega) (by omega)
        have Bn := Tn.blk B (by omega) (by omega)
        have On := Tn.own O (by omega) (by omega)
        have Gn := Tn.new G (by omega)
        clear R S X B O G Tn hrr
        go_wp2_with fail
        go_roundw
        case rel => exact ⟨k + 1, a2, e2, f.set j v, by omega, by go_num, Rn, A2, Sn, hF2, Xn, Bn, On, HN, Gn⟩
        case measure => simp [intOf]; omega
      · have e1 : (e2 == 0) = false := by simpa using e0
        have ke : (e2 != 0) = true := by simpa using e0
        have HTE : Hid (T = ((0, 0, 0, zeros), a2, e2)) := Lib.hid (by
          have h2 := (ST e1).symm.trans HQ.out
          rw [HT.out, ← h2]
          simp only
          rw [if_neg (by simpa using e0)])
        rw [e1] at H1
        clear GO ST e0 e1 hrr hkl
        go_wp2_with fail
        refine H1.out.mono ?_
        rintro x wn ⟨rfl, Rn, Sn, Tn⟩
        have hrr : r = w.heap.size := HRS.out
        have Xn := Tn.blk X (by omega) (by omega)
        have Bn := Tn.blk B (by omega) (by omega)
        have Gn := Tn.new G (by omega)
        have xn : wn.cell? ⟨r, 0, none⟩ = some (.pointer (some ⟨g, 0, none⟩)) := Xn.cell rfl
        clear R S X B O G Tn hrr
        go_wp2_with fail
        have hrr : r = w.heap.size := HRS.out
        refine (rd_err base g l a2 e2 wn Rn).mono ?_
        rintro x w9 ⟨rfl, rfl⟩
        obtain ⟨cs, hcs⟩ : ∃ cs, cs = (ccells 0 0 0 zeros) := ⟨_, rfl⟩
        have HCL := Lib.hid (show cs.length = 27 by rw [hcs]; exact (ccells_len 0 0 0 zeros_len))
        have hone : ∀ u ∈ cs, u.oneCell' = true := by rw [hcs]; exact ccells_one _ _ _ _
        have T8 := Bn.there 0 27 (by rw [ccells_len 0 0 0 zeros_len]; omega)
        have FIN := Bn.wholeT (ds := cs) (by rw [HCL.out, ccells_len 0 0 0 zeros_len])
        have O8 : cs.toArray.all (·.oneCell') = true := all_oneCell_toArray hone
        have R9 := Rn.other (grown_sets4 (r + 1) cs 0 wn) (by omega)
        have G9 := grown_new Gn (grown_sets4 (r + 1) cs 0 wn) (by omega)
        have HCS := Lib.hid hcs
        clear Sn Rn Bn Gn hrr hcs hone
        go_wp2_with (first
          | (refine wpList_store_mid rfl 27 (.tmp 2) (.tmp 33) rfl (r + 1) 0 cs.toArray rfl (by rw [HCS.out]; rfl) (by simpa [HCL.out] using T8) (by simpa [HCL.out] using info_card) O8 ?_)
          | fail)
        exact bodyPost_ret (v := .agg cs.toArray) (tok_results (q := 2) rfl _ _ (r + 1) cs _ rfl FIN hu rfl (by rw [HCL.out]; exact info_card)) rfl ⟨by rw [HTE.out, HCS.out]; rfl, by rw [HTE.out]; exact R9, G9⟩
    · obtain rfl : k = m := by omega
      have hq2 : FR = (f, a', e') := by
        have h2 := HQ.out
        rw [HLM.out, List.drop_length] at h2
        exact h2.symm
      have xn : wr.cell? ⟨r, 0, none⟩ = some (.pointer (some ⟨g, 0, none⟩)) := X.cell rfl
      have HFE := HFL
      by_cases e0 : e' = 0
      · have ke : (e' != 0) = false := by simpa using e0
        have HTE : Hid (T = ((id, ver, lab, f), a', e')) := Lib.hid (by
          rw [HT.out, hq2]
          simp only
          rw [if_pos e0])
        clear hq2 e0 hrr
        go_wp2_with fail
        have hrr : r = w.heap.size := HRS.out
        refine (rd_err base g l a' e' wr R).mono ?_
        rintro x w9 ⟨rfl, rfl⟩
        obtain ⟨cs, hcs⟩ : ∃ cs, cs = (ccells id ver lab f) := ⟨_, rfl⟩
        have HCL := Lib.hid (show cs.length = 27 by rw [hcs]; exact (ccells_len id ver lab HFE.out))
        have hone : ∀ u ∈ cs, u.oneCell' = true := by rw [hcs]; exact ccells_one _ _ _ _
        have T8 := B.there 0 27 (by rw [ccells_len 0 0 0 zeros_len]; omega)
        have FIN := B.wholeT (ds := cs) (by rw [HCL.out, ccells_len 0 0 0 zeros_len])
        have O8 : cs.toArray.all (·.oneCell') = true := all_oneCell_toArray hone
        rw [← hcs] at S
        have RG := S.range 0 cs (by rw [List.drop_zero, List.take_length])
        have R9 := R.other (grown_sets4 (r + 1) cs 0 wr) (by omega)
        have G9 := grown_new G (grown_sets4 (r + 1) cs 0 wr) (by omega)
        have HCS := Lib.hid hcs
        clear S R B G hrr hcs hone
        go_wp2_with (first
          | (refine wpList_load_mid rfl 27 (.tmp 3) rfl gC 0 rfl cs _ RG hu rfl (by rw [HCL.out]; exact info_card) ?_)
          | (refine wpList_store_mid rfl 27 (.tmp 2) (.tmp 34) rfl (r + 1) 0 cs.toArray rfl rfl (by simpa [HCL.out] using T8) (by simpa [HCL.out] using info_card) O8 ?_)
          | fail)
        exact bodyPost_ret (v := .agg cs.toArray) (tok_results (q := 2) rfl _ _ (r + 1) cs _ rfl FIN hu rfl (by rw [HCL.out]; exact info_card)) rfl ⟨by rw [HTE.out, HCS.out]; rfl, by rw [HTE.out]; exact R9, G9⟩
      · have ke : (e' != 0) = true := by simpa using e0
        have HTE : Hid (T = ((0, 0, 0, zeros), a', e')) := Lib.hid (by
          rw [HT.out, hq2]
          simp only
          rw [if_neg e0])
        clear hq2 e0 hrr
        go_wp2_with fail
        have hrr : r = w.heap.size := HRS.out
        refine (rd_err base g l a' e' wr R).mono ?_
        rintro x w9 ⟨rfl, rfl⟩
        obtain ⟨cs, hcs⟩ : ∃ cs, cs = (ccells 0 0 0 zeros) := ⟨_, rfl⟩
        have HCL := Lib.hid (show cs.length = 27 by rw [hcs]; exact (ccells_len 0 0 0 zeros_len))
        have hone : ∀ u ∈ cs, u.oneCell' = true := by rw [hcs]; exact ccells_one _ _ _ _
        have T8 := B.there 0 27 (by rw [ccells_len 0 0 0 zeros_len]; omega)
        have FIN := B.wholeT (ds := cs) (by rw [HCL.out, ccells_len 0 0 0 zeros_len])
        have O8 : cs.toArray.all (·.oneCell') = true := all_oneCell_toArray hone
        have R9 := R.other (grown_sets4 (r + 1) cs 0 wr) (by omega)
        have G9 := grown_new G (grown_sets4 (r + 1) cs 0 wr) (by omega)
        have HCS := Lib.hid hcs
        clear S R B G hrr hcs hone
        go_wp2_with (first
          | (refine wpList_store_mid rfl 27 (.tmp 2) (.tmp 33) rfl (r + 1) 0 cs.toArray rfl (by rw [HCS.out]; rfl) (by simpa [HCL.out] using T8) (by simpa [HCL.out] using info_card) O8 ?_)
          | fail)
        exact bodyPost_ret (v := .agg cs.toArray) (tok_results (q := 2) rfl _ _ (r + 1) cs _ rfl FIN hu rfl (by rw [HCL.out]; exact info_card)) rfl ⟨by rw [HTE.out, HCS.out]; rfl, by rw [HTE.out]; exact R9, G9⟩
end Go.Proofs.Yticdpfjajkfheaa

/- Values, cards and patches as they are read of no reader. -/
namespace Go.Proofs.Yticdpfjajkfheaa
set_option linter.unusedVariables false
open Go Go.RowKit OctM BitM

def relB (B : Nat) (cs : List Value) : Rel where
  rel x w := ∃ g, x = .pointer (some ⟨g, 0, none⟩) ∧ B ≤ g ∧ Blk w g cs
  mono := fun x w w' h ⟨g, e, hg, hr⟩ => ⟨g, e, hg, hr.later h⟩
  real := fun w ⟨g, e, _⟩ => by cases e
theorem newC_gives {a : Act} {op : Oper} (ho : op.op = .alloc 27) (B : Nat) (w : World) (hB : B ≤ w.heap.size) : gives Try.prog op a (relB B (ccells 0 0 0 zeros)).rel w := by
  unfold gives execOp
  simp only [ho, Sem.run_bind, run_newC, Result.andThen_ok, Sem.run_pure]
  exact ⟨(Below.refl _ _).alloc (Nat.le_refl _) _, _, rfl, hB, Blk.new w _ _⟩
theorem fields_zero (w : World) : Calls Try.prog 50 #[.int .u32 0] w fun e w' => ∃ A c, e = .returned (.slice A 0 c) ∧ Below w.heap.size w w' := by
  have h := fields_any 0#32 w
  have hf : flds 0#32 = [] := by decide +kernel
  rw [hf] at h
  exact h.mono fun e w' ⟨A, c, he, _, hb⟩ => ⟨A, c, he, hb⟩

set_option maxRecDepth 100000 in
set_option maxHeartbeats 1600000 in
theorem nil_value (w : World) : Calls Try.prog 16 #[.pointer none] w fun x w' => x = .returned (.agg (vcells zv).toArray) ∧ Below w.heap.size w w' := by
  have hu := Try.underlying24
  have B2 := Blk.new w (vcells zv) 24
  have hb := (Below.refl w.heap.size w).alloc (Nat.le_refl _) (.cells (vcells zv).toArray 24)
  go_enter Try.func16, Try.ntmps16
  go_wp2_with fail
  refine (nil_num _ _).mono ?_
  rintro x w1 ⟨rfl, h1⟩
  generalize hw0 : w.alloc (.cells #[Value.int .i64 0, .int .i64 0, .string { data := #[] }] 24) = w0 at h1
  have B2' : Blk w0 w.heap.size (vcells zv) := hw0 ▸ B2
  have hb0 : Below w.heap.size w w0 := hw0 ▸ hb
  clear B2 hb hw0
  subst h1
  have B3 := Blk.new w0 (vcells zv) 24
  have T3 := B3.there 0 3 (Nat.le_refl _)
  have S3 := B3.wholeT (ds := vcells zv) rfl
  have LE3 : Le w0 (World.setCells (w0.alloc (.cells (vcells zv).toArray 24)) w0.heap.size 0 (vcells zv)) := below_sets (Nat.le_refl _) _ 0 ((Below.refl w0.heap.size w0).alloc (Nat.le_refl _) _)
  have O3 : (vcells zv).toArray.all (·.oneCell') = true := vcells_all _
  have hsz := hb0.size
  have hb2 := B2'.lt
  obtain ⟨g3, hg3⟩ : ∃ z, z = w0.heap.size := ⟨_, rfl⟩
  rw [← hg3] at T3 S3 LE3 hsz hb2
  have HG3 := Lib.hid hg3
  clear hg3 B3
  go_wp2_with (first
    | (rw [← HG3.out]
       refine wpList_store_mid rfl 24 (.tmp 3) (.tmp 6) rfl g3 0 (vcells zv).toArray rfl rfl T3 info_val O3 ?_
       simp only [Act.put]
       generalize hw3 : World.setCells _ g3 0 (vcells zv).toArray.toList = w3
       have S4 : Blk w3 g3 (vcells zv) := hw3 ▸ S3
       have LE3' : Le w0 w3 := hw3 ▸ LE3
       have q1 : w3.cell? ⟨g3, 0, none⟩ = some (.int .i64 0) := S4.cell rfl
       clear hw3 T3 S3 LE3)
    | fail)
  refine (nil_err _).mono ?_
  rintro x w4 ⟨rfl, rfl⟩
  replace B2' := B2'.later LE3'
  replace hb0 := hb0.trans (LE3'.mono hb0.size)
  have T8 := B2'.there 0 3 (Nat.le_refl _)
  have FIN := B2'.wholeT (ds := vcells zv) rfl
  have H9 := below_sets (Nat.le_refl w.heap.size) (vcells zv) 0 hb0
  clear q1 S4
  go_wp2_with (first
    | (refine wpList_store_mid rfl 24 (.tmp 2) (.tmp 22) rfl w.heap.size 0 (vcells zv).toArray rfl rfl T8 info_val O3 ?_)
    | fail)
  exact bodyPost_ret (v := .agg (vcells zv).toArray) (tok_results (q := 2) rfl _ _ w.heap.size _ _ rfl FIN hu rfl info_val) rfl ⟨rfl, H9⟩
set_option maxRecDepth 100000 in
theorem nil_above (w : World) (m : Int) : Calls Try.prog 47 #[.pointer none, .int .i64 m] w fun x w' => x = .returned (.int .i64 0) ∧ w = w' := by
  go_enter Try.func47, Try.ntmps47
  go_wp2_with fail
  refine (nil_num _ _).mono ?_
  rintro x w1 ⟨rfl, rfl⟩
  go_wp2_with fail
  refine (nil_fail _ _).mono ?_
  rintro x w1 ⟨rfl, rfl⟩
  go_wp2_with fail
  go_ret
  exact ⟨rfl, rfl⟩
set_option maxRecDepth 100000 in
set_option maxHeartbeats 3200000 in
theorem nil_card (w : World) : Calls Try.prog 18 #[.pointer none] w fun x w' => x = .returned (.agg (ccells 0 0 0 zeros).toArray) ∧ Below w.heap.size w w' := by
  have B1 : Blk (w.alloc (.cells #[.pointer none] 41)) w.heap.size [.pointer none] := Blk.new w [.pointer none] 41
  have hs1 : (w.alloc (.cells #[.pointer none] 41)).heap.size = w.heap.size + 1 := by simp
  obtain ⟨zs, hzs⟩ : ∃ zs, zs = (ccells 0 0 0 zeros) := ⟨_, rfl⟩
  have HZ := Lib.hid zc27
  have HZL := Lib.hid (show zs.length = 27 by rw [hzs]; exact ccells_len 0 0 0 zeros_len)
  have hone : zs.toArray.all (·.oneCell') = true := all_oneCell_toArray (by rw [hzs]; exact ccells_one _ _ _ _)
  rw [← hzs] at HZ ⊢
  have HZS := Lib.hid hzs
  have B2 := Blk.new (w.alloc (.cells #[.pointer none] 41)) zs 27
  rw [hs1] at B2
  replace B1 := B1.alloc (.cells zs.toArray 27)
  have hw0 : Below w.heap.size w ((w.alloc (.cells #[.pointer none] 41)).alloc (.cells zs.toArray 27)) := ((Below.refl w.heap.size w).alloc (Nat.le_refl _) _).alloc (by simp) _
  have hsz : w.heap.size + 2 ≤ ((w.alloc (.cells #[.pointer none] 41)).alloc (.cells zs.toArray 27)).heap.size := by simp
  generalize hW : (w.alloc (.cells #[.pointer none] 41)).alloc (.cells zs.toArray 27) = W at *
  have HW := Lib.hid hW
  have hu := Try.underlying27
  clear hW hs1 hzs
  have x0 : W.cell? ⟨w.heap.size, 0, none⟩ = some (.pointer none) := B1.cell rfl
  go_enter Try.func18, Try.ntmps18
  go_wp2_with fail
  rw [← HZ.out, HW.out]
  clear HW
  have hxx : ∀ k : LW W, k.val.cell? ⟨w.heap.size, 0, none⟩ = some (.pointer none) := fun k => (B1.later k.le).cell rfl
  refine wp_region_tail [(3, relB W.heap.size (ccells 0 0 0 zeros))] 35 9 (by kernel_rfl) (by kernel_rfl) (by kernel_rfl) (by rfl) ?_
  simp only [List.take_succ_cons, List.take_zero, List.drop_succ_cons, List.drop_zero]
  refine wpG_quiet (by rfl) (by rfl) (by rfl) (fun K hK => ?_)
  go_big_quiet_op
  refine hK _ ?_
  clear hK K
  refine wpG_call (by rfl) (by rfl) 47 #[.pointer none, .int .i64 1073741823] (.int .i64 0) (by intro _; simp [go_sem]) (by kernel_rfl) (fun w1 _ => (nil_above w1 1073741823).mono fun e' w' hh => ⟨hh.1, hh.2 ▸ Below.refl _ _⟩) ?_
  simp only [Act.put, List.setIfInBounds_toArray, List.set_cons_zero, List.set_cons_succ]
  refine wpG_quiet (by rfl) (by rfl) (by rfl) (fun K hK => ?_)
  go_big_quiet_op
  refine hK _ ?_
  clear hK K
  refine wpG_call (by rfl) (by rfl) 47 #[.pointer none, .int .i64 1099511627776] (.int .i64 0) (by intro _; simp [go_sem]) (by kernel_rfl) (fun w1 _ => (nil_above w1 1099511627776).mono fun e' w' hh => ⟨hh.1, hh.2 ▸ Below.refl _ _⟩) ?_
  simp only [Act.put, List.setIfInBounds_toArray, List.set_cons_zero, List.set_cons_succ]
  refine wpG_quiet (by rfl) (by rfl) (by rfl) (fun K hK => ?_)
  go_big_quiet_op
  refine hK _ ?_
  clear hK K
  refine wpG_call (by rfl) (by rfl) 43 #[.pointer none, .int .i64 65535] (.int .i64 0) (by intro _; simp [go_sem]) (by kernel_rfl) (fun w1 _ => (nil_num w1 65535).mono fun e' w' hh => ⟨hh.1, hh.2 ▸ Below.refl _ _⟩) ?_
  simp only [Act.put, List.setIfInBounds_toArray, List.set_cons_zero, List.set_cons_succ]
  refine wpG_quiet (by rfl) (by rfl) (by rfl) (fun K hK => ?_)
  go_big_quiet_op
  refine hK _ ?_
  clear hK K
  refine wpG_run (by rfl) (by rfl) (.agg (ccells 0 0 0 zeros).toArray) (fun w1 _ => by kernel_rfl) ?_
  simp only [Act.put, List.setIfInBounds_toArray, List.set_cons_zero, List.set_cons_succ]
  refine wpG_open (relB W.heap.size (ccells 0 0 0 zeros)) (by rfl) (by rfl) (fun w1 hl => newC_gives rfl W.heap.size w1 hl.1.size) ?_
  rintro _ ⟨_, _, _, ⟨g3, rfl, hg3, _⟩⟩
  simp only [Act.put, List.setIfInBounds_toArray, List.set_cons_zero, List.set_cons_succ]
  refine wpG_nil fun w1 hl hS => ?_
  obtain ⟨_, g', eg, _, C1⟩ := hS
  obtain rfl : g3 = g' := by injection eg with eg; injection eg with eg; injection eg
  rw [← HZS.out] at C1
  have T1 := C1.there 0 27 (by rw [HZL.out]; omega)
  have XS1 := Blk.setsOther (b := g3) (g := w.heap.size) (by omega) zs 0 (B1.later hl)
  have BS1 := Blk.setsOther (b := g3) (g := w.heap.size + 1) (by omega) zs 0 (B2.later hl)
  have H1 := below_sets (B := w.heap.size) (b := g3) (by omega) zs 0 (hw0.trans (hl.mono hw0.size))
  refine wpList_store_mid rfl 27 (.tmp 3) (.tmp 14) rfl g3 0 zs.toArray rfl (by rw [HZS.out]; rfl) (by simpa [HZL.out] using T1) (by simpa [HZL.out] using info_card) hone ?_
  simp only [Act.put]
  generalize hw3 : World.setCells w1 g3 0 zs.toArray.toList = w3
  have X3 : Blk w3 w.heap.size [.pointer none] := hw3 ▸ XS1
  have B3 : Blk w3 (w.heap.size + 1) zs := hw3 ▸ BS1
  have H3 : Below w.heap.size w w3 := hw3 ▸ H1
  clear hw3 XS1 BS1 H1 T1 C1 hl B1 B2 hw0 hxx x0 hsz eg hg3
  have x3 : w3.cell? ⟨w.heap.size, 0, none⟩ = some (.pointer none) := X3.cell rfl
  go_wp2_with fail
  refine (nil_num _ _).mono ?_
  rintro x w4 ⟨rfl, rfl⟩
  go_wp2_with fail
  refine (fields_zero _).mono ?_
  rintro x w5 ⟨A, c, rfl, hb5⟩
  have X5 := X3.later hb5
  have B5 := B3.later hb5
  have H5 := H3.trans (hb5.mono H3.size)
  clear X3 B3 H3 x3 hb5
  go_wp2_with fail
  go_loopw [21] (fun i wr => i = .int .i64 0 ∧ Blk wr w.heap.size [.pointer none] ∧ Blk wr (w.heap.size + 1) zs ∧ Below w.heap.size w wr) (fun i _ => 0)
  case atStart => exact ⟨rfl, X5, B5, H5⟩
  case round =>
    obtain ⟨rfl, X, B, H⟩ := hrel
    clear X5 B5 H5
    have xr : wr.cell? ⟨w.heap.size, 0, none⟩ = some (.pointer none) := X.cell rfl
    go_wp2_with fail
    refine (nil_err _).mono ?_
    rintro x w6 ⟨rfl, rfl⟩
    have T8 := B.there 0 27 (by rw [HZL.out]; omega)
    have FIN := B.wholeT (ds := zs) rfl
    have H9 := below_sets (B := w.heap.size) (b := w.heap.size + 1) (by omega) zs 0 H
    clear X B H xr
    go_wp2_with (first
      | (refine wpList_store_mid rfl 27 (.tmp 2) (.tmp 33) rfl (w.heap.size + 1) 0 zs.toArray rfl (by rw [HZS.out]; rfl) (by simpa [HZL.out] using T8) (by simpa [HZL.out] using info_card) hone ?_)
      | fail)
    exact bodyPost_ret (v := .agg zs.toArray) (tok_results (q := 2) rfl _ _ (w.heap.size + 1) zs _ rfl FIN hu rfl (by rw [HZL.out]; exact info_card)) rfl ⟨rfl, H9⟩
set_option maxRecDepth 100000 in
set_option maxHeartbeats 3200000 in
theorem nil_patch (w : World) : Calls Try.prog 20 #[.pointer none] w fun x w' => x = .returned (.agg (pcells 0 0 zeros).toArray) ∧ Below w.heap.size w w' := by
  have B1 : Blk (w.alloc (.cells #[.pointer none] 41)) w.heap.size [.pointer none] := Blk.new w [.pointer none] 41
  have hs1 : (w.alloc (.cells #[.pointer none] 41)).heap.size = w.heap.size + 1 := by simp
  obtain ⟨zs, hzs⟩ : ∃ zs, zs = (pcells 0 0 zeros) := ⟨_, rfl⟩
  have HZ := Lib.hid zp26
  have HZL := Lib.hid (show zs.length = 26 by rw [hzs]; exact pcells_len 0 0 zeros_len)
  have hone : zs.toArray.all (·.oneCell') = true := all_oneCell_toArray (by rw [hzs]; exact pcells_one _ _ _)
  rw [← hzs] at HZ ⊢
  have HZS := Lib.hid hzs
  have B2 := Blk.new (w.alloc (.cells #[.pointer none] 41)) zs 29
  rw [hs1] at B2
  replace B1 := B1.alloc (.cells zs.toArray 29)
  have hw0 : Below w.heap.size w ((w.alloc (.cells #[.pointer none] 41)).alloc (.cells zs.toArray 29)) := ((Below.refl w.heap.size w).alloc (Nat.le_refl _) _).alloc (by simp) _
  have hsz : w.heap.size + 2 ≤ ((w.alloc (.cells #[.pointer none] 41)).alloc (.cells zs.toArray 29)).heap.size := by simp
  generalize hW : (w.alloc (.cells #[.pointer none] 41)).alloc (.cells zs.toArray 29) = W at *
  have HW := Lib.hid hW
  have hu := Try.underlying29
  clear hW hs1 hzs
  have x0 : W.cell? ⟨w.heap.size, 0, none⟩ = some (.pointer none) := B1.cell rfl
  go_enter Try.func20, Try.ntmps20
  go_wp2_with fail
  rw [← HZ.out, HW.out]
  clear HW
  refine (nil_above _ _).mono ?_
  rintro x w1 ⟨rfl, rfl⟩
  have B3 := Blk.new W zs 29
  have T3 := B3.there 0 26 (by rw [HZL.out]; omega)
  have S3 := B3.wholeT (ds := zs) rfl
  have LE3 : Le W (World.setCells (W.alloc (.cells zs.toArray 29)) W.heap.size 0 zs) := below_sets (Nat.le_refl _) _ 0 ((Below.refl W.heap.size W).alloc (Nat.le_refl _) _)
  obtain ⟨g3, hg3⟩ : ∃ z, z = W.heap.size := ⟨_, rfl⟩
  rw [← hg3] at T3 S3 LE3 hsz
  have HG3 := Lib.hid hg3
  clear hg3 B3
  go_wp2_with (first
    | (rw [← HZ.out, ← HG3.out]
       refine wpList_store_mid rfl 29 (.tmp 3) (.tmp 10) rfl g3 0 zs.toArray rfl (by rw [HZS.out]; rfl) (by simpa [HZL.out] using T3) (by simpa [HZL.out] using info_patch) hone ?_
       simp only [Act.put]
       generalize hw3 : World.setCells _ g3 0 zs.toArray.toList = w3
       have S4 : Blk w3 g3 (pcells 0 0 zeros) := by rw [← HZS.out]; exact hw3 ▸ S3
       have LE3' : Le W w3 := hw3 ▸ LE3
       have q3 : w3.cell? ⟨g3, 0, none⟩ = some (.int .u32 0) := S4.cell rfl
       clear hw3 T3 S3 LE3)
    | fail)
  have HL0 := labels_any 0#32 w3
  rw [show has 0#32 8 = false from rfl] at HL0
  refine HL0.mono ?_
  rintro x w4 ⟨rfl, rfl⟩
  have X3 := B1.later LE3'
  have B3 := B2.later LE3'
  have H3 := hw0.trans (LE3'.mono hw0.size)
  have x3 : w3.cell? ⟨w.heap.size, 0, none⟩ = some (.pointer none) := X3.cell rfl
  clear HL0 x0 B1 B2 hw0 LE3' S4 hsz
  go_wp2_with fail
  refine (fields_zero _).mono ?_
  rintro x w5 ⟨A, c, rfl, hb5⟩
  have X5 := X3.later hb5
  have B5 := B3.later hb5
  have H5 := H3.trans (hb5.mono H3.size)
  clear X3 B3 H3 x3 hb5
  go_wp2_with fail
  go_loopw [23] (fun i wr => i = .int .i64 0 ∧ Blk wr w.heap.size [.pointer none] ∧ Blk wr (w.heap.size + 1) zs ∧ Below w.heap.size w wr) (fun i _ => 0)
  case atStart => exact ⟨rfl, X5, B5, H5⟩
  case round =>
    obtain ⟨rfl, X, B, H⟩ := hrel
    clear X5 B5 H5
    have xr : wr.cell? ⟨w.heap.size, 0, none⟩ = some (.pointer none) := X.cell rfl
    go_wp2_with fail
    refine (nil_err _).mono ?_
    rintro x w6 ⟨rfl, rfl⟩
    have T8 := B.there 0 26 (by rw [HZL.out]; omega)
    have FIN := B.wholeT (ds := zs) rfl
    have H9 := below_sets (B := w.heap.size) (b := w.heap.size + 1) (by omega) zs 0 H
    clear X B H xr
    go_wp2_with (first
      | (refine wpList_store_mid rfl 29 (.tmp 2) (.tmp 35) rfl (w.heap.size + 1) 0 zs.toArray rfl (by rw [HZS.out]; rfl) (by simpa [HZL.out] using T8) (by simpa [HZL.out] using info_patch) hone ?_)
      | fail)
    exact bodyPost_ret (v := .agg zs.toArray) (tok_results (q := 2) rfl _ _ (w.heap.size + 1) zs _ rfl FIN hu rfl (by rw [HZL.out]; exact info_patch)) rfl ⟨rfl, H9⟩
end Go.Proofs.Yticdpfjajkfheaa

/- Cards as bytes, by the document: what its PutCard returns. -/
namespace Go.Proofs.Yticdpfjajkfheaa
set_option linter.unusedVariables false
open Go Go.RowKit BitM OctM

theorem fbs_kl_succ (f : List V3) (k : Nat) (h : (f.getD k zv).1 ≠ 0) : fbs (kl f (k + 1)) f = fbs (kl f k) f ++ vbs (f.getD k zv) := by
  rw [kl_succ, if_pos h, fbs_snoc]; simp
theorem kl_skip (f : List V3) (k : Nat) (h : (f.getD k zv).1 = 0) : kl f (k + 1) = kl f k := by
  rw [kl_succ, if_neg (fun hn => hn h)]; simp
theorem ofl_kl_succ (f : List V3) (k : Nat) (h : (f.getD k zv).1 ≠ 0) : ofl (kl f (k + 1)) = put (ofl (kl f k)) (k : Int) := by
  rw [kl_succ, if_pos h, ofl_snoc]

set_option maxRecDepth 100000 in
set_option maxHeartbeats 3200000 in
theorem rputcard_any (id ver lab : Int) (f : List V3) (w : World) (hf : f.length = 8) (hlb : 0 ≤ lab) :
    Calls Try.prog 12 #[.agg (ccells id ver lab f).toArray] w fun e w' => e = .returned (.string (str (cbs id ver lab f))) ∧ Below w.heap.size w w' := by
  have HCK := Lib.hid (fun wx : World => rccheck_any id ver lab f wx hf)
  have HPLen : Hid ((ccells id ver lab f).length = 27) := Lib.hid (ccells_len id ver lab hf)
  have B0 := Blk.new w (ccells id ver lab f) 27
  obtain ⟨q0, q1, q2⟩ := B0.card
  obtain ⟨pc, hpc⟩ : ∃ pc, pc = ccells id ver lab f := ⟨_, rfl⟩
  rw [← hpc] at HCK B0 HPLen q0 q1 q2 ⊢
  have hb0 := (Below.refl w.heap.size w).alloc (Nat.le_refl _) (.cells pc.toArray 27)
  have RG := B0.wholeC
  have hu := Try.underlying27
  have HF := Lib.hid hf
  obtain ⟨ok, hok⟩ : ∃ b, b = ccheck id ver lab f := ⟨_, rfl⟩
  rw [← hok] at HCK
  cases ok
  · have HB : Hid (str (cbs id ver lab f) = ⟨#[]⟩) := Lib.hid (by unfold cbs; rw [if_pos hok.symm]; rfl)
    rw [HB.out]
    clear HB hok hpc q0 q1 q2 hf
    go_enter Try.func12, Try.ntmps12
    go_wp2_with (first
      | (refine wpList_load_mid rfl 27 (.tmp 1) rfl w.heap.size 0 rfl pc _ RG hu rfl (by rw [HPLen.out]; exact info_card) ?_)
      | fail)
    refine (HCK.out _).mono ?_
    rintro e w1 ⟨rfl, hb1⟩
    have hbw := hb0.trans (hb1.mono hb0.size)
    clear RG hb1 hb0
    go_wp2_with fail
    go_ret
    exact ⟨rfl, hbw⟩
  · have hlab : lab < 65536 := by
      have h := hok.symm
      unfold ccheck at h
      rw [Bool.and_eq_true] at h
      exact (of_decide_eq_true h.1).2.2.2.2
    have HB : Hid (cbs id ver lab f = (((enc (held id) ++ enc (held ver)) ++ enc (held lab)) ++ enc (held ((ofl (kl f 8)).toNat : Int))) ++ fbs (kl f 8) f) := Lib.hid (by unfold cbs; rw [if_neg (by rw [← hok]; simp)])
    obtain ⟨R, hR⟩ : ∃ R, R = str (cbs id ver lab f) := ⟨_, rfl⟩
    have HR := Lib.hid hR
    rw [← hR]
    have HPC := Lib.hid hpc
    clear hR hok hpc hf
    go_enter Try.func12, Try.ntmps12
    go_wp2_with (first
      | (refine wpList_load_mid rfl 27 (.tmp 1) rfl w.heap.size 0 rfl pc _ RG hu rfl (by rw [HPLen.out]; exact info_card) ?_)
      | fail)
    refine (HCK.out _).mono ?_
    rintro e w1 ⟨rfl, hb1⟩
    have hbw := hb0.trans (hb1.mono hb0.size)
    replace B0 := B0.later hb1
    clear RG hb1 hb0 q0 q1 q2 HCK
    go_wp2_with fail
    go_loopw [3, 4, 5] (fun mv sv i wr => ∃ k : Nat, k ≤ 8 ∧ i = .int .i64 k ∧ (∃ X : Nat, mv = .int .u32 (X : Int) ∧ Hid (X = (ofl (kl f k)).toNat)) ∧ (∃ t : ByteArray, sv = .string t ∧ Hid (t = str (fbs (kl f k) f)) ∧ t.size ≤ 40 * k) ∧ Blk wr w.heap.size pc ∧ Below w.heap.size w wr) (fun _ _ i _ => 8 - (intOf i).toNat)
    case atStart => exact ⟨0, by omega, rfl, ⟨0, rfl, Lib.hid rfl⟩, ⟨⟨#[]⟩, rfl, Lib.hid rfl, by decide⟩, B0, hbw⟩
    case round =>
      obtain ⟨k, hk, rfl, ⟨X, rfl, HX⟩, ⟨t, rfl, HT, ht⟩, D0, hbr⟩ := hrel
      by_cases hlt : k < 8
      · have hkf : k < f.length := by rw [HF.out]; exact hlt
        obtain ⟨l0, l1, l2⟩ := Blk.field (pre := [.int .i64 id, .int .i64 ver, .int .u32 lab]) (f := f) (g := w.heap.size) (w := wr) (by have := D0; rw [HPC.out] at this; exact this) 3 k rfl hkf
        have hg : f.getD k zv = f[k] := by simp [List.getD, hkf]
        obtain ⟨⟨v0, v1, v2⟩, hv⟩ : ∃ v, v = f[k] := ⟨_, rfl⟩
        rw [← hv] at l0 l1 l2 hg
        simp only at l0 l1 l2
        have hki : (k : Int) < 8 := by omega
        have hk0 : (0 : Int) ≤ (k : Int) := by omega
        by_cases hz : v0 = 0
        · have HK2 : Hid (kl f (k + 1) = kl f k) := Lib.hid (kl_skip f k (by rw [hg]; exact hz))
          have bz : (v0 != 0) = false := by simp [hz]
          clear hz hv hg hkf
          go_wp2_with fail
          go_roundw
          case rel => exact ⟨k + 1, by omega, by go_num, ⟨X, rfl, Lib.hid (by rw [HK2.out, HX.out])⟩, ⟨t, rfl, Lib.hid (by rw [HK2.out, HT.out]), by omega⟩, D0, hbr⟩
          case measure => simp [intOf]; omega
        · have HK2 : Hid (fbs (kl f (k + 1)) f = fbs (kl f k) f ++ vbs (v0, v1, v2)) := Lib.hid (by rw [← hg]; exact fbs_kl_succ f k (by rw [hg]; exact hz))
          have HX2 : Hid (ofl (kl f (k + 1)) = put (ofl (kl f k)) (k : Int)) := Lib.hid (ofl_kl_succ f k (by rw [hg]; exact hz))
          have bz : (v0 != 0) = true := by simp [hz]
          have HW := Lib.hid (fun wx : World => rwith_any (ofl (kl f k)) k (by omega) wx)
          rw [← HX.out] at HW
          obtain ⟨X2, hX2⟩ : ∃ X2, X2 = (put (ofl (kl f k)) (k : Int)).toNat := ⟨_, rfl⟩
          rw [← hX2] at HW
          have HPV := Lib.hid (fun wx : World => rputval_any v0 v1 v2 wx)
          obtain ⟨t2, ht2⟩ : ∃ t2, t2 = str (vbs (v0, v1, v2)) := ⟨_, rfl⟩
          rw [← ht2] at HPV
          have hz2 : t2.size ≤ 40 := by rw [ht2, str_size]; exact vbs_len _
          have HTT : Hid (t ++ t2 = str (fbs (kl f (k + 1)) f)) := Lib.hid (by rw [HK2.out, HT.out, ht2]; first | exact (str_append _ _).symm | exact str_append _ _)
          have HXX : Hid (X2 = (ofl (kl f (k + 1))).toNat) := Lib.hid (by rw [HX2.out, hX2])
          have hsz : (t ++ t2).size = t.size + t2.size := by simp
          have HSZ := Lib.hid hsz
          clear hz hv hg hkf ht2 hX2 hsz
          go_wp2_with fail
          refine (HW.out _).mono ?_
          rintro e w2 ⟨rfl, rfl⟩
          go_wp2_with fail
          refine (HPV.out _).mono ?_
          rintro e w2 ⟨rfl, hb2⟩
          have D2 := D0.later hb2
          have hbr2 := hbr.trans (hb2.mono hbr.size)
          clear D0 hb2 hbr l0 l1 l2
          go_wp2_with fail
          go_roundw
          case rel => exact ⟨k + 1, by omega, by go_num, ⟨X2, rfl, HXX⟩, ⟨t ++ t2, rfl, HTT, by rw [HSZ.out]; omega⟩, D2, hbr2⟩
          case measure => simp [intOf]; omega
      · obtain rfl : k = 8 := by omega
        have c0 : ∀ kk : LW wr, kk.val.cell? ⟨w.heap.size, 0, none⟩ = some (.int .i64 id) := fun kk => (Blk.card (by have := D0.later kk.le; rw [HPC.out] at this; exact this)).1
        have c1 : ∀ kk : LW wr, kk.val.cell? ⟨w.heap.size, 1, none⟩ = some (.int .i64 ver) := fun kk => (Blk.card (by have := D0.later kk.le; rw [HPC.out] at this; exact this)).2.1
        have c2 : ∀ kk : LW wr, kk.val.cell? ⟨w.heap.size, 2, none⟩ = some (.int .u32 lab) := fun kk => (Blk.card (by have := D0.later kk.le; rw [HPC.out] at this; exact this)).2.2
        have HN1 := Lib.hid (fun wx : World => ref_num id wx)
        have HN2 := Lib.hid (fun wx : World => ref_num ver wx)
        have HN3 := Lib.hid (fun wx : World => ref_num lab wx)
        have HN4 := Lib.hid (fun wx : World => ref_num (X : Int) wx)
        obtain ⟨s1, hs1⟩ : ∃ s, s = str (enc (held id)) := ⟨_, rfl⟩
        obtain ⟨s2, hs2⟩ : ∃ s, s = str (enc (held ver)) := ⟨_, rfl⟩
        obtain ⟨s3, hs3⟩ : ∃ s, s = str (enc (held lab)) := ⟨_, rfl⟩
        obtain ⟨s4, hs4⟩ : ∃ s, s = str (enc (held (X : Int))) := ⟨_, rfl⟩
        have z1 : s1.size ≤ 6 := by rw [hs1, str_size]; exact held_len _
        have z2 : s2.size ≤ 6 := by rw [hs2, str_size]; exact held_len _
        have z3 : s3.size ≤ 6 := by rw [hs3, str_size]; exact held_len _
        have z4 : s4.size ≤ 6 := by rw [hs4, str_size]; exact held_len _
        have HRR : Hid (R = s1 ++ s2 ++ s3 ++ s4 ++ t) := Lib.hid (by
          rw [HR.out, HB.out, hs1, hs2, hs3, hs4, HT.out, HX.out]
          simp only [str_append])
        rw [← hs1] at HN1
        rw [← hs2] at HN2
        rw [← hs3] at HN3
        rw [← hs4] at HN4
        have hX32 : (X : Int) < 4294967296 := by rw [HX.out]; have := (ofl (kl f 8)).isLt; omega
        clear hs1 hs2 hs3 hs4 HX HT D0
        go_wp2_with fail
        refine wp_region_steady [] 47 (by kernel_rfl) (by kernel_rfl) (by kernel_rfl) (by rfl) ?_
        iterate 2 (refine wpG_quiet (by rfl) (by rfl) (by rfl) (fun K hK => ?_); go_big_quiet_op; refine hK _ ?_; clear hK K)
        refine wpG_call (by rfl) (by rfl) 31 #[.int .i64 id] (.string s1) (by intro _; simp [go_sem]) (by kernel_rfl) (fun w1 hl => HN1.out w1) ?_
        simp only [Act.put, List.setIfInBounds_toArray, List.set_cons_zero, List.set_cons_succ]
        iterate 2 (refine wpG_quiet (by rfl) (by rfl) (by rfl) (fun K hK => ?_); go_big_quiet_op; refine hK _ ?_; clear hK K)
        refine wpG_call (by rfl) (by rfl) 31 #[.int .i64 ver] (.string s2) (by intro _; simp [go_sem]) (by kernel_rfl) (fun w1 hl => HN2.out w1) ?_
        simp only [Act.put, List.setIfInBounds_toArray, List.set_cons_zero, List.set_cons_succ]
        iterate 4 (refine wpG_quiet (by rfl) (by rfl) (by rfl) (fun K hK => ?_); go_big_quiet_op; refine hK _ ?_; clear hK K)
        refine wpG_call (by rfl) (by rfl) 31 #[.int .i64 lab] (.string s3) (by intro _; simp [go_sem]) (by kernel_rfl) (fun w1 hl => HN3.out w1) ?_
        simp only [Act.put, List.setIfInBounds_toArray, List.set_cons_zero, List.set_cons_succ]
        iterate 3 (refine wpG_quiet (by rfl) (by rfl) (by rfl) (fun K hK => ?_); go_big_quiet_op; refine hK _ ?_; clear hK K)
        refine wpG_call (by rfl) (by rfl) 31 #[.int .i64 (X : Int)] (.string s4) (by intro _; simp [go_sem]) (by kernel_rfl) (fun w1 hl => HN4.out w1) ?_
        simp only [Act.put, List.setIfInBounds_toArray, List.set_cons_zero, List.set_cons_succ]
        iterate 4 (refine wpG_quiet (by rfl) (by rfl) (by rfl) (fun K hK => ?_); go_big_quiet_op; refine hK _ ?_; clear hK K)
        refine wpG_nil fun w2 hl _ => ?_
        have hbw2 := hbr.trans (hl.mono hbr.size)
        go_wp2_with fail
        go_ret
        exact ⟨by rw [HRR.out]; rfl, hbw2⟩
end Go.Proofs.Yticdpfjajkfheaa
