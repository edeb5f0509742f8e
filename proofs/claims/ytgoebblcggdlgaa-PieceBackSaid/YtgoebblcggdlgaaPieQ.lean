/- Pieces: a piece is got of its sector; what is joined of pieces of which one lacks, or two are changed about: mathematics. -/
import Derived.Test.YtgoebblcggdlgaaPieL
namespace Go.Proofs.Ytgoebblcggdlgaa
set_option linter.unusedVariables false
open Go Go.RowKit OctM SumM

theorem nu_lo : ∀ k n : Nat, nu (lo k n) = n % 256 ^ k
  | 0, n => by simp [lo, nu, Nat.mod_one]
  | k + 1, n => by
    rw [lo, nu, nu_lo k (n / 256), UInt8.toNat_ofNat']
    rw [show 256 ^ (k + 1) = 256 * 256 ^ k from by rw [Nat.pow_succ, Nat.mul_comm], Nat.mod_mul]
    omega
theorem get_put {p : Pc} (h : pok p = true) : getOut (pbs p) = (p, true) := by
  obtain ⟨a, b, f, g, bd⟩ := p
  have hh := h
  unfold pok at hh
  simp only [decide_eq_true_eq] at hh
  obtain ⟨h1, h2, h3, h4, h5⟩ := hh
  obtain ⟨Z, hZ⟩ : ∃ Z, pbs (a, b, f, g, bd) = lo 4 a.toNat ++ (lo 5 b.toNat ++ (lo 1 (kin (a, b, f, g, bd)) ++ (bd ++ Z))) ∧ Z.length = 54 - bd.length := by
    rw [pok_hea h]
    unfold sec
    have hl := hea_len (a, b, f, g, bd)
    dsimp only at hl
    refine ⟨List.replicate (62 - (hea (a, b, f, g, bd)).length) 0 ++ lo 2 (sumOf (hea (a, b, f, g, bd) ++ List.replicate (62 - (hea (a, b, f, g, bd)).length) 0)).toNat, ?_, ?_⟩
    · unfold hea
      simp only [List.append_assoc]
    · rw [List.length_append, List.length_replicate, lo_len, hl]; omega
  obtain ⟨hZ, hZl⟩ := hZ
  have hk := kin_lt (p := (a, b, f, g, bd)) h5
  have l4 := lo_len 4 a.toNat
  have l5 := lo_len 5 b.toNat
  have l1 := lo_len 1 (kin (a, b, f, g, bd))
  have hlen : (pbs (a, b, f, g, bd)).length = 64 := by rw [hZ]; simp only [List.length_append, l4, l5, l1, hZl]; omega
  have t4 : (pbs (a, b, f, g, bd)).take 4 = lo 4 a.toNat := by rw [hZ, List.take_left' l4]
  have d4 : (pbs (a, b, f, g, bd)).drop 4 = lo 5 b.toNat ++ (lo 1 (kin (a, b, f, g, bd)) ++ (bd ++ Z)) := by rw [hZ, List.drop_left' l4]
  have t5 : ((pbs (a, b, f, g, bd)).drop 4).take 5 = lo 5 b.toNat := by rw [d4, List.take_left' l5]
  have d9 : (pbs (a, b, f, g, bd)).drop 9 = lo 1 (kin (a, b, f, g, bd)) ++ (bd ++ Z) := by rw [show 9 = 4 + 5 from rfl, ← List.drop_drop, d4, List.drop_left' l5]
  have d10 : (pbs (a, b, f, g, bd)).drop 10 = bd ++ Z := by rw [show 10 = 9 + 1 from rfl, ← List.drop_drop, d9, List.drop_left' l1]
  have kk : knd (pbs (a, b, f, g, bd)) = kin (a, b, f, g, bd) := by
    unfold knd
    have h9 : (pbs (a, b, f, g, bd))[9]? = some (UInt8.ofNat (kin (a, b, f, g, bd) % 256)) := by
      have := congrArg (fun l => l[0]?) d9
      rw [List.getElem?_drop] at this
      rw [show 9 = 9 + 0 from rfl, this]
      rfl
    rw [List.getD_eq_getElem?_getD, h9]
    show (UInt8.ofNat (kin (a, b, f, g, bd) % 256)).toNat = _
    rw [UInt8.toNat_ofNat']
    omega
  have kv : kin (a, b, f, g, bd) = bd.length + (if f = true then 64 else 0) + (if g = true then 128 else 0) := rfl
  have hc : cand (pbs (a, b, f, g, bd)) = (a, b, f, g, bd) := by
    unfold cand
    rw [t4, t5, d10, kk, nu_lo, nu_lo]
    have e1 : ((a.toNat % 256 ^ 4 : Nat) : Int) = a := by
      rw [Nat.mod_eq_of_lt (by omega)]; omega
    have e2 : ((b.toNat % 256 ^ 5 : Nat) : Int) = b := by
      rw [Nat.mod_eq_of_lt (by omega)]; omega
    have e3 : decide (kin (a, b, f, g, bd) / 64 % 2 = 1) = f := by
      rw [kv]
      cases f <;> cases g <;> simp <;> omega
    have e4 : decide (kin (a, b, f, g, bd) / 128 = 1) = g := by
      rw [kv]
      cases f <;> cases g <;> simp <;> omega
    have e5 : (bd ++ Z).take (kin (a, b, f, g, bd) % 64) = bd := by
      rw [show kin (a, b, f, g, bd) % 64 = bd.length from by rw [kv]; cases f <;> cases g <;> simp <;> omega]
      exact List.take_left' rfl
    rw [e1, e2, e3, e4, e5]
  have hm : knd (pbs (a, b, f, g, bd)) % 64 ≤ 52 := by
    rw [kk, kv]
    cases f <;> cases g <;> simp <;> omega
  unfold getOut
  rw [hc]
  exact if_pos ⟨hlen, hm, rfl⟩

theorem bod_len2 (l : List Pc) (k : Nat) (h : ∀ p ∈ l, p.2.2.2.2.length ≤ k) : (bod l).length ≤ l.length * k := by
  induction l with
  | nil => simp [bod]
  | cons p l ih =>
    have h1 := ih (fun x hx => h x (List.mem_cons_of_mem _ hx))
    have h2 := h p List.mem_cons_self
    unfold bod at *
    rw [List.flatMap_cons, List.length_append, List.length_cons, Nat.succ_mul]
    omega
theorem bod_cutU (a b : Int) (r : List UInt8) : ∀ k, bod (cutU a b r k) = r.take (52 * k)
  | 0 => by simp [cutU, bod]
  | k + 1 => by
    rw [cutU_snoc, bod_snoc, bod_cutU a b r k]
    show r.take (52 * k) ++ (r.drop (52 * k)).take 52 = _
    rw [show 52 * (k + 1) = 52 * k + 52 by omega, List.take_add]
theorem cutU_at (a b : Int) (r : List UInt8) {m k : Nat} (h : k < m) : (cutU a b r m)[k]? = some (pcAt a b r k) := by
  unfold cutU
  rw [List.getElem?_map, List.getElem?_range h]
  rfl
theorem joi_cut {a b : Int} {r : List UInt8} (h : 1 ≤ a ∧ a ≤ 4294967295 ∧ 0 ≤ b ∧ b + (mn r.length : Int) ≤ 1099511627776) : joi (cutU a b r (mn r.length)) = (r, true) := by
  have hb : bod (cutU a b r (mn r.length)) = r := by
    rw [bod_cutU]
    refine List.take_of_length_le ?_
    have hp := mn_pos r.length
    have := (mn_cut (n := r.length) (k := mn r.length - 1) (by omega)).2.2 (by omega)
    rw [show mn r.length - 1 + 1 = mn r.length by omega] at this
    exact this
  have h0 := cutU_at a b r (mn_pos r.length)
  cases hl : cutU a b r (mn r.length) with
  | nil => rw [hl] at h0; cases h0
  | cons p l =>
    rw [hl] at h0 hb
    have hp : p = pcAt a b r 0 := by simpa using h0
    unfold joi
    dsimp only
    rw [hb]
    have e1 : p.1 = a := by rw [hp]; rfl
    have e2 : p.2.1 = b := by rw [hp]; show b + ((0 : Nat) : Int) = b; omega
    rw [e1, e2]
    unfold cutL
    rw [if_pos h, hl, if_pos rfl]
/-- What is joined is the pieces of one record, in order. -/
theorem joi_shape {l : List Pc} (h : (joi l).2 = true) : ∃ (a b : Int) (r : List UInt8), l.length = mn r.length ∧ ∀ i, i < l.length → l[i]? = some (pcAt a b r i) := by
  cases l with
  | nil => simp [joi] at h
  | cons p l =>
    unfold joi at h
    dsimp only at h
    split at h
    · rename_i hc
      unfold cutL at hc
      split at hc
      · refine ⟨p.1, p.2.1, bod (p :: l), by rw [← hc, cutU_len, hc], fun i hi => ?_⟩
        rw [← hc] at hi
        rw [cutU_len] at hi
        have := cutU_at p.1 p.2.1 (bod (p :: l)) hi
        rw [hc] at this
        exact this
      · cases hc
    · simp at h
theorem joi_less {a b : Int} {r : List UInt8} {m x : Nat} (hm : m = mn r.length) (hx : x < m) : (joi ((cutU a b r m).take x ++ (cutU a b r m).drop (x + 1))).2 = false := by
  rw [Bool.eq_false_iff]
  intro h
  obtain ⟨a', b', r', hl, hs⟩ := joi_shape h
  have hlen : ((cutU a b r m).take x ++ (cutU a b r m).drop (x + 1)).length = m - 1 := by
    rw [List.length_append, List.length_take, List.length_drop, cutU_len]; omega
  have hp := mn_pos r'.length
  have m1 : 1 < m := by omega
  rw [hlen] at hl hs
  have at1 : ∀ i, i < x → ((cutU a b r m).take x ++ (cutU a b r m).drop (x + 1))[i]? = some (pcAt a b r i) := fun i hi => by
    rw [List.getElem?_append_left (by rw [List.length_take, cutU_len]; omega), List.getElem?_take, if_pos hi]
    exact cutU_at a b r (by omega)
  have at2 : ∀ i, x ≤ i → i < m - 1 → ((cutU a b r m).take x ++ (cutU a b r m).drop (x + 1))[i]? = some (pcAt a b r (i + 1)) := fun i hi h2 => by
    rw [List.getElem?_append_right (by rw [List.length_take, cutU_len]; omega), List.length_take, cutU_len, List.getElem?_drop, show x + 1 + (i - min x m) = i + 1 by omega]
    exact cutU_at a b r (by omega)
  rcases Nat.eq_zero_or_pos x with rfl | hx0
  · have h1 := (at2 0 (Nat.le_refl _) (by omega)).symm.trans (hs 0 (by omega))
    have := congrArg (fun p : Option Pc => p.map (·.2.2.1)) h1
    simp [pcAt] at this
  · by_cases hxl : x = m - 1
    · have h1 := (at1 (m - 2) (by omega)).symm.trans (hs (m - 2) (by omega))
      have := congrArg (fun p : Option Pc => p.map (·.2.2.2.1)) h1
      simp [pcAt] at this
      omega
    · have h0 := (at1 0 hx0).symm.trans (hs 0 (by omega))
      have h1 := (at2 x (Nat.le_refl _) (by omega)).symm.trans (hs x (by omega))
      have e0 := congrArg (fun p : Option Pc => p.map (·.2.1)) h0
      have e1 := congrArg (fun p : Option Pc => p.map (·.2.1)) h1
      simp [pcAt] at e0 e1
      omega
theorem joi_swap {a b : Int} {r : List UInt8} {m i j : Nat} {u v : Pc} (hm : m = mn r.length) (hi : i < m) (hj : j < m) (hij : i ≠ j) (hu : u = pcAt a b r i) (hv : v = pcAt a b r j) : (joi (((cutU a b r m).set i v).set j u)).2 = false := by
  subst hu hv
  rw [Bool.eq_false_iff]
  intro h
  obtain ⟨a', b', r', hl, hs⟩ := joi_shape h
  rw [List.length_set, List.length_set, cutU_len] at hl hs
  have ai : (((cutU a b r m).set i (pcAt a b r j)).set j (pcAt a b r i))[i]? = some (pcAt a b r j) := by
    rw [List.getElem?_set_ne (by omega), List.getElem?_set_self (by rw [cutU_len]; exact hi)]
  have aj : (((cutU a b r m).set i (pcAt a b r j)).set j (pcAt a b r i))[j]? = some (pcAt a b r i) := by
    rw [List.getElem?_set_self (by rw [List.length_set, cutU_len]; exact hj)]
  have hfi := ai.symm.trans (hs i hi)
  have hfj := aj.symm.trans (hs j hj)
  have e1 := congrArg (fun p : Option Pc => p.map (·.2.1)) hfi
  have e2 := congrArg (fun p : Option Pc => p.map (·.2.1)) hfj
  have f1 := congrArg (fun p : Option Pc => p.map (·.2.2.1)) hfi
  have f2 := congrArg (fun p : Option Pc => p.map (·.2.2.1)) hfj
  simp [pcAt] at e1 e2 f1 f2
  omega
end Go.Proofs.Ytgoebblcggdlgaa
