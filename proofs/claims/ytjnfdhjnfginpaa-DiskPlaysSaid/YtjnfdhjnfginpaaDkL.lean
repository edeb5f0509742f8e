/- DiskKeeps: what the law's loops come to: mathematics. -/
import Derived.Test.YtjnfdhjnfginpaaDkK
namespace Go.Proofs.Ytjnfdhjnfginpaa
set_option linter.unusedVariables false
set_option linter.unusedSimpArgs false
open Go Go.RowKit

/-- An act: its kind, its place, its number, its byte, what is kept (as it lies there). -/
abbrev Ax := Int × Int × Int × UInt8 × Value
def axc (x : Ax) : List Value := [.int .i64 x.1, .int .i64 x.2.1, .int .i64 x.2.2.1, .int .u8 (x.2.2.2.1.toNat : Int), x.2.2.2.2]
theorem ax_len (l : List Ax) : ∀ x ∈ l, (axc x).length = 5 := fun _ _ => rfl
/-- A disk whose power does not go. -/
def kd (s : List Sc) (ws : List Wr) : Dk := ⟨s, ws, -1, false⟩
def wr1 (x : Ax) : Wr := (x.2.1, b64 (fil 64 x.2.2.2.1))
def inr (x : Ax) : Prop := 0 ≤ x.2.1 ∧ x.2.1 < 8
instance (x : Ax) : Decidable (inr x) := by unfold inr; infer_instance
def wl (l : List Ax) : List Wr := l.filterMap fun x => if inr x then some (wr1 x) else none
def wasg (was : List (List UInt8)) (l : List Ax) : List (List UInt8) := l.foldl (fun s x => if inr x then s.set x.2.1.toNat (fil 64 x.2.2.2.1) else s) was
def was0 : List (List UInt8) := List.replicate 8 (fil 64 0)
def scf (x : List UInt8) : Sc := (b64 x, false)
theorem kd_new : dnew 8 = kd (was0.map scf) [] := by
  unfold dnew kd was0 scf
  rw [List.map_replicate]
  have : b64 (fil 64 0) = z64 := by
    unfold b64
    rw [dif_pos (fil_len 64 0)]
    rfl
  rw [this]
theorem kd_write {s : List Sc} (hs : s.length = 8) (ws : List Wr) (x : Ax) : dwrite (kd s ws) x.2.1 (fil 64 x.2.2.2.1) = if inr x then (kd s (ws ++ [wr1 x]), 0) else (kd s ws, 1) := by
  by_cases h : inr x
  · rw [if_pos h]
    unfold inr at h
    unfold dwrite dhas dstep kd wr1
    simp only [hs, fil_len]
    rw [if_neg (by simp), if_pos ⟨by rw [decide_eq_true_eq]; exact h, trivial⟩]
    simp
  · rw [if_neg h]
    unfold inr at h
    unfold dwrite dhas kd
    simp only [hs, fil_len]
    rw [if_neg (by simp), if_neg (fun e => h (by have := e.1; rw [decide_eq_true_eq] at this; exact this))]
theorem kd_sync (s : List Sc) (ws : List Wr) : dsync (kd s ws) = (kd (dall s ws) [], 0) := by
  unfold dsync dstep kd
  simp
theorem kd_crash (s : List Sc) (ws : List Wr) (keep : List Int) : dcrash (kd s ws) keep = kd (dkeep keep 0 s ws) [] := rfl
theorem kd_read {s : List Sc} (hs : s.length = 8) {k : Nat} (hk : k < 8) : dread (kd s []) (k : Int) = if (s.getD k (z64, false)).2 then ([], 16) else ((s.getD k (z64, false)).1.1, 0) := by
  unfold dread dhas dlook kd
  simp only [hs, List.foldl_nil, Int.toNat_natCast]
  rw [if_neg (by simp), if_pos (by rw [decide_eq_true_eq]; omega)]
  rfl
theorem kd_in {s : List Sc} (hs : s.length = 8) (l : List Ax) : DIn (kd s (wl l)) := by
  intro x hx
  unfold kd wl at hx
  rw [List.mem_filterMap] at hx
  obtain ⟨y, _, hy⟩ := hx
  split at hy
  · rename_i h
    injection hy with hy
    subst hy
    unfold dhas kd
    simp only [hs, decide_eq_true_eq]
    exact h
  · cases hy
theorem wl_take (l : List Ax) (k : Nat) (hk : k < l.length) : wl (l.take (k + 1)) = if inr l[k] then wl (l.take k) ++ [wr1 l[k]] else wl (l.take k) := by
  rw [List.take_succ_eq_append_getElem hk]
  unfold wl
  rw [List.filterMap_append]
  by_cases h : inr l[k]
  · simp [h]
  · simp [h]
theorem wl_len (l : List Ax) : (wl l).length ≤ l.length := List.length_filterMap_le _ _
theorem wasg_take (was : List (List UInt8)) (l : List Ax) (k : Nat) (hk : k < l.length) : wasg was (l.take (k + 1)) = if inr l[k] then (wasg was (l.take k)).set l[k].2.1.toNat (fil 64 l[k].2.2.2.1) else wasg was (l.take k) := by
  rw [List.take_succ_eq_append_getElem hk]
  unfold wasg
  rw [List.foldl_append]
  rfl
theorem wasg_len : ∀ (l : List Ax) (was : List (List UInt8)), (wasg was l).length = was.length
  | [], _ => rfl
  | x :: l, was => by
    show (wasg (if inr x then was.set x.2.1.toNat (fil 64 x.2.2.2.1) else was) l).length = _
    rw [wasg_len l]
    split <;> simp
theorem wasg_64 : ∀ (l : List Ax) (was : List (List UInt8)), (∀ y ∈ was, y.length = 64) → ∀ y ∈ wasg was l, y.length = 64
  | [], _, h => h
  | x :: l, was, h => by
    show ∀ y ∈ wasg (if inr x then was.set x.2.1.toNat (fil 64 x.2.2.2.1) else was) l, _
    refine wasg_64 l _ (fun y hy => ?_)
    split at hy
    · rcases List.mem_or_eq_of_mem_set hy with h1 | h1
      · exact h y h1
      · rw [h1]; exact fil_len _ _
    · exact h y hy
theorem dall_was : ∀ (l : List Ax) (was : List (List UInt8)), dall (was.map scf) (wl l) = (wasg was l).map scf
  | [], _ => rfl
  | x :: l, was => by
    show dall (was.map scf) ((x :: l).filterMap _) = (wasg (if inr x then was.set x.2.1.toNat (fil 64 x.2.2.2.1) else was) l).map scf
    rw [← dall_was l]
    by_cases h : inr x
    · rw [if_pos h, List.filterMap_cons, if_pos h]
      show dall (dsettle (was.map scf) (wr1 x) 1) (wl l) = _
      unfold dsettle wr1
      rw [if_pos rfl, List.map_set]
      rfl
    · rw [if_neg h, List.filterMap_cons, if_neg h]
      rfl
/-- What a sector is behind a crash. -/
theorem keep_or (keep : List Int) (k : Nat) : ∀ (l : List Wr) (j : Nat) (s : List Sc), k < s.length → (∀ x ∈ l, 0 ≤ x.1) →
    (dkeep keep j s l).getD k (z64, false) = s.getD k (z64, false) ∨ ∃ x ∈ l, x.1 = (k : Int) ∧ (((dkeep keep j s l).getD k (z64, false)).2 = true ∨ (dkeep keep j s l).getD k (z64, false) = (x.2, false))
  | [], _, _, _, _ => .inl rfl
  | x :: l, j, s, hk, hp => by
    have ih := keep_or keep k l (j + 1) (dsettle s x (outc keep j)) (by rw [dsettle_len]; exact hk) (fun y hy => hp y (List.mem_cons_of_mem _ hy))
    have hx0 := hp x List.mem_cons_self
    have hd : (dsettle s x (outc keep j)).getD k (z64, false) = s.getD k (z64, false) ∨ (x.1 = (k : Int) ∧ (((dsettle s x (outc keep j)).getD k (z64, false)).2 = true ∨ (dsettle s x (outc keep j)).getD k (z64, false) = (x.2, false))) := by
      unfold dsettle
      by_cases he : x.1.toNat = k
      · have hxk : x.1 = (k : Int) := by omega
        split
        · refine .inr ⟨hxk, .inr ?_⟩
          rw [he, List.getD_eq_getElem?_getD, List.getElem?_set_self hk]
          rfl
        · split
          · refine .inr ⟨hxk, .inl ?_⟩
            rw [he, List.getD_eq_getElem?_getD, List.getElem?_set_self hk]
            rfl
          · exact .inl rfl
      · split
        · refine .inl ?_
          rw [List.getD_eq_getElem?_getD, List.getElem?_set_ne he, ← List.getD_eq_getElem?_getD]
        · split
          · refine .inl ?_
            rw [List.getD_eq_getElem?_getD, List.getElem?_set_ne he, ← List.getD_eq_getElem?_getD]
          · exact .inl rfl
    show (dkeep keep (j + 1) (dsettle s x (outc keep j)) l).getD k _ = _ ∨ _
    rcases ih with h | ⟨y, hy, h1, h2⟩
    · rcases hd with h3 | ⟨h3, h4⟩
      · exact .inl (h.trans h3)
      · refine .inr ⟨x, List.mem_cons_self, h3, ?_⟩
        rw [show dkeep keep j s (x :: l) = dkeep keep (j + 1) (dsettle s x (outc keep j)) l from rfl, h]
        exact h4
    · exact .inr ⟨y, List.mem_cons_of_mem _ hy, h1, h2⟩
/-- Which acts touch a sector; which say what was read. -/
def tch (l : List Ax) (k : Nat) : Bool := l.any fun x => decide (x.2.1 = (k : Int))
def okf (ok : Bool) (s : List UInt8) (e : Int) (l : List Ax) (k : Nat) : Bool := ok || l.any fun x => decide (x.2.1 = (k : Int) ∧ (s = fil 64 x.2.2.2.1 ∨ e = 16))
theorem tch_take (l : List Ax) (k i : Nat) (hi : i < l.length) : tch (l.take (i + 1)) k = (tch (l.take i) k || decide (l[i].2.1 = (k : Int))) := by
  unfold tch
  rw [List.take_succ_eq_append_getElem hi, List.any_append]
  simp only [List.any_cons, List.any_nil, Bool.or_false]
theorem okf_take (ok : Bool) (s : List UInt8) (e : Int) (l : List Ax) (k i : Nat) (hi : i < l.length) : okf ok s e (l.take (i + 1)) k = (okf ok s e (l.take i) k || decide (l[i].2.1 = (k : Int) ∧ (s = fil 64 l[i].2.2.2.1 ∨ e = 16))) := by
  unfold okf
  rw [List.take_succ_eq_append_getElem hi, List.any_append]
  simp only [List.any_cons, List.any_nil, Bool.or_false, Bool.or_assoc]
/-- The law's last check: it holds. -/
theorem keeps_ok (sure rest : List Ax) (keep : List Int) (k : Nat) (hk : k < 8) (s : List UInt8) (e : Int) (hr : dread (kd (dkeep keep 0 ((wasg was0 sure).map scf) (wl rest)) []) (k : Int) = (s, e)) :
    okf (decide (s = (wasg was0 sure).getD k [])) s e rest k = true ∧ (tch rest k = false → e = 0) := by
  have hwl : (wasg was0 sure).length = 8 := by rw [wasg_len]; rfl
  have h64 := wasg_64 sure was0 (fun y hy => by unfold was0 at hy; rw [List.eq_of_mem_replicate hy]; exact fil_len _ _)
  have hsl : ((wasg was0 sure).map scf).length = 8 := by rw [List.length_map, hwl]
  have hdl : (dkeep keep 0 ((wasg was0 sure).map scf) (wl rest)).length = 8 := by rw [dkeep_len, hsl]
  rw [kd_read hdl hk] at hr
  have hpos : ∀ x ∈ wl rest, 0 ≤ x.1 := fun x hx => by
    have := kd_in (s := (wasg was0 sure).map scf) hsl rest x hx
    unfold dhas at this
    rw [decide_eq_true_eq] at this
    exact this.1
  have hget : ((wasg was0 sure).map scf).getD k (z64, false) = scf ((wasg was0 sure).getD k []) := by
    rw [List.getD_eq_getElem?_getD, List.getElem?_map, List.getD_eq_getElem?_getD, List.getElem?_eq_getElem (by rw [hwl]; exact hk)]
    rfl
  have hb : ((wasg was0 sure).getD k []).length = 64 := by
    rw [List.getD_eq_getElem?_getD, List.getElem?_eq_getElem (by rw [hwl]; exact hk)]
    exact h64 _ (List.getElem_mem _)
  rcases keep_or keep k (wl rest) 0 _ (by rw [hsl]; exact hk) hpos with h | ⟨x, hx, h1, h2⟩
  · rw [h, hget] at hr
    unfold scf at hr
    rw [if_neg (by simp)] at hr
    injection hr with hs he
    rw [b64_val hb] at hs
    subst hs he
    refine ⟨?_, fun _ => rfl⟩
    unfold okf
    rw [decide_eq_true rfl]
    rfl
  · unfold wl at hx
    rw [List.mem_filterMap] at hx
    obtain ⟨y, hy, hyx⟩ := hx
    split at hyx
    · injection hyx with hyx
      subst hyx
      have hyk : y.2.1 = (k : Int) := h1
      have ht : tch rest k = true := by
        unfold tch
        rw [List.any_eq_true]
        exact ⟨y, hy, decide_eq_true hyk⟩
      refine ⟨?_, fun hf => by rw [ht] at hf; cases hf⟩
      unfold okf
      rw [Bool.or_eq_true]
      right
      rw [List.any_eq_true]
      refine ⟨y, hy, decide_eq_true ⟨hyk, ?_⟩⟩
      rcases h2 with h2 | h2
      · rw [if_pos h2] at hr
        injection hr with _ he
        exact .inr he.symm
      · rw [h2, if_neg (by simp)] at hr
        injection hr with hs _
        left
        rw [← hs]
        exact b64_val (fil_len _ _)
    · cases hyx
end Go.Proofs.Ytjnfdhjnfginpaa
