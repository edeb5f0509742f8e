/- Writes that wait: as cells; what waits behind a push; what is done, dropped, left. -/
import Derived.Test.YtjlpccdlpgkgoaaCardC
import Derived.Test.YtjlpccdlpgkgoaaRowK
namespace Go.Proofs.Ytjlpccdlpgkgoaa
set_option linter.unusedVariables false
open Go Go.RowKit BitM

/- Lists whose parts have n cells each. -/
section
variable {α : Type} {c : α → List Value} {n : Nat}
theorem fm_len : ∀ (l : List α), (∀ x ∈ l, (c x).length = n) → (l.flatMap c).length = l.length * n
  | [], _ => by simp
  | x :: l, h => by
    rw [List.flatMap_cons, List.length_append, h x (by simp), fm_len l (fun y hy => h y (List.mem_cons_of_mem _ hy)), List.length_cons, Nat.add_mul]
    omega
theorem fm_drop : ∀ (l : List α) (k : Nat), (∀ x ∈ l, (c x).length = n) → (l.flatMap c).drop (k * n) = (l.drop k).flatMap c
  | l, 0, _ => by simp
  | [], k + 1, _ => by simp
  | x :: l, k + 1, h => by
    rw [List.flatMap_cons, Nat.add_mul, Nat.one_mul, Nat.add_comm (k * n) n, ← List.drop_drop, List.drop_left' (h x (by simp)), fm_drop l k (fun y hy => h y (List.mem_cons_of_mem _ hy)), List.drop_succ_cons]
theorem fm_take : ∀ (l : List α) (k : Nat), (∀ x ∈ l, (c x).length = n) → (l.flatMap c).take (k * n) = (l.take k).flatMap c
  | l, 0, _ => by simp
  | [], k + 1, _ => by simp
  | x :: l, k + 1, h => by
    have hx := h x (by simp)
    rw [List.flatMap_cons, List.take_succ_cons, List.flatMap_cons, List.take_append, hx, show (k + 1) * n - n = k * n by rw [Nat.add_mul]; omega, fm_take l k (fun y hy => h y (List.mem_cons_of_mem _ hy)), List.take_of_length_le (by rw [hx, Nat.add_mul]; omega)]
theorem fm_get (l : List α) (k : Nat) (hk : k < l.length) (h : ∀ x ∈ l, (c x).length = n) : ((l.flatMap c).drop (k * n)).take n = c l[k] := by
  rw [fm_drop l k h, List.drop_eq_getElem_cons hk, List.flatMap_cons, List.take_left' (h _ (List.getElem_mem hk))]
theorem sees_fm {w : World} {B : Nat} {A : Option Addr} {l : List α} (hs : Sees w B A (l.flatMap c)) (h : ∀ x ∈ l, (c x).length = n) (hn : 0 < n) (k : Nat) (hk : k < l.length) :
    ∃ b o, A = some ⟨b, o, none⟩ ∧ b < B ∧ w.rangeAt b (o + k * n) (c l[k]) := by
  have hlen := fm_len l h
  have hpos : 0 < l.length * n := Nat.mul_pos (by omega) hn
  obtain ⟨b, o, e, hb, hc⟩ := hs (by rw [hlen]; exact hpos)
  refine ⟨b, o, e, hb, fun j v hj => ?_⟩
  have hjn : j < n := by
    have := (List.getElem?_eq_some_iff.1 hj).1
    rwa [h _ (List.getElem_mem hk)] at this
  have hb2 : k * n + j < l.length * n := by
    have : (k + 1) * n ≤ l.length * n := Nat.mul_le_mul_right n hk
    rw [Nat.add_mul] at this
    omega
  have h1 : (l.flatMap c)[k * n + j]? = some v := by
    have h2 := fm_get l k hk h
    rw [← hj, ← h2, List.getElem?_take, if_pos hjn, List.getElem?_drop]
  have hlt : k * n + j < (l.flatMap c).length := by rw [hlen]; exact hb2
  rw [Nat.add_assoc, hc _ hlt, List.getElem?_eq_getElem hlt] at *
  exact h1
end

/-- A write that waits: its card, its version, and its patch's mask, labels and fields. -/
abbrev Wr := Int × Int × BitVec 32 × BitVec 32 × List V3
def wrc (x : Wr) : List Value := [.int .i64 x.1, .int .i64 x.2.1] ++ pcells (x.2.2.1.toNat : Int) (x.2.2.2.1.toNat : Int) x.2.2.2.2
def wrs (l : List Wr) : List Value := l.flatMap wrc
/-- Whole writes: of eight fields, whose versions are no greater than some number. -/
def Whole (l : List Wr) : Prop := ∀ x ∈ l, x.2.2.2.2.length = 8
theorem wrc_len {x : Wr} (h : x.2.2.2.2.length = 8) : (wrc x).length = 28 := by
  unfold wrc
  rw [List.length_append, pcells_len _ _ h]
  rfl
theorem wrc_one (x : Wr) : ∀ u ∈ wrc x, u.oneCell' = true := by
  intro u hu
  unfold wrc at hu
  rcases List.mem_append.1 hu with h | h
  · simp at h
    rcases h with rfl | rfl <;> rfl
  · exact pcells_one _ _ _ u h
theorem wrs_one (l : List Wr) : ∀ u ∈ wrs l, u.oneCell' = true := fun u hu => by
  obtain ⟨x, _, hx⟩ := List.mem_flatMap.1 hu
  exact wrc_one x u hx
theorem Whole.len {l : List Wr} (h : Whole l) : ∀ x ∈ l, (wrc x).length = 28 := fun x hx => wrc_len (h x hx)
theorem wrs_len {l : List Wr} (h : Whole l) : (wrs l).length = l.length * 28 := fm_len l h.len
theorem wrs_snoc (l : List Wr) (x : Wr) : wrs (l ++ [x]) = wrs l ++ wrc x := by unfold wrs; rw [List.flatMap_append]; simp
theorem sees_wr {w : World} {B : Nat} {A : Option Addr} {l : List Wr} (hs : Sees w B A (wrs l)) (h : Whole l) (k : Nat) (hk : k < l.length) :
    ∃ b o, A = some ⟨b, o, none⟩ ∧ b < B ∧ w.rangeAt b (o + k * 28) (wrc l[k]) ∧ w.cell? ⟨b, o + k * 28, none⟩ = some (.int .i64 l[k].1) ∧ w.cell? ⟨b, o + k * 28 + 1, none⟩ = some (.int .i64 l[k].2.1) := by
  obtain ⟨b, o, e, hb, hr⟩ := sees_fm hs h.len (by decide) k hk
  exact ⟨b, o, e, hb, hr, hr 0 _ rfl, hr 1 _ rfl⟩

/-- The version that a write of a card has behind others. -/
def qbase (l : List Wr) (id ver : Int) : Int := l.foldl (fun b x => if x.1 = id then x.2.1 + 1 else b) ver
theorem qbase_succ (l : List Wr) (id ver : Int) (k : Nat) (h : k < l.length) : qbase (l.take (k + 1)) id ver = if l[k].1 = id then l[k].2.1 + 1 else qbase (l.take k) id ver := by
  unfold qbase
  rw [List.take_succ_eq_append_getElem h, List.foldl_append]
  rfl
theorem qbase_cons (x : Wr) (l : List Wr) (id ver : Int) : qbase (x :: l) id ver = qbase l id (if x.1 = id then x.2.1 + 1 else ver) := rfl
theorem qbase_none {id : Int} : ∀ {l : List Wr} {ver : Int}, (∀ x ∈ l, x.1 ≠ id) → qbase l id ver = ver
  | [], ver, _ => rfl
  | x :: l, ver, h => by
    rw [qbase_cons, if_neg (h x (by simp)), qbase_none (fun y hy => h y (List.mem_cons_of_mem _ hy))]
/-- How far versions go. -/
def Low (m : Int) (l : List Wr) : Prop := ∀ x ∈ l, 0 ≤ x.2.1 ∧ x.2.1 ≤ m
theorem qbase_low {m id : Int} : ∀ {l : List Wr} {ver : Int}, Low m l → 0 ≤ ver → ver ≤ m + 1 → 0 ≤ qbase l id ver ∧ qbase l id ver ≤ m + 1
  | [], ver, _, h0, h1 => ⟨h0, h1⟩
  | x :: l, ver, h, h0, h1 => by
    have hx := h x (by simp)
    rw [qbase_cons]
    refine qbase_low (fun y hy => h y (List.mem_cons_of_mem _ hy)) ?_ ?_
    · split <;> omega
    · split <;> omega
/-- The next write of the first one's card has one version more. -/
def Next (l : List Wr) : Prop := ∀ x r, l = x :: r → ∀ y, r.find? (fun z => decide (z.1 = x.1)) = some y → y.2.1 = x.2.1 + 1
theorem next_nil : Next [] := fun x r e => by cases e
theorem next_push {l : List Wr} (h : Next l) (ver : Int) (z : Wr) (hz : z.2.1 = qbase l z.1 ver) : Next (l ++ [z]) := by
  intro x r e y hy
  cases l with
  | nil =>
    simp at e
    obtain ⟨rfl, rfl⟩ := e
    simp at hy
  | cons x' r' =>
    simp at e
    obtain ⟨rfl, rfl⟩ := e
    rw [List.find?_append] at hy
    cases hf : r'.find? (fun z => decide (z.1 = x'.1)) with
    | some y' =>
      rw [hf] at hy
      simp at hy
      subst hy
      exact h x' r' rfl y' hf
    | none =>
      rw [hf] at hy
      simp at hy
      obtain ⟨hid, rfl⟩ := hy
      have hn : ∀ q ∈ r', q.1 ≠ x'.1 := fun q hq => by simpa using List.find?_eq_none.1 hf q hq
      rw [hz, hid]
      have hb : qbase (x' :: r') x'.1 ver = qbase r' x'.1 (x'.2.1 + 1) := by
        unfold qbase
        simp
      rw [hb, qbase_none hn]
/-- Those of a card, and the others. -/
def mine (id : Int) (l : List Wr) : List Wr := l.filter fun x => decide (x.1 = id)
def rest (id : Int) (l : List Wr) : List Wr := l.filter fun x => !decide (x.1 = id)
theorem mine_succ (id : Int) (l : List Wr) (k : Nat) (h : k < l.length) : mine id (l.take (k + 1)) = if l[k].1 = id then mine id (l.take k) ++ [l[k]] else mine id (l.take k) := by
  unfold mine
  rw [List.take_succ_eq_append_getElem h, List.filter_append]
  by_cases e : l[k].1 = id
  · rw [if_pos e]; simp [e]
  · rw [if_neg e]; simp [e]
theorem rest_succ (id : Int) (l : List Wr) (k : Nat) (h : k < l.length) : rest id (l.take (k + 1)) = if l[k].1 = id then rest id (l.take k) else rest id (l.take k) ++ [l[k]] := by
  unfold rest
  rw [List.take_succ_eq_append_getElem h, List.filter_append]
  by_cases e : l[k].1 = id
  · rw [if_pos e]; simp [e]
  · rw [if_neg e]; simp [e]
theorem filter_at {α : Type} (p : α → Bool) (l : List α) (k : Nat) (h : k < l.length) (hp : p l[k] = true) : ∃ h2 : ((l.take k).filter p).length < (l.filter p).length, (l.filter p)[((l.take k).filter p).length] = l[k] := by
  have e : l.filter p = (l.take k).filter p ++ l[k] :: (l.drop (k + 1)).filter p := by
    conv => lhs; rw [← List.take_append_drop k l, List.drop_eq_getElem_cons h]
    rw [List.filter_append, List.filter_cons, if_pos hp]
  have h2 : ((l.take k).filter p).length < (l.filter p).length := by rw [e]; simp
  refine ⟨h2, ?_⟩
  have h3 := List.getElem?_eq_getElem h2
  have h4 : (l.filter p)[((l.take k).filter p).length]? = some l[k] := by rw [e, List.getElem?_append_right (Nat.le_refl _), Nat.sub_self]; rfl
  rw [h3] at h4
  exact Option.some.inj h4
theorem mine_at (id : Int) (l : List Wr) (k : Nat) (h : k < l.length) (hp : l[k].1 = id) : ∃ h2 : (mine id (l.take k)).length < (mine id l).length, (mine id l)[(mine id (l.take k)).length] = l[k] := filter_at _ l k h (by simpa using hp)
theorem rest_at (id : Int) (l : List Wr) (k : Nat) (h : k < l.length) (hp : l[k].1 ≠ id) : ∃ h2 : (rest id (l.take k)).length < (rest id l).length, (rest id l)[(rest id (l.take k)).length] = l[k] := filter_at _ l k h (by simpa using hp)
theorem Whole.take {l : List Wr} (h : Whole l) (k : Nat) : Whole (l.take k) := fun x hx => h x (List.mem_of_mem_take hx)
theorem Whole.drop {l : List Wr} (h : Whole l) (k : Nat) : Whole (l.drop k) := fun x hx => h x (List.mem_of_mem_drop hx)
theorem Whole.mine {l : List Wr} (h : Whole l) (id : Int) : Whole (mine id l) := fun x hx => h x ((List.mem_filter.1 hx).1)
theorem Whole.rest {l : List Wr} (h : Whole l) (id : Int) : Whole (rest id l) := fun x hx => h x ((List.mem_filter.1 hx).1)
theorem Whole.snoc {l : List Wr} (h : Whole l) {x : Wr} (hx : x.2.2.2.2.length = 8) : Whole (l ++ [x]) := fun y hy => by
  rcases List.mem_append.1 hy with hy | hy
  · exact h y hy
  · simp at hy; subst hy; exact hx
end Go.Proofs.Ytjlpccdlpgkgoaa
