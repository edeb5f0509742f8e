/- Maps whose keys are ints: what lies in one, as pairs whose keys rise; look, put, delete, length: general. -/
import Derived.Maps.OwnSet
import Derived.Below
import Derived.Test.YtgkpbkedaddekaaO5
import Derived.Lib.SlKeysI
import Derived.Test.YtgkpbkedaddekaaO4
import Derived.Test.YtgkpbkedaddekaaO1
import Derived.Test.YtgkpbkedaddekaaO3
import Derived.Lib.SliceRun
import Derived.Maps.Own
import Derived.Laws.EntriesVeiled
namespace Go.Proofs.Ytgkpbkedaddekaa
set_option linter.unusedVariables false
set_option linter.unusedSimpArgs false
open Go Go.RowKit Go.Maps

/-- Every value reads as itself. -/
def RV : Value → Option (DataW Value × List MemPlace) := fun v => some (.held v, [])
def mlit (p : Int × Value) : Lit × DataW Value := (.int .i64 p.1, .held p.2)
abbrev IM := List (Int × Value)
def mget (m : IM) (x : Int) : Option Value := (m.find? (fun p => decide (p.1 = x))).map (·.2)
def mput : IM → Int → Value → IM
  | [], x, v => [(x, v)]
  | p :: m, x, v => if x < p.1 then (x, v) :: p :: m else if p.1 = x then (x, v) :: m else p :: mput m x v
def mdel (m : IM) (x : Int) : IM := m.filter (fun p => !decide (p.1 = x))
abbrev RiseM (m : IM) : Prop := m.Pairwise (fun p q => p.1 < q.1)
theorem same_lit (p : Int × Value) (x : Int) : (mlit p).1.sameKey (.int .i64 x) = decide (p.1 = x) := by simp [mlit, Lit.sameKey]
theorem has_lit (m : IM) (x : Int) : Maps.has (.map (m.map mlit)) (.int .i64 x) = (mget m x).isSome := by
  show (m.map mlit).any (fun p => p.1.sameKey (.int .i64 x)) = _
  induction m with
  | nil => rfl
  | cons p m ih =>
    rw [List.map_cons, List.any_cons, ih, same_lit]
    unfold mget
    rw [List.find?_cons]
    by_cases h : p.1 = x
    · simp [h]
    · simp [h]
theorem at_lit (m : IM) (x : Int) (z : Value) : (DataW.map (m.map mlit)).atKey (.int .i64 x) (.held z) = .held ((mget m x).getD z) := by
  unfold DataW.atKey
  dsimp only
  induction m with
  | nil => rfl
  | cons p m ih =>
    rw [List.map_cons, List.find?_cons, same_lit]
    unfold mget
    rw [List.find?_cons]
    by_cases h : p.1 = x
    · simp [h, mlit]
    · have h2 : decide (p.1 = x) = false := by simp [h]
      rw [h2]
      exact ih
theorem filter_lit (m : IM) (x : Int) : (m.map mlit).filter (fun p => !p.1.sameKey (.int .i64 x)) = (mdel m x).map mlit := by
  unfold mdel
  induction m with
  | nil => rfl
  | cons p m ih =>
    rw [List.map_cons, List.filter_cons, List.filter_cons, same_lit]
    by_cases h : p.1 = x
    · simp only [h, decide_true, Bool.not_true]
      exact ih
    · have h2 : decide (p.1 = x) = false := by simp [h]
      rw [h2]
      simp only [Bool.not_false, if_true, List.map_cons]
      rw [ih]
theorem del_lit (m : IM) (x : Int) : (DataW.map (m.map mlit)).del (.int .i64 x) = .map ((mdel m x).map mlit) := congrArg DataW.map (filter_lit m x)
theorem mdel_none {m : IM} {x : Int} (h : ∀ p ∈ m, x < p.1) : mdel m x = m := by
  unfold mdel
  rw [List.filter_eq_self]
  intro p hp
  have := h p hp
  simp
  omega
theorem insert_front {m : IM} {x : Int} (v : Value) (h : ∀ p ∈ m, x < p.1) : DataW.insert (mlit (x, v)) (m.map mlit) = ((x, v) :: m).map mlit := by
  match m, h with
  | [], _ => rfl
  | p :: m, h =>
    have h1 := h p (List.mem_cons_self ..)
    show (if (Lit.int .i64 x).before (Lit.int .i64 p.1) = true then _ else _) = _
    rw [if_pos (by simpa [Lit.before] using h1)]
    rfl
theorem put_list (m : IM) (x : Int) (v : Value) (hr : RiseM m) : DataW.insert (mlit (x, v)) ((mdel m x).map mlit) = (mput m x v).map mlit := by
  induction m with
  | nil => rfl
  | cons p m ih =>
    obtain ⟨h1, h2⟩ := List.pairwise_cons.1 hr
    unfold mput
    by_cases hx : x < p.1
    · rw [if_pos hx, mdel_none (fun q hq => by rcases List.mem_cons.1 hq with rfl | hq; exact hx; have := h1 q hq; omega)]
      exact insert_front v (fun q hq => by rcases List.mem_cons.1 hq with rfl | hq; exact hx; have := h1 q hq; omega)
    · rw [if_neg hx]
      by_cases he : p.1 = x
      · rw [if_pos he]
        have hd : mdel (p :: m) x = m := by
          unfold mdel
          rw [List.filter_cons, if_neg (by simp [he])]
          exact mdel_none (m := m) (x := x) (fun q hq => by have := h1 q hq; omega)
        rw [hd]
        exact insert_front v (fun q hq => by have := h1 q hq; omega)
      · rw [if_neg he]
        have hd : mdel (p :: m) x = p :: mdel m x := by
          unfold mdel
          rw [List.filter_cons, if_pos (by simp [he])]
        rw [hd, List.map_cons, List.map_cons, ← ih h2]
        show (if (Lit.int .i64 x).before (Lit.int .i64 p.1) = true then _ else _) = _
        rw [if_neg (by simp [Lit.before]; omega)]
theorem put_lit (m : IM) (x : Int) (v : Value) (hr : RiseM m) : (DataW.map (m.map mlit)).put (.int .i64 x) (.held v) = .map ((mput m x v).map mlit) := by
  show DataW.map (DataW.insert (mlit (x, v)) ((m.map mlit).filter (fun p => !p.1.sameKey (.int .i64 x)))) = _
  rw [filter_lit, put_list m x v hr]
theorem mput_mem {m : IM} {x : Int} {v : Value} {q : Int × Value} (h : q ∈ mput m x v) : q = (x, v) ∨ q ∈ m := by
  induction m with
  | nil => exact .inl (by simpa [mput] using h)
  | cons p m ih =>
    unfold mput at h
    split at h
    · rcases List.mem_cons.1 h with h | h
      · exact .inl h
      · exact .inr h
    · split at h
      · rcases List.mem_cons.1 h with h | h
        · exact .inl h
        · exact .inr (List.mem_cons_of_mem _ h)
      · rcases List.mem_cons.1 h with h | h
        · exact .inr (by rw [h]; exact List.mem_cons_self ..)
        · rcases ih h with h | h
          · exact .inl h
          · exact .inr (List.mem_cons_of_mem _ h)
theorem RiseM.put {m : IM} (hr : RiseM m) (x : Int) (v : Value) : RiseM (mput m x v) := by
  induction m with
  | nil => exact List.pairwise_singleton _ _
  | cons p m ih =>
    obtain ⟨h1, h2⟩ := List.pairwise_cons.1 hr
    unfold mput
    split
    · rename_i hx
      exact List.pairwise_cons.2 ⟨fun q hq => by rcases List.mem_cons.1 hq with rfl | hq; exact hx; have := h1 q hq; show x < q.1; omega, hr⟩
    · split
      · rename_i hx he
        exact List.pairwise_cons.2 ⟨fun q hq => by have := h1 q hq; show x < q.1; omega, h2⟩
      · rename_i hx he
        exact List.pairwise_cons.2 ⟨fun q hq => by rcases mput_mem hq with rfl | hq; show p.1 < x; omega; exact h1 q hq, ih h2⟩
theorem RiseM.del {m : IM} (hr : RiseM m) (x : Int) : RiseM (mdel m x) := hr.filter _
/-- A map whose keys are ints, as it lies. -/
structure MapI (P : Program) (k : TypeId) (w : World) (b N : Nat) (m : IM) : Prop where
  own : w.ownsMap P k RV b N (.map (m.map mlit))
  rise : RiseM m
section
variable {P : Program} {k t e : TypeId} {w w' : World} {b N : Nat} {m : IM}
theorem MapI.lt (h : MapI P k w b N m) : b < w.heap.size := h.own.lt
theorem MapI.kept {row : Option Nat} (h : MapI P k w b N m) (hg : w.grownBy w' row) (hne : some b ≠ row) : MapI P k w' b N m := ⟨h.own.kept hg hne, h.rise⟩
theorem MapI.later (h : MapI P k w b N m) (hb : Below w.heap.size w w') : MapI P k w' b N m := h.kept (row := none) ⟨hb.os, hb.tape, hb.output, hb.size, fun j hj _ => hb.block j hj⟩ (by intro e; cases e)
theorem MapI.setCell (h : MapI P k w b N m) {a : Addr} (ha : b ≠ a.block) (u : Value) : MapI P k (w.setCell a u) b N m := ⟨h.own.setCell ha u, h.rise⟩
theorem MapI.new (P : Program) (k : TypeId) (w : World) : MapI P k (w.alloc (.map #[] 0)) w.heap.size 0 [] := ⟨World.ownsMap_made w P k RV, List.Pairwise.nil⟩
theorem MapI.size (h : MapI P k w b N m) : m.length ≤ N := by
  have := h.own.size_le
  simpa [Maps.size] using this
theorem MapI.look2 (h : MapI P k w b N m) (hk : P.underlying k = some (.int .i64)) (ht : P.underlying t = some (.map k e)) {z : Value} (hz : (zeroValue e).run P w = .ok z w) {x : Int} (hx : (Lit.int .i64 x).wf = true) :
    (Instr.lookup t (.map (some b)) (.int .i64 x) true).run P w = .ok (.tuple #[(mget m x).getD z, .bool (mget m x).isSome]) w := by
  obtain ⟨v, ps, hr, hv⟩ := h.own.look_ok (int_keyed hk) ht hz (zd := .held z) (zp := []) rfl (key := .int .i64 x) (kl := .int .i64 x) (by simp [keyOf, hk, mapKey, hx])
  rw [has_lit] at hr
  rw [at_lit] at hv
  have : v = (mget m x).getD z := by
    simp only [RV, Option.some.injEq, Prod.mk.injEq, DataW.held.injEq] at hv
    exact hv.1
  rw [hr, this]
theorem MapI.look1 (h : MapI P k w b N m) (hk : P.underlying k = some (.int .i64)) (ht : P.underlying t = some (.map k e)) {z : Value} (hz : (zeroValue e).run P w = .ok z w) {x : Int} (hx : (Lit.int .i64 x).wf = true) :
    (Instr.lookup t (.map (some b)) (.int .i64 x) false).run P w = .ok ((mget m x).getD z) w := by
  obtain ⟨v, ps, hr, hv⟩ := h.own.lookup (int_keyed hk) ht hz (zd := .held z) (zp := []) rfl (key := .int .i64 x) (kl := .int .i64 x) (by simp [keyOf, hk, mapKey, hx])
  rw [at_lit] at hv
  have : v = (mget m x).getD z := by
    simp only [RV, Option.some.injEq, Prod.mk.injEq, DataW.held.injEq] at hv
    exact hv.1
  rw [hr, this]
theorem MapI.store (h : MapI P k w b N m) (hk : P.underlying k = some (.int .i64)) (ht : P.underlying t = some (.map k e)) (hn : N < maxLen) {x : Int} (hx : (Lit.int .i64 x).wf = true) (v : Value) :
    ∃ w', (Instr.mapUpdate t (.map (some b)) (.int .i64 x) v).run P w = .ok () w' ∧ MapI P k w' b (N + 1) (mput m x v) ∧ w.grownBy w' (some b) := by
  obtain ⟨w', hr, ho, hg⟩ := h.own.update (int_keyed hk) ht hn (key := .int .i64 x) (kl := .int .i64 x) (d := .held v) (ps := []) (by simp [keyOf, hk, mapKey, hx]) rfl
  rw [put_lit m x v h.rise] at ho
  exact ⟨w', hr, ⟨ho, h.rise.put x v⟩, hg⟩
theorem MapI.drop (h : MapI P k w b N m) (hk : P.underlying k = some (.int .i64)) (ht : P.underlying t = some (.map k e)) {x : Int} (hx : (Lit.int .i64 x).wf = true) (ty : TypeId) :
    ∃ w', (Builtin.delete_ #[t, k] ty #[.map (some b), .int .i64 x]).run P w = .ok (.tuple #[]) w' ∧ MapI P k w' b N (mdel m x) ∧ w.mapTurned w' b := by
  obtain ⟨w', hr, ho, hg⟩ := h.own.drop (int_keyed hk) ht (key := .int .i64 x) (kl := .int .i64 x) (by simp [keyOf, hk, mapKey, hx]) ty
  rw [del_lit] at ho
  exact ⟨w', hr, ⟨ho, h.rise.del x⟩, hg⟩
theorem MapI.len (h : MapI P k w b N m) (ht : P.underlying t = some (.map k e)) (ty : TypeId) : (Builtin.len_ #[t] ty #[.map (some b)]).run P w = .ok (.int .i64 (m.length : Int)) w := by
  have := h.own.len ht ty
  simpa [Maps.size] using this
end
end Go.Proofs.Ytgkpbkedaddekaa

/- Pairs by rising numbers, as they lie in a map; a map's keys, sorted: mathematics. -/
namespace Go.Proofs.Ytgkpbkedaddekaa
set_option linter.unusedVariables false
set_option linter.unusedSimpArgs false
open Go Go.RowKit Go.Maps

/-- What lies in the map. -/
def vmap {α : Type} (f : α → Value) (m : KV α) : IM := m.map fun p => (p.1, f p.2)
section
variable {α : Type} (f : α → Value)
theorem vmap_len (m : KV α) : (vmap f m).length = m.length := List.length_map ..
theorem vmap_get (m : KV α) (x : Int) : mget (vmap f m) x = (kget m x).map f := by
  unfold mget kget vmap
  induction m with
  | nil => rfl
  | cons p m ih =>
    rw [List.map_cons, List.find?_cons, List.find?_cons]
    by_cases h : p.1 = x
    · simp [h]
    · rw [show decide (((p.1, f p.2) : Int × Value).1 = x) = false from decide_eq_false h]
      exact ih
theorem vmap_put (m : KV α) (x : Int) (v : α) : mput (vmap f m) x (f v) = vmap f (kput m x v) := by
  induction m with
  | nil => rfl
  | cons p m ih =>
    show (if x < p.1 then _ else if p.1 = x then _ else _) = vmap f (if x < p.1 then _ else if p.1 = x then _ else _)
    split
    · rfl
    · split
      · rfl
      · show (p.1, f p.2) :: mput (vmap f m) x (f v) = _
        rw [ih]
        rfl
theorem vmap_del (m : KV α) (x : Int) : mdel (vmap f m) x = vmap f (kdel m x) := by
  unfold mdel kdel vmap
  induction m with
  | nil => rfl
  | cons p m ih =>
    rw [List.map_cons, List.filter_cons, List.filter_cons]
    by_cases h : p.1 = x
    · rw [show decide (((p.1, f p.2) : Int × Value).1 = x) = true from decide_eq_true h]
      exact ih
    · rw [show decide (((p.1, f p.2) : Int × Value).1 = x) = false from decide_eq_false h]
      simp only [Bool.not_false, if_true, List.map_cons]
      rw [ih]
theorem vmap_keys (m : KV α) : intKeys (DataW.map ((vmap f m).map mlit) : DataW Value) = m.map (·.1) := by
  show ((vmap f m).map mlit).map (fun p => intOf p.1) = _
  unfold vmap
  rw [List.map_map, List.map_map]
  rfl
theorem vmap_size (m : KV α) : Maps.size (DataW.map ((vmap f m).map mlit) : DataW Value) = m.length := by
  show ((vmap f m).map mlit).length = _
  rw [List.length_map, vmap_len]
/-- The keys, sorted, are the rising list. -/
theorem keys_sorted {m : KV α} (h : KRise m) {ss : List Int} (hp : ss.Perm (intKeys (DataW.map ((vmap f m).map mlit) : DataW Value))) : ss.mergeSort (fun x y => decide (x ≤ y)) = m.map (·.1) := by
  rw [vmap_keys] at hp
  rw [mergeSort_of_perm_i hp]
  refine List.mergeSort_of_pairwise ?_
  refine (List.pairwise_map (R := fun a b : Int => leI a b = true) (f := fun p : Int × α => p.1)).2 (h.imp ?_)
  intro p q hpq
  exact decide_eq_true (Int.le_of_lt hpq)
end
end Go.Proofs.Ytgkpbkedaddekaa

/- Slices of structs that are seen: what lies at each place, in all later worlds. -/
namespace Go.Proofs.Ytgkpbkedaddekaa
set_option linter.unusedVariables false
set_option linter.unusedSimpArgs false
open Go Go.RowKit BitM

structure SeesR {α : Type} (f : α → List Value) (w : World) (A : Option Addr) (n c : Nat) (l : List α) : Prop where
  len : l.length = n
  cap : n ≤ c
  max : c ≤ maxLen
  see : Sees w w.heap.size A (rws f l)
theorem SeesR.later {α : Type} {f : α → List Value} {w w' : World} {A : Option Addr} {n c : Nat} {l : List α} (h : SeesR f w A n c l) (hb : Below w.heap.size w w') : SeesR f w' A n c l :=
  ⟨h.len, h.cap, h.max, (h.see.below hb).more hb.size⟩
theorem SeesR.gets {α : Type} {f : α → List Value} {w : World} {A : Option Addr} {n c : Nat} {l : List α} (h : SeesR f w A n c l) {sz : Nat} (hf : ∀ x ∈ l, (f x).length = sz) (hz : 0 < sz) (hl : 0 < l.length) :
    ∃ b o, A = some ⟨b, o, none⟩ ∧ b < w.heap.size ∧ ∀ W, Below w.heap.size w W → ∀ k (hk : k < l.length), W.rangeAt b (o + k * sz) (f l[k]) := by
  obtain ⟨b, o, e, hb, _⟩ := sees_rw (f := f) (sz := sz) hf h.see hz 0 hl
  refine ⟨b, o, e, hb, fun W hW k hk => ?_⟩
  obtain ⟨b', o', e', _, hr⟩ := sees_rw (f := f) (sz := sz) hf ((h.later hW).see) hz k hk
  rw [e] at e'
  cases e'
  exact hr
theorem SeesR.of_row {α : Type} {f : α → List Value} {w : World} {B : Nat} {e : TypeId} {sz n c : Nat} {A : Option Addr} {l : List α} (h : w.ownsRow B e sz (.slice A n c) n (rws f l)) (hl : l.length = n) (hc : n ≤ c ∧ c ≤ maxLen) : SeesR f w A n c l :=
  ⟨hl, hc.1, hc.2, row_sees h⟩
end Go.Proofs.Ytgkpbkedaddekaa

/- Turns and items as they lie; how they are built. -/
namespace Go.Proofs.Ytgkpbkedaddekaa
set_option linter.unusedVariables false
set_option linter.unusedSimpArgs false
open Go Go.RowKit BitM

def ccl (c : Cd) : List Value := ccells c.1 c.2.1 c.2.2.1 c.2.2.2
abbrev okCd (c : Cd) : Prop := c.2.2.2.length = 8
theorem ccl_len {c : Cd} (h : okCd c) : (ccl c).length = 27 := ccells_len _ _ _ h
theorem ccl_one (c : Cd) : ∀ u ∈ ccl c, u.oneCell' = true := ccells_one _ _ _ _
theorem tr_eight {f : List V3} (h : f.length = 8) : ∃ a b c d e g i j, f = [a, b, c, d, e, g, i, j] := by
  match f, h with
  | [a, b, c, d, e, g, i, j], _ => exact ⟨a, b, c, d, e, g, i, j, rfl⟩
end Go.Proofs.Ytgkpbkedaddekaa

/- Shelves as they lie: the program's, the document's, both side by side. -/
namespace Go.Proofs.Ytgkpbkedaddekaa
set_option linter.unusedVariables false
set_option linter.unusedSimpArgs false
open Go Go.RowKit BitM

/-- All but three blocks is as it was. -/
structure TurnS (w w' : World) (g b : Nat) (r : Option Nat) : Prop where
  os : w'.os = w.os
  tape : w'.tape = w.tape
  output : w'.output = w.output
  size : w.heap.size ≤ w'.heap.size
  block : ∀ k, k < w.heap.size → k ≠ g → k ≠ b → some k ≠ r → w'.heap[k]? = w.heap[k]?
/-- A row that is the old one, or a new one. -/
def RowS (w : World) (r r' : Option Nat) : Prop := ∀ k, r' = some k → r = some k ∨ w.heap.size ≤ k
theorem RowS.refl (w : World) (r : Option Nat) : RowS w r r := fun k h => .inl h
theorem RowS.none (w : World) (r : Option Nat) : RowS w r none := fun k h => by cases h
theorem RowS.trans {w w1 : World} {r r1 r2 : Option Nat} (h : RowS w r r1) (h1 : RowS w1 r1 r2) (hz : w.heap.size ≤ w1.heap.size) : RowS w r r2 := fun k hk => by
  rcases h1 k hk with h2 | h2
  · exact h k h2
  · exact .inr (Nat.le_trans hz h2)
section
variable {w w' w1 w2 : World} {g b : Nat} {r r1 : Option Nat}
theorem TurnS.refl (w : World) (g b : Nat) (r : Option Nat) : TurnS w w g b r := ⟨rfl, rfl, rfl, Nat.le_refl _, fun _ _ _ _ _ => rfl⟩
theorem TurnS.of_below (h : Below w.heap.size w w') (g b : Nat) (r : Option Nat) : TurnS w w' g b r := ⟨h.os, h.tape, h.output, h.size, fun k hk _ _ _ => h.block k hk⟩
theorem TurnS.of_map (h : w.grownBy w' (some b)) (g : Nat) (r : Option Nat) : TurnS w w' g b r := ⟨h.os, h.tape, h.output, h.size, fun k hk _ hb _ => h.block k hk (by simpa using hb)⟩
theorem TurnS.of_row (h : w.grownBy w' r) (g b : Nat) : TurnS w w' g b r := ⟨h.os, h.tape, h.output, h.size, fun k hk _ _ hr => h.block k hk hr⟩
theorem TurnS.trans (h : TurnS w w1 g b r) (h1 : TurnS w1 w2 g b r1) (hr : RowS w r r1) : TurnS w w2 g b r :=
  ⟨h1.os.trans h.os, h1.tape.trans h.tape, h1.output.trans h.output, Nat.le_trans h.size h1.size, fun k hk hg hb hne => (h1.block k (Nat.lt_of_lt_of_le hk h.size) hg hb (fun e => by
    rcases hr k e.symm with h2 | h2
    · exact hne h2.symm
    · omega)).trans (h.block k hk hg hb hne)⟩
theorem TurnS.below {L : Nat} (h : TurnS w w' g b r) (hg : L ≤ g) (hb : L ≤ b) (hr : ∀ k, r = some k → L ≤ k) (hL : L ≤ w.heap.size) : Below L w w' :=
  ⟨h.os, h.tape, h.output, h.size, fun k hk => h.block k (by omega) (by omega) (by omega) (fun e => by have := hr k e.symm; omega)⟩
theorem heap_setsS (b k : Nat) (hk : k ≠ b) : ∀ (vs : List Value) (o : Nat) (w : World), (w.setCells b o vs).heap[k]? = w.heap[k]?
  | [], _, _ => rfl
  | v :: vs, o, w => (heap_setsS b k hk vs (o + 1) _).trans (Below.heap_setCell w ⟨b, o, none⟩ v k hk)
theorem TurnS.sets (w : World) (g b j : Nat) (r : Option Nat) (vs : List Value) (o : Nat) (hj : j = g ∨ j = b) : TurnS w (w.setCells j o vs) g b r := by
  have hb := below_sets (B := j) (b := j) (Nat.le_refl j) vs o (Below.refl j w)
  exact ⟨hb.os, hb.tape, hb.output, hb.size, fun k hk hg hb' _ => heap_setsS j k (by rcases hj with rfl | rfl <;> assumption) vs o w⟩
theorem TurnS.set (w : World) (g b j o : Nat) (r : Option Nat) (v : Value) (hj : j = g ∨ j = b) : TurnS w (w.setCell ⟨j, o, none⟩ v) g b r := TurnS.sets w g b j r [v] o hj
theorem TurnS.blk {k : Nat} {cs : List Value} (h : TurnS w w' g b r) (hb : Blk w k cs) (h1 : k ≠ g) (h2 : k ≠ b) (h3 : r ≠ some k) : Blk w' k cs := by
  have hlt := hb.lt
  obtain ⟨t, hb⟩ := hb
  exact ⟨t, (h.block k hlt h1 h2 (fun e => h3 e.symm)).trans hb⟩
end
theorem row_blockS {w w' : World} {base n size : Nat} {e : TypeId} {v : Value} {xs : List Value} (h : w.ownsRow base e size v n xs) (hb : ∀ k, v.ownBlock = some k → w'.heap[k]? = w.heap[k]?) : w'.ownsRow base e size v n xs := by
  obtain ⟨h1, h2 | ⟨g, cap, cur, rfl, e2, e3, e4, e5, e6, e7⟩⟩ := h
  · exact ⟨h1, .inl h2⟩
  · exact ⟨h1, .inr ⟨g, cap, cur, rfl, e2, (hb g rfl).trans e3, e4, e5, e6, e7⟩⟩
def cdv (c : Cd) : Value := .agg (ccl c).toArray
/-- A card that was deleted, as it lies. -/
def ddc (d : Dd) : List Value := [.int .i64 d.id, .int .i64 d.vr, .int .i64 d.sq]
theorem ddc_lens (l : List Dd) : ∀ x ∈ l, (ddc x).length = 3 := fun _ _ => rfl
/-- The program's shelf: its own block is g, the map's b, the dead lie in a row at or above L. -/
structure SfAt (w : World) (L g b : Nat) (r : Option Nat) (N : Nat) (s : Sh) : Prop where
  at_ : ∃ A c, Blk w g [.int .i64 s.nx, .map (some b), .slice A s.dd.length c] ∧ w.ownsRow L 68 3 (.slice A s.dd.length c) s.dd.length (rws ddc s.dd) ∧ r = (Value.slice A s.dd.length c).ownBlock
  map : MapI Try.prog 3 w b N (vmap cdv (toKV s.cs))
  gb : g ≠ b
  rg : r ≠ some g
  rb : r ≠ some b
  Lg : L ≤ g
  Lb : L ≤ b
section
variable {w w' w1 w2 : World} {L g b N : Nat} {r : Option Nat} {s : Sh}
theorem SfAt.row (h : SfAt w L g b r N s) : ∀ k, r = some k → L ≤ k ∧ k < w.heap.size := by
  obtain ⟨A, c, _, hr, e⟩ := h.at_
  intro k hk
  exact hr.lt k (by rw [← e]; exact hk)
theorem SfAt.lt (h : SfAt w L g b r N s) : g < w.heap.size ∧ b < w.heap.size := by
  obtain ⟨A, c, B, _⟩ := h.at_
  exact ⟨B.lt, h.map.lt⟩
theorem SfAt.later (h : SfAt w L g b r N s) (hb : Below w.heap.size w w') : SfAt w' L g b r N s := by
  obtain ⟨⟨A, c, B, hr, e⟩, h2, h3, h4, h5, h6, h7⟩ := h
  exact ⟨⟨A, c, B.later hb, row_later hr hb, e⟩, h2.later hb, h3, h4, h5, h6, h7⟩
theorem SfAt.setNext (h : SfAt w L g b r N s) (x : Int) : SfAt (w.setCell ⟨g, 0, none⟩ (.int .i64 x)) L g b r N { s with nx := x } := by
  obtain ⟨⟨A, c, B, hr, e⟩, h2, h3, h4, h5, h6, h7⟩ := h
  refine ⟨⟨A, c, ?_, row_blockS hr (fun k hk => Below.heap_setCell w _ _ k (fun e2 => h4 (by rw [e, hk]; exact congrArg some e2))), e⟩, h2.setCell (fun e2 => h3 e2.symm) _, h3, h4, h5, h6, h7⟩
  have := B.set 0 (.int .i64 x)
  simpa using this
theorem SfAt.putMap {cs : List Cd} {N' : Nat} (h : SfAt w L g b r N s) (hg : w.grownBy w' (some b)) (hI : MapI Try.prog 3 w' b N' (vmap cdv (toKV cs))) : SfAt w' L g b r N' { s with cs := cs } := by
  have hrow := h.row
  obtain ⟨⟨A, c, B, hr, e⟩, h2, h3, h4, h5, h6, h7⟩ := h
  refine ⟨⟨A, c, B.kept hg (fun e => h3 (by simpa using e.symm)), row_blockS hr (fun k hk => hg.block k (hrow k (by rw [e]; exact hk)).2 (fun e2 => h5 (by rw [e, hk]; exact e2))), e⟩, hI, h3, h4, h5, h6, h7⟩
/-- The dead lie in a row of their own: an old one, or a new one. -/
theorem SfAt.setDead {A : Option Addr} {c : Nat} {dd : List Dd} (h : SfAt w L g b r N s) (hm : MapI Try.prog 3 w1 b N (vmap cdv (toKV s.cs))) {cl : Value} (hB : Blk w1 g [.int .i64 s.nx, .map (some b), cl]) (hr : w1.ownsRow L 68 3 (.slice A dd.length c) dd.length (rws ddc dd))
    (hg : (Value.slice A dd.length c).ownBlock ≠ some g) (hb : (Value.slice A dd.length c).ownBlock ≠ some b) :
    SfAt (w1.setCell ⟨g, 2, none⟩ (.slice A dd.length c)) L g b (Value.slice A dd.length c).ownBlock N { s with dd := dd } := by
  obtain ⟨_, h2, h3, h4, h5, h6, h7⟩ := h
  refine ⟨⟨A, c, ?_, row_blockS hr (fun k hk => Below.heap_setCell w1 _ _ k (fun e2 => hg (by rw [hk]; exact congrArg some e2))), rfl⟩, hm.setCell (fun e2 => h3 e2.symm) _, h3, hg, hb, h6, h7⟩
  have := hB.set 2 (.slice A dd.length c)
  simpa using this
end
def bof (A : Option Addr) : Option Nat := A.map (·.block)
theorem cell_same {w w' : World} {a : Addr} (h : w'.heap[a.block]? = w.heap[a.block]?) : w'.cell? a = w.cell? a := by
  unfold World.cell?
  rw [h]
theorem SeesR.same {α : Type} {f : α → List Value} {w w' : World} {A : Option Addr} {n c : Nat} {l : List α} (h : SeesR f w A n c l) (hz : w.heap.size ≤ w'.heap.size) (hb : ∀ k, bof A = some k → k < w.heap.size → w'.heap[k]? = w.heap[k]?) : SeesR f w' A n c l := by
  refine ⟨h.len, h.cap, h.max, fun hp => ?_⟩
  obtain ⟨b, o, e, hlt, hc⟩ := h.see hp
  refine ⟨b, o, e, by omega, fun j hj => ?_⟩
  rw [cell_same (a := ⟨b, o + j, none⟩) (hb b (by rw [e]; rfl) hlt)]
  exact hc j hj
/-- The document's shelf: its own block is m; its lists are seen, and lie in the blocks q, p. -/
structure RsAt (w : World) (m : Nat) (q p : Option Nat) (s : Sh) : Prop where
  at_ : ∃ A c A' c', Blk w m [.int .i64 s.nx, .slice A s.cs.length c, .slice A' s.dd.length c'] ∧ SeesR ccl w A s.cs.length c s.cs ∧ SeesR ddc w A' s.dd.length c' s.dd ∧ q = bof A ∧ p = bof A'
  qm : q ≠ some m
  pm : p ≠ some m
theorem RsAt.lt {w : World} {m : Nat} {q p : Option Nat} {s : Sh} (h : RsAt w m q p s) : m < w.heap.size := by
  obtain ⟨A, c, A', c', B, _⟩ := h.at_
  exact B.lt
theorem RsAt.later {w w' : World} {m : Nat} {q p : Option Nat} {s : Sh} (h : RsAt w m q p s) (hb : Below w.heap.size w w') : RsAt w' m q p s := by
  obtain ⟨⟨A, c, A', c', B, h1, h2, e1, e2⟩, h3, h4⟩ := h
  exact ⟨⟨A, c, A', c', B.later hb, h1.later hb, h2.later hb, e1, e2⟩, h3, h4⟩
theorem RsAt.turn {w w' : World} {m g b : Nat} {r q p : Option Nat} {s : Sh} (h : RsAt w m q p s) (T : TurnS w w' g b r) (mg : m ≠ g) (mb : m ≠ b) (mr : r ≠ some m)
    (qg : q ≠ some g) (qb : q ≠ some b) (qr : ∀ k, r = some k → q ≠ some k) (pg : p ≠ some g) (pb : p ≠ some b) (pr : ∀ k, r = some k → p ≠ some k) : RsAt w' m q p s := by
  obtain ⟨⟨A, c, A', c', B, h1, h2, e1, e2⟩, h3, h4⟩ := h
  refine ⟨⟨A, c, A', c', T.blk B mg mb mr, h1.same T.size (fun k hk hl => ?_), h2.same T.size (fun k hk hl => ?_), e1, e2⟩, h3, h4⟩
  · rw [← e1] at hk
    exact T.block k hl (fun e => qg (by rw [hk, e])) (fun e => qb (by rw [hk, e])) (fun e => qr k e.symm hk)
  · rw [← e2] at hk
    exact T.block k hl (fun e => pg (by rw [hk, e])) (fun e => pb (by rw [hk, e])) (fun e => pr k e.symm hk)
theorem SfAt.turn {w w' : World} {L g b m N : Nat} {r : Option Nat} {s : Sh} (h : SfAt w L g b r N s) (T : TurnS w w' m m none) (mg : m ≠ g) (mb : m ≠ b) (mr : r ≠ some m) : SfAt w' L g b r N s := by
  have hrow := h.row
  have hlt := h.lt
  obtain ⟨⟨A, c, B, h1, e1⟩, h2, h3, h4, h5, h6, h7⟩ := h
  have hg : w.grownBy w' (some m) := ⟨T.os, T.tape, T.output, T.size, fun k hk hne => T.block k hk (fun e => hne (congrArg some e)) (fun e => hne (congrArg some e)) (by simp)⟩
  refine ⟨⟨A, c, B.kept hg (fun e => mg (by simpa using e)), row_blockS h1 (fun k hk => ?_), e1⟩, h2.kept hg (fun e => mb (by simpa using e.symm)), h3, h4, h5, h6, h7⟩
  rw [← e1] at hk
  exact hg.block k (hrow k hk).2 (fun e => mr (by rw [hk]; exact e))
/-- Both, side by side. -/
structure BothS (w : World) (L g b : Nat) (r : Option Nat) (N : Nat) (m : Nat) (q p : Option Nat) (s : Sh) : Prop where
  sf : SfAt w L g b r N s
  rs : RsAt w m q p s
  Lm : L ≤ m
  mg : m ≠ g
  mb : m ≠ b
  mr : r ≠ some m
  qg : q ≠ some g
  qb : q ≠ some b
  qr : ∀ k, r = some k → q ≠ some k
  pg : p ≠ some g
  pb : p ≠ some b
  pr : ∀ k, r = some k → p ≠ some k
  ql : ∀ k, q = some k → k < w.heap.size
  pl : ∀ k, p = some k → k < w.heap.size
section
variable {w w1 w2 : World} {L g b N N' m : Nat} {r r1 q p q' p' : Option Nat} {s s' : Sh}
theorem BothS.later (h : BothS w L g b r N m q p s) (hb : Below w.heap.size w w1) : BothS w1 L g b r N m q p s :=
  { h with sf := h.sf.later hb, rs := h.rs.later hb, ql := fun k hk => Nat.lt_of_lt_of_le (h.ql k hk) hb.size, pl := fun k hk => Nat.lt_of_lt_of_le (h.pl k hk) hb.size }
theorem BothS.step (h : BothS w L g b r N m q p s) (hd : SfAt w1 L g b r1 N' s') (T : TurnS w w1 g b r) (R : RowS w r r1) (hr : RsAt w2 m q' p' s') (T2 : TurnS w1 w2 m m none) (Rq : RowS w1 q q') (Rp : RowS w1 p p')
    (ql' : ∀ k, q' = some k → k < w2.heap.size) (pl' : ∀ k, p' = some k → k < w2.heap.size) : BothS w2 L g b r1 N' m q' p' s' := by
  have hm := h.rs.lt
  have hg := h.sf.lt
  have hz := T.size
  have hr1 := hd.row
  have mr1 : r1 ≠ some m := fun e => by
    rcases R m e with h1 | h1
    · exact h.mr h1
    · omega
  have side : ∀ (x x' : Option Nat) (c : Nat), x ≠ some c → c < w.heap.size → RowS w1 x x' → x' ≠ some c := fun x x' c h1 h2 h3 e => by
    rcases h3 c e with h4 | h4
    · exact h1 h4
    · omega
  have rowed : ∀ (x x' : Option Nat), (∀ k, x = some k → k < w.heap.size) → (∀ k, r = some k → x ≠ some k) → RowS w1 x x' → ∀ k, r1 = some k → x' ≠ some k := fun x x' h1 h2 h3 k hk e => by
    have k1 := (hr1 k hk).2
    rcases h3 k e with h4 | h4
    · rcases R k hk with h5 | h5
      · exact h2 k h5 h4
      · have := h1 k h4
        omega
    · omega
  exact ⟨hd.turn T2 h.mg h.mb mr1, hr, h.Lm, h.mg, h.mb, mr1, side q q' g h.qg hg.1 Rq, side q q' b h.qb hg.2 Rq, rowed q q' h.ql h.qr Rq, side p p' g h.pg hg.1 Rp, side p p' b h.pb hg.2 Rp, rowed p p' h.pl h.pr Rp, ql', pl'⟩
theorem BothS.below (h : BothS w L g b r N m q p s) (T : TurnS w w1 g b r) (T2 : TurnS w1 w2 m m none) (hL : L ≤ w.heap.size) : Below L w w2 :=
  (T.below h.sf.Lg h.sf.Lb (fun k hk => (h.sf.row k hk).1) hL).trans (T2.below h.Lm h.Lm (fun k hk => by cases hk) (Nat.le_trans hL T.size))
end
end Go.Proofs.Ytgkpbkedaddekaa

/- Shelves: whether there is one; the next number. -/
namespace Go.Proofs.Ytgkpbkedaddekaa
set_option linter.unusedVariables false
set_option linter.unusedSimpArgs false
open Go Go.RowKit BitM

theorem row_capS {w : World} {base : Nat} {e : TypeId} {size n c : Nat} {A : Option Addr} {xs : List Value} (h : w.ownsRow base e size (.slice A n c) n xs) : n ≤ c ∧ c ≤ maxLen := by
  rcases h.2 with ⟨e, h0⟩ | ⟨g, cap, cur, e, hx⟩
  · cases e; exact ⟨by omega, by simp [maxLen]⟩
  · cases e; exact ⟨hx.2.2.1, hx.2.2.2.1⟩
theorem SfAt.cells {w : World} {L g b N : Nat} {r : Option Nat} {s : Sh} (h : SfAt w L g b r N s) : ∃ A c, w.cell? ⟨g, 0, none⟩ = some (.int .i64 s.nx) ∧ w.cell? ⟨g, 1, none⟩ = some (.map (some b)) ∧ w.cell? ⟨g, 2, none⟩ = some (.slice A s.dd.length c) ∧
    Blk w g [.int .i64 s.nx, .map (some b), .slice A s.dd.length c] ∧ w.ownsRow L 68 3 (.slice A s.dd.length c) s.dd.length (rws ddc s.dd) ∧ r = (Value.slice A s.dd.length c).ownBlock ∧ SeesR ddc w A s.dd.length c s.dd := by
  obtain ⟨A, c, B, hr, e⟩ := h.at_
  exact ⟨A, c, B.cell (j := 0) rfl, B.cell (j := 1) rfl, B.cell (j := 2) rfl, B, hr, e, SeesR.of_row hr rfl (row_capS hr)⟩
theorem map_not_nil (b : Nat) (w : World) : (Go.binOp .eql 61 (.map (some b)) (.map none)).run Try.prog w = .ok (.bool false) w := by kernel_rfl
set_option maxRecDepth 100000 in
set_option maxHeartbeats 3200000 in
theorem none_any (L g b : Nat) (r : Option Nat) (N : Nat) (s : Sh) (w : World) (h : SfAt w L g b r N s) : Calls Try.prog 29 #[.pointer (some ⟨g, 0, none⟩)] w fun e w' => e = .returned (.bool false) ∧ w = w' := by
  obtain ⟨A, c, c0, c1, c2, _⟩ := h.cells
  have hq := map_not_nil b w
  clear h
  go_enter Try.func29, Try.ntmps29
  go_wp2_with fail
  go_ret
  exact ⟨rfl, rfl⟩
set_option maxRecDepth 100000 in
set_option maxHeartbeats 3200000 in
theorem next_any (L g b : Nat) (r : Option Nat) (N : Nat) (s : Sh) (w : World) (h : SfAt w L g b r N s) : Calls Try.prog 16 #[.pointer (some ⟨g, 0, none⟩)] w fun e w' => e = .returned (.int .i64 s.nx) ∧ w = w' := by
  obtain ⟨A, c, c0, c1, c2, _⟩ := h.cells
  have HNO := Lib.hid (none_any L g b r N s w h)
  clear h
  go_enter Try.func16, Try.ntmps16
  go_wp2_with fail
  refine HNO.out.mono ?_
  rintro e w1 ⟨rfl, rfl⟩
  go_wp2_with fail
  go_ret
  exact ⟨rfl, rfl⟩
end Go.Proofs.Ytgkpbkedaddekaa

/- The item of a turn. -/
namespace Go.Proofs.Ytgkpbkedaddekaa
set_option linter.unusedVariables false
set_option linter.unusedSimpArgs false
open Go Go.RowKit BitM

end Go.Proofs.Ytgkpbkedaddekaa

/- Cards that turns fit: mathematics. -/
namespace Go.Proofs.Ytgkpbkedaddekaa
set_option linter.unusedVariables false
set_option linter.unusedSimpArgs false
open Go Go.RowKit

end Go.Proofs.Ytgkpbkedaddekaa

/- What the laws of turns ask: mathematics. -/
namespace Go.Proofs.Ytgkpbkedaddekaa
set_option linter.unusedVariables false
set_option linter.unusedSimpArgs false
open Go Go.RowKit

end Go.Proofs.Ytgkpbkedaddekaa

/- May a turn be: the document. -/
namespace Go.Proofs.Ytgkpbkedaddekaa
set_option linter.unusedVariables false
set_option linter.unusedSimpArgs false
open Go Go.RowKit BitM

theorem eq_ccl (c d : Cd) (hc : okCd c) (hd : okCd d) (w : World) : (Op.equalIn 10000 44 (.agg (ccl c).toArray) (.agg (ccl d).toArray)).run Try.prog w = .ok (decide (c = d)) w := by
  obtain ⟨a1, a2, a3, a4⟩ := c
  obtain ⟨b1, b2, b3, b4⟩ := d
  have := eq_card 9996 a1 a2 a3 b1 b2 b3 a4 b4 hc hd w
  rw [show decide ((a1, a2, a3, a4) = (b1, b2, b3, b4)) = decide (a1 = b1 ∧ a2 = b2 ∧ a3 = b3 ∧ a4 = b4) from by simp only [Prod.mk.injEq]]
  exact this
end Go.Proofs.Ytgkpbkedaddekaa

/- The turn of a card: the document's Of, of one that is not shown. -/
namespace Go.Proofs.Ytgkpbkedaddekaa
set_option linter.unusedVariables false
set_option linter.unusedSimpArgs false
open Go Go.RowKit BitM

end Go.Proofs.Ytgkpbkedaddekaa

/- The turn of a card: the document's Of, of one that is shown. -/
namespace Go.Proofs.Ytgkpbkedaddekaa
set_option linter.unusedVariables false
set_option linter.unusedSimpArgs false
open Go Go.RowKit BitM

end Go.Proofs.Ytgkpbkedaddekaa

/- The turn of a card: the document's Of. -/
namespace Go.Proofs.Ytgkpbkedaddekaa
set_option linter.unusedVariables false
set_option linter.unusedSimpArgs false
open Go Go.RowKit BitM

end Go.Proofs.Ytgkpbkedaddekaa

/- May a number be: the program. -/
namespace Go.Proofs.Ytgkpbkedaddekaa
set_option linter.unusedVariables false
set_option linter.unusedSimpArgs false
open Go Go.RowKit BitM

end Go.Proofs.Ytgkpbkedaddekaa

/- May a turn be: the program. -/
namespace Go.Proofs.Ytgkpbkedaddekaa
set_option linter.unusedVariables false
set_option linter.unusedSimpArgs false
open Go Go.RowKit BitM

end Go.Proofs.Ytgkpbkedaddekaa

/- Cuts of rows of structs, s[:m] and s[k:], for regions that draw their order. -/
namespace Go.Proofs.Ytgkpbkedaddekaa
set_option linter.unusedVariables false
set_option linter.unusedSimpArgs false
open Go Go.RowKit

end Go.Proofs.Ytgkpbkedaddekaa

/- Turns by the document: is a card's turn the first one; an item at its place. -/
namespace Go.Proofs.Ytgkpbkedaddekaa
set_option linter.unusedVariables false
set_option linter.unusedSimpArgs false
open Go Go.RowKit BitM

def iOf : Value → Int | .int _ q => q | _ => 0
end Go.Proofs.Ytgkpbkedaddekaa

/- Shelves: what is sought among the dead. -/
namespace Go.Proofs.Ytgkpbkedaddekaa
set_option linter.unusedVariables false
set_option linter.unusedSimpArgs false
open Go Go.RowKit BitM

theorem dead_cells {w : World} {A : Option Addr} {n c : Nat} {l : List Dd} (h : SeesR ddc w A n c l) (hl : 0 < l.length) :
    ∃ b o, A = some ⟨b, o, none⟩ ∧ b < w.heap.size ∧ ∀ W, Below w.heap.size w W → ∀ k (hk : k < l.length), W.cell? ⟨b, o + k * 3, none⟩ = some (.int .i64 l[k].id) ∧ W.cell? ⟨b, o + k * 3 + 1, none⟩ = some (.int .i64 l[k].vr) ∧ W.cell? ⟨b, o + k * 3 + 2, none⟩ = some (.int .i64 l[k].sq) ∧ W.rangeAt b (o + k * 3) (ddc l[k]) := by
  obtain ⟨b, o, e, hb, hr⟩ := h.gets (ddc_lens l) (by omega) hl
  refine ⟨b, o, e, hb, fun W hW k hk => ?_⟩
  have r := hr W hW k hk
  exact ⟨r 0 _ rfl, r 1 _ rfl, r 2 _ rfl, r⟩
/-- The place of the first of a kind; -1: there is none. -/
def fidx (q : Dd → Bool) (l : List Dd) : Int := if l.any q = true then ((l.findIdx q : Nat) : Int) else -1
theorem fidx_at {q : Dd → Bool} {l : List Dd} {k : Nat} (hk : k < l.length) (h0 : ∀ j (hj : j < k) (hj2 : j < l.length), q l[j] = false) (h : q l[k] = true) : fidx q l = (k : Int) := by
  have e : l.findIdx q = k := (List.findIdx_eq hk).2 ⟨h, fun j hj => by rw [h0 j hj (by omega)]⟩
  unfold fidx
  rw [if_pos (List.any_eq_true.2 ⟨_, List.getElem_mem hk, h⟩), e]
theorem fidx_no {q : Dd → Bool} {l : List Dd} (h0 : ∀ j (hj2 : j < l.length), q l[j] = false) : fidx q l = -1 := by
  unfold fidx
  rw [if_neg]
  rw [List.any_eq_true]
  rintro ⟨x, hx, hq⟩
  obtain ⟨j, hj, rfl⟩ := List.getElem_of_mem hx
  rw [h0 j hj] at hq
  cases hq
theorem fidx_ge (q : Dd → Bool) (l : List Dd) : decide (0 ≤ fidx q l) = l.any q := by
  unfold fidx
  cases l.any q with
  | true => exact decide_eq_true (by rw [if_pos rfl]; omega)
  | false => exact decide_eq_false (by rw [if_neg (by simp)]; omega)
set_option maxRecDepth 100000 in
set_option maxHeartbeats 3200000 in
theorem isid_any (d : Dd) (B : Nat) (x : Int) (w : World) (hB : w.cell? ⟨B, 0, none⟩ = some (.int .i64 x)) (hlt : B < w.heap.size) : Calls Try.prog 56 #[.agg #[.int .i64 d.id, .int .i64 d.vr, .int .i64 d.sq], .pointer (some ⟨B, 0, none⟩)] w fun e w' => e = .returned (.bool (decide (d.id = x))) ∧ Below w.heap.size w w' := by
  have hb := (Below.refl w.heap.size w).alloc (Nat.le_refl _) (.cells #[.int .i64 d.id, .int .i64 d.vr, .int .i64 d.sq] 68)
  have HB := Lib.hid hb
  have hc : (w.alloc (.cells #[.int .i64 d.id, .int .i64 d.vr, .int .i64 d.sq] 68)).cell? ⟨B, 0, none⟩ = some (.int .i64 x) := hb.cell (p := ⟨B, 0, none⟩) hlt ▸ hB
  clear hb hB hlt
  go_enter Try.func56, Try.ntmps56
  go_wp2_with fail
  go_ret
  exact ⟨by simp <;> (rw [Bool.eq_iff_iff]; simp), HB.out⟩
set_option maxRecDepth 100000 in
set_option maxHeartbeats 3200000 in
theorem islo_any (d : Dd) (B : Nat) (x : Int) (w : World) (hB : w.cell? ⟨B, 0, none⟩ = some (.int .i64 x)) (hlt : B < w.heap.size) : Calls Try.prog 31 #[.agg #[.int .i64 d.id, .int .i64 d.vr, .int .i64 d.sq], .pointer (some ⟨B, 0, none⟩)] w fun e w' => e = .returned (.bool (decide (d.sq ≤ x))) ∧ Below w.heap.size w w' := by
  have hb := (Below.refl w.heap.size w).alloc (Nat.le_refl _) (.cells #[.int .i64 d.id, .int .i64 d.vr, .int .i64 d.sq] 68)
  have HB := Lib.hid hb
  have hc : (w.alloc (.cells #[.int .i64 d.id, .int .i64 d.vr, .int .i64 d.sq] 68)).cell? ⟨B, 0, none⟩ = some (.int .i64 x) := hb.cell (p := ⟨B, 0, none⟩) hlt ▸ hB
  clear hb hB hlt
  go_enter Try.func31, Try.ntmps31
  go_wp2_with fail
  go_ret
  exact ⟨by simp <;> (rw [Bool.eq_iff_iff]; simp), HB.out⟩
set_option maxRecDepth 100000 in
set_option maxHeartbeats 3200000 in
theorem xid_any (A : Option Addr) (n c : Nat) (l : List Dd) (B : Nat) (x : Int) (w : World) (h : SeesR ddc w A n c l) (hB : w.cell? ⟨B, 0, none⟩ = some (.int .i64 x)) (hlt : B < w.heap.size) (hz : n ≤ 65536) :
    Calls Try.prog 49 #[.slice A n c, .func (.func 56) #[] #[.pointer (some ⟨B, 0, none⟩)]] w fun e w' => e = .returned (.int .i64 (fidx (fun d => decide (d.id = x)) l)) ∧ Below w.heap.size w w' := by
  have hu := Try.underlying68
  have HN := Lib.hid h.len
  have HCE : Hid (∀ k (hk : k < l.length), ∃ b o, A = some ⟨b, o, none⟩ ∧ ∀ W, Below w.heap.size w W → W.rangeAt b (o + k * 3) (ddc l[k])) := Lib.hid (fun k hk => by
    obtain ⟨b, o, e, _, hc⟩ := dead_cells h (by omega)
    exact ⟨b, o, e, fun W hW => (hc W hW k hk).2.2.2⟩)
  obtain ⟨q, hq⟩ : ∃ q : Dd → Bool, q = (fun d => decide (d.id = x)) := ⟨_, rfl⟩
  rw [← hq]
  have FV : Hid (∀ d : Dd, q d = decide (d.id = x)) := Lib.hid (fun d => by rw [hq])
  have HIS := Lib.hid (fun k (hk : k < l.length) W (hW : Below w.heap.size w W) => isid_any l[k] B x W (hW.cell (p := ⟨B, 0, none⟩) hlt ▸ hB) (Nat.lt_of_lt_of_le hlt hW.size))
  have HAT := Lib.hid (fun k (hk : k < l.length) => fidx_at (q := q) (l := l) hk)
  have HNO := Lib.hid (fidx_no (q := q) (l := l))
  have HB0 := Lib.hid (Below.refl w.heap.size w)
  clear h hB hlt hq
  go_enter Try.func49, Try.ntmps49
  go_wp2_with fail
  go_loopw [8] (fun i wr => ∃ k : Nat, k ≤ n ∧ i = .int .i64 (k : Int) ∧ Hid (∀ j (hj : j < k) (hj2 : j < l.length), q l[j] = false) ∧ Hid (Below w.heap.size w wr)) (fun i _ => n - (iOf i).toNat)
  case atStart => exact ⟨0, by omega, rfl, Lib.hid (fun j hj => by omega), HB0⟩
  case round =>
    clear HB0
    obtain ⟨k, hk, rfl, HF, HB⟩ := hrel
    by_cases hlt : k < n
    · have d0 : decide ((k : Int) < (n : Int)) = true := decide_eq_true (by omega)
      have hkl : k < l.length := by rw [HN.out]; exact hlt
      obtain ⟨b, o, rfl, hcc⟩ := HCE.out k hkl
      have hrg := hcc wr HB.out
      have HI := Lib.hid (HIS.out k hkl wr HB.out)
      rw [← FV.out l[k]] at HI
      have HK := Lib.hid (HAT.out k hkl HF.out)
      have HNX : Hid (q l[k] = false → ∀ j (hj : j < k + 1) (hj2 : j < l.length), q l[j] = false) := Lib.hid (fun e j hj hj2 => by
        by_cases e2 : j = k
        · subst e2; exact e
        · exact HF.out j (by omega) hj2)
      have hrg2 : wr.rangeAt b (o + k * 3) [.int .i64 l[k].id, .int .i64 l[k].vr, .int .i64 l[k].sq] := hrg
      generalize q l[k] = ql at HI HK HNX
      generalize l[k].id = y0 at HI hrg2
      generalize l[k].vr = y1 at HI hrg2
      generalize l[k].sq = y2 at HI hrg2
      clear hcc hrg HCE HIS HAT HNO FV HF
      go_wp2_with (first
        | (refine wpList_load_mid rfl 68 (.tmp 14) rfl b (o + k * 3) rfl [.int .i64 y0, .int .i64 y1, .int .i64 y2] _ hrg2 hu rfl (by kernel_rfl) ?_
           simp only [Act.put, List.setIfInBounds_toArray, List.set_cons_zero, List.set_cons_succ])
        | fail)
      refine HI.out.mono ?_
      rintro e w1 ⟨rfl, hb1⟩
      have HB1 := Lib.hid (HB.out.trans (hb1.mono HB.out.size))
      clear hb1 HI hrg2 HB
      cases ql with
      | true =>
        have HR := Lib.hid (HK.out (by trivial))
        clear HK HNX
        go_wp2_with fail
        go_ret
        exact ⟨by rw [HR.out]; rfl, HB1.out⟩
      | false =>
        have HG := Lib.hid (HNX.out (by trivial))
        clear HK HNX
        go_wp2_with fail
        go_roundw
        case rel => exact ⟨k + 1, by omega, by go_num, HG, HB1⟩
        case measure => simp [iOf]; omega
    · obtain rfl : k = n := by omega
      have HR := Lib.hid (HNO.out (fun j hj2 => HF.out j (by rw [← HN.out]; exact hj2) hj2))
      clear HCE HIS HAT HNO FV HF
      go_wp2_with fail
      go_ret
      exact ⟨by rw [HR.out]; rfl, HB.out⟩
set_option maxRecDepth 100000 in
set_option maxHeartbeats 3200000 in
theorem xlo_any (A : Option Addr) (n c : Nat) (l : List Dd) (B : Nat) (x : Int) (w : World) (h : SeesR ddc w A n c l) (hB : w.cell? ⟨B, 0, none⟩ = some (.int .i64 x)) (hlt : B < w.heap.size) (hz : n ≤ 65536) :
    Calls Try.prog 49 #[.slice A n c, .func (.func 31) #[] #[.pointer (some ⟨B, 0, none⟩)]] w fun e w' => e = .returned (.int .i64 (fidx (fun d => decide (d.sq ≤ x)) l)) ∧ Below w.heap.size w w' := by
  have hu := Try.underlying68
  have HN := Lib.hid h.len
  have HCE : Hid (∀ k (hk : k < l.length), ∃ b o, A = some ⟨b, o, none⟩ ∧ ∀ W, Below w.heap.size w W → W.rangeAt b (o + k * 3) (ddc l[k])) := Lib.hid (fun k hk => by
    obtain ⟨b, o, e, _, hc⟩ := dead_cells h (by omega)
    exact ⟨b, o, e, fun W hW => (hc W hW k hk).2.2.2⟩)
  obtain ⟨q, hq⟩ : ∃ q : Dd → Bool, q = (fun d => decide (d.sq ≤ x)) := ⟨_, rfl⟩
  rw [← hq]
  have FV : Hid (∀ d : Dd, q d = decide (d.sq ≤ x)) := Lib.hid (fun d => by rw [hq])
  have HIS := Lib.hid (fun k (hk : k < l.length) W (hW : Below w.heap.size w W) => islo_any l[k] B x W (hW.cell (p := ⟨B, 0, none⟩) hlt ▸ hB) (Nat.lt_of_lt_of_le hlt hW.size))
  have HAT := Lib.hid (fun k (hk : k < l.length) => fidx_at (q := q) (l := l) hk)
  have HNO := Lib.hid (fidx_no (q := q) (l := l))
  have HB0 := Lib.hid (Below.refl w.heap.size w)
  clear h hB hlt hq
  go_enter Try.func49, Try.ntmps49
  go_wp2_with fail
  go_loopw [8] (fun i wr => ∃ k : Nat, k ≤ n ∧ i = .int .i64 (k : Int) ∧ Hid (∀ j (hj : j < k) (hj2 : j < l.length), q l[j] = false) ∧ Hid (Below w.heap.size w wr)) (fun i _ => n - (iOf i).toNat)
  case atStart => exact ⟨0, by omega, rfl, Lib.hid (fun j hj => by omega), HB0⟩
  case round =>
    clear HB0
    obtain ⟨k, hk, rfl, HF, HB⟩ := hrel
    by_cases hlt : k < n
    · have d0 : decide ((k : Int) < (n : Int)) = true := decide_eq_true (by omega)
      have hkl : k < l.length := by rw [HN.out]; exact hlt
      obtain ⟨b, o, rfl, hcc⟩ := HCE.out k hkl
      have hrg := hcc wr HB.out
      have HI := Lib.hid (HIS.out k hkl wr HB.out)
      rw [← FV.out l[k]] at HI
      have HK := Lib.hid (HAT.out k hkl HF.out)
      have HNX : Hid (q l[k] = false → ∀ j (hj : j < k + 1) (hj2 : j < l.length), q l[j] = false) := Lib.hid (fun e j hj hj2 => by
        by_cases e2 : j = k
        · subst e2; exact e
        · exact HF.out j (by omega) hj2)
      have hrg2 : wr.rangeAt b (o + k * 3) [.int .i64 l[k].id, .int .i64 l[k].vr, .int .i64 l[k].sq] := hrg
      generalize q l[k] = ql at HI HK HNX
      generalize l[k].id = y0 at HI hrg2
      generalize l[k].vr = y1 at HI hrg2
      generalize l[k].sq = y2 at HI hrg2
      clear hcc hrg HCE HIS HAT HNO FV HF
      go_wp2_with (first
        | (refine wpList_load_mid rfl 68 (.tmp 14) rfl b (o + k * 3) rfl [.int .i64 y0, .int .i64 y1, .int .i64 y2] _ hrg2 hu rfl (by kernel_rfl) ?_
           simp only [Act.put, List.setIfInBounds_toArray, List.set_cons_zero, List.set_cons_succ])
        | fail)
      refine HI.out.mono ?_
      rintro e w1 ⟨rfl, hb1⟩
      have HB1 := Lib.hid (HB.out.trans (hb1.mono HB.out.size))
      clear hb1 HI hrg2 HB
      cases ql with
      | true =>
        have HR := Lib.hid (HK.out (by trivial))
        clear HK HNX
        go_wp2_with fail
        go_ret
        exact ⟨by rw [HR.out]; rfl, HB1.out⟩
      | false =>
        have HG := Lib.hid (HNX.out (by trivial))
        clear HK HNX
        go_wp2_with fail
        go_roundw
        case rel => exact ⟨k + 1, by omega, by go_num, HG, HB1⟩
        case measure => simp [iOf]; omega
    · obtain rfl : k = n := by omega
      have HR := Lib.hid (HNO.out (fun j hj2 => HF.out j (by rw [← HN.out]; exact hj2) hj2))
      clear HCE HIS HAT HNO FV HF
      go_wp2_with fail
      go_ret
      exact ⟨by rw [HR.out]; rfl, HB.out⟩
set_option maxRecDepth 100000 in
set_option maxHeartbeats 3200000 in
theorem has_dead (A : Option Addr) (n c : Nat) (l : List Dd) (B : Nat) (x : Int) (w : World) (h : SeesR ddc w A n c l) (hB : w.cell? ⟨B, 0, none⟩ = some (.int .i64 x)) (hlt : B < w.heap.size) (hz : n ≤ 65536) :
    Calls Try.prog 55 #[.slice A n c, .func (.func 56) #[] #[.pointer (some ⟨B, 0, none⟩)]] w fun e w' => e = .returned (.bool (l.any (fun d => decide (d.id = x)))) ∧ Below w.heap.size w w' := by
  have HX := Lib.hid (xid_any A n c l B x w h hB hlt hz)
  have HG := Lib.hid (fidx_ge (fun d => decide (d.id = x)) l)
  generalize fidx (fun d => decide (d.id = x)) l = f at HX HG
  generalize l.any (fun d => decide (d.id = x)) = q at HG ⊢
  have hg := HG.out
  clear h hB hlt HG
  go_enter Try.func55, Try.ntmps55
  go_wp2_with fail
  refine HX.out.mono ?_
  rintro e w1 ⟨rfl, hb1⟩
  have HB1 := Lib.hid hb1
  clear hb1 HX
  go_wp2_with fail
  go_ret
  exact ⟨by rw [← hg]; rfl, HB1.out⟩
set_option maxRecDepth 100000 in
set_option maxHeartbeats 3200000 in
theorem known_any (L g b : Nat) (r : Option Nat) (N : Nat) (s : Sh) (w : World) (h : SfAt w L g b r N s) (x : Int) (hz : s.dd.length ≤ 65536) : Calls Try.prog 35 #[.pointer (some ⟨g, 0, none⟩), .int .i64 x] w fun e w' => e = .returned (.bool (sknown s x)) ∧ Below w.heap.size w w' := by
  have hb := (Below.refl w.heap.size w).alloc (Nat.le_refl _) (.cells #[.int .i64 x] 3)
  obtain ⟨A, c, c0, c1, c2, _, _, _, hs⟩ := (h.later hb).cells
  have HC := Lib.hid (has_dead A s.dd.length c s.dd w.heap.size x _ hs (Blk.new w [.int .i64 x] 3 |>.cell (j := 0) rfl) (by simp) hz)
  have HB := Lib.hid hb
  have HE : Hid (s.dd.any (fun d => decide (d.id = x)) = sknown s x) := Lib.hid rfl
  rw [HE.out] at HC
  generalize s.dd.length = n at *
  clear h hb hs
  go_enter Try.func35, Try.ntmps35
  go_wp2_with fail
  refine HC.out.mono ?_
  rintro e w1 ⟨rfl, hb1⟩
  have HB1 := Lib.hid (HB.out.trans (hb1.mono HB.out.size))
  clear hb1 HC
  go_wp2_with fail
  go_ret
  exact ⟨rfl, HB1.out⟩
set_option maxRecDepth 100000 in
set_option maxHeartbeats 3200000 in
theorem after_any (L g b : Nat) (r : Option Nat) (N : Nat) (s : Sh) (w : World) (h : SfAt w L g b r N s) (x : Int) (hz : s.dd.length ≤ 65536) : Calls Try.prog 36 #[.pointer (some ⟨g, 0, none⟩), .int .i64 x] w fun e w' => e = .returned (.bool (safter s x)) ∧ w = w' := by
  obtain ⟨A, c, c0, c1, c2, _, _, _, hs⟩ := h.cells
  have HR : Hid (safter s x = (decide (0 ≤ x ∧ x ≤ 1099511627776) && (match s.dd.getLast? with | some d => decide (d.sq ≤ x) | none => true))) := Lib.hid rfl
  by_cases h0 : s.dd.length = 0
  · have e0 : s.dd = [] := List.length_eq_zero_iff.1 h0
    have HR2 : Hid (safter s x = decide (0 ≤ x ∧ x ≤ 1099511627776)) := Lib.hid (by rw [HR.out, e0]; simp)
    rw [h0] at c2
    clear h hs h0 e0 HR
    generalize safter s x = R at HR2 ⊢
    by_cases hx0 : 0 ≤ x
    · have f0 : decide (0 ≤ x) = true := decide_eq_true hx0
      by_cases hx1 : x ≤ 1099511627776
      · have f1 : decide (x ≤ 1099511627776) = true := decide_eq_true hx1
        have HR3 : Hid (R = true) := Lib.hid (by rw [HR2.out]; exact decide_eq_true ⟨hx0, hx1⟩)
        clear hx0 hx1 HR2
        go_enter Try.func36, Try.ntmps36
        go_wp2_with fail
        go_ret
        exact ⟨by rw [HR3.out]; rfl, rfl⟩
      · have f1 : decide (x ≤ 1099511627776) = false := decide_eq_false hx1
        have HR3 : Hid (R = false) := Lib.hid (by rw [HR2.out]; exact decide_eq_false (fun e => hx1 e.2))
        clear hx0 hx1 HR2
        go_enter Try.func36, Try.ntmps36
        go_wp2_with fail
        go_ret
        exact ⟨by rw [HR3.out]; rfl, rfl⟩
    · have f0 : decide (0 ≤ x) = false := decide_eq_false hx0
      have HR3 : Hid (R = false) := Lib.hid (by rw [HR2.out]; exact decide_eq_false (fun e => hx0 e.1))
      clear hx0 HR2
      go_enter Try.func36, Try.ntmps36
      go_wp2_with fail
      go_ret
      exact ⟨by rw [HR3.out]; rfl, rfl⟩
  · obtain ⟨m, hm⟩ : ∃ m, s.dd.length = m + 1 := ⟨s.dd.length - 1, by omega⟩
    have hml : m < s.dd.length := by omega
    obtain ⟨bb, o, rfl, _, hc⟩ := dead_cells hs (by omega)
    have cq := (hc w (Below.refl _ _) m hml).2.2.1
    have HR2 : Hid (safter s x = (decide (0 ≤ x ∧ x ≤ 1099511627776) && decide ((s.dd[m]).sq ≤ x))) := Lib.hid (by
      rw [HR.out, List.getLast?_eq_getElem?, hm, Nat.add_sub_cancel, List.getElem?_eq_getElem hml])
    have hmz : m ≤ 65536 := by omega
    rw [hm] at c2
    generalize (s.dd[m]).sq = y at cq HR2
    clear h hs h0 hc HR hz hm hml
    generalize safter s x = R at HR2 ⊢
    have d0 : decide ((0 : Int) < (m : Int) + 1) = true := decide_eq_true (by omega)
    have d0' : decide (0 < m + 1) = true := decide_eq_true (by omega)
    by_cases hy : x < y
    · have d1 : decide (x < y) = true := decide_eq_true hy
      have HR3 : Hid (R = false) := Lib.hid (by rw [HR2.out, decide_eq_false (show ¬ y ≤ x by omega), Bool.and_false])
      clear hy HR2
      go_enter Try.func36, Try.ntmps36
      go_wp2_with fail
      go_ret
      exact ⟨by rw [HR3.out]; rfl, rfl⟩
    · have d1 : decide (x < y) = false := decide_eq_false hy
      replace HR2 : Hid (R = decide (0 ≤ x ∧ x ≤ 1099511627776)) := Lib.hid (by rw [HR2.out, decide_eq_true (show y ≤ x by omega), Bool.and_true])
      clear hy
      by_cases hx0 : 0 ≤ x
      · have f0 : decide (0 ≤ x) = true := decide_eq_true hx0
        by_cases hx1 : x ≤ 1099511627776
        · have f1 : decide (x ≤ 1099511627776) = true := decide_eq_true hx1
          have HR3 : Hid (R = true) := Lib.hid (by rw [HR2.out]; exact decide_eq_true ⟨hx0, hx1⟩)
          clear hx0 hx1 HR2
          go_enter Try.func36, Try.ntmps36
          go_wp2_with fail
          go_ret
          exact ⟨by rw [HR3.out]; rfl, rfl⟩
        · have f1 : decide (x ≤ 1099511627776) = false := decide_eq_false hx1
          have HR3 : Hid (R = false) := Lib.hid (by rw [HR2.out]; exact decide_eq_false (fun e => hx1 e.2))
          clear hx0 hx1 HR2
          go_enter Try.func36, Try.ntmps36
          go_wp2_with fail
          go_ret
          exact ⟨by rw [HR3.out]; rfl, rfl⟩
      · have f0 : decide (0 ≤ x) = false := decide_eq_false hx0
        have HR3 : Hid (R = false) := Lib.hid (by rw [HR2.out]; exact decide_eq_false (fun e => hx0 e.1))
        clear hx0 HR2
        go_enter Try.func36, Try.ntmps36
        go_wp2_with fail
        go_ret
        exact ⟨by rw [HR3.out]; rfl, rfl⟩
end Go.Proofs.Ytgkpbkedaddekaa

/- Shelves: slices.Delete of one of the dead of a row of the call's own. -/
namespace Go.Proofs.Ytgkpbkedaddekaa
set_option linter.unusedVariables false
set_option linter.unusedSimpArgs false
open Go Go.RowKit

theorem ddc_one (d : Dd) : ∀ v ∈ ddc d, v.oneCell' = true := by
  intro v hv
  simp [ddc] at hv
  rcases hv with rfl | rfl | rfl <;> rfl
theorem grown_drewS (w : World) (r : Option Nat) : w.grownBy w.drew r := ⟨rfl, rfl, rfl, Nat.le_refl _, fun _ _ _ => rfl⟩
def zdd : Dd := ⟨0, 0, 0⟩
theorem info_dead : ∃ i0, Try.prog.info? 68 = some i0 ∧ i0.zero = some (.agg #[.int .i64 0, .int .i64 0, .int .i64 0]) ∧ i0.size = 3 ∧ i0.bytes = 24 := by
  cases hi : Try.prog.info? 68 with
  | none => exact absurd (show (Try.prog.info? 68).isSome = true by kernel_rfl) (by rw [hi]; simp)
  | some i0 =>
    have e1 : (Try.prog.info? 68).map (·.zero) = some (some (.agg #[.int .i64 0, .int .i64 0, .int .i64 0])) := by kernel_rfl
    have e2 : (Try.prog.info? 68).map (·.size) = some 3 := by kernel_rfl
    have e3 : (Try.prog.info? 68).map (·.bytes) = some 24 := by kernel_rfl
    rw [hi] at e1 e2 e3
    exact ⟨i0, rfl, by simpa using e1, by simpa using e2, by simpa using e3⟩
theorem run_clear1z {P : Program} (w : World) (t e ty : TypeId) (z : Value) (cs : List Value) (ht : P.underlying t = some (.slice e)) (hv : ∀ w, (zeroValue e).run P w = .ok z w) (hzc : (Builtin.zeroCells z.cells 1).toList = cs) (h1 : ∀ v ∈ cs, v.oneCell' = true) (b o c : Nat)
    (hc : ∀ j, j < cs.length → (w.cell? ⟨b, o + j, none⟩).isSome = true) (hf : ∀ j, j < cs.length → w.frozen? ⟨b, o + j, none⟩ = false) :
    (Builtin.clear_ #[t] ty #[.slice (some ⟨b, o, none⟩) 1 c]).run P w = .ok (.tuple #[]) (w.setCells b o cs) := by
  have hst := run_storeCells_cells (P := P) b o cs 0 w (by simpa using hc) (by simpa using hf) h1
  simp only [Nat.add_zero] at hst
  simp [Builtin.clear_, run_underlying ht, hv, hzc, hst]
theorem wpList_clear1z {P : Program} {ops : Array Oper} {rest : List Oper} {o : Oper} {a : Act} {w : World} {Q : Exit → Act → World → Prop} (hgd : o.guard = none) (s : Operand) (t e : TypeId) (z : Value) (cs : List Value)
    (ho : o.op = .call { callee := .builtin .clear, args := #[s], argTypes := #[t] }) (ht : P.underlying t = some (.slice e)) (hv : ∀ w, (zeroValue e).run P w = .ok z w) (hzc : (Builtin.zeroCells z.cells 1).toList = cs) (h1 : ∀ v ∈ cs, v.oneCell' = true) (b k c : Nat) (hs : a.eval s = .slice (some ⟨b, k, none⟩) 1 c)
    (hc : ∀ j, j < cs.length → (w.cell? ⟨b, k + j, none⟩).isSome = true) (hf : ∀ j, j < cs.length → w.frozen? ⟨b, k + j, none⟩ = false)
    (h : wpList P ops Q rest (a.put o.dst (.tuple #[])) (w.setCells b k cs)) : wpList P ops Q (o :: rest) a w :=
  wpList_plain hgd fun _ hK => by
    have hr := run_clear1z (P := P) w t e o.type z cs ht hv hzc h1 b k c hc hf
    unfold Oper.wp
    simp [execOp, ho, resolve, invoke, builtin, hs, hr, Result.andThen]
    exact hK _ _ h
theorem zero_dd (w : World) : (zeroValue 68).run Try.prog w = .ok (.agg #[.int .i64 0, .int .i64 0, .int .i64 0]) w := Try.zeroValue68 w
/-- The cells that are moved: those behind a place. -/
def movedD (l : List Dd) (i : Nat) : List Value := rws ddc (l.drop (i + 1))
theorem movedD_len (l : List Dd) (i : Nat) : (movedD l i).length = (l.length - (i + 1)) * 3 := by
  unfold movedD; rw [rws_len _ (ddc_lens _), List.length_drop]

set_option maxRecDepth 100000 in
set_option maxHeartbeats 3200000 in
theorem del_dd (w : World) (b c n i : Nat) (l : List Dd) (cur : Array Value) (hn : l.length = n) (hi : i < n) (hcap : n ≤ c) (hcm : c ≤ maxLen) (hsz : cur.size = c * 3) (hh : w.heap[b]? = some (.cells cur 68 (0, 0))) (hcur : cur.toList.take (n * 3) = rws ddc l) (hn40 : n ≤ 65536) :
    Calls Try.prog 37 #[.slice (some ⟨b, 0, none⟩) n c, .int .i64 i, .int .i64 (i + 1)] w fun e w' => e = .returned (.slice (some ⟨b, 0, none⟩) (n - 1) c) ∧ w' = (w.drew.setCells b (i * 3) (movedD l i)).setCells b ((n - 1) * 3) (ddc zdd) := by
  obtain ⟨i0, hi0, hz0, hz1, hz2⟩ := info_dead
  have hcell : ∀ j u, (rws ddc l)[j]? = some u → w.cell? ⟨b, j, none⟩ = some u := fun j u hu => by
    rw [← hcur, List.getElem?_take] at hu
    split at hu
    · simp [World.cell?, hh]; simpa using hu
    · cases hu
  have hfr : ∀ j, w.frozen? ⟨b, j, none⟩ = false := fun j => by simp [World.frozen?, hh]
  have hthere : ∀ j, j < c * 3 → (w.cell? ⟨b, j, none⟩).isSome = true := fun j hj => by
    simp [World.cell?, hh]; omega
  obtain ⟨A, hA, hnews⟩ : ∃ A : Addr, (if c = i + 1 then some (⟨b, 0, none⟩ : Addr) else some ⟨b, (i + 1) * 3, none⟩) = some A ∧ Hid (∀ j u, (movedD l i)[j]? = some u → w.drew.cell? (A.add j) = some u) := by
    by_cases h : c = i + 1
    · refine ⟨⟨b, 0, none⟩, by simp [h], fun j u hu => ?_⟩
      have h0 : (movedD l i).length = 0 := by rw [movedD_len]; omega
      rw [List.length_eq_zero_iff.1 h0] at hu
      simp at hu
    · refine ⟨⟨b, (i + 1) * 3, none⟩, by simp [h], fun j u hu => ?_⟩
      rw [Addr.add_lit]
      refine hcell _ u ?_
      unfold movedD at hu
      rw [← hu, ← rws_drop l (i + 1) (ddc_lens l), List.getElem?_drop]
  have s1 : Hid ((movedD l i).length = (n - (i + 1)) * 3) := Lib.hid (by rw [movedD_len, hn])
  have s2 : Hid (∀ u ∈ movedD l i, u.oneCell' = true) := Lib.hid (rws_all (fun y _ => ddc_one y))
  have s3 : Hid (∀ j, j < (movedD l i).length → (w.drew.cell? ⟨b, 0 + i * 3 + j, none⟩).isSome = true ∧ w.drew.frozen? ⟨b, 0 + i * 3 + j, none⟩ = false) := Lib.hid (fun j hj => by
    rw [s1.out] at hj
    exact ⟨hthere _ (by omega), hfr _⟩)
  have s4 : Hid (∀ j, j < 3 → ((w.drew.setCells b (i * 3) (movedD l i)).cell? ⟨b, (n - 1) * 3 + j, none⟩).isSome = true) := Lib.hid (fun j hj => World.isSome_setCells b _ _ _ _ (hthere _ (by omega)))
  have s5 : Hid (∀ j, j < 3 → (w.drew.setCells b (i * 3) (movedD l i)).frozen? ⟨b, (n - 1) * 3 + j, none⟩ = false) := Lib.hid (fun j hj => by rw [World.frozen?_setCells]; exact hfr _)
  have hic : i ≤ c := by omega
  have e1 : ((i : Int) == (i : Int) + 1) = false := by rw [beq_eq_false_iff_ne]; omega
  have hp0 : (0 : Int) ≤ (i : Int) + 1 := by omega
  have hp1 : (i : Int) + 1 ≤ (n : Int) := by omega
  have hp2 : ((i : Int) + 1).toNat = i + 1 := by omega
  have hp3 : (i : Int) ≤ (n : Int) := by omega
  have hp4 : (n : Int) ≤ (c : Int) := by omega
  have hp5 : (i : Int) ≤ (i : Int) + 1 := by omega
  clear hcell hfr hthere hcur hh
  go_enter Try.func37, Try.ntmps37
  go_wp2_with fail
  go_region_law (refine step_append_room rfl (.tmp 22) (.tmp 25) 27 rfl 68 i0 3 Try.underlying27 hi0 hz1 b 0 i c (by simp [Act.eval, Act.put]) A (n - (i + 1)) (c - (i + 1)) (movedD l i) (by simp [Act.eval, Act.put]) s1.out hnews.out s2.out (by omega) s3.out ?_)
  have m1 : i + (n - (i + 1)) = n - 1 := by omega
  have HM1 := Lib.hid m1
  have m2 : n - (n - 1) = 1 := by omega
  go_wp2_with (first
    | (refine wpList_clear1z rfl (.tmp 31) 27 68 _ (ddc zdd) rfl Try.underlying27 zero_dd (by kernel_rfl) (ddc_one zdd) b ((n - 1) * 3) (c - (n - 1)) (by rfl) s4.out s5.out ?_)
    | fail)
  go_ret
  exact ⟨rfl, rfl⟩

theorem deld_grow (w : World) (base n c i : Nat) (A : Option Addr) (l : List Dd) (hn : l.length = n) (hi : i < n) (hn40 : n ≤ 65536) (hr : w.ownsRow base 68 3 (.slice A n c) n (rws ddc l)) :
    Calls Try.prog 37 #[.slice A n c, .int .i64 i, .int .i64 (i + 1)] w fun e w' => e = .returned (.slice A (n - 1) c) ∧ w'.ownsRow base 68 3 (.slice A (n - 1) c) (n - 1) (rws ddc (l.take i ++ l.drop (i + 1))) ∧ w.grownBy w' (Value.slice A n c).ownBlock := by
  obtain ⟨h1, h2 | ⟨b, cap, cur, e1, e2, e3, e4, e5, e6, e7⟩⟩ := hr
  · omega
  · cases e1
    refine (del_dd w b c n i l cur hn hi e4 e5 e6 e3 e7 hn40).mono ?_
    rintro e w' ⟨rfl, rfl⟩
    have hml := movedD_len l i
    rw [hn] at hml
    have hzl : (ddc zdd).length = 3 := rfl
    have B0 : BT w.drew b cur.toList 68 := by unfold BT; rw [Array.toArray_toList]; exact e3
    have hcl : cur.toList.length = c * 3 := by simpa using e6
    have B1 := B0.sets (movedD l i) (i * 3) (by rw [hml, hcl]; omega)
    have l1 : (cur.toList.take (i * 3) ++ movedD l i ++ cur.toList.drop (i * 3 + (movedD l i).length)).length = c * 3 := by
      simp only [List.length_append, List.length_take, List.length_drop, hml, hcl]; omega
    have B2 := B1.sets (ddc zdd) ((n - 1) * 3) (by rw [l1, hzl]; omega)
    have hfl : (rws ddc (l.take i ++ l.drop (i + 1))).length = (n - 1) * 3 := by
      rw [rws_len _ (ddc_lens _), List.length_append, List.length_take, List.length_drop, hn]; omega
    have key : cur.toList.take (i * 3) ++ movedD l i = rws ddc (l.take i ++ l.drop (i + 1)) := by
      rw [rws_append, ← rws_take l i (ddc_lens l), ← e7, List.take_take, Nat.min_eq_left (by omega)]; rfl
    rw [key] at B2 l1
    refine ⟨rfl, ⟨hfl, .inr ⟨b, c, _, rfl, e2, B2, by omega, e5, ?_, ?_⟩⟩, ?_⟩
    · simp only [List.size_toArray, List.length_append, List.length_take, List.length_drop, hzl, hcl, hml, hfl]; omega
    · simp only [List.append_assoc]
      rw [List.take_append_of_le_length (by rw [List.length_take, List.length_append, hfl]; omega), List.take_append_of_le_length (by rw [hfl]; exact Nat.le_refl _), List.take_take, Nat.min_self, List.take_of_length_le (by rw [hfl]; exact Nat.le_refl _)]
    · exact ((grown_drewS w _).trans (grown_sets _ _ _ _)).trans (grown_sets _ _ _ _)
end Go.Proofs.Ytgkpbkedaddekaa

/- Maps whose keys are ints: laws of the walk: make, put, look, delete, len; general. -/
namespace Go.Proofs.Ytgkpbkedaddekaa
set_option linter.unusedVariables false
set_option linter.unusedSimpArgs false
open Go Go.RowKit

section
variable {P : Program} {ops : Array Oper} {rest : List Oper} {o : Oper} {a : Act} {Q : Exit → Act → World → Prop} {k t e : TypeId} {w : World} {b N : Nat} {mm : IM}
theorem wpList_mkM (hg : o.guard = none) (hop : o.op = Op.makeMap t none) (hK : ∀ w', MapI P k w' w.heap.size 0 [] → Below w.heap.size w w' → wpList P ops Q rest (a.put o.dst (.map (some w.heap.size))) w') : wpList P ops Q (o :: rest) a w := by
  refine wpList_plain hg fun K' hK' => ?_
  unfold Oper.wp
  simp [execOp, hop, Instr.makeMap, Result.andThen]
  exact hK' _ _ (hK (w.alloc (.map #[] 0)) (MapI.new P k w) ((Below.refl _ _).alloc (Nat.le_refl _) _))
theorem wpList_putM (hg : o.guard = none) (m x v : Operand) (z : Int) (hop : o.op = Op.mapUpdate t m x v) (hI : MapI P k w b N mm) (hk : P.underlying k = some (.int .i64)) (ht : P.underlying t = some (.map k e)) (hn : N < maxLen) (hm : a.eval m = .map (some b)) (hx : a.eval x = .int .i64 z) (hz : (Lit.int .i64 z).wf = true)
    (val : Value) (hv : a.eval v = val) (hK : ∀ w', MapI P k w' b (N + 1) (mput mm z val) → w.grownBy w' (some b) → wpList P ops Q rest (a.put o.dst undef) w') : wpList P ops Q (o :: rest) a w := by
  refine wpList_plain hg fun K' hK' => ?_
  obtain ⟨w', hrun, r1, r2⟩ := hI.store hk ht hn hz val
  unfold Oper.wp
  simp [execOp, hop, hm, hx, hv, hrun, Result.andThen]
  exact hK' _ _ (hK w' r1 r2)
theorem exec_lookM2 (m x : Operand) (ho : o.op = .lookup t m x true) (z : Int) (hm : a.eval m = .map (some b)) (hx : a.eval x = .int .i64 z) {v : Value} (hr : (Instr.lookup t (.map (some b)) (.int .i64 z) true).run P w = .ok v w) : (execOp a.eval o).run P w = .ok (.value v) w := by
  unfold execOp
  simp only [ho, hm, hx, Sem.run_bind, hr, Result.andThen_ok, Sem.run_pure]
theorem exec_lookM1 (m x : Operand) (ho : o.op = .lookup t m x false) (z : Int) (hm : a.eval m = .map (some b)) (hx : a.eval x = .int .i64 z) {v : Value} (hr : (Instr.lookup t (.map (some b)) (.int .i64 z) false).run P w = .ok v w) : (execOp a.eval o).run P w = .ok (.value v) w := by
  unfold execOp
  simp only [ho, hm, hx, Sem.run_bind, hr, Result.andThen_ok, Sem.run_pure]
theorem wf_small {x : Int} (h : 0 ≤ x ∧ x ≤ 1099511627776) : (Lit.int .i64 x).wf = true := by
  simp only [Lit.wf, Bool.and_eq_true, decide_eq_true_eq]
  exact ⟨by show (-9223372036854775808 : Int) ≤ x; omega, by show x ≤ (9223372036854775807 : Int); omega⟩
end
end Go.Proofs.Ytgkpbkedaddekaa
