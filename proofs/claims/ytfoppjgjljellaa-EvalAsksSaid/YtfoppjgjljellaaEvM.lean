/- What filters say of cards: the mathematics. -/
import Derived.Test.YtfoppjgjljellaaPrdM
import Derived.Test.YtfoppjgjljellaaPrdG
import Derived.Test.YtfoppjgjljellaaValM
import Derived.Test.YtfoppjgjljellaaBitM
namespace Go.Proofs.Ytfoppjgjljellaa
set_option linter.unusedVariables false
open Go Go.RowKit BitM ValM

/-- What a node without parts says of a card's labels and fields, and of its groups. -/
def leafv (lab g : BitVec 32) (f : List V3) (n : Nd) : Bool :=
  if n.1 = 1 then true else if n.1 = 3 then has lab n.2.1 else if n.1 = 4 then has g n.2.1
  else if n.1 = 5 then (f.getD n.2.1.toNat zv).1 != 0 else if n.1 = 6 then decide (f.getD n.2.1.toNat zv = n.2.2)
  else if n.1 = 7 then vless (f.getD n.2.1.toNat zv) n.2.2 else if n.1 = 8 then vless n.2.2 (f.getD n.2.1.toNat zv)
  else if n.1 = 9 then vholds (f.getD n.2.1.toNat zv) n.2.2 else false
/-- What trees say, one behind the other. -/
def evs (lab g : BitVec 32) (f : List V3) : List Nd → List Bool
  | [] => []
  | x :: l =>
    if x.1 = 10 then (!(evs lab g f l).headD false) :: (evs lab g f l).drop 1
    else if x.1 = 11 then ((evs lab g f l).headD false && ((evs lab g f l).drop 1).headD false) :: (evs lab g f l).drop 2
    else if x.1 = 12 then ((evs lab g f l).headD false || ((evs lab g f l).drop 1).headD false) :: (evs lab g f l).drop 2
    else leafv lab g f x :: evs lab g f l
/-- What a filter says. -/
def ev (lab g : BitVec 32) (f : List V3) (l : List Nd) : Bool := (evs lab g f l).headD false
theorem evs_cons (lab g : BitVec 32) (f : List V3) (x : Nd) (l : List Nd) : evs lab g f (x :: l) =
    if x.1 = 10 then (!(evs lab g f l).headD false) :: (evs lab g f l).drop 1
    else if x.1 = 11 then ((evs lab g f l).headD false && ((evs lab g f l).drop 1).headD false) :: (evs lab g f l).drop 2
    else if x.1 = 12 then ((evs lab g f l).headD false || ((evs lab g f l).drop 1).headD false) :: (evs lab g f l).drop 2
    else leafv lab g f x :: evs lab g f l := rfl
theorem evs_len {lab g : BitVec 32} {f : List V3} : ∀ {l : List Nd} {k : Nat}, Wood l k → (evs lab g f l).length = k
  | [], k, h => by
    have := wood_uniq h wood_nil
    subst this
    rfl
  | x :: l, k, h => by
    obtain ⟨j, rfl, h1⟩ := wood_cons h
    have ih := evs_len (lab := lab) (g := g) (f := f) h1
    rw [evs_cons]
    by_cases h10 : x.1 = 10
    · rw [if_pos h10, List.length_cons, List.length_drop, ih, par, if_pos h10]; omega
    · rw [if_neg h10]
      by_cases h11 : x.1 = 11
      · rw [if_pos h11, List.length_cons, List.length_drop, ih, par, if_neg h10, if_pos (.inl h11)]; omega
      · rw [if_neg h11]
        by_cases h12 : x.1 = 12
        · rw [if_pos h12, List.length_cons, List.length_drop, ih, par, if_neg h10, if_pos (.inr h12)]; omega
        · rw [if_neg h12, List.length_cons, ih, par, if_neg h10, if_neg (by rintro (h | h) <;> contradiction)]
theorem headD_app {a b : List Bool} (h : 1 ≤ a.length) : (a ++ b).headD false = a.headD false := by
  cases a with
  | nil => simp at h
  | cons x a => rfl
theorem evs_app {lab g : BitVec 32} {f : List V3} : ∀ {a b : List Nd} {k : Nat}, Wood a k → evs lab g f (a ++ b) = evs lab g f a ++ evs lab g f b
  | [], b, k, h => rfl
  | x :: a, b, k, h => by
    obtain ⟨j, rfl, h1⟩ := wood_cons h
    have ih := evs_app (lab := lab) (g := g) (f := f) (b := b) h1
    have hl := evs_len (lab := lab) (g := g) (f := f) h1
    rw [List.cons_append, evs_cons, evs_cons]
    by_cases h10 : x.1 = 10
    · rw [par, if_pos h10] at hl
      rw [if_pos h10, if_pos h10, ih, headD_app (by omega), List.drop_append_of_le_length (by omega)]; rfl
    · rw [if_neg h10, if_neg h10]
      by_cases h11 : x.1 = 11
      · rw [par, if_neg h10, if_pos (.inl h11)] at hl
        rw [if_pos h11, if_pos h11, ih, headD_app (by omega), List.drop_append_of_le_length (by omega), List.drop_append_of_le_length (by omega), headD_app (by rw [List.length_drop]; omega)]; rfl
      · rw [if_neg h11, if_neg h11]
        by_cases h12 : x.1 = 12
        · rw [par, if_neg h10, if_pos (.inr h12)] at hl
          rw [if_pos h12, if_pos h12, ih, headD_app (by omega), List.drop_append_of_le_length (by omega), List.drop_append_of_le_length (by omega), headD_app (by rw [List.length_drop]; omega)]; rfl
        · rw [if_neg h12, if_neg h12, ih]; rfl
/-- One part. -/
theorem kids_one {l : List Nd} (h : Wood l 1) : kidsOf l 1 = [l] := by
  have he : endOf l 1 = some l.length := h
  rw [kids_succ l 0 l.length he, List.take_length, List.drop_length, kids_zero]
/-- Two parts. -/
theorem kids_two {l : List Nd} (h : Wood l 2) : ∃ a b, l = a ++ b ∧ Wood a 1 ∧ Wood b 1 ∧ kidsOf l 2 = [a, b] := by
  obtain ⟨m, h1, h2, h3, h4⟩ := wood_split (j := 1) (k := 1) h
  refine ⟨l.take m, l.drop m, (List.take_append_drop m l).symm, h3, h4, ?_⟩
  rw [kids_succ l 1 m h1, kids_one h4]
theorem ev_not {lab g : BitVec 32} {f : List V3} {x : Nd} {l : List Nd} (h : x.1 = 10) : ev lab g f (x :: l) = !ev lab g f l := by
  unfold ev
  rw [evs, if_pos h]
  rfl
theorem ev_and {lab g : BitVec 32} {f : List V3} {x : Nd} {a b : List Nd} (h : x.1 = 11) (ha : Wood a 1) : ev lab g f (x :: (a ++ b)) = (ev lab g f a && ev lab g f b) := by
  have hl := evs_len (lab := lab) (g := g) (f := f) ha
  unfold ev
  rw [evs, if_neg (by rw [h]; decide), if_pos h, evs_app ha, headD_app (by omega), List.drop_append_of_le_length (by omega), List.drop_of_length_le (by omega)]
  rfl
theorem ev_or {lab g : BitVec 32} {f : List V3} {x : Nd} {a b : List Nd} (h : x.1 = 12) (ha : Wood a 1) : ev lab g f (x :: (a ++ b)) = (ev lab g f a || ev lab g f b) := by
  have hl := evs_len (lab := lab) (g := g) (f := f) ha
  unfold ev
  rw [evs, if_neg (by rw [h]; decide), if_neg (by rw [h]; decide), if_pos h, evs_app ha, headD_app (by omega), List.drop_append_of_le_length (by omega), List.drop_of_length_le (by omega)]
  rfl
theorem ev_leaf {lab g : BitVec 32} {f : List V3} {x : Nd} {l : List Nd} (h0 : x.1 ≠ 10) (h1 : x.1 ≠ 11) (h2 : x.1 ≠ 12) : ev lab g f (x :: l) = leafv lab g f x := by
  unfold ev
  rw [evs, if_neg h0, if_neg h1, if_neg h2]
  rfl
end Go.Proofs.Ytfoppjgjljellaa
