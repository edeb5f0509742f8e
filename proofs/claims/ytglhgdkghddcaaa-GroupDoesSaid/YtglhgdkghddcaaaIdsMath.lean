/- Plain mathematics of lists that rise. No Go here. -/
namespace IdsM

abbrev Up (l : List Int) : Prop := l.Pairwise (· < ·)

/-- Two lists that rise and have the same numbers are one. -/
theorem up_ext : ∀ {l m : List Int}, Up l → Up m → (∀ x, x ∈ l ↔ x ∈ m) → l = m
  | [], [], _, _, _ => rfl
  | [], y :: m, _, _, h => by have := (h y).2 (by simp); simp at this
  | x :: l, [], _, _, h => by have := (h x).1 (by simp); simp at this
  | x :: l, y :: m, hl, hm, h => by
    replace hl := List.pairwise_cons.1 hl
    replace hm := List.pairwise_cons.1 hm
    have exy : x = y := by
      rcases List.mem_cons.1 ((h x).1 (by simp)) with e | e
      · exact e
      · rcases List.mem_cons.1 ((h y).2 (by simp)) with e' | e'
        · exact e'.symm
        · have h1 := hm.1 x e
          have h2 := hl.1 y e'
          omega
    subst exy
    have : l = m := up_ext hl.2 hm.2 (fun z => by
      have hz := h z
      simp only [List.mem_cons] at hz
      constructor
      · intro hm'
        rcases hz.1 (Or.inr hm') with e | e
        · subst e; have := hl.1 z hm'; omega
        · exact e
      · intro hm'
        rcases hz.2 (Or.inr hm') with e | e
        · subst e; have := hm.1 z hm'; omega
        · exact e)
    rw [this]

/-- What goes along two lists, and keeps what f says. -/
def mrg (f : Bool → Bool → Bool) : List Int → List Int → List Int
  | [], [] => []
  | x :: a, [] => (if f true false then [x] else []) ++ mrg f a []
  | [], y :: b => (if f false true then [y] else []) ++ mrg f [] b
  | x :: a, y :: b =>
    if x < y then (if f true false then [x] else []) ++ mrg f a (y :: b)
    else if y < x then (if f false true then [y] else []) ++ mrg f (x :: a) b
    else (if f true true then [x] else []) ++ mrg f a b
termination_by a b => a.length + b.length

theorem mem_opt {x z : Int} {c : Bool} : z ∈ (if c then [x] else []) ↔ c = true ∧ z = x := by
  cases c <;> simp

theorem mem_mrg (f : Bool → Bool → Bool) : ∀ (a b : List Int), Up a → Up b → ∀ z, z ∈ mrg f a b ↔ (z ∈ a ∨ z ∈ b) ∧ f (decide (z ∈ a)) (decide (z ∈ b)) = true
  | [], [], _, _, z => by simp [mrg]
  | x :: a, [], ha, hb, z => by
    replace ha := List.pairwise_cons.1 ha
    rw [mrg, List.mem_append, mem_opt, mem_mrg f a [] ha.2 hb]
    constructor
    · rintro (⟨h, rfl⟩ | ⟨h, h'⟩)
      · simpa using h
      · simp at h h'
        exact ⟨by simp [h], by simpa [h] using h'⟩
    · rintro ⟨h, h'⟩
      simp at h
      rcases h with rfl | h
      · left; simpa using h'
      · right; simp [h] at h' ⊢; exact h'
  | [], y :: b, ha, hb, z => by
    replace hb := List.pairwise_cons.1 hb
    rw [mrg, List.mem_append, mem_opt, mem_mrg f [] b ha hb.2]
    constructor
    · rintro (⟨h, rfl⟩ | ⟨h, h'⟩)
      · simpa using h
      · simp at h h'
        exact ⟨by simp [h], by simpa [h] using h'⟩
    · rintro ⟨h, h'⟩
      simp at h
      rcases h with rfl | h
      · left; simpa using h'
      · right; simp [h] at h' ⊢; exact h'
  | x :: a, y :: b, ha, hb, z => by
    have ha' := List.pairwise_cons.1 ha
    have hb' := List.pairwise_cons.1 hb
    rw [mrg]
    by_cases h1 : x < y
    · have hxb : x ∉ y :: b := by
        intro h
        rcases List.mem_cons.1 h with e | e
        · omega
        · have := hb'.1 x e; omega
      rw [if_pos h1, List.mem_append, mem_opt, mem_mrg f a (y :: b) ha'.2 hb]
      by_cases hz : z = x
      · subst hz
        have hza : z ∉ a := fun h => by have := ha'.1 z h; omega
        simp only [List.mem_cons, not_or] at hxb
        simp [hza, hxb.1, hxb.2]
      · simp [hz]
    · rw [if_neg h1]
      by_cases h2 : y < x
      · have hya : y ∉ x :: a := by
          intro h
          rcases List.mem_cons.1 h with e | e
          · omega
          · have := ha'.1 y e; omega
        rw [if_pos h2, List.mem_append, mem_opt, mem_mrg f (x :: a) b ha hb'.2]
        by_cases hz : z = y
        · subst hz
          have hzb : z ∉ b := fun h => by have := hb'.1 z h; omega
          simp only [List.mem_cons, not_or] at hya
          simp [hzb, hya.1, hya.2]
        · simp [hz]
      · have hxy : x = y := by omega
        subst hxy
        rw [if_neg h2, List.mem_append, mem_opt, mem_mrg f a b ha'.2 hb'.2]
        by_cases hz : z = x
        · subst hz
          have hza : z ∉ a := fun h => by have := ha'.1 z h; omega
          have hzb : z ∉ b := fun h => by have := hb'.1 z h; omega
          simp [hza, hzb]
        · simp [hz]
termination_by a b => a.length + b.length

theorem mrg_sub (f : Bool → Bool → Bool) (a b : List Int) (ha : Up a) (hb : Up b) : ∀ z ∈ mrg f a b, z ∈ a ∨ z ∈ b := fun z h => ((mem_mrg f a b ha hb z).1 h).1

theorem up_opt {x : Int} {c : Bool} {l : List Int} (hl : Up l) (h : ∀ z ∈ l, x < z) : Up ((if c then [x] else []) ++ l) := by
  cases c
  · simpa using hl
  · simp [List.pairwise_cons]; exact ⟨h, hl⟩

theorem up_mrg (f : Bool → Bool → Bool) : ∀ (a b : List Int), Up a → Up b → Up (mrg f a b)
  | [], [], _, _ => by simp [mrg]
  | x :: a, [], ha, hb => by
    have ha' := List.pairwise_cons.1 ha
    rw [mrg]
    refine up_opt (up_mrg f a [] ha'.2 hb) (fun z hz => ?_)
    rcases mrg_sub f a [] ha'.2 hb z hz with h | h
    · exact ha'.1 z h
    · simp at h
  | [], y :: b, ha, hb => by
    have hb' := List.pairwise_cons.1 hb
    rw [mrg]
    refine up_opt (up_mrg f [] b ha hb'.2) (fun z hz => ?_)
    rcases mrg_sub f [] b ha hb'.2 z hz with h | h
    · simp at h
    · exact hb'.1 z h
  | x :: a, y :: b, ha, hb => by
    have ha' := List.pairwise_cons.1 ha
    have hb' := List.pairwise_cons.1 hb
    rw [mrg]
    by_cases h1 : x < y
    · rw [if_pos h1]
      refine up_opt (up_mrg f a (y :: b) ha'.2 hb) (fun z hz => ?_)
      rcases mrg_sub f a (y :: b) ha'.2 hb z hz with h | h
      · exact ha'.1 z h
      · rcases List.mem_cons.1 h with e | e
        · omega
        · have := hb'.1 z e; omega
    · rw [if_neg h1]
      by_cases h2 : y < x
      · rw [if_pos h2]
        refine up_opt (up_mrg f (x :: a) b ha hb'.2) (fun z hz => ?_)
        rcases mrg_sub f (x :: a) b ha hb'.2 z hz with h | h
        · rcases List.mem_cons.1 h with e | e
          · omega
          · have := ha'.1 z e; omega
        · exact hb'.1 z h
      · have hxy : x = y := by omega
        subst hxy
        rw [if_neg h2]
        refine up_opt (up_mrg f a b ha'.2 hb'.2) (fun z hz => ?_)
        rcases mrg_sub f a b ha'.2 hb'.2 z hz with h | h
        · exact ha'.1 z h
        · exact hb'.1 z h
termination_by a b => a.length + b.length

def fBoth : Bool → Bool → Bool := fun x y => x && y
def fMinus : Bool → Bool → Bool := fun x y => x && !y
def fEither : Bool → Bool → Bool := fun _ _ => true
def both (a b : List Int) := mrg fBoth a b
def minus (a b : List Int) := mrg fMinus a b
def either (a b : List Int) := mrg fEither a b

theorem len_mrg : ∀ (a b : List Int), (mrg fEither a b).length + (mrg fBoth a b).length = a.length + b.length
  | [], [] => by simp [mrg]
  | x :: a, [] => by
    have := len_mrg a []
    rw [mrg, mrg]; simp [fEither, fBoth] at this ⊢; omega
  | [], y :: b => by
    have := len_mrg [] b
    rw [mrg, mrg]; simp [fEither, fBoth] at this ⊢; omega
  | x :: a, y :: b => by
    rw [mrg, mrg]
    by_cases h1 : x < y
    · have := len_mrg a (y :: b)
      rw [if_pos h1, if_pos h1]; simp [fEither, fBoth] at this ⊢; omega
    · by_cases h2 : y < x
      · have := len_mrg (x :: a) b
        rw [if_neg h1, if_neg h1, if_pos h2, if_pos h2]; simp [fEither, fBoth] at this ⊢; omega
      · have := len_mrg a b
        rw [if_neg h1, if_neg h1, if_neg h2, if_neg h2]; simp [fEither, fBoth] at this ⊢; omega
termination_by a b => a.length + b.length

theorem len_mrg_le (f : Bool → Bool → Bool) : ∀ (a b : List Int), (mrg f a b).length ≤ a.length + b.length
  | [], [] => by simp [mrg]
  | x :: a, [] => by
    have := len_mrg_le f a []
    rw [mrg]; cases f true false <;> simp at this ⊢ <;> omega
  | [], y :: b => by
    have := len_mrg_le f [] b
    rw [mrg]; cases f false true <;> simp at this ⊢ <;> omega
  | x :: a, y :: b => by
    rw [mrg]
    by_cases h1 : x < y
    · have := len_mrg_le f a (y :: b)
      rw [if_pos h1]; cases f true false <;> simp at this ⊢ <;> omega
    · by_cases h2 : y < x
      · have := len_mrg_le f (x :: a) b
        rw [if_neg h1, if_pos h2]; cases f false true <;> simp at this ⊢ <;> omega
      · have := len_mrg_le f a b
        rw [if_neg h1, if_neg h2]; cases f true true <;> simp at this ⊢ <;> omega
termination_by a b => a.length + b.length

/-- One round: what the heads say, what is left. -/
def head1 : List Int → List Int → Bool
  | [], _ => false
  | _ :: _, [] => true
  | x :: _, y :: _ => decide (x ≤ y)
def next (f : Bool → Bool → Bool) (a b : List Int) : List Int := if f (head1 a b) (head1 b a) then [if head1 a b then a.headD 0 else b.headD 0] else []
theorem mrg_round (f : Bool → Bool → Bool) (a b : List Int) (h : a ≠ [] ∨ b ≠ []) :
    mrg f a b = next f a b ++ mrg f (if head1 a b then a.tail else a) (if head1 b a then b.tail else b) := by
  match a, b, h with
  | [], [], h => simp at h
  | x :: a, [], _ => rw [mrg]; simp [next, head1]
  | [], y :: b, _ => rw [mrg]; simp [next, head1]
  | x :: a, y :: b, _ =>
    rw [mrg]
    by_cases h1 : x < y
    · have e1 : x ≤ y := by omega
      have e2 : ¬ y ≤ x := by omega
      rw [if_pos h1]; simp [next, head1, e1, e2]
    · by_cases h2 : y < x
      · have e1 : ¬ x ≤ y := by omega
        have e2 : y ≤ x := by omega
        rw [if_neg h1, if_pos h2]; simp [next, head1, e1, e2]
      · have e1 : x ≤ y := by omega
        have e2 : y ≤ x := by omega
        rw [if_neg h1, if_neg h2]; simp [next, head1, e1, e2]

/-- A list that rises, of numbers that may be. -/
def Rise (l : List Int) : Prop := Up l ∧ ∀ x ∈ l, 1 ≤ x ∧ x < 1073741824
instance (l : List Int) : Decidable (Rise l) := inferInstanceAs (Decidable (_ ∧ _))
theorem Rise.nil_ : Rise [] := ⟨List.Pairwise.nil, by simp⟩
theorem Rise.take {l : List Int} (h : Rise l) (k : Nat) : Rise (l.take k) := ⟨h.1.sublist (List.take_sublist k l), fun x hx => h.2 x (List.mem_of_mem_take hx)⟩
theorem up_snoc {l : List Int} {x : Int} : Up (l ++ [x]) ↔ Up l ∧ ∀ y ∈ l, y < x := by
  unfold Up
  rw [List.pairwise_append]
  simp
theorem Rise.snoc {l : List Int} {x : Int} (h : Rise l) (hx : 1 ≤ x ∧ x < 1073741824) (hy : ∀ y ∈ l, y < x) : Rise (l ++ [x]) :=
  ⟨up_snoc.2 ⟨h.1, hy⟩, fun z hz => by
    rcases List.mem_append.1 hz with h' | h'
    · exact h.2 z h'
    · rw [List.mem_singleton] at h'; subst h'; exact hx⟩
theorem up_last {l : List Int} (h : Up l) (k : Nat) (hk : k < l.length) : ∀ y ∈ l.take (k + 1), y ≤ l[k] := by
  rw [List.take_succ_eq_append_getElem hk]
  intro y hy
  have h2 : Up (l.take k ++ [l[k]]) := by
    rw [← List.take_succ_eq_append_getElem hk]
    exact h.sublist (List.take_sublist _ _)
  rcases List.mem_append.1 hy with h' | h'
  · have := (up_snoc.1 h2).2 y h'; omega
  · rw [List.mem_singleton] at h'; omega
theorem rise_next0 {l : List Int} (h : 0 < l.length) (hx : 1 ≤ l[0] ∧ l[0] < 1073741824) : Rise (l.take 1) := by
  have e : l.take 1 = [] ++ [l[0]] := by
    rw [List.take_succ_eq_append_getElem h]; simp
  rw [e]
  exact Rise.nil_.snoc hx (by simp)
theorem rise_next {l : List Int} (k : Nat) (hk : k + 1 < l.length) (h : Rise (l.take (k + 1))) (hx : 1 ≤ l[k + 1] ∧ l[k + 1] < 1073741824) (hy : l[k] < l[k + 1]) : Rise (l.take (k + 2)) := by
  rw [List.take_succ_eq_append_getElem hk]
  refine h.snoc hx (fun y hy' => ?_)
  have h3 := up_last h.1 k (by simp; omega) y (by rw [List.take_take, Nat.min_self]; exact hy')
  simp at h3
  omega
theorem rise_no_range {l : List Int} (k : Nat) (hk : k < l.length) (hx : ¬ (1 ≤ l[k] ∧ l[k] < 1073741824)) : ¬ Rise l := fun h => hx (h.2 _ (List.getElem_mem hk))
theorem rise_no_order {l : List Int} (k : Nat) (hk : k + 1 < l.length) (hy : l[k + 1] ≤ l[k]) : ¬ Rise l := fun h => by
  have := List.pairwise_iff_getElem.1 h.1 k (k + 1) (by omega) hk (by omega)
  omega

/-- The document's answers. -/
def refPut (l : List Int) (id : Int) : List Int := if id < 1 ∨ 1073741824 ≤ id ∨ id ∈ l then l else l.take (l.countP (· < id)) ++ ([id] ++ l.drop (l.countP (· < id)))
theorem split_at {l : List Int} (id : Int) (h : Up l) : l.take (l.countP (· < id)) = l.filter (· < id) ∧ l.drop (l.countP (· < id)) = l.filter (fun x => !decide (x < id)) := by
  induction l with
  | nil => simp
  | cons x l ih =>
    have h' := List.pairwise_cons.1 h
    obtain ⟨i1, i2⟩ := ih h'.2
    by_cases hx : x < id
    · rw [List.countP_cons_of_pos (by simpa using hx), List.filter_cons_of_pos (by simpa using hx), List.filter_cons_of_neg (by simpa using hx)]
      simp [i1, i2]
    · have hall : ∀ y ∈ x :: l, ¬ y < id := by
        intro y hy
        rcases List.mem_cons.1 hy with e | e
        · omega
        · have := h'.1 y e; omega
      have c0 : (x :: l).countP (· < id) = 0 := by
        rw [List.countP_eq_zero]; intro y hy; simpa using hall y hy
      rw [c0]
      constructor
      · rw [List.take_zero, eq_comm, List.filter_eq_nil_iff]; intro y hy; simpa using hall y hy
      · rw [List.drop_zero, eq_comm, List.filter_eq_self]; intro y hy; simpa using hall y hy
theorem mem_refPut {l : List Int} {id : Int} (h : Rise l) (z : Int) : z ∈ refPut l id ↔ z ∈ l ∨ (z = id ∧ 1 ≤ id ∧ id < 1073741824) := by
  unfold refPut
  by_cases hc : id < 1 ∨ 1073741824 ≤ id ∨ id ∈ l
  · rw [if_pos hc]
    constructor
    · exact Or.inl
    · rintro (h' | ⟨rfl, h1, h2⟩)
      · exact h'
      · rcases hc with hc | hc | hc
        · omega
        · omega
        · exact hc
  · rw [if_neg hc]
    obtain ⟨e1, e2⟩ := split_at id h.1
    simp only [not_or] at hc
    rw [e1, e2]
    simp only [List.mem_append, List.mem_filter, List.mem_singleton]
    constructor
    · rintro (h' | h' | h')
      · exact Or.inl h'.1
      · exact Or.inr ⟨h', by omega, by omega⟩
      · exact Or.inl h'.1
    · rintro (h' | ⟨rfl, _⟩)
      · by_cases hz : z < id
        · exact Or.inl ⟨h', by simpa using hz⟩
        · exact Or.inr (Or.inr ⟨h', by simpa using hz⟩)
      · exact Or.inr (Or.inl rfl)
theorem rise_refPut {l : List Int} {id : Int} (h : Rise l) : Rise (refPut l id) := by
  refine ⟨?_, fun x hx => ?_⟩
  · unfold refPut
    by_cases hc : id < 1 ∨ 1073741824 ≤ id ∨ id ∈ l
    · rw [if_pos hc]; exact h.1
    · rw [if_neg hc]
      obtain ⟨e1, e2⟩ := split_at id h.1
      simp only [not_or] at hc
      rw [e1, e2]
      unfold Up
      rw [List.pairwise_append]
      refine ⟨h.1.filter _, ?_, ?_⟩
      · rw [List.singleton_append, List.pairwise_cons]
        refine ⟨fun y hy => ?_, h.1.filter _⟩
        rw [List.mem_filter] at hy
        have : y ≠ id := by rintro rfl; exact hc.2.2 hy.1
        have h2 : ¬ y < id := by simpa using hy.2
        omega
      · intro a ha b hb
        rw [List.mem_filter] at ha
        have h1 : a < id := by simpa using ha.2
        rcases List.mem_append.1 hb with hb | hb
        · rw [List.mem_singleton] at hb; omega
        · rw [List.mem_filter] at hb
          have h2 : ¬ b < id := by simpa using hb.2
          omega
  · rcases (mem_refPut h x).1 hx with h' | ⟨rfl, h1, h2⟩
    · exact h.2 x h'
    · exact ⟨h1, h2⟩
def refEither (a b : List Int) : List Int := b.foldl refPut a
theorem refEither_spec (b : List Int) : ∀ a, Rise a → (∀ x ∈ b, 1 ≤ x ∧ x < 1073741824) → Rise (refEither a b) ∧ ∀ z, z ∈ refEither a b ↔ z ∈ a ∨ z ∈ b := by
  induction b with
  | nil => intro a ha _; exact ⟨ha, by simp [refEither]⟩
  | cons y b ih =>
    intro a ha hb
    obtain ⟨h1, h2⟩ := ih (refPut a y) (rise_refPut ha) (fun x hx => hb x (List.mem_cons_of_mem _ hx))
    refine ⟨h1, fun z => ?_⟩
    show z ∈ refEither (refPut a y) b ↔ _
    rw [h2, mem_refPut ha, List.mem_cons]
    have := hb y (by simp)
    constructor
    · rintro ((h | ⟨rfl, _⟩) | h)
      · exact Or.inl h
      · exact Or.inr (Or.inl rfl)
      · exact Or.inr (Or.inr h)
    · rintro (h | rfl | h)
      · exact Or.inl (Or.inl h)
      · exact Or.inl (Or.inr ⟨rfl, this.1, this.2⟩)
      · exact Or.inr h
theorem rise_mrg (f : Bool → Bool → Bool) {a b : List Int} (ha : Rise a) (hb : Rise b) : Rise (mrg f a b) :=
  ⟨up_mrg f a b ha.1 hb.1, fun z hz => by
    rcases mrg_sub f a b ha.1 hb.1 z hz with h | h
    · exact ha.2 z h
    · exact hb.2 z h⟩
theorem mem_both {a b : List Int} (ha : Up a) (hb : Up b) (z : Int) : z ∈ mrg fBoth a b ↔ z ∈ a ∧ z ∈ b := by
  rw [mem_mrg _ a b ha hb]
  by_cases h1 : z ∈ a <;> by_cases h2 : z ∈ b <;> simp [fBoth, h1, h2]
theorem mem_minus {a b : List Int} (ha : Up a) (hb : Up b) (z : Int) : z ∈ mrg fMinus a b ↔ z ∈ a ∧ z ∉ b := by
  rw [mem_mrg _ a b ha hb]
  by_cases h1 : z ∈ a <;> by_cases h2 : z ∈ b <;> simp [fMinus, h1, h2]
theorem mem_either {a b : List Int} (ha : Up a) (hb : Up b) (z : Int) : z ∈ mrg fEither a b ↔ z ∈ a ∨ z ∈ b := by
  rw [mem_mrg _ a b ha hb]
  simp [fEither]
theorem both_eq {a b : List Int} (ha : Rise a) (hb : Rise b) : mrg fBoth a b = a.filter (fun x => decide (x ∈ b)) :=
  up_ext (up_mrg _ a b ha.1 hb.1) (ha.1.filter _) (fun z => by
    rw [mem_both ha.1 hb.1, List.mem_filter]
    simp)
theorem minus_eq {a b : List Int} (ha : Rise a) (hb : Rise b) : mrg fMinus a b = a.filter (fun x => !decide (x ∈ b)) :=
  up_ext (up_mrg _ a b ha.1 hb.1) (ha.1.filter _) (fun z => by
    rw [mem_minus ha.1 hb.1, List.mem_filter]
    simp)
theorem either_eq {a b : List Int} (ha : Rise a) (hb : Rise b) : mrg fEither a b = refEither a b := by
  obtain ⟨h1, h2⟩ := refEither_spec b a ha hb.2
  refine up_ext (up_mrg _ a b ha.1 hb.1) h1.1 (fun z => ?_)
  rw [mem_either ha.1 hb.1, h2]
theorem len_refPut (l : List Int) (id : Int) : (refPut l id).length ≤ l.length + 1 := by
  unfold refPut
  split
  · omega
  · simp; have : l.countP (· < id) ≤ l.length := List.countP_le_length; omega
theorem len_refEither (b : List Int) : ∀ a, (refEither a b).length ≤ a.length + b.length := by
  induction b with
  | nil => intro a; simp [refEither]
  | cons y b ih => intro a; have h1 := ih (refPut a y); have h2 := len_refPut a y; show (refEither (refPut a y) b).length ≤ _; simp; omega

/-- What P7.3 says. -/
theorem parts_eq {a b : List Int} (ha : Rise a) (hb : Rise b) : mrg fEither (mrg fBoth a b) (mrg fEither (mrg fMinus a b) (mrg fMinus b a)) = mrg fEither b a := by
  have r1 := rise_mrg fBoth ha hb
  have r2 := rise_mrg fMinus ha hb
  have r3 := rise_mrg fMinus hb ha
  have r4 := rise_mrg fEither r2 r3
  refine up_ext (up_mrg _ _ _ r1.1 r4.1) (up_mrg _ _ _ hb.1 ha.1) (fun z => ?_)
  rw [mem_either r1.1 r4.1, mem_either hb.1 ha.1, mem_either r2.1 r3.1, mem_both ha.1 hb.1, mem_minus ha.1 hb.1, mem_minus hb.1 ha.1]
  by_cases h1 : z ∈ a <;> by_cases h2 : z ∈ b <;> simp [h1, h2]
theorem parts_len {a b : List Int} (ha : Rise a) (hb : Rise b) : (mrg fEither (mrg fBoth a b) (mrg fEither (mrg fMinus a b) (mrg fMinus b a))).length + (mrg fBoth a b).length = a.length + b.length := by
  rw [parts_eq ha hb, ← len_mrg a b]
  congr 2
  refine up_ext (up_mrg _ _ _ hb.1 ha.1) (up_mrg _ _ _ ha.1 hb.1) (fun z => ?_)
  rw [mem_either hb.1 ha.1, mem_either ha.1 hb.1, or_comm]
def put (l : List Int) (id : Int) : List Int := if 1 ≤ id ∧ id < 1073741824 then mrg fEither l [id] else l
def drop (l : List Int) (id : Int) : List Int := mrg fMinus l [id]
theorem up_one (id : Int) : Up [id] := List.pairwise_singleton _ _
theorem drop_put {a : List Int} {id : Int} (ha : Rise a) (h : id ∉ a) : drop (put a id) id = a := by
  unfold drop put
  split
  · refine up_ext (up_mrg _ _ _ (up_mrg _ _ _ ha.1 (up_one _)) (up_one _)) ha.1 (fun z => ?_)
    rw [mem_minus (up_mrg _ _ _ ha.1 (up_one _)) (up_one _), mem_either ha.1 (up_one _), List.mem_singleton]
    by_cases hz : z = id
    · subst hz; simp [h]
    · simp [hz]
  · refine up_ext (up_mrg _ _ _ ha.1 (up_one _)) ha.1 (fun z => ?_)
    rw [mem_minus ha.1 (up_one _), List.mem_singleton]
    by_cases hz : z = id
    · subst hz; simp [h]
    · simp [hz]
theorem put_drop {a : List Int} {id : Int} (ha : Rise a) (h : id ∈ a) : put (drop a id) id = a := by
  unfold drop put
  rw [if_pos (ha.2 id h)]
  refine up_ext (up_mrg _ _ _ (up_mrg _ _ _ ha.1 (up_one _)) (up_one _)) ha.1 (fun z => ?_)
  rw [mem_either (up_mrg _ _ _ ha.1 (up_one _)) (up_one _), mem_minus ha.1 (up_one _), List.mem_singleton]
  by_cases hz : z = id
  · subst hz; simp [h]
  · simp [hz]
end IdsM
