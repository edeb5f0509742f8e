/- Groups: their cells, a list of them that is seen, and what calls answer of such a list: maths. -/
import Derived.Test.YtglhgdkghddcaaaRws
import Derived.Test.YtglhgdkghddcaaaIdsG
import Derived.Test.YtglhgdkghddcaaaLoadG
import Derived.Test.YtglhgdkghddcaaaBitA
namespace Go.Proofs.Ytglhgdkghddcaaa
set_option linter.unusedVariables false
set_option linter.unusedSimpArgs false
open Go Go.RowKit IdsM

/-- A group as it lies: its number, its members' slice, and what the members are. -/
structure Gp where
  no : Int
  A : Option Addr
  n : Nat
  c : Nat
  m : List Int
def gpc (g : Gp) : List Value := [.int .i64 g.no, .slice g.A g.n g.c]
theorem gp_len (l : List Gp) : ∀ x ∈ l, (gpc x).length = 2 := fun _ _ => rfl
structure okGp (w : World) (g : Gp) : Prop where
  len : g.m.length = g.n
  cap : g.n ≤ g.c
  max : g.c ≤ maxLen
  see : Sees w w.heap.size g.A (ivs g.m)
theorem okGp.later {w w' : World} {g : Gp} (h : okGp w g) (hb : Below w.heap.size w w') : okGp w' g := ⟨h.len, h.cap, h.max, (h.see.below hb).more hb.size⟩
/-- A list of groups, seen. -/
structure SeesG (w : World) (A : Option Addr) (n c : Nat) (l : List Gp) : Prop where
  len : l.length = n
  cap : n ≤ c
  max : c ≤ maxLen
  see : Sees w w.heap.size A (rws gpc l)
  ok : ∀ g ∈ l, okGp w g
theorem SeesG.later {w w' : World} {A : Option Addr} {n c : Nat} {l : List Gp} (h : SeesG w A n c l) (hb : Below w.heap.size w w') : SeesG w' A n c l :=
  ⟨h.len, h.cap, h.max, (h.see.below hb).more hb.size, fun g hg => (h.ok g hg).later hb⟩
theorem SeesG.get {w : World} {A : Option Addr} {n c : Nat} {l : List Gp} (h : SeesG w A n c l) (k : Nat) (hk : k < l.length) :
    ∃ b o, A = some ⟨b, o, none⟩ ∧ b < w.heap.size ∧ ∀ W, Below w.heap.size w W → W.rangeAt b (o + k * 2) (gpc l[k]) ∧ W.cell? ⟨b, o + k * 2, none⟩ = some (.int .i64 l[k].no) ∧ W.cell? ⟨b, o + k * 2 + 1, none⟩ = some (.slice l[k].A l[k].n l[k].c) ∧ okGp W l[k] := by
  obtain ⟨b, o, e, hb, _⟩ := sees_rw (f := gpc) (sz := 2) (gp_len l) h.see (by decide) k hk
  refine ⟨b, o, e, hb, fun W hW => ?_⟩
  obtain ⟨b', o', e', _, hr⟩ := sees_rw (f := gpc) (sz := 2) (gp_len l) ((h.later hW).see) (by decide) k hk
  rw [e] at e'
  cases e'
  exact ⟨hr, hr 0 _ rfl, hr 1 _ rfl, (h.ok _ (List.getElem_mem hk)).later hW⟩

/-- Are there more groups, or members, than are looked at? -/
def glarge (l : List Gp) : Bool := decide (40 < l.length) || l.any (fun g => decide (100 < g.n))
theorem glarge_more {l : List Gp} (h : 40 < l.length) : glarge l = true := by unfold glarge; rw [decide_eq_true h]; rfl
theorem glarge_one {l : List Gp} (k : Nat) (hk : k < l.length) (h : 100 < l[k].n) : glarge l = true := by
  unfold glarge
  rw [Bool.or_eq_true]
  exact Or.inr (List.any_eq_true.2 ⟨l[k], List.getElem_mem hk, decide_eq_true h⟩)
theorem glarge_no {l : List Gp} (h : l.length ≤ 40) (h2 : ∀ i (hi : i < l.length), l[i].n ≤ 100) : glarge l = false := by
  unfold glarge
  rw [decide_eq_false (by omega), Bool.false_or, List.any_eq_false]
  intro g hg
  obtain ⟨i, hi, rfl⟩ := List.getElem_of_mem hg
  have := h2 i hi
  simp; omega
theorem glarge_of {l : List Gp} (h : glarge l = false) : l.length ≤ 40 ∧ ∀ g ∈ l, g.n ≤ 100 := by
  unfold glarge at h
  rw [Bool.or_eq_false_iff] at h
  refine ⟨by have := of_decide_eq_false h.1; omega, fun g hg => ?_⟩
  have := List.any_eq_false.1 h.2 g hg
  simp at this
  omega
/-- Groups that may be: they rise, are among sixteen, and their members rise. -/
def gnos (l : List Gp) : List Int := l.map (·.no)
def GOk (l : List Gp) : Prop := Up (gnos l) ∧ ∀ g ∈ l, (0 ≤ g.no ∧ g.no < 16) ∧ Rise g.m
noncomputable instance (l : List Gp) : Decidable (GOk l) := Classical.propDecidable _
theorem GOk.nil_ : GOk [] := ⟨List.Pairwise.nil, by simp⟩
theorem GOk.le {l : List Gp} (h : GOk l) : l.length ≤ 16 := by
  have h1 : ∀ k (hk : k < l.length), (k : Int) ≤ l[k].no := by
    intro k
    induction k with
    | zero => intro hk; exact (h.2 _ (List.getElem_mem hk)).1.1
    | succ k ih =>
      intro hk
      have h2 := ih (by omega)
      have h3 := List.pairwise_iff_getElem.1 h.1 k (k + 1) (by simp [gnos]; omega) (by simp [gnos]; omega) (by omega)
      simp [gnos] at h3
      omega
  by_cases h2 : 16 < l.length
  · have := h1 16 h2
    have := (h.2 _ (List.getElem_mem h2)).1.2
    omega
  · omega
theorem gok_range {l : List Gp} (k : Nat) (hk : k < l.length) (h : ¬ (0 ≤ l[k].no ∧ l[k].no < 16)) : ¬ GOk l := fun e => h (e.2 _ (List.getElem_mem hk)).1
theorem gok_rise {l : List Gp} (k : Nat) (hk : k < l.length) (h : ¬ Rise l[k].m) : ¬ GOk l := fun e => h (e.2 _ (List.getElem_mem hk)).2
theorem gok_order {l : List Gp} (k : Nat) (hk : k + 1 < l.length) (h : l[k + 1].no ≤ l[k].no) : ¬ GOk l := fun e => by
  have h3 := List.pairwise_iff_getElem.1 e.1 k (k + 1) (by simp [gnos]; omega) (by simp [gnos]; omega) (by omega)
  simp [gnos] at h3
  omega
theorem gok_next0 {l : List Gp} (hk : 0 < l.length) (h : 0 ≤ l[0].no ∧ l[0].no < 16) (hr : Rise l[0].m) : GOk (l.take 1) := by
  rw [List.take_succ_eq_append_getElem hk]
  simp only [List.take_zero, List.nil_append]
  exact ⟨List.pairwise_singleton _ _, fun g hg => by rw [List.mem_singleton] at hg; subst hg; exact ⟨h, hr⟩⟩
theorem gok_next {l : List Gp} (k : Nat) (hk : k + 1 < l.length) (ho : GOk (l.take (k + 1))) (h : 0 ≤ l[k + 1].no ∧ l[k + 1].no < 16) (hr : Rise l[k + 1].m) (hy : l[k].no < l[k + 1].no) : GOk (l.take (k + 2)) := by
  have e2 : gnos (l.take (k + 2)) = (gnos l).take (k + 2) := by simp [gnos, List.map_take]
  have e1 : gnos (l.take (k + 1)) = (gnos l).take (k + 1) := by simp [gnos, List.map_take]
  have hl : (gnos l).length = l.length := by simp [gnos]
  refine ⟨?_, fun g hg => ?_⟩
  · rw [e2]
    have h1 := ho.1
    rw [e1] at h1
    refine List.pairwise_iff_getElem.2 fun i j hi hj hij => ?_
    simp only [List.length_take, hl] at hi hj
    simp only [List.getElem_take]
    have hlast : ∀ i (hi : i < k + 1), (gnos l)[i]'(by omega) ≤ (gnos l)[k]'(by omega) := by
      intro i hi
      by_cases e : i = k
      · subst e; exact Int.le_refl _
      · have := List.pairwise_iff_getElem.1 h1 i k (by simp [hl]; omega) (by simp [hl]; omega) (by omega)
        simp only [List.getElem_take] at this
        omega
    by_cases e : j = k + 1
    · subst e
      have := hlast i (by omega)
      simp [gnos] at this ⊢
      omega
    · have := List.pairwise_iff_getElem.1 h1 i j (by simp [hl]; omega) (by simp [hl]; omega) hij
      simpa only [List.getElem_take] using this
  · rw [List.take_succ_eq_append_getElem hk, List.mem_append, List.mem_singleton] at hg
    rcases hg with hg | rfl
    · exact ho.2 g hg
    · exact ⟨h, hr⟩
/-- Where a group stands, in a list of any order; -1: nowhere. -/
def gat (l : List Gp) (g : Int) : Int := match l.findIdx? (fun x => decide (x.no = g)) with | some k => (k : Int) | none => -1
theorem gat_here {l : List Gp} {g : Int} (k : Nat) (hk : k < l.length) (h : l[k].no = g) (hb : ∀ i (hi : i < l.length), i < k → l[i].no ≠ g) : gat l g = (k : Int) := by
  have : l.findIdx? (fun x => decide (x.no = g)) = some k := by
    rw [List.findIdx?_eq_some_iff_getElem]
    exact ⟨hk, by simpa using h, fun j hj => by simpa using hb j (by omega) hj⟩
  unfold gat
  rw [this]
theorem gat_none {l : List Gp} {g : Int} (hb : ∀ i (hi : i < l.length), l[i].no ≠ g) : gat l g = -1 := by
  have : l.findIdx? (fun x => decide (x.no = g)) = none := by
    rw [List.findIdx?_eq_none_iff]
    intro x hx
    obtain ⟨i, hi, rfl⟩ := List.getElem_of_mem hx
    simpa using hb i hi
  unfold gat
  rw [this]
theorem gno_get (l : List Gp) (k : Nat) (hk : k < l.length) : (gnos l)[k]'(by simp [gnos]; exact hk) = l[k].no := by simp [gnos]
/-- Where numbers rise, a group stands where as many are below it. -/
theorem gat_up {l : List Gp} (h : Up (gnos l)) (g : Int) : (g ∈ gnos l → gat l g = ((gnos l).countP (· < g) : Nat)) ∧ (g ∉ gnos l → gat l g = -1) := by
  have hl : (gnos l).length = l.length := by simp [gnos]
  constructor
  · intro hm
    by_cases hp : (gnos l).countP (· < g) < (gnos l).length
    · have h1 := (place_has h g hp).1 hm
      refine gat_here _ (by omega) ?_ (fun i hi hip => ?_)
      · rw [← gno_get l _ (by omega)]; exact h1
      · have := (place_lt h g i (by omega)).2 hip
        rw [gno_get l i hi] at this
        omega
    · exact absurd hm (place_hasnt g hp)
  · intro hm
    refine gat_none fun i hi e => hm ?_
    rw [← e, ← gno_get l i hi]
    exact List.getElem_mem _
end Go.Proofs.Ytglhgdkghddcaaa
