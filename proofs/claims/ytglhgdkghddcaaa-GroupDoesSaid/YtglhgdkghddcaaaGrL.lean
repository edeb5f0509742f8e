/- Groups that a card has joined: maths for GroupOthers. -/
import Derived.Test.YtglhgdkghddcaaaGrK
namespace Go.Proofs.Ytglhgdkghddcaaa
set_option linter.unusedVariables false
set_option linter.unusedSimpArgs false
open Go Go.RowKit IdsM

def lput1 (g id : Int) (x : Gp) : Gp := ⟨x.no, none, 0, 0, if x.no = g then put x.m id else x.m⟩
def lput (l : List Gp) (g id : Int) : List Gp := l.map (lput1 g id)
theorem lput_abs (l : List Gp) (g id : Int) : gabs (lput l g id) = chg1 l g (fun m => put m id) := by
  unfold gabs lput chg1
  rw [List.map_map]
  rfl
theorem lput_nos (l : List Gp) (g id : Int) : gnos (lput l g id) = gnos l := by
  unfold gnos lput
  rw [List.map_map]
  rfl
theorem rise_put {m : List Int} (h : Rise m) (id : Int) : Rise (put m id) := by rw [put_ref h]; exact rise_refPut h
theorem mem_put {m : List Int} (h : Rise m) (id z : Int) (hi : 1 ≤ id ∧ id < 1073741824) : z ∈ put m id ↔ z ∈ m ∨ z = id := by
  rw [put_ref h, mem_refPut h]
  exact ⟨fun h => h.imp (fun y => y) fun x => x.1, fun h => h.imp (fun y => y) fun x => ⟨x, hi⟩⟩
theorem lput_ok {l : List Gp} (h : GOk l) (g id : Int) : GOk (lput l g id) := by
  refine ⟨by rw [lput_nos]; exact h.1, fun y hy => ?_⟩
  obtain ⟨x, hx, rfl⟩ := List.mem_map.1 hy
  refine ⟨(h.2 x hx).1, ?_⟩
  show Rise (if x.no = g then put x.m id else x.m)
  split
  · exact rise_put (h.2 x hx).2 id
  · exact (h.2 x hx).2
theorem lput_mem {x : Gp} (h : Rise x.m) (g id z : Int) (hi : 1 ≤ id ∧ id < 1073741824) : z ∈ (lput1 g id x).m ↔ z ∈ x.m ∨ (x.no = g ∧ z = id) := by
  show z ∈ (if x.no = g then put x.m id else x.m) ↔ _
  split
  · rename_i e
    rw [mem_put h id z hi]
    simp [e]
  · rename_i e
    simp [e]
/-- Of another card nothing is changed. -/
theorem lput_other {l : List Gp} (h : GOk l) (g id z : Int) (hi : 1 ≤ id ∧ id < 1073741824) (hz : id ≠ z) : gof (lput l g id) z = gof l z := by
  refine BitM.ext fun n => ?_
  unfold gof
  rw [has_fold, has_fold]
  congr 1
  unfold lput
  rw [Bool.eq_iff_iff, List.any_eq_true, List.any_eq_true]
  simp only [List.mem_map, Bool.and_eq_true, decide_eq_true_eq]
  constructor
  · rintro ⟨_, ⟨x, hx, rfl⟩, ⟨h1, h2⟩, h3⟩
    rcases (lput_mem (h.2 x hx).2 g id z hi).1 h3 with h4 | h4
    · exact ⟨x, hx, ⟨h1, h2⟩, h4⟩
    · exact absurd h4.2.symm hz
  · rintro ⟨x, hx, ⟨h1, h2⟩, h3⟩
    exact ⟨_, ⟨x, hx, rfl⟩, ⟨h1, h2⟩, (lput_mem (h.2 x hx).2 g id z hi).2 (Or.inl h3)⟩
/-- The card itself has one group more. -/
theorem lput_self {l : List Gp} (h : GOk l) (g id : Int) (hi : 1 ≤ id ∧ id < 1073741824) (hg : g ∈ gnos l) : gof (lput l g id) id = BitM.put (gof l id) g := by
  refine BitM.ext fun n => ?_
  rw [BitM.has_put]
  unfold gof
  rw [has_fold, has_fold, BitM.has_zero, Bool.false_or, Bool.false_or]
  unfold lput
  rw [Bool.eq_iff_iff, Bool.or_eq_true, List.any_eq_true, List.any_eq_true]
  simp only [List.mem_map, Bool.and_eq_true, decide_eq_true_eq]
  constructor
  · rintro ⟨_, ⟨x, hx, rfl⟩, ⟨h1, h2⟩, h3⟩
    rcases (lput_mem (h.2 x hx).2 g id id hi).1 h3 with h4 | h4
    · exact Or.inl ⟨x, hx, ⟨h1, h2⟩, h4⟩
    · have e : g = n := h4.1.symm.trans h1
      exact Or.inr ⟨e, by rw [e]; exact h2⟩
  · rintro (⟨x, hx, ⟨h1, h2⟩, h3⟩ | ⟨h1, h2⟩)
    · exact ⟨_, ⟨x, hx, rfl⟩, ⟨h1, h2⟩, (lput_mem (h.2 x hx).2 g id id hi).2 (Or.inl h3)⟩
    · obtain ⟨x, hx, e⟩ := List.mem_map.1 hg
      exact ⟨_, ⟨x, hx, rfl⟩, ⟨e.trans h1, by rw [← h1]; exact h2⟩, (lput_mem (h.2 x hx).2 g id id hi).2 (Or.inr ⟨e, rfl⟩)⟩
/-- What quits again is as it was. -/
theorem lput_back {l : List Gp} (h : GOk l) (g id : Int) (hn : id ∉ gmem l g) : chg1 (lput l g id) g (fun m => drop m id) = gabs l := by
  unfold chg1 lput gabs
  rw [List.map_map]
  refine List.map_congr_left fun x hx => ?_
  show (x.no, if x.no = g then drop (if x.no = g then put x.m id else x.m) id else (if x.no = g then put x.m id else x.m)) = (x.no, x.m)
  by_cases e : x.no = g
  · rw [if_pos e, if_pos e]
    obtain ⟨k, hk, rfl⟩ := List.getElem_of_mem hx
    have hm := gmem_at h.1 k hk
    rw [e] at hm
    rw [hm] at hn
    rw [drop_put (h.2 _ hx).2 hn]
  · rw [if_neg e, if_neg e]
end Go.Proofs.Ytglhgdkghddcaaa
