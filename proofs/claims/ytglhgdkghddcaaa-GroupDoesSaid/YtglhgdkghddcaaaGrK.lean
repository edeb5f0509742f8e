/- Groups: whose member a card is, told by Of: maths for GroupOthers. -/
import Derived.Test.YtglhgdkghddcaaaGrH
namespace Go.Proofs.Ytglhgdkghddcaaa
set_option linter.unusedVariables false
set_option linter.unusedSimpArgs false
open Go Go.RowKit IdsM

theorem has_fold (id n : Int) : ∀ (l : List Gp) (s : BitVec 32), BitM.has (l.foldl (gof1 id) s) n = (BitM.has s n || l.any (fun g => decide (g.no = n) && decide (0 ≤ n ∧ n < 32) && decide (id ∈ g.m)))
  | [], s => by simp
  | g :: l, s => by
    rw [List.foldl_cons, has_fold id n l, List.any_cons]
    unfold gof1
    by_cases h : id ∈ g.m
    · rw [if_pos h, BitM.has_put, decide_eq_true h]
      by_cases h2 : g.no = n
      · subst h2; simp [Bool.or_assoc]
      · simp [h2, Bool.or_assoc]
    · rw [if_neg h, decide_eq_false h]
      simp
theorem gno_inj {l : List Gp} (h : Up (gnos l)) {i j : Nat} (hi : i < l.length) (hj : j < l.length) (e : l[i].no = l[j].no) : i = j := by
  have hl : (gnos l).length = l.length := by simp [gnos]
  rcases Nat.lt_trichotomy i j with h1 | h1 | h1
  · have := List.pairwise_iff_getElem.1 h i j (by omega) (by omega) h1
    simp [gnos] at this
    omega
  · exact h1
  · have := List.pairwise_iff_getElem.1 h j i (by omega) (by omega) h1
    simp [gnos] at this
    omega
theorem gmem_at {l : List Gp} (h : Up (gnos l)) (k : Nat) (hk : k < l.length) : gmem l l[k].no = l[k].m :=
  gmem_here k hk rfl (fun i hi hik e => by have := gno_inj h hi hk e; omega)
/-- Of tells just whose member a card is. -/
theorem gof_has {l : List Gp} (hok : GOk l) (id : Int) (k : Nat) (hk : k < l.length) : BitM.has (gof l id) l[k].no = decide (id ∈ gmem l l[k].no) := by
  rw [gmem_at hok.1 k hk]
  unfold gof
  rw [has_fold, BitM.has_zero, Bool.false_or]
  have hr := (hok.2 _ (List.getElem_mem hk)).1
  have hr2 : decide (0 ≤ l[k].no ∧ l[k].no < 32) = true := decide_eq_true (by omega)
  rw [Bool.eq_iff_iff, List.any_eq_true]
  constructor
  · rintro ⟨g, hg, h⟩
    obtain ⟨i, hi, rfl⟩ := List.getElem_of_mem hg
    simp only [Bool.and_eq_true, decide_eq_true_eq] at h
    have := gno_inj hok.1 hi hk h.1.1
    subst this
    exact decide_eq_true h.2
  · intro h
    refine ⟨l[k], List.getElem_mem hk, ?_⟩
    rw [decide_eq_true rfl, hr2, h]
    rfl
/-- What one may tell of groups, one tells of groups that are the same. -/
theorem gnos_abs {l m : List Gp} (h : gabs l = gabs m) : gnos l = gnos m := by
  have e : ∀ l : List Gp, gnos l = (gabs l).map (·.1) := fun l => by simp [gnos, gabs, gab]
  rw [e, e, h]
theorem gok_abs {l m : List Gp} (h : gabs l = gabs m) (hm : GOk m) : GOk l := by
  refine ⟨by rw [gnos_abs h]; exact hm.1, fun g hg => ?_⟩
  have h1 : gab g ∈ gabs m := by rw [← h]; exact List.mem_map_of_mem hg
  obtain ⟨x, hx, e⟩ := List.mem_map.1 h1
  have h2 := hm.2 x hx
  have e1 : x.no = g.no := congrArg Prod.fst e
  have e2 : x.m = g.m := congrArg Prod.snd e
  rw [← e1, ← e2]
  exact h2
theorem gof_abs {l m : List Gp} (h : gabs l = gabs m) (id : Int) : gof l id = gof m id := by
  have e : ∀ (l : List Gp) (s : BitVec 32), l.foldl (gof1 id) s = (gabs l).foldl (fun s p => if id ∈ p.2 then BitM.put s p.1 else s) s := by
    intro l
    induction l with
    | nil => intro s; rfl
    | cons g l ih =>
      intro s
      rw [List.foldl_cons, ih]
      rfl
  unfold gof
  rw [e, e, h]
end Go.Proofs.Ytglhgdkghddcaaa
