/- Filters that are joined: the walk of PredJoins. -/
import Derived.Test.YtfoppjgjljellaaPrdN
import Derived.Test.YtfoppjgjljellaaPrdJ
namespace Go.Proofs.Ytfoppjgjljellaa
set_option linter.unusedVariables false
set_option linter.unusedSimpArgs false
open Go Go.RowKit

theorem wood_join1 {a : List Nd} (ha : Wood a 1) : Wood ((10, 0, zv) :: [a].flatten) 1 := by
  refine wood_mk (k := 0) ?_
  simpa [par] using ha
theorem wood_join2 {op : Int} (hp : par op = 2) {a b : List Nd} (ha : Wood a 1) (hb : Wood b 1) : Wood ((op, 0, zv) :: [a, b].flatten) 1 := by
  refine wood_mk (k := 0) ?_
  rw [hp]
  simpa using wood_app ha hb
theorem kids_join1 {a : List Nd} (ha : Wood a 1) : kidsOf [a].flatten 1 = [a] := by
  simp only [List.flatten_cons, List.flatten_nil, List.append_nil]
  rw [kids_succ a 0 a.length ha, kids_zero, List.take_length]
theorem kids_join2 {a b : List Nd} (ha : Wood a 1) (hb : Wood b 1) : kidsOf [a, b].flatten 2 = [a, b] := by
  simp only [List.flatten_cons, List.flatten_nil, List.append_nil]
  rw [kids_succ (a ++ b) 1 a.length (endOf_app ha), List.take_left', List.drop_left', kids_succ b 0 b.length hb, kids_zero, List.take_length]
  · rfl
  · rfl
theorem dep_join2 {op : Int} (hp : par op = 2) {a b : List Nd} (ha : Wood a 1) (hb : Wood b 1) : dep ((op, 0, zv) :: [a, b].flatten) = max (dep a) (dep b) + 1 := by
  rw [dep_kids (wood_join2 hp ha hb)]
  show ((kidsOf [a, b].flatten (par op)).map dep).foldl max 0 + 1 = _
  rw [hp, kids_join2 ha hb]
  simp
theorem nok_join {op : Int} (h : op = 10 ∨ op = 11 ∨ op = 12) : nok (op, 0, zv) = true := by
  rcases h with rfl | rfl | rfl <;> simp [nok]
theorem lchk_join2 {op : Int} (hp : par op = 2) {a b : List Nd} (ha : lchk a = 0) (hb : lchk b = 0) :
    lchk ((op, 0, zv) :: [a, b].flatten) = if 31 < ((op, (0 : Int), zv) :: [a, b].flatten).length then 4 else if 8 < max (dep a) (dep b) + 1 then 5 else 0 := by
  obtain ⟨a1, a2, a3, a4⟩ := lchk_ok ha
  obtain ⟨b1, b2, b3, b4⟩ := lchk_ok hb
  by_cases h : 31 < ((op, (0 : Int), zv) :: [a, b].flatten).length
  · rw [if_pos h, lchk_long h]
  · rw [if_neg h, lchk_all (by omega), if_neg (fun h => h (wood_join2 hp a3 b3)), dep_join2 hp a3 b3]
    rw [List.all_eq_true]
    intro x hx
    have hop : op = 10 ∨ op = 11 ∨ op = 12 := by
      unfold par at hp
      split at hp
      · omega
      · split at hp <;> omega
    simp only [List.flatten_cons, List.flatten_nil, List.append_nil, List.mem_cons, List.mem_append] at hx
    rcases hx with rfl | hx | hx
    · exact nok_join hop
    · exact a2 x hx
    · exact b2 x hx

/-- Nodes that a call has made. -/
def GotN (B : Nat) (w : World) (l : List Nd) (n : Nat) : Ending → World → Prop := fun e w' => ∃ A c, e = .returned (.slice A n c) ∧ Hid (Sees w' w'.heap.size A (ncs l)) ∧ n ≤ c ∧ Below B w w'
theorem GivesNodes.got {w : World} {l : List Nd} {n B : Nat} (hn : l.length = n) (hB : B ≤ w.heap.size) {e : Ending} {w' : World} (h : GivesNodes w l e w') : GotN B w l n e w' := by
  obtain ⟨A, c, rfl, hr, hb⟩ := h
  subst hn
  exact ⟨A, c, rfl, Lib.hid (row_sees hr), row_cap hr, hb.mono hB⟩
theorem seesn_kept {wx wy : World} {A : Option Addr} {l : List Nd} (h : Sees wx wx.heap.size A (ncs l)) (hb : Below wx.heap.size wx wy) : Sees wy wy.heap.size A (ncs l) := (h.below hb).more hb.size
/-- A list of lists of nodes that a call has made. -/
def GotL (B : Nat) (w : World) (ks : List (List Nd)) (n : Nat) : Ending → World → Prop := fun e w' => ∃ A c, e = .returned (.slice A n c) ∧ Hid (SeesL w' A ks) ∧ Below B w w'
theorem GivesKids.got {w : World} {ks : List (List Nd)} {n B : Nat} (hn : ks.length = n) (hB : B ≤ w.heap.size) {e : Ending} {w' : World} (h : GivesKids w ks e w') : GotL B w ks n e w' := by
  obtain ⟨A, c, vs, rfl, hr, hk, hb⟩ := h
  subst hn
  exact ⟨A, c, rfl, Lib.hid (SeesL.of_kept hr hk), hb.mono hB⟩
theorem kids_top (A : Option Addr) (n c : Nat) (l : List Nd) (x : Nd) (l' : List Nd) (w : World) (N m : Nat) (ks : List (List Nd)) (he0 : l = x :: l') (hn : l.length = n) (hs : Sees w w.heap.size A (ncs l)) (hc : n ≤ c) (hm : n ≤ 65536) (he : endOf l' (par x.1) = some N) (hk : kidsOf l' (par x.1) = ks) (hm2 : ks.length = m) :
    Calls Try.prog 52 #[.slice A n c, .int .i64 0] w (GotL w.heap.size w ks m) := by
  subst he0
  have hK : kidsOf ((x :: l').drop (0 + 1)) (par (x :: l')[0].1) = ks := by simpa using hk
  have h := kids_any A n c (x :: l') 0 w hn hs hc hm (by simp) N (by simpa using he)
  rw [hK] at h
  exact h.mono fun e w' hg => GivesKids.got hm2 (Nat.le_refl _) hg
end Go.Proofs.Ytfoppjgjljellaa
