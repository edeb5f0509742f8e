/- A region that draws its order, one of whose operations is a load that no other minds but those that wait for it, while the last operations (an append, stores) do not wait for it: the load is taken first, the others by the tail's rule; what the load reads must stay as it is to the end. -/
import Derived.Test.YtlagodbkkkdmkaaPerm
namespace Go.Proofs.Ytlagodbkkkdmkaa
set_option linter.unusedVariables false
set_option linter.unusedSimpArgs false
open Go Go.RowKit

def rmO (i0 : Nat) (s : Nat → Nat) (o : Oper) : Oper := ⟨o.dst, o.op, o.type, o.pos, (o.after.filter fun e => e.on != i0).map (renE s), o.guard.map fun g => (s g.1, g.2)⟩
def rmOps (l : List Oper) (i0 : Nat) (p : List Nat) : List Oper := p.map fun i => rmO i0 (fun j => p.idxOf j) (l.getD i default)
def rmB (l : List Oper) (i0 : Nat) (p : List Nat) : Bool :=
  decide (p.length + 1 = l.length) && decide (i0 :: p).Nodup && (List.range l.length).all (fun i => i == i0 || p.contains i) && p.all (fun i => decide (i < l.length)) && decide (i0 < l.length) && Region.noSelect l.toArray &&
    (l.all fun o => o.after.all (fun e => decide (e.on < l.length)) && (match o.guard with | some g => decide (g.1 < l.length) && decide (g.1 ≠ i0) | none => true)) &&
    (match l[i0]? with
     | some oi => oi.guard.isNone && oi.after.all (fun e => !Region.binds .any e) && (List.range l.length).all fun j => j == i0 || (match l[j]? with
        | some oj => oj.after.any (fun e => Region.binds .any e && (e.on == i0)) || oi.apart l.toArray oj
        | none => true)
     | none => false)

section
variable {l : List Oper} {p : List Nat} {i0 : Nat}
structure RmOk (l : List Oper) (i0 : Nat) (p : List Nat) (oi : Oper) : Prop where
  len : p.length + 1 = l.length
  nodup : p.Nodup
  notin : i0 ∉ p
  all : ∀ i, i < l.length → i ≠ i0 → i ∈ p
  lt : ∀ i ∈ p, i < l.length
  lt0 : i0 < l.length
  sel : Region.noSelect l.toArray = true
  on : ∀ o ∈ l, ∀ e ∈ o.after, e.on < l.length
  gd : ∀ o ∈ l, ∀ g, o.guard = some g → g.1 < l.length ∧ g.1 ≠ i0
  at0 : l[i0]? = some oi
  gd0 : oi.guard = none
  free0 : ∀ e ∈ oi.after, Region.binds .any e = false
  apart : ∀ j oj, l[j]? = some oj → j ≠ i0 → (∃ e ∈ oj.after, Region.binds .any e = true ∧ e.on = i0) ∨ oi.apart l.toArray oj = true
theorem rmB_ok (h : rmB l i0 p = true) : ∃ oi, RmOk l i0 p oi := by
  unfold rmB at h
  rw [Bool.and_eq_true] at h
  obtain ⟨h, h9⟩ := h
  simp only [Bool.and_eq_true, decide_eq_true_eq, List.all_eq_true, List.mem_range, List.contains_iff_mem, Array.all_eq_true', Bool.or_eq_true, beq_iff_eq, List.nodup_cons] at h
  obtain ⟨⟨⟨⟨⟨⟨h1, h2, h2'⟩, h3⟩, h4⟩, h5⟩, h6⟩, h7⟩ := h
  cases hi : l[i0]? with
  | none => rw [hi] at h9; cases h9
  | some oi =>
    rw [hi] at h9
    simp only [Bool.and_eq_true, Option.isNone_iff_eq_none, Array.all_eq_true', List.all_eq_true, List.mem_range, Bool.or_eq_true, beq_iff_eq, Bool.not_eq_true'] at h9
    obtain ⟨⟨g0, f0⟩, ap⟩ := h9
    refine ⟨oi, h1, h2', h2, fun i hi hne => (h3 i hi).resolve_left hne, h4, h5, h6, fun o ho e he => (h7 o ho).1 e he, fun o ho g hg => ?_, hi, g0, f0, fun j oj hj hne => ?_⟩
    · have := (h7 o ho).2
      rw [hg] at this
      simpa using this
    · have hjl : j < l.length := (List.getElem?_eq_some_iff.1 hj).1
      have h := (ap j hjl).resolve_left hne
      rw [hj] at h
      simp only [Bool.or_eq_true, Array.any_eq_true', Bool.and_eq_true, beq_iff_eq] at h
      exact h
variable {oi : Oper}
theorem RmOk.idx_lt (h : RmOk l i0 p oi) {i : Nat} (hi : i < l.length) (hne : i ≠ i0) : p.idxOf i < p.length := List.idxOf_lt_length_of_mem (h.all i hi hne)
theorem RmOk.idx_get (h : RmOk l i0 p oi) {i : Nat} (hi : i < l.length) (hne : i ≠ i0) : p[p.idxOf i]? = some i := by
  rw [List.getElem?_eq_getElem (h.idx_lt hi hne)]
  simp
theorem RmOk.inj (h : RmOk l i0 p oi) {i j : Nat} (hi : i < l.length) (hj : j < l.length) (hi0 : i ≠ i0) (hj0 : j ≠ i0) (e : p.idxOf i = p.idxOf j) : i = j := by
  have h1 := h.idx_get hi hi0
  rw [e, h.idx_get hj hj0] at h1
  exact (Option.some.inj h1).symm
theorem RmOk.get (h : RmOk l i0 p oi) {i : Nat} (hi : i < l.length) (hne : i ≠ i0) : (rmOps l i0 p).toArray[p.idxOf i]? = some (rmO i0 (fun j => p.idxOf j) l[i]) := by
  simp only [rmOps, List.getElem?_toArray, List.getElem?_map, h.idx_get hi hne, Option.map_some, List.getD_eq_getElem?_getD, List.getElem?_eq_getElem hi, Option.getD_some]
theorem RmOk.back (h : RmOk l i0 p oi) {k : Nat} (hk : k < p.length) : ∃ i, i < l.length ∧ i ≠ i0 ∧ p.idxOf i = k :=
  ⟨p[k], h.lt _ (List.getElem_mem hk), fun e => h.notin (e ▸ List.getElem_mem hk), h.nodup.idxOf_getElem k hk⟩
theorem wp_rm {P : Program} {Q : Exit → Act → World → Prop} (s : Nat → Nat) (o : Oper) (a : Act) (w : World) (K : Act → World → Prop) : (rmO i0 s o).wp P a w K Q = o.wp P a w K Q := by
  cases o; rfl
theorem RmOk.wanted (h : RmOk l i0 p oi) {o : Oper} (ho : o ∈ l) (tmps : Array Value) : Region.wanted (rmO i0 (fun j => p.idxOf j) o) (yielded (rmOps l i0 p).toArray tmps) = Region.wanted o (yielded l.toArray tmps) := by
  unfold Region.wanted
  cases hg : o.guard with
  | none => simp [rmO, hg]
  | some g =>
    obtain ⟨hlt, hne⟩ := h.gd o ho g hg
    have e : yielded (rmOps l i0 p).toArray tmps (p.idxOf g.1) = yielded l.toArray tmps g.1 := by
      unfold yielded
      rw [h.get hlt hne]
      simp [rmO, List.getElem?_eq_getElem hlt]
    simp [rmO, hg, e]
structure LikeR (l : List Oper) (i0 : Nat) (p : List Nat) (a b : Array Bool) : Prop where
  sa : a.size = l.length
  sb : b.size = p.length
  get : ∀ i, i < l.length → i ≠ i0 → b[p.idxOf i]? = a[i]?
theorem LikeR.getD {a b : Array Bool} (h : LikeR l i0 p a b) {i : Nat} (hi : i < l.length) (hne : i ≠ i0) (d : Bool) : b.getD (p.idxOf i) d = a.getD i d := by
  rw [Array.getD_eq_getD_getElem?, Array.getD_eq_getD_getElem?, h.get i hi hne]
theorem LikeR.set (ok : RmOk l i0 p oi) {a b : Array Bool} (h : LikeR l i0 p a b) {i : Nat} (hi : i < l.length) (hne : i ≠ i0) : LikeR l i0 p (a.setIfInBounds i true) (b.setIfInBounds (p.idxOf i) true) := by
  refine ⟨by simp [h.sa], by simp [h.sb], fun j hj hj0 => ?_⟩
  rw [Array.getElem?_setIfInBounds, Array.getElem?_setIfInBounds, h.sa, h.sb, if_pos (ok.idx_lt hi hne), if_pos hi, h.get j hj hj0]
  by_cases e : i = j
  · subst e; simp
  · rw [if_neg e, if_neg (fun e' => e (ok.inj hi hj hne hj0 e'))]
theorem LikeR.set0 {a b : Array Bool} (h : LikeR l i0 p a b) : LikeR l i0 p (a.setIfInBounds i0 true) b := by
  refine ⟨by simp [h.sa], h.sb, fun j hj hj0 => ?_⟩
  rw [Array.getElem?_setIfInBounds, if_neg (Ne.symm hj0)]
  exact h.get j hj hj0
/-- An operation that is ready stays so without the load. -/
theorem ready_rm (ok : RmOk l i0 p oi) {a b : Array Bool} (h : LikeR l i0 p a b) {i : Nat} (hne : i ≠ i0) (hr : i ∈ Region.ready .any l.toArray a) : p.idxOf i ∈ Region.ready .any (rmOps l i0 p).toArray b := by
  have hi := ready_lt hr
  rw [mem_ready] at hr ⊢
  rw [h.getD hi hne, ok.get hi hne]
  have e1 : l.toArray[i]? = some l[i] := by simp [List.getElem?_eq_getElem hi]
  rw [e1] at hr
  obtain ⟨h1, o, ho, h2⟩ := hr
  cases ho
  refine ⟨h1, _, rfl, fun e he hb => ?_⟩
  simp only [rmO, Array.mem_map, Array.mem_filter] at he
  obtain ⟨e0, ⟨he0, hne0⟩, rfl⟩ := he
  have hon := ok.on _ (List.getElem_mem hi) e0 he0
  have h3 := h2 e0 he0 hb
  show b.getD (p.idxOf e0.on) false = true
  rw [h.getD hon (by simpa using hne0)]
  exact h3
/-- With the load done the same are ready. -/
theorem ready_rm_back (ok : RmOk l i0 p oi) {a b : Array Bool} (h : LikeR l i0 p a b) (hdone : a.getD i0 false = true) {k : Nat} (hk : k ∈ Region.ready .any (rmOps l i0 p).toArray b) : ∃ i, i ∈ Region.ready .any l.toArray a ∧ i ≠ i0 ∧ p.idxOf i = k := by
  have hk1 := mem_ready.1 hk
  obtain ⟨h1, o, ho, h2⟩ := hk1
  have hkp : k < p.length := by
    have := (Array.getElem?_eq_some_iff.1 ho).1
    simpa [rmOps] using this
  obtain ⟨i, hi, hne, rfl⟩ := ok.back hkp
  refine ⟨i, ?_, hne, rfl⟩
  rw [ok.get hi hne] at ho
  cases ho
  rw [mem_ready]
  rw [h.getD hi hne] at h1
  refine ⟨h1, l[i], by simp [List.getElem?_eq_getElem hi], fun e he hb => ?_⟩
  by_cases he0 : e.on = i0
  · rw [he0]; exact hdone
  · have hon := ok.on _ (List.getElem_mem hi) e he
    have := h2 (renE (fun j => p.idxOf j) e) (by simp only [rmO, Array.mem_map, Array.mem_filter]; exact ⟨e, ⟨he, by simpa using he0⟩, rfl⟩) hb
    rw [← h.getD hon he0]
    exact this
end

/-- No exit. -/
def Qno : Exit → Act → World → Prop := fun _ _ _ => False
theorem letsout_no : ¬ LetsOut Qno := fun ⟨_, _, h⟩ => h
theorem wp_no {P : Program} {o : Oper} {a : Act} {w : World} {K K' : Act → World → Prop} {Q : Exit → Act → World → Prop} (hK : ∀ a w, K a w → K' a w) (h : o.wp P a w K Qno) : o.wp P a w K' Q := by
  unfold Oper.wp at *
  generalize (execOp a.eval o).run P w = r at *
  cases r with
  | ok n w' =>
    cases n <;> simp only [Oper.upon] at h ⊢
    case value => exact hK _ _ h
    case skip => exact hK _ _ h
    case defer => exact hK _ _ h
    case enter =>
      refine Calls.mono h fun e w'' he => ?_
      cases e with
      | returned v => exact hK _ _ he
      | panicked c => exact he.elim
      | outgrown => exact (letsout_no he).elim
    case row => exact Rows.mono h fun _ _ he => hK _ _ he
  | halt x w' => cases x <;> simp only [Oper.upon] at h ⊢; exact h.elim
/-- With the load's value laid ahead. -/
theorem wp_ahead {P : Program} {o : Oper} {a : Act} {w : World} {K K' : Act → World → Prop} {Q : Exit → Act → World → Prop} (d : Tmp) (v : Value) (hx : execOp (a.put (some d) v).eval o = execOp a.eval o) (hd : ∀ d', o.dst = some d' → d' ≠ d)
    (hK : ∀ a' w', a'.eval = a'.eval → (∃ u ds, a' = ({ a with defers := ds } : Act).put o.dst u) → K (a'.put (some d) v) w' → K' a' w') (h : o.wp P (a.put (some d) v) w K Qno) : o.wp P a w K' Q := by
  unfold Oper.wp at *
  rw [hx] at h
  generalize (execOp a.eval o).run P w = r at *
  have key : ∀ u w', K ((a.put (some d) v).put o.dst u) w' → K' (a.put o.dst u) w' := fun u w' hk => by
    refine hK _ _ rfl ⟨u, a.defers, rfl⟩ ?_
    rw [← Act.put_comm a v u (fun d' hd' he => by cases hd'; exact hd _ he rfl)]
    exact hk
  cases r with
  | ok n w' =>
    cases n <;> simp only [Oper.upon] at h ⊢
    case value => exact key _ _ h
    case skip => exact key _ _ h
    case defer x =>
      refine hK _ _ rfl ⟨undef, x :: a.defers, rfl⟩ ?_
      have e : ({ (a.put (some d) v) with defers := x :: (a.put (some d) v).defers } : Act).put o.dst undef = (({ a with defers := x :: a.defers } : Act).put o.dst undef).put (some d) v := by
        rw [← Act.put_comm ({ a with defers := x :: a.defers } : Act) v undef (fun d' hd' he => by cases hd'; exact hd _ he rfl)]
        rfl
      rw [← e]
      exact h
    case enter =>
      refine Calls.mono h fun e w'' he => ?_
      cases e with
      | returned v => exact key _ _ he
      | panicked c => exact he.elim
      | outgrown => exact (letsout_no he).elim
    case row => exact Rows.mono h fun _ _ he => key _ _ he
  | halt x w' => cases x <;> simp only [Oper.upon] at h ⊢; exact h.elim

def wpAnyS (P : Program) (ops : Array Oper) (S : World → Prop) (Qn : Act → World → Prop) : Nat → Array Bool → Act → World → Prop
  | 0, listed, a, w => S w ∧ Region.ready .any ops listed = [] ∧ Qn a w
  | f + 1, listed, a, w => S w ∧ (Region.ready .any ops listed = [] → Qn a w) ∧ ∀ i ∈ Region.ready .any ops listed, ∀ o, ops[i]? = some o →
      if Region.wanted o (yielded ops a.tmps) then o.wp P a w (wpAnyS P ops S Qn f (listed.setIfInBounds i true)) Qno else wpAnyS P ops S Qn f (listed.setIfInBounds i true) (a.put o.dst undef) w

section
variable {P : Program} {l : List Oper} {p : List Nat} {i0 : Nat} {oi : Oper} {S : World → Prop} {Q : Exit → Act → World → Prop}
theorem rm_done (ok : RmOk l i0 p oi) : ∀ (f : Nat) (listed listed' : Array Bool) (a : Act) (w : World), LikeR l i0 p listed listed' → listed.getD i0 false = true →
    wpAnyS P (rmOps l i0 p).toArray S (fun a w => Q .normal a w) f listed' a w → wpAny P .any l.toArray Q f listed a w := by
  have hnil : ∀ (listed listed' : Array Bool), LikeR l i0 p listed listed' → listed.getD i0 false = true → Region.ready .any l.toArray listed = [] → Region.ready .any (rmOps l i0 p).toArray listed' = [] := fun listed listed' hl hd h0 => by
    refine List.eq_nil_iff_forall_not_mem.2 fun k hk => ?_
    obtain ⟨i, hi, _⟩ := ready_rm_back ok hl hd hk
    rw [h0] at hi
    cases hi
  have hne0 : ∀ {listed : Array Bool} {i : Nat}, listed.size = l.length → listed.getD i0 false = true → i ∈ Region.ready .any l.toArray listed → i ≠ i0 := fun {listed i} hs hd hi e => by
    subst e
    have h1 := (mem_ready.1 hi).1
    have hlt : i < listed.size := by rw [hs]; exact ok.lt0
    rw [Array.getD_eq_getD_getElem?, Array.getElem?_eq_getElem hlt] at h1 hd
    simp only [Option.getD_some] at h1 hd
    rw [h1] at hd
    cases hd
  intro f
  induction f with
  | zero =>
    intro listed listed' a w hl hd h
    refine ⟨?_, h.2.2⟩
    refine List.eq_nil_iff_forall_not_mem.2 fun i hi => ?_
    have := ready_rm ok hl (hne0 hl.sa hd hi) hi
    rw [h.2.1] at this
    cases this
  | succ f ih =>
    intro listed listed' a w hl hd h
    refine ⟨fun h0 => h.2.1 (hnil _ _ hl hd h0), fun i hi => ?_⟩
    have hlt := ready_lt hi
    have hne := hne0 hl.sa hd hi
    have h2 := h.2.2 _ (ready_rm ok hl hne hi) _ (ok.get hlt hne)
    unfold wpOp
    have e1 : l.toArray[i]? = some l[i] := by simp [List.getElem?_eq_getElem hlt]
    rw [e1]
    simp only
    rw [ok.wanted (List.getElem_mem hlt), wp_rm] at h2
    have hd' : (listed.setIfInBounds i true).getD i0 false = true := by rw [getD_set_ne false hne]; exact hd
    have hK : ∀ a w, wpAnyS P (rmOps l i0 p).toArray S (fun a w => Q .normal a w) f (listed'.setIfInBounds (p.idxOf i) true) a w → wpAny P .any l.toArray Q f (listed.setIfInBounds i true) a w := fun a w => ih _ _ a w (hl.set ok hlt hne) hd'
    by_cases hw : Region.wanted l[i] (yielded l.toArray a.tmps) = true
    · rw [if_pos hw] at h2 ⊢
      exact .inl (wp_no hK h2)
    · rw [if_neg hw] at h2 ⊢
      exact hK _ _ h2

theorem rm_undone (ok : RmOk l i0 p oi) {d tx : Tmp} {ty : TypeId} {v X : Value} (hd : oi.dst = some d) (hop : oi.op = .load ty (.tmp tx)) (hrun : ∀ (a : Act) w, a.eval (.tmp tx) = X → S w → (execOp a.eval oi).run P w = .ok (.value v) w) :
    ∀ (f : Nat) (listed listed' : Array Bool) (a : Act) (w : World), LikeR l i0 p listed listed' → listed.getD i0 true = false → a.eval (.tmp tx) = X →
    wpAnyS P (rmOps l i0 p).toArray S (fun a w => Q .normal a w) f listed' (a.put (some d) v) w → wpAny P .any l.toArray Q (f + 1) listed a w := by
  have hready : ∀ {listed : Array Bool}, listed.getD i0 true = false → i0 ∈ Region.ready .any l.toArray listed := fun {listed} h => by
    rw [mem_ready]
    have hl0 : l.toArray[i0]? = some oi := by rw [List.getElem?_toArray]; exact ok.at0
    exact ⟨h, oi, hl0, fun e he hb => by rw [ok.free0 e he] at hb; cases hb⟩
  intro f
  induction f with
  | zero =>
    intro listed listed' a w hl hun hX h
    have hr0 := hready hun
    refine ⟨fun h0 => (by rw [h0] at hr0; cases hr0), fun j hj => ?_⟩
    by_cases hj0 : j = i0
    · subst hj0
      unfold wpOp
      have hl0 : l.toArray[j]? = some oi := by rw [List.getElem?_toArray]; exact ok.at0
      have hw : Region.wanted oi (yielded l.toArray a.tmps) = true := by simp [Region.wanted, ok.gd0]
      rw [hl0]
      simp only
      rw [if_pos hw]
      left
      unfold Oper.wp
      rw [hrun a w hX h.1, Oper.upon_value, hd]
      refine rm_done ok 0 _ _ _ w hl.set0 ?_ h
      have hlt : j < listed.size := by rw [hl.sa]; exact ok.lt0
      simp [Array.getD_eq_getD_getElem?, Array.getElem?_setIfInBounds, hlt]
    · have := ready_rm ok hl hj0 hj
      rw [h.2.1] at this
      cases this
  | succ f ih =>
    intro listed listed' a w hl hun hX h
    have hr0 := hready hun
    refine ⟨fun h0 => (by rw [h0] at hr0; cases hr0), fun j hj => ?_⟩
    by_cases hj0 : j = i0
    · subst hj0
      unfold wpOp
      have hl0 : l.toArray[j]? = some oi := by rw [List.getElem?_toArray]; exact ok.at0
      have hw : Region.wanted oi (yielded l.toArray a.tmps) = true := by simp [Region.wanted, ok.gd0]
      rw [hl0]
      simp only
      rw [if_pos hw]
      left
      unfold Oper.wp
      rw [hrun a w hX h.1, Oper.upon_value, hd]
      refine rm_done ok (f + 1) _ _ _ w hl.set0 ?_ h
      have hlt : j < listed.size := by rw [hl.sa]; exact ok.lt0
      simp [Array.getD_eq_getD_getElem?, Array.getElem?_setIfInBounds, hlt]
    · have hlt := ready_lt hj
      have e1 : l.toArray[j]? = some l[j] := by simp [List.getElem?_eq_getElem hlt]
      have h2 := h.2.2 _ (ready_rm ok hl hj0 hj) _ (ok.get hlt hj0)
      rw [ok.wanted (List.getElem_mem hlt), wp_rm] at h2
      have hap : oi.apart l.toArray l[j] = true := by
        rcases ok.apart j l[j] (List.getElem?_eq_getElem hlt) hj0 with ⟨e, he, hb, hon⟩ | h
        · obtain ⟨_, o, ho, hall⟩ := mem_ready.1 hj
          rw [e1] at ho
          cases ho
          have := hall e he hb
          rw [hon] at this
          have hlt0 : i0 < listed.size := by rw [hl.sa]; exact ok.lt0
          rw [Array.getD_eq_getD_getElem?, Array.getElem?_eq_getElem hlt0] at hun this
          simp only [Option.getD_some] at hun this
          rw [hun] at this
          cases this
        · exact h
      obtain ⟨p1, p2, p3⟩ := Oper.apart_spec hap
      have hsel := Region.noSelect_spec ok.sel
      rw [hd] at p1 p2
      have sj : Alike l.toArray l[j] a (a.put (some d) v) := alike_put (fun cs b => hsel j l[j] cs b e1) p1
      have hdd : ∀ d', l[j].dst = some d' → d' ≠ d := fun d' h' e => by
        subst e
        exact p2 d' rfl h'
      have hun' : (listed.setIfInBounds j true).getD i0 true = false := by rw [getD_set_ne true hj0]; exact hun
      have hX' : ∀ (u : Value) ds, (({ a with defers := ds } : Act).put l[j].dst u).eval (.tmp tx) = X := fun u ds => by
        rw [← hX]
        have hne : l[j].dst ≠ some tx := fun e => by
          have := p3 tx e
          apply this
          simp [Oper.looksAt, hop, Op.operands]
        rw [eval_put_ne hne]
        rfl
      unfold wpOp
      rw [e1]
      simp only
      rw [sj.want] at h2
      by_cases hw : Region.wanted l[j] (yielded l.toArray a.tmps) = true
      · rw [if_pos hw] at h2 ⊢
        left
        refine wp_ahead d v sj.exec hdd (fun a' w' _ ha hk => ?_) h2
        obtain ⟨u, ds, rfl⟩ := ha
        exact ih _ _ _ w' (hl.set ok hlt hj0) hun' (hX' u ds) hk
      · rw [if_neg hw] at h2 ⊢
        rw [Act.put_comm a v undef (fun d' hd' he => by cases hd'; exact hdd _ he rfl)] at h2
        exact ih _ _ _ w (hl.set ok hlt hj0) hun' (hX' undef a.defers) h2
end

/-- A row of operations, each behind the other, with S all along. -/
def wpListS (P : Program) (ops : Array Oper) (S : World → Prop) (Qn : Act → World → Prop) : List Oper → Act → World → Prop
  | [], a, w => S w ∧ Qn a w
  | o :: rest, a, w => S w ∧ if Region.wanted o (yielded ops a.tmps) then o.wp P a w (wpListS P ops S Qn rest) Qno else wpListS P ops S Qn rest (a.put o.dst undef) w
def Qone (K : Act → World → Prop) : Exit → Act → World → Prop
  | .normal, a, w => K a w
  | _, _, _ => False
section
variable {P : Program} {ops : Array Oper} {S : World → Prop} {Qn : Act → World → Prop} {o : Oper} {rest : List Oper} {a : Act} {w : World}
theorem wpListS_nil (hS : S w) (h : Qn a w) : wpListS P ops S Qn [] a w := ⟨hS, h⟩
theorem wpListS_step (hS : S w) (h : wpList P ops (Qone (wpListS P ops S Qn rest)) [o] a w) : wpListS P ops S Qn (o :: rest) a w := by
  refine ⟨hS, ?_⟩
  unfold wpList at h
  by_cases hw : Region.wanted o (yielded ops a.tmps) = true
  · rw [if_pos hw] at h ⊢
    rcases h with h | ⟨_, _, _, h⟩
    · unfold Oper.wp at *
      generalize (execOp a.eval o).run P w = r at *
      cases r with
      | ok n w' =>
        cases n <;> simp only [Oper.upon] at h ⊢
        case value => exact h
        case skip => exact h
        case defer => exact h
        case enter =>
          refine Calls.mono h fun e w'' he => ?_
          cases e with
          | returned v => exact he
          | panicked c => exact he.elim
          | outgrown => obtain ⟨_, _, he⟩ := he; exact he.elim
        case row => exact h
      | halt x w' => cases x <;> simp only [Oper.upon] at h ⊢; exact h.elim
    · exact h.elim
  · rw [if_neg hw] at h ⊢
    exact h
theorem wpListS_one (h : wpListS P ops S Qn rest a w) : wpList P ops (Qone (wpListS P ops S Qn rest)) [] a w := h
end
theorem wpAnyS_of_seq {P : Program} {ops : Array Oper} {S : World → Prop} {Qn : Act → World → Prop} : ∀ (l : List Oper) (k : Nat) (listed : Array Bool) (a : Act) (w : World), (∀ j, l[j]? = ops[k + j]?) →
    Region.seqB .any ops l.length k listed = true → wpListS P ops S Qn l a w → wpAnyS P ops S Qn l.length listed a w
  | [], _, _, _, _, _, hB, h => ⟨h.1, by simpa [Region.seqB] using hB, h.2⟩
  | o :: l, k, listed, a, w, hl, hB, h => by
    have h0 : ops[k]? = some o := by simpa using (hl 0).symm
    simp only [List.length_cons, Region.seqB, Bool.and_eq_true, decide_eq_true_eq] at hB
    refine ⟨h.1, fun h1 => (by rw [hB.1] at h1; cases h1), fun i hi o' ho' => ?_⟩
    rw [hB.1] at hi
    have hik : i = k := by simpa using hi
    subst hik
    rw [h0] at ho'
    cases ho'
    have h2 := h.2
    have hK : ∀ a' w', wpListS P ops S Qn l a' w' → wpAnyS P ops S Qn l.length (listed.setIfInBounds i true) a' w' := fun a' w' h' => wpAnyS_of_seq l (i + 1) _ a' w' (fun j => by have := hl (j + 1); simpa [Nat.add_assoc, Nat.add_comm 1 j] using this) hB.2 h'
    by_cases hw : Region.wanted o (yielded ops a.tmps) = true
    · rw [if_pos hw] at h2 ⊢
      exact wp_no hK h2
    · rw [if_neg hw] at h2 ⊢
      exact hK _ _ h2

section
variable {P : Program} {ops : Array Oper} {G : Tmp → Option Rel} {w0 : World} {n : Nat} {L : Array Bool → Act → Prop} {S : World → Prop} {Qn : Act → World → Prop}
theorem wpAnyS_of_H {g : Nat} (hF : Fed ops .any G) (hS : ∀ w, Le w0 w → S w) (hL : ∀ listed a w, L listed a → Inv ops G w0 listed a w → wpAnyS P ops S Qn g listed a w) :
    ∀ (f : Nat) (listed : Array Bool) (a : Act) (w : World), Inv ops G w0 listed a w → wpAnyH P ops .any G w0 n L f listed a → wpAnyS P ops S Qn (f + g) listed a w
  | 0, _, _, w, hw, h => by rw [Nat.zero_add]; exact hL _ _ w h hw
  | fuel + 1, listed, a, w, hw, h => by
    rw [show fuel + 1 + g = (fuel + g) + 1 by omega]
    refine ⟨hS w hw.1, fun h0 => absurd h0 h.1, fun i hi o ho => ?_⟩
    obtain ⟨hg, hn⟩ := (h.2 i hi).2 o ho
    by_cases hwt : Region.wanted o (yielded ops a.tmps) = true
    · simp only [hwt, if_true]
      have h1 := hg hwt w (hw.lean hF hi ho)
      have next : ∀ u w', Le w w' → relOf P G w0 o a u w' → wpAnyS P ops S Qn (fuel + g) (listed.setIfInBounds i true) (a.put o.dst u) w' := fun u w' hl hr => by
        have hI := (hw.mono hl).put hF ho (u := u) (fun d R hd hR _ => rel_of hr d R hd hR)
        exact wpAnyS_of_H hF hS hL fuel _ _ w' hI (hn u (.inl ⟨hwt, ⟨w', hI⟩, ⟨w', hr⟩⟩))
      unfold gives at h1
      unfold Oper.wp
      generalize (execOp a.eval o).run P w = r at *
      cases r with
      | ok n w' =>
        cases n <;> simp only [givesUpon] at h1 <;> simp only [Oper.upon]
        case value u => exact next _ _ h1.1 h1.2
        case skip => exact next _ _ h1.1 h1.2
        case enter f args => exact h1.2.mono fun e w'' ⟨v, he, hl, hr⟩ => by subst he; exact next _ _ (h1.1.trans hl) hr
      | halt x w' => simp only [givesUpon] at h1
    · simp only [hwt]
      exact wpAnyS_of_H hF hS hL fuel _ _ w (hw.put hF ho (fun d R hd hR h => absurd rfl h)) (hn undef (.inr ⟨by simpa using hwt, rfl⟩))
end

/-- The tail's rule, with a load that the tail does not wait for. -/
theorem wp_region_free {P : Program} {id : Nat} {Q : Exit → Act → World → Prop} {a : Act} {w : World} {l0 l : List Oper} (i0 : Nat) (p : List Nat) (hp : rmB l0 i0 p = true) (hl : rmOps l0 i0 p = l) (oi : Oper) (hi0 : l0[i0]? = some oi) (d tx : Tmp) (ty : TypeId) (hd0 : oi.dst = some d) (hop : oi.op = .load ty (.tmp tx))
    (v : Value) (S : World → Prop) (hS : ∀ w', Le w w' → S w') (hrun : ∀ (a' : Act) w', a'.eval (.tmp tx) = a.eval (.tmp tx) → S w' → (execOp a'.eval oi).run P w' = .ok (.value v) w')
    (g : List (Tmp × Rel)) (nt m : Nat) (hm : P.follows .mixedOrders = true) (hB : Region.lexTailB .any l.toArray m = true)
    (hf : fedB l (g.map (·.1)) nt = true) (hn : a.tmps.size = nt) (h : wpG P l.toArray (openOf g) w (fun a' w' => wpListS P l.toArray S (fun a w => Q .normal a w) (l.drop m) a' w') (l.take m) (a.put (some d) v) (fun _ => True)) : (Code.region id l0.toArray true).wp P Q a w := by
  obtain ⟨oi', ok⟩ := rmB_ok hp
  obtain rfl : oi' = oi := by have := ok.at0; rw [hi0] at this; exact (Option.some.inj this).symm
  simp only [Region.lexTailB, Bool.and_eq_true, decide_eq_true_eq] at hB
  obtain ⟨⟨⟨⟨hsel, hn'⟩, hs⟩, hc⟩, hlex⟩ := hB
  obtain ⟨hF, hd⟩ := fedB_fed (n := nt) hf
  have hnl : m < l.length := by simpa using hn'
  have htl : (l.take m).length = m := by simp; omega
  have hdl : (l.drop m).length = l.toArray.size - m := by simp
  have hI : ∀ w', Le w w' → Inv l.toArray (openOf g) w (Array.replicate l.toArray.size false) (a.put (some d) v) w' := fun w' hl => ⟨hl, fun k o d R _ hk => by
    exfalso
    rw [getD_replicate_false] at hk
    cases hk⟩
  have inv0 : HeadInv .any l.toArray m (Array.replicate l.toArray.size false) :=
    ⟨by simp, fun j oj _ hl => (by rw [getD_replicate_false] at hl; cases hl), fun t _ ht => getD_in (by simpa using ht) (getD_replicate_false _ _)⟩
  have H := wpAnyH_lex (md := .any) (g := l.toArray.size - m) hF hsel hs hc hn' nt hd (l.take m) 0 _ (a.put (some d) v) (fun _ => True) (fun j hj => by
    have hj' : j < m := by rw [htl] at hj; exact hj
    simp [hj']) (by simpa using htl) inv0 (by rw [htl]; exact hlex) (by rw [put_size]; exact hn) ⟨_, hI w (Le.refl w)⟩ (fun _ _ => trivial) h
  have hlen : l.length + 1 = l0.length := by rw [← hl]; simp [rmOps, ok.len]
  refine wp_region_any hm ?_
  have hb1 : Le w { w with drawn := w.drawn + 1 } := (Below.refl _ _).drew
  have := wpAnyS_of_H (Qn := fun a w => Q .normal a w) (g := l.toArray.size - m) hF hS (fun listed a' w' hL hw => by
    have := wpAnyS_of_seq (P := P) (S := S) (Qn := fun a w => Q .normal a w) (l.drop m) m listed a' w' (fun j => by simp [List.getElem?_drop]) (by rw [hdl]; exact hL.1) (hL.2 w' hw)
    rwa [hdl] at this) _ _ _ _ (hI _ hb1) H
  rw [htl, show m + (l.toArray.size - m) = l.toArray.size by omega] at this
  have e : l0.toArray.size = l.toArray.size + 1 := by simp [hlen]
  rw [e]
  refine rm_undone ok hd0 hop hrun _ _ (Array.replicate l.toArray.size false) _ _ ⟨by simp [hlen], ?_, fun i hi hne => ?_⟩ ?_ rfl (by rw [hl]; exact this)
  · have := ok.len; simp; omega
  · rw [Array.getElem?_replicate, Array.getElem?_replicate]
    have h1 := ok.idx_lt hi hne
    have h2 := ok.len
    have h3 : p.idxOf i < l.length := by omega
    have h4 : i < l.length + 1 := by omega
    simp [h3, h4]
  · have h5 := ok.lt0
    have h4 : i0 < l.length + 1 := by omega
    simp [Array.getD_eq_getD_getElem?, Array.getElem?_replicate, h4]
end Go.Proofs.Ytlagodbkkkdmkaa
