/- A region that draws its order, its operations told in another order of the text: what holds there, holds of the region; so the tail's rule serves where an operation that no other waits for stands behind an append. -/
import Derived.Test.YtlagodbkkkdmkaaTail
namespace Go.Proofs.Ytlagodbkkkdmkaa
set_option linter.unusedVariables false
set_option linter.unusedSimpArgs false
open Go Go.RowKit

def renE (s : Nat → Nat) (e : Edge) : Edge := ⟨s e.on, e.ground⟩
def renO (s : Nat → Nat) (o : Oper) : Oper := ⟨o.dst, o.op, o.type, o.pos, o.after.map (renE s), o.guard.map fun g => (s g.1, g.2)⟩
def permOps (l : List Oper) (p : List Nat) : List Oper := p.map fun i => renO (fun j => p.idxOf j) (l.getD i default)
def permB (l : List Oper) (p : List Nat) : Bool :=
  decide (p.length = l.length) && decide p.Nodup && (List.range l.length).all (fun i => p.contains i) && p.all (fun i => decide (i < l.length)) &&
    l.all fun o => o.after.all (fun e => decide (e.on < l.length)) && (match o.guard with | some g => decide (g.1 < l.length) | none => true)

section
variable {l : List Oper} {p : List Nat}
structure PermOk (l : List Oper) (p : List Nat) : Prop where
  len : p.length = l.length
  nodup : p.Nodup
  all : ∀ i, i < l.length → i ∈ p
  lt : ∀ i ∈ p, i < l.length
  on : ∀ o ∈ l, ∀ e ∈ o.after, e.on < l.length
  gd : ∀ o ∈ l, ∀ g, o.guard = some g → g.1 < l.length
theorem permB_ok (h : permB l p = true) : PermOk l p := by
  simp only [permB, Bool.and_eq_true, decide_eq_true_eq, List.all_eq_true, List.mem_range, List.contains_iff_mem, Array.all_eq_true'] at h
  obtain ⟨⟨⟨⟨h1, h2⟩, h3⟩, h4⟩, h5⟩ := h
  refine ⟨h1, h2, h3, h4, fun o ho e he => ?_, fun o ho g hg => ?_⟩
  · exact (h5 o ho).1 e he
  · have := (h5 o ho).2
    rw [hg] at this
    simpa using this
theorem PermOk.idx_lt (h : PermOk l p) {i : Nat} (hi : i < l.length) : p.idxOf i < l.length := by rw [← h.len]; exact List.idxOf_lt_length_of_mem (h.all i hi)
theorem PermOk.idx_get (h : PermOk l p) {i : Nat} (hi : i < l.length) : p[p.idxOf i]? = some i := by
  have hm := h.all i hi
  rw [List.getElem?_eq_getElem (List.idxOf_lt_length_of_mem hm)]
  simp
theorem PermOk.inj (h : PermOk l p) {i j : Nat} (hi : i < l.length) (hj : j < l.length) (e : p.idxOf i = p.idxOf j) : i = j := by
  have h1 := h.idx_get hi
  rw [e, h.idx_get hj] at h1
  exact (Option.some.inj h1).symm
theorem PermOk.get (h : PermOk l p) {i : Nat} (hi : i < l.length) : (permOps l p).toArray[p.idxOf i]? = some (renO (fun j => p.idxOf j) l[i]) := by
  simp only [permOps, List.getElem?_toArray, List.getElem?_map, h.idx_get hi, Option.map_some, List.getD_eq_getElem?_getD, List.getElem?_eq_getElem hi, Option.getD_some]
theorem PermOk.back (h : PermOk l p) {k : Nat} (hk : k < l.length) : ∃ i, i < l.length ∧ p.idxOf i = k := by
  have hk' : k < p.length := by rw [h.len]; exact hk
  refine ⟨p[k], h.lt _ (List.getElem_mem hk'), ?_⟩
  exact h.nodup.idxOf_getElem k hk'

theorem wp_ren {P : Program} {Q : Exit → Act → World → Prop} (s : Nat → Nat) (o : Oper) (a : Act) (w : World) (K : Act → World → Prop) : (renO s o).wp P a w K Q = o.wp P a w K Q := by
  cases o; rfl
theorem asks_ren {P : Program} (s : Nat → Nat) (o : Oper) (a : Act) (w : World) : (renO s o).asks P a w = o.asks P a w := by
  cases o; rfl
theorem PermOk.wanted (h : PermOk l p) {o : Oper} (ho : o ∈ l) (tmps : Array Value) : Region.wanted (renO (fun j => p.idxOf j) o) (yielded (permOps l p).toArray tmps) = Region.wanted o (yielded l.toArray tmps) := by
  unfold Region.wanted
  cases hg : o.guard with
  | none => simp [renO, hg]
  | some g =>
    have hlt := h.gd o ho g hg
    have e : yielded (permOps l p).toArray tmps (p.idxOf g.1) = yielded l.toArray tmps g.1 := by
      unfold yielded
      rw [h.get hlt]
      simp [renO, List.getElem?_eq_getElem hlt]
    simp [renO, hg, e]
structure LikeB (l : List Oper) (p : List Nat) (a b : Array Bool) : Prop where
  sa : a.size = l.length
  sb : b.size = l.length
  get : ∀ i, i < l.length → b[p.idxOf i]? = a[i]?
theorem LikeB.getD {a b : Array Bool} (h : LikeB l p a b) {i : Nat} (hi : i < l.length) (d : Bool) : b.getD (p.idxOf i) d = a.getD i d := by
  rw [Array.getD_eq_getD_getElem?, Array.getD_eq_getD_getElem?, h.get i hi]
theorem LikeB.set (ok : PermOk l p) {a b : Array Bool} (h : LikeB l p a b) {i : Nat} (hi : i < l.length) : LikeB l p (a.setIfInBounds i true) (b.setIfInBounds (p.idxOf i) true) := by
  refine ⟨by simp [h.sa], by simp [h.sb], fun j hj => ?_⟩
  rw [Array.getElem?_setIfInBounds, Array.getElem?_setIfInBounds, h.sa, h.sb, if_pos (ok.idx_lt hi), if_pos hi, h.get j hj]
  by_cases e : i = j
  · subst e; simp
  · rw [if_neg e, if_neg (fun e' => e (ok.inj hi hj e'))]
theorem ready_perm (ok : PermOk l p) {md : Region.Mode} {a b : Array Bool} (h : LikeB l p a b) {i : Nat} (hi : i < l.length) : p.idxOf i ∈ Region.ready md (permOps l p).toArray b ↔ i ∈ Region.ready md l.toArray a := by
  rw [mem_ready, mem_ready, h.getD hi, ok.get hi]
  have e1 : l.toArray[i]? = some l[i] := by simp [List.getElem?_eq_getElem hi]
  rw [e1]
  constructor
  · rintro ⟨h1, o, ho, h2⟩
    cases ho
    refine ⟨h1, _, rfl, fun e he hb => ?_⟩
    have hon := ok.on _ (List.getElem_mem hi) e he
    have := h2 (renE (fun j => p.idxOf j) e) (by simp only [renO, Array.mem_map]; exact ⟨e, he, rfl⟩) hb
    rw [← h.getD hon]
    exact this
  · rintro ⟨h1, o, ho, h2⟩
    cases ho
    refine ⟨h1, _, rfl, fun e he hb => ?_⟩
    simp only [renO, Array.mem_map] at he
    obtain ⟨e0, he0, rfl⟩ := he
    have hon := ok.on _ (List.getElem_mem hi) e0 he0
    have h3 := h2 e0 he0 hb
    show b.getD (p.idxOf e0.on) false = true
    rw [h.getD hon]
    exact h3
theorem ready_lt {md : Region.Mode} {a : Array Bool} {i : Nat} (h : i ∈ Region.ready md l.toArray a) : i < l.length := by
  obtain ⟨_, o, ho, _⟩ := mem_ready.1 h
  simpa using (Array.getElem?_eq_some_iff.1 ho).1
theorem wpAny_perm {P : Program} {md : Region.Mode} {Q : Exit → Act → World → Prop} (ok : PermOk l p) : ∀ (fuel : Nat) (listed listed' : Array Bool) (a : Act) (w : World), LikeB l p listed listed' →
    wpAny P md (permOps l p).toArray Q fuel listed' a w → wpAny P md l.toArray Q fuel listed a w := by
  have hnil : ∀ (listed listed' : Array Bool), LikeB l p listed listed' → Region.ready md l.toArray listed = [] → Region.ready md (permOps l p).toArray listed' = [] := fun listed listed' hl h0 => by
    refine List.eq_nil_iff_forall_not_mem.2 fun k hk => ?_
    obtain ⟨_, o, ho, _⟩ := mem_ready.1 hk
    have hk2 : k < l.length := by
      have := (Array.getElem?_eq_some_iff.1 ho).1
      simpa [permOps, ok.len] using this
    obtain ⟨i, hi, rfl⟩ := ok.back hk2
    have := (ready_perm ok hl hi).1 hk
    rw [h0] at this
    cases this
  intro fuel
  induction fuel with
  | zero =>
    intro listed listed' a w hl h
    refine ⟨?_, h.2⟩
    refine List.eq_nil_iff_forall_not_mem.2 fun i hi => ?_
    have := (ready_perm ok hl (ready_lt hi)).2 hi
    rw [h.1] at this
    cases this
  | succ fuel ih =>
    intro listed listed' a w hl h
    refine ⟨fun h0 => h.1 (hnil _ _ hl h0), fun i hi => ?_⟩
    have hlt := ready_lt hi
    have h2 := h.2 _ ((ready_perm ok hl hlt).2 hi)
    unfold wpOp at h2 ⊢
    have e1 : l.toArray[i]? = some l[i] := by simp [List.getElem?_eq_getElem hlt]
    rw [ok.get hlt] at h2
    rw [e1]
    simp only at h2 ⊢
    rw [ok.wanted (List.getElem_mem hlt)] at h2
    have hK : ∀ a w, wpAny P md (permOps l p).toArray Q fuel (listed'.setIfInBounds (p.idxOf i) true) a w → wpAny P md l.toArray Q fuel (listed.setIfInBounds i true) a w := fun a w => ih _ _ a w (hl.set ok hlt)
    by_cases hw : Region.wanted l[i] (yielded l.toArray a.tmps) = true
    · rw [if_pos hw] at h2 ⊢
      rw [wp_ren, asks_ren] at h2
      exact h2.imp (Oper.wp_mono hK) id
    · rw [if_neg hw] at h2 ⊢
      exact hK _ _ h2
end

/-- The tail's rule, for operations told in another order. -/
theorem wp_region_tailp {P : Program} {id : Nat} {Q : Exit → Act → World → Prop} {a : Act} {w : World} {l0 l : List Oper} (p : List Nat) (hp : permB l0 p = true) (hl : permOps l0 p = l) (g : List (Tmp × Rel)) (nt m : Nat) (hm : P.follows .mixedOrders = true) (hB : Region.lexTailB .any l.toArray m = true)
    (hf : fedB l (g.map (·.1)) nt = true) (hn : a.tmps.size = nt) (h : wpG P l.toArray (openOf g) w (fun a' w' => wpList P l.toArray Q (l.drop m) a' w') (l.take m) a (fun _ => True)) : (Code.region id l0.toArray true).wp P Q a w := by
  simp only [Region.lexTailB, Bool.and_eq_true, decide_eq_true_eq] at hB
  obtain ⟨⟨⟨⟨hsel, hn'⟩, hs⟩, hc⟩, hlex⟩ := hB
  obtain ⟨hF, hd⟩ := fedB_fed (n := nt) hf
  have hnl : m < l.length := by simpa using hn'
  have htl : (l.take m).length = m := by simp; omega
  have hdl : (l.drop m).length = l.toArray.size - m := by simp
  have hI : ∀ w', Le w w' → Inv l.toArray (openOf g) w (Array.replicate l.toArray.size false) a w' := fun w' hl => ⟨hl, fun k o d R _ hk => by
    exfalso
    rw [getD_replicate_false] at hk
    cases hk⟩
  have inv0 : HeadInv .any l.toArray m (Array.replicate l.toArray.size false) :=
    ⟨by simp, fun j oj _ hl => (by rw [getD_replicate_false] at hl; cases hl), fun t _ ht => getD_in (by simpa using ht) (getD_replicate_false _ _)⟩
  have H := wpAnyH_lex (md := .any) (g := l.toArray.size - m) hF hsel hs hc hn' nt hd (l.take m) 0 _ a (fun _ => True) (fun j hj => by
    have hj' : j < m := by rw [htl] at hj; exact hj
    simp [hj']) (by simpa using htl) inv0 (by rw [htl]; exact hlex) hn ⟨_, hI w (Le.refl w)⟩ (fun _ _ => trivial) h
  have ok := permB_ok hp
  have hlen : l.length = l0.length := by rw [← hl]; simp [permOps, ok.len]
  refine wp_region_any hm ?_
  have := wpAny_of_H (Q := Q) (g := l.toArray.size - m) hF (fun listed a' w' hL hw => by
    have := wpAny_of_seq (md := .any) (Q' := Q) (l.drop m) m listed a' w' (fun j => by simp [List.getElem?_drop]) (by rw [hdl]; exact hL.1) (hL.2 w' hw)
    rwa [hdl] at this) _ _ _ _ (hI { w with drawn := w.drawn + 1 } ((Below.refl _ _).drew)) H
  rw [htl, show m + (l.toArray.size - m) = l.toArray.size by omega] at this
  refine wpAny_perm ok _ _ (Array.replicate l.toArray.size false) _ _ ⟨by simp, by simp [hlen], fun i hi => ?_⟩ ?_
  · rw [Array.getElem?_replicate, Array.getElem?_replicate]
    have h1 := ok.idx_lt hi
    simp [hlen, h1, hi]
  · rw [hl]
    have e : l0.toArray.size = l.toArray.size := by simp [hlen]
    rw [e]
    exact this
end Go.Proofs.Ytlagodbkkkdmkaa
