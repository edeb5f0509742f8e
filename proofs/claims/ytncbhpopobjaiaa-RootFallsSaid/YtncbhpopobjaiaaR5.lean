/- A region that draws its order, whose calls make memory, and whose last operations (a store, an append) wait for all the others: the others walked once, in the order of the text. -/
import Derived.Test.YtncbhpopobjaiaaR3
import Derived.StillTail
import Derived.Test.YtncbhpopobjaiaaR1
import Derived.Test.YtncbhpopobjaiaaR4
import Derived.Laws.IdiomCopy
import Derived.Lib.AppendZerosOnto
import Derived.Deep.RegionLaw
import Derived.OrdersHeld
namespace Go.Proofs.Ytncbhpopobjaiaa
open Go Go.RowKit

section
variable (P : Program) (ops : Array Oper) (md : Region.Mode) (G : Tmp → Option Rel) (w0 : World) (n : Nat) (L : Array Bool → Act → Prop)
def wpAnyH : Nat → Array Bool → Act → Prop
  | 0, listed, a => L listed a
  | f + 1, listed, a => Region.ready md ops listed ≠ [] ∧ ∀ i ∈ Region.ready md ops listed, i < n ∧ gOp P ops G w0 i listed (wpAnyH f (listed.setIfInBounds i true)) a
end
section
variable {P : Program} {ops : Array Oper} {md : Region.Mode} {G : Tmp → Option Rel} {w0 : World} {n : Nat} {L : Array Bool → Act → Prop}

theorem wpAnyH_first (hF : Fed ops md G) {i : Nat} {oi : Oper} (hi : ops[i]? = some oi) (hsel : ∀ (j : Nat) (o : Oper) cs b, ops[j]? = some o → o.op ≠ .select cs b)
    (hs : Region.sinkB md ops n = true) (hc : Region.chainB md ops n = true) (hn : n < ops.size) (hin : i < n)
    (hdone : ∀ listed a, L listed a → ∀ j ∈ Region.ready md ops listed, n ≤ j) :
    ∀ (fuel : Nat) (listed : Array Bool) (a : Act), HeadInv md ops n listed →
      (∀ j oj, ops[j]? = some oj → j ≠ i → listed.getD j true = false → (∀ e ∈ oj.after, Region.binds md e = true → e.on ≠ i) → oi.apart ops oj = true) →
      i ∈ Region.ready md ops listed → (∃ w, Inv ops G w0 listed a w) →
      gOp P ops G w0 i listed (wpAnyH P ops md G w0 n L fuel (listed.setIfInBounds i true)) a → wpAnyH P ops md G w0 n L (fuel + 1) listed a := by
  intro fuel
  induction fuel with
  | zero =>
    intro listed a inv _ hr hne H
    have hun := (mem_ready.1 hr).1
    refine ⟨fun h => (by rw [h] at hr; cases hr), fun j hj => ?_⟩
    have hjn : j < n := by
      rcases Nat.lt_or_ge j n with h | h
      · exact h
      · exact absurd hj (tail_waits hs hc hn inv _ i rfl hin hun j h)
    refine ⟨hjn, ?_⟩
    by_cases hji : j = i
    · subst hji; exact H
    · obtain ⟨u, hp, _⟩ := exists_poss hF hr hi hne (H oi hi).1
      have h1 := (H oi hi).2 u hp
      have := hdone _ _ h1 j (ready_mono hj hji)
      omega
  | succ fuel ih =>
    intro listed a inv hfree hr hne H
    have hiun := (mem_ready.1 hr).1
    refine ⟨fun h => (by rw [h] at hr; cases hr), fun j hj => ?_⟩
    have hjn : j < n := by
      rcases Nat.lt_or_ge j n with h | h
      · exact h
      · exact absurd hj (tail_waits hs hc hn inv _ i rfl hin hiun j h)
    refine ⟨hjn, ?_⟩
    by_cases hji : j = i
    · subst hji; exact H
    obtain ⟨hgi, hnext⟩ := H oi hi
    obtain ⟨v0, hp0, _⟩ := exists_poss hF hr hi hne hgi
    obtain ⟨hjun, oj', hoj', hall⟩ := mem_ready.1 hj
    have hnot : ∀ e ∈ oj'.after, Region.binds md e = true → e.on ≠ i := fun e he hb heq => by
      have h1 := hall e he hb
      rw [heq, getD_both hiun] at h1
      cases h1
    intro oj hoj
    obtain rfl : oj' = oj := by rw [hoj] at hoj'; injection hoj' with h; exact h.symm
    have hap := hfree j oj' hoj hji hjun hnot
    obtain ⟨p1, p2, p3⟩ := Oper.apart_spec hap
    have sj : ∀ v, Alike ops oj' a (a.put oi.dst v) := fun v => alike_put (fun cs b => hsel j oj' cs b hoj) p1
    have si : ∀ u, Alike ops oi a (a.put oj'.dst u) := fun u => alike_put (fun cs b => hsel i oi cs b hi) p3
    have hjr := ready_mono hj hji
    refine ⟨fun hwt w hw => ?_, fun u hu => ?_⟩
    · have h1 := (((hnext v0 hp0).2 j hjr).2 oj' hoj).1 (by rw [(sj v0).want]; exact hwt) w ((sj v0).symm.lean hw)
      exact (sj v0).gives h1
    · have hne' : ∃ w, Inv ops G w0 (listed.setIfInBounds j true) (a.put oj'.dst u) w := by
        rcases hu with ⟨_, h, _⟩ | ⟨_, rfl⟩
        · exact h
        · obtain ⟨w, hw⟩ := hne
          exact ⟨w, hw.put hF hoj (fun d R hd hR h => absurd rfl h)⟩
      have hiun' : (listed.setIfInBounds j true).getD i true = false := by rw [getD_set_ne true hji]; exact hiun
      have hfree' : ∀ k ok, ops[k]? = some ok → k ≠ i → (listed.setIfInBounds j true).getD k true = false →
          (∀ e ∈ ok.after, Region.binds md e = true → e.on ≠ i) → oi.apart ops ok = true := fun k ok hk hki hun hno => by
        refine hfree k ok hk hki ?_ hno
        by_cases hjk : j = k
        · subst hjk; exact hjun
        · rw [getD_set_ne true hjk] at hun; exact hun
      refine ih (listed.setIfInBounds j true) (a.put oj'.dst u) (inv.set hj hjn) hfree' (ready_mono hr (Ne.symm hji)) hne' ?_
      intro oi' hoi'
      obtain rfl : oi = oi' := by rw [hi] at hoi'; injection hoi' with h
      refine ⟨fun hwt w hw => ?_, fun v hv => ?_⟩
      · exact (si u).symm.gives (hgi (by rw [← (si u).want]; exact hwt) w ((si u).lean hw))
      · have hI : ∃ w, Inv ops G w0 ((listed.setIfInBounds i true).setIfInBounds j true) ((a.put oi.dst v).put oj'.dst u) w := by
          rcases hv with ⟨_, ⟨w, hw⟩, _⟩ | ⟨_, rfl⟩
          · exact ⟨w, hw.comm hji (fun d hd he => p2 d he hd)⟩
          · obtain ⟨w, hw⟩ := hne'
            exact ⟨w, (hw.put hF hi (fun d R hd hR h => absurd rfl h)).comm hji (fun d hd he => p2 d he hd)⟩
        have hpi : Poss P ops G w0 i listed oi a v := by
          rcases hv with ⟨h1, _, w2, h2⟩ | ⟨h1, h2⟩
          · refine .inl ⟨by rw [← (si u).want]; exact h1, ?_, w2, by rw [← (si u).rel]; exact h2⟩
            obtain ⟨w, hw⟩ := hI
            exact ⟨w, hw.less hF hoj (by rw [getD_set_ne true (Ne.symm hji)]; exact hjun)⟩
          · exact .inr ⟨by rw [← (si u).want]; exact h1, h2⟩
        have hk := (((hnext v hpi).2 j hjr).2 oj' hoj).2 u (by
          rcases hu with ⟨h1, _, w2, h2⟩ | ⟨h1, h2⟩
          · exact .inl ⟨by rw [(sj v).want]; exact h1, hI, w2, by rw [(sj v).rel]; exact h2⟩
          · exact .inr ⟨by rw [(sj v).want]; exact h1, h2⟩)
        rw [Array.setIfInBounds_comm _ _ hji, Act.put_comm a u v (fun d hd he => p2 d he hd)]
        exact hk

theorem wpAny_of_H {g : Nat} {Q : Exit → Act → World → Prop} (hF : Fed ops md G) (hL : ∀ listed a w, L listed a → Inv ops G w0 listed a w → wpAny P md ops Q g listed a w) :
    ∀ (f : Nat) (listed : Array Bool) (a : Act) (w : World), Inv ops G w0 listed a w → wpAnyH P ops md G w0 n L f listed a → wpAny P md ops Q (f + g) listed a w
  | 0, _, _, w, hw, h => by rw [Nat.zero_add]; exact hL _ _ w h hw
  | fuel + 1, listed, a, w, hw, h => by
    rw [show fuel + 1 + g = (fuel + g) + 1 by omega]
    refine ⟨fun h0 => absurd h0 h.1, fun i hi => ?_⟩
    obtain ⟨hun, o, ho, _⟩ := mem_ready.1 hi
    obtain ⟨hg, hn⟩ := (h.2 i hi).2 o ho
    unfold wpOp
    simp only [ho]
    by_cases hwt : Region.wanted o (yielded ops a.tmps) = true
    · simp only [hwt, if_true]
      left
      have h1 := hg hwt w (hw.lean hF hi ho)
      have next : ∀ u w', Le w w' → relOf P G w0 o a u w' → wpAny P md ops Q (fuel + g) (listed.setIfInBounds i true) (a.put o.dst u) w' := fun u w' hl hr => by
        have hI := (hw.mono hl).put hF ho (u := u) (fun d R hd hR _ => rel_of hr d R hd hR)
        exact wpAny_of_H hF hL fuel _ _ w' hI (hn u (.inl ⟨hwt, ⟨w', hI⟩, ⟨w', hr⟩⟩))
      unfold gives at h1
      unfold Oper.wp
      generalize (execOp a.eval o).run P w = r at *
      cases r with
      | ok n w' =>
        cases n <;> simp only [givesUpon] at h1 <;> simp only [Oper.upon]
        case value u => exact next _ _ h1.1 h1.2
        case skip => exact next _ _ h1.1 h1.2
        case enter f args => exact h1.2.mono fun e w'' ⟨v, he, hl, hr⟩ => by subst he; exact next _ _ (h1.1.trans hl) hr
      | halt x w' => simp only [givesUpon] at h1
    · simp only [hwt]
      exact wpAny_of_H hF hL fuel _ _ w (hw.put hF ho (fun d R hd hR h => absurd rfl h)) (hn undef (.inr ⟨by simpa using hwt, rfl⟩))

attribute [local semireducible] wpG in
theorem wpAnyH_lex {g : Nat} {Tn : Act → World → Prop} (hF : Fed ops md G) (hsel : Region.noSelect ops = true) (hs : Region.sinkB md ops n = true) (hc : Region.chainB md ops n = true) (hn : n < ops.size) (nt : Nat) (hd : ∀ o ∈ ops, ∀ d, o.dst = some d → d < nt) :
    ∀ (l : List Oper) (k : Nat) (listed : Array Bool) (a : Act) (S : World → Prop), (∀ j, j < l.length → l[j]? = ops[k + j]?) → k + l.length = n → HeadInv md ops n listed →
    Region.lexHead md ops g l.length k listed = true → a.tmps.size = nt → (∃ w, Inv ops G w0 listed a w) → (∀ w, Inv ops G w0 listed a w → S w) → wpG P ops G w0 Tn l a S →
    wpAnyH P ops md G w0 n (fun listed' a' => Region.seqB md ops g n listed' = true ∧ ∀ w, Inv ops G w0 listed' a' w → Tn a' w) l.length listed a
  | [], k, listed, a, S, _, hk, _, hB, _, _, hS, h => by
    have : k = n := by simpa using hk
    subst this
    unfold wpG at h
    exact ⟨by simpa [Region.lexHead] using hB, fun w hw => h w hw.1 (hS w hw)⟩
  | o :: l, k, listed, a, S, hl, hk, inv, hB, ha, hne, hS, h => by
    have h0 : ops[k]? = some o := by simpa using (hl 0 (by simp)).symm
    simp only [List.length_cons, Region.lexHead, Bool.and_eq_true] at hB
    obtain ⟨⟨hr, hf⟩, hB'⟩ := hB
    have hkn : k < n := by simp only [List.length_cons] at hk; omega
    have hrd : k ∈ Region.ready md ops listed := by simpa using hr
    have hun := (mem_ready.1 hrd).1
    have hl' : ∀ j, j < l.length → l[j]? = ops[k + 1 + j]? := fun j hj => by have := hl (j + 1) (by simp; omega); simpa [Nat.add_assoc, Nat.add_comm 1 j] using this
    have hk' : k + 1 + l.length = n := by simp only [List.length_cons] at hk; omega
    refine wpAnyH_first hF h0 (Region.noSelect_spec hsel) hs hc hn hkn (fun listed' a' hL => seqB_ready hL.1) l.length listed a inv (Region.free_spec h0 hf) hrd hne ?_
    intro o' ho'
    obtain rfl : o = o' := by rw [h0] at ho'; injection ho' with h
    unfold wpG at h
    by_cases hwt : Region.wanted o (yielded ops a.tmps) = true
    · simp only [hwt, if_true] at h
      cases hb : o.dst.bind G with
      | some R =>
        simp only [hb] at h
        have hrel : relOf P G w0 o a = R.rel := by unfold relOf; rw [hb]
        obtain ⟨d, hod, hGd⟩ := Option.bind_eq_some_iff.1 hb
        refine ⟨fun _ w hw => by rw [hrel]; exact h.1 w hw, fun u hu => ?_⟩
        rcases hu with ⟨_, ⟨w1, hI⟩, w2, hr2⟩ | ⟨hw', _⟩
        · rw [hrel] at hr2
          have hreal : u ≠ undef := fun e => R.real w2 (e ▸ hr2)
          have hlt : d < a.tmps.size := by rw [ha]; exact hd o (Array.mem_of_getElem? h0) d hod
          have hev : (a.put o.dst u).eval (.tmp d) = u := by rw [hod]; simp [Act.put, Act.eval, hlt]
          have hS' : ∀ w, Inv ops G w0 (listed.setIfInBounds k true) (a.put o.dst u) w → S w ∧ R.rel u w := fun w hw => by
            refine ⟨hS w (hw.less hF h0 hun), ?_⟩
            have hls : (listed.setIfInBounds k true).getD k false = true := by
              rcases Nat.lt_or_ge k listed.size with h' | h'
              · simp [h']
              · simp [Array.getElem?_eq_none h'] at hun
            have := hw.2 k o d R h0 hls hod hGd (by rw [hev]; exact hreal)
            rwa [hev] at this
          exact wpAnyH_lex hF hsel hs hc hn nt hd l (k + 1) _ _ _ hl' hk' (inv.set hrd hkn) hB' (by rw [put_size]; exact ha) ⟨w1, hI⟩ hS' (h.2 u ⟨w1, hI.1, (hS' w1 hI).1, (hS' w1 hI).2⟩)
        · rw [hwt] at hw'; cases hw'
      | none =>
        simp only [hb] at h
        obtain ⟨v, hv, hrest⟩ := h
        have hrel : relOf P G w0 o a = fun u _ => u = valOf P G w0 o a := by unfold relOf; rw [hb]
        have hval : valOf P G w0 o a = v := by
          obtain ⟨w, hw⟩ := hne
          have hlw := hw.lean hF hrd h0
          exact firmAt_same P (valOf_firm P G w0 hv w hlw) (hv w hlw)
        refine ⟨fun _ w hw => by rw [hrel]; exact firmAt_gives P (valOf_firm P G w0 hv w hw), fun u hu => ?_⟩
        rcases hu with ⟨_, hI, w2, hr2⟩ | ⟨hw', _⟩
        · rw [hrel, hval] at hr2
          subst hr2
          exact wpAnyH_lex hF hsel hs hc hn nt hd l (k + 1) _ _ S hl' hk' (inv.set hrd hkn) hB' (by rw [put_size]; exact ha) hI (fun w hw => hS w (hw.less hF h0 hun)) hrest
        · rw [hwt] at hw'; cases hw'
    · simp only [hwt] at h
      refine ⟨fun hw' => absurd hw' hwt, fun u hu => ?_⟩
      rcases hu with ⟨hw', _⟩ | ⟨_, rfl⟩
      · exact absurd hw' hwt
      · obtain ⟨w, hw⟩ := hne
        have hI := hw.put hF h0 (u := undef) (fun d R hd hR h => absurd rfl h)
        exact wpAnyH_lex hF hsel hs hc hn nt hd l (k + 1) _ _ S hl' hk' (inv.set hrd hkn) hB' (by rw [put_size]; exact ha) ⟨w, hI⟩ (fun w hw => hS w (hw.less hF h0 hun)) h
end

/-- The first m operations walked once; the others, which wait for them, in a row. -/
theorem wp_region_tail {P : Program} {id : Nat} {Q : Exit → Act → World → Prop} {a : Act} {w : World} {l : List Oper} (g : List (Tmp × Rel)) (nt m : Nat) (hm : P.follows .mixedOrders = true) (hB : Region.lexTailB .any l.toArray m = true)
    (hf : fedB l (g.map (·.1)) nt = true) (hn : a.tmps.size = nt) (h : wpG P l.toArray (openOf g) w (fun a' w' => wpList P l.toArray Q (l.drop m) a' w') (l.take m) a (fun _ => True)) : (Code.region id l.toArray true).wp P Q a w := by
  simp only [Region.lexTailB, Bool.and_eq_true, decide_eq_true_eq] at hB
  obtain ⟨⟨⟨⟨hsel, hn'⟩, hs⟩, hc⟩, hlex⟩ := hB
  obtain ⟨hF, hd⟩ := fedB_fed (n := nt) hf
  have hnl : m < l.length := by simpa using hn'
  have htl : (l.take m).length = m := by simp; omega
  have hdl : (l.drop m).length = l.toArray.size - m := by simp
  have hI : ∀ w', Le w w' → Inv l.toArray (openOf g) w (Array.replicate l.toArray.size false) a w' := fun w' hl => ⟨hl, fun k o d R _ hk => by
    exfalso
    rw [getD_replicate_false] at hk
    cases hk⟩
  have inv0 : HeadInv .any l.toArray m (Array.replicate l.toArray.size false) :=
    ⟨by simp, fun j oj _ hl => (by rw [getD_replicate_false] at hl; cases hl), fun t _ ht => getD_in (by simpa using ht) (getD_replicate_false _ _)⟩
  have H := wpAnyH_lex (md := .any) (g := l.toArray.size - m) hF hsel hs hc hn' nt hd (l.take m) 0 _ a (fun _ => True) (fun j hj => by
    have hj' : j < m := by rw [htl] at hj; exact hj
    simp [hj']) (by simpa using htl) inv0 (by rw [htl]; exact hlex) hn ⟨_, hI w (Le.refl w)⟩ (fun _ _ => trivial) h
  refine wp_region_any hm ?_
  have := wpAny_of_H (Q := Q) (g := l.toArray.size - m) hF (fun listed a' w' hL hw => by
    have := wpAny_of_seq (md := .any) (Q' := Q) (l.drop m) m listed a' w' (fun j => by simp [List.getElem?_drop]) (by rw [hdl]; exact hL.1) (hL.2 w' hw)
    rwa [hdl] at this) _ _ _ _ (hI { w with drawn := w.drawn + 1 } ((Below.refl _ _).drew)) H
  rw [htl, show m + (l.toArray.size - m) = l.toArray.size by omega] at this
  exact this
end Go.Proofs.Ytncbhpopobjaiaa

/- Slices of structs: append onto a row of the call's own, and a slice cut, whatever an element's size is. -/
namespace Go.Proofs.Ytncbhpopobjaiaa
set_option linter.unusedVariables false
open Go Go.RowKit

theorem row_form {w : World} {base : Nat} {e : TypeId} {size n : Nat} {v : Value} {xs : List Value} (h : w.ownsRow base e size v n xs) : ∃ A c, v = .slice A n c := by
  rcases h.2 with ⟨rfl, h0⟩ | ⟨g, cap, cur, rfl, _⟩
  · exact ⟨none, 0, by rw [h0]⟩
  · exact ⟨_, _, rfl⟩
theorem row_sees {w : World} {base : Nat} {e : TypeId} {size n : Nat} {A : Option Addr} {c : Nat} {xs : List Value} (h : w.ownsRow base e size (.slice A n c) n xs) : Sees w w.heap.size A xs := fun hx => by
  rcases h.2 with ⟨hv, h0⟩ | ⟨g, cap, cur, hv, _, hh, _⟩
  · have := h.1
    rw [h0, Nat.zero_mul] at this
    omega
  have hA : A = some ⟨g, 0, none⟩ := by injection hv
  subst hA
  have hlt : g < w.heap.size := by
    rcases Nat.lt_or_ge g w.heap.size with h1 | h1
    · exact h1
    · rw [Array.getElem?_eq_none h1] at hh; cases hh
  exact ⟨g, 0, rfl, hlt, fun j hj => by
    have h1 := h.cells (g := g) rfl j _ (List.getElem?_eq_getElem hj)
    rw [add_at] at h1
    exact h1⟩
theorem row_later {w w' : World} {base : Nat} {e : TypeId} {size n : Nat} {v : Value} {xs : List Value} (h : w.ownsRow base e size v n xs) (hl : Below w.heap.size w w') : w'.ownsRow base e size v n xs :=
  World.ownsRow.kept h ⟨hl.os, hl.tape, hl.output, hl.size, fun q hq _ => hl.block q hq⟩ (by by_cases h : v.ownBlock = none; exact .inl h; exact .inr h)
theorem row_lower {w : World} {base base' : Nat} {e : TypeId} {size n : Nat} {v : Value} {xs : List Value} (h : w.ownsRow base e size v n xs) (hb : base' ≤ base) : w.ownsRow base' e size v n xs := by
  refine ⟨h.1, ?_⟩
  rcases h.2 with h' | ⟨g, cap, cur, h1, h2, h3⟩
  · exact .inl h'
  · exact .inr ⟨g, cap, cur, h1, Nat.le_trans hb h2, h3⟩
/-- An empty row, or any, just laid. -/
theorem row_lit (w : World) (base : Nat) (e : TypeId) (size n : Nat) (arr : Array Value) (hb : base ≤ w.heap.size) (hn : n ≤ maxLen) (hs : arr.size = n * size) : (w.alloc (.cells arr e)).ownsRow base e size (.slice (some ⟨w.heap.size, 0, none⟩) n n) n arr.toList := by
  refine ⟨by simpa using hs, .inr ⟨w.heap.size, n, arr, rfl, hb, heap_alloc_new w _, Nat.le_refl _, hn, hs, ?_⟩⟩
  rw [List.take_of_length_le]
  simp [hs]

theorem run_appk {P : Program} (w : World) (base : Nat) (t ty e : TypeId) (i : TypeInfo) (z : Value) (size bytes : Nat) (ht : P.underlying t = some (.slice e)) (hi : P.info? e = some i) (hz : i.zero = some z)
    (hsize : i.size = size) (hby : i.bytes = bytes) (hzs : z.cells.size = size) (hpos : 0 < size) (v : Value) (n : Nat) (xs : List Value) (hown : w.ownsRow base e size v n xs)
    (B : Nat) (A : Option Addr) (m c : Nat) (news : List Value) (hl : news.length = m * size) (hs : Sees w B A news) (h1 : ∀ u ∈ news, u.oneCell' = true)
    (h63 : n + m ≤ maxLen) (hbytes : (n + m) * bytes ≤ 140737488355328) (hbase : base ≤ w.heap.size) :
    ∃ A' c' w', (Builtin.append_ #[t, t] ty #[v, .slice A m c]).run P w = .ok (.slice A' (n + m) c') w' ∧ w'.ownsRow base e size (.slice A' (n + m) c') (n + m) (xs ++ news) ∧
      w.grownBy w' v.ownBlock ∧ ((Value.slice A' (n + m) c').ownBlock = v.ownBlock ∨ (Value.slice A' (n + m) c').ownBlock = some w.heap.size) := by
  obtain ⟨A0, c0, hv⟩ := row_form hown
  rcases A with _ | ad
  · have hn : news = [] := by
      rcases news with _ | ⟨x, l⟩
      · rfl
      · obtain ⟨b, o, h, _⟩ := hs (by simp)
        cases h
    subst hn
    obtain rfl : m = 0 := by
      rcases Nat.eq_zero_or_pos m with h | h
      · exact h
      · have := Nat.mul_pos h hpos
        simp at hl
        omega
    subst hv
    refine ⟨A0, c0, w, ?_, by simpa using hown, World.grownBy.refl w _, .inl (by simp)⟩
    rcases hown.2 with ⟨hv0, h0⟩ | ⟨g, cap, cur, hv0, _, _, hnc, _⟩
    · injection hv0 with h1' h2' h3'
      subst h1' h3'
      simp [Builtin.append_, run_underlying ht, sizeOf, typeInfo, hi, Builtin.lenOf, Builtin.firstCells, h0]
    · injection hv0 with h1' h2' h3'
      subst h1' h3'
      simp [Builtin.append_, run_underlying ht, sizeOf, typeInfo, hi, Builtin.lenOf, Builtin.firstCells, hnc, storeCells]
  · have hcells : ∀ j u, news[j]? = some u → w.cell? (ad.add j) = some u := by
      intro j u hu
      have hj : j < news.length := by
        rcases Nat.lt_or_ge j news.length with h | h
        · exact h
        · rw [List.getElem?_eq_none h] at hu; cases hu
      obtain ⟨b, o, h, _, hc⟩ := hs (by omega)
      injection h with h
      subst h
      rw [add_at, hc j hj, ← hu, List.getElem?_eq_getElem hj]
    obtain ⟨v', w', hrun, h2, h3, _, h5⟩ := run_append_own_at (P := P) w base t ty e i z size bytes ht hi hz hsize hby hzs hpos v n xs hown ad m c news hl hcells h1 h63 hbytes hbase
    obtain ⟨A', c', hv'⟩ := row_form h2
    subst hv'
    exact ⟨A', c', w', hrun, h2, h3, h5⟩

/-- append onto a row of the call's own, whatever the source is, and whatever an element's size is. -/
theorem wpList_appk {P : Program} (w : World) {ops : Array Oper} {rest : List Oper} {o : Oper} {a : Act} {Q : Exit → Act → World → Prop} (hgd : o.guard = none) (s x : Operand) (t : TypeId)
    (ho : o.op = .call { callee := .builtin .append, args := #[s, x], argTypes := #[t, t] })
    (base : Nat) (e : TypeId) (i : TypeInfo) (z : Value) (size bytes : Nat) (ht : P.underlying t = some (.slice e)) (hi : P.info? e = some i) (hz : i.zero = some z)
    (hsize : i.size = size) (hby : i.bytes = bytes) (hzs : z.cells.size = size) (hpos : 0 < size) (v : Value) (n : Nat) (xs : List Value) (hv : a.eval s = v) (hown : w.ownsRow base e size v n xs)
    (B : Nat) (A : Option Addr) (c : Nat) (news : List Value) (m : Nat) (hx : a.eval x = .slice A m c) (hn : news.length = m * size) (hs : Sees w B A news) (h1 : ∀ u ∈ news, u.oneCell' = true)
    (h63 : n + m ≤ maxLen) (hbytes : (n + m) * bytes ≤ 140737488355328) (hbase : base ≤ w.heap.size)
    (h : ∀ A' c' w', w'.ownsRow base e size (.slice A' (n + m) c') (n + m) (xs ++ news) → Below base w w' → w.grownBy w' v.ownBlock →
      ((Value.slice A' (n + m) c').ownBlock = v.ownBlock ∨ (Value.slice A' (n + m) c').ownBlock = some w.heap.size) →
      wpList P ops Q rest (a.put o.dst (.slice A' (n + m) c')) w') : wpList P ops Q (o :: rest) a w := by
  refine wpList_plain hgd fun K hK => ?_
  obtain ⟨A', c', w', hrun, h2, h3, h4⟩ := run_appk (P := P) w base t o.type e i z size bytes ht hi hz hsize hby hzs hpos v n xs hown B A m c news hn hs h1 h63 hbytes hbase
  unfold Oper.wp execOp
  simp only [ho, resolve, invoke, builtin, Sem.run_bind, Sem.run_pure, Result.andThen_ok, List.map_toArray, List.map_cons, List.map_nil, hv, hx, hrun]
  exact hK _ _ (h A' c' w' h2 ((Below.refl _ _).grown h3 hbase (fun k hk => (hown.lt k hk).1)) h3 h4)

/-- s[k:k+m]: what the cut is, under one name. -/
theorem cutk_fact {P : Program} (t e : TypeId) (i : TypeInfo) (size : Nat) (ht : P.underlying t = some (.slice e)) (hi : P.info? e = some i) (hsz : i.size = size) {w : World} {B : Nat} {A : Option Addr} {xs : List Value} (h : Sees w B A xs)
    (n k m c : Nat) (K H : Int) (kl kh : IntKind) (hn : xs.length = n * size) (hkm : k + m ≤ n) (hK : K = (k : Int)) (hH : H = ((k + m : Nat) : Int)) (hc : n ≤ c) :
    ∃ A2, (∀ wx, (Instr.slice t (.slice A n c) (some (.int kl K)) (some (.int kh H)) none).run P wx = .ok (.slice A2 m (c - k)) wx) ∧ Sees w B A2 ((xs.drop (k * size)).take (m * size)) := by
  refine ⟨if c = k then A else A.map (·.add (k * size)), fun wx => ?_, ?_⟩
  · have he : P.elem t = e := by simp [Program.elem, ht]
    have ht' : P.underlying t = some (.slice (P.elem t)) := by rw [he]; exact ht
    rw [run_slice_lh wx t A n c ht' kl kh K H (by omega) (by omega) (by omega), he]
    simp [sizeOf, typeInfo, hi, hsz, sliced, hK, hH]
    try omega
  · intro hx
    rw [List.length_take, List.length_drop] at hx
    have hm : 0 < m := by
      rcases Nat.eq_zero_or_pos m with h0 | h0
      · rw [h0, Nat.zero_mul] at hx; simp at hx
      · exact h0
    obtain ⟨b, o, rfl, hb, hcell⟩ := h (by omega)
    rw [if_neg (by omega)]
    refine ⟨b, o + k * size, by simp [Addr.add], hb, fun j hj => ?_⟩
    rw [List.length_take, List.length_drop] at hj
    rw [Nat.add_assoc, hcell (k * size + j) (by omega)]
    simp
end Go.Proofs.Ytncbhpopobjaiaa

/- Slices and boxes that a drawn region makes, told apart by their types; copy of whole structs: general. -/
namespace Go.Proofs.Ytncbhpopobjaiaa
set_option linter.unusedVariables false
set_option linter.unusedSimpArgs false
open Go Go.RowKit

/-- A block that is known whole, with its type. -/
def BT (w : World) (g : Nat) (cs : List Value) (t : TypeId) : Prop := w.heap[g]? = some (.cells cs.toArray t (0, 0))
theorem BT.blk {w : World} {g : Nat} {cs : List Value} {t : TypeId} (h : BT w g cs t) : Blk w g cs := ⟨t, h⟩
theorem BT.lt {w : World} {g : Nat} {cs : List Value} {t : TypeId} (h : BT w g cs t) : g < w.heap.size := h.blk.lt
theorem BT.later {w w' : World} {g : Nat} {cs : List Value} {t : TypeId} (h : BT w g cs t) (hb : Below w.heap.size w w') : BT w' g cs t := (hb.block g h.lt).trans h
theorem BT.new (w : World) (cs : List Value) (t : TypeId) : BT (w.alloc (.cells cs.toArray t)) w.heap.size cs t := by
  show (w.heap.push _)[w.heap.size]? = _
  simp
theorem BT.ne {w : World} {g g' : Nat} {cs cs' : List Value} {t t' : TypeId} (h : BT w g cs t) (h' : BT w g' cs' t') (ht : t ≠ t') : g ≠ g' := by
  rintro rfl
  unfold BT at h h'
  rw [h] at h'
  injection h' with e
  injection e with _ e
  exact ht e
theorem BT.set {w : World} {g : Nat} {cs : List Value} {t : TypeId} (h : BT w g cs t) (j : Nat) (v : Value) : BT (w.setCell ⟨g, j, none⟩ v) g (cs.set j v) t := by
  obtain ⟨h1, h2⟩ := Array.getElem?_eq_some_iff.1 h
  show (w.heap.modify g _)[g]? = _
  rw [Array.getElem?_eq_getElem (by rw [Array.size_modify]; exact h1), Array.getElem_modify_self, h2]
  simp
theorem BT.other {w : World} {g b : Nat} {cs : List Value} {t : TypeId} (h : BT w g cs t) (hb : b ≠ g) (vs : List Value) (o : Nat) : BT (w.setCells b o vs) g cs t := by
  induction vs generalizing o w with
  | nil => exact h
  | cons v vs ih => exact ih (w := w.setCell ⟨b, o, none⟩ v) ((Below.heap_setCell w ⟨b, o, none⟩ v g (Ne.symm hb)).trans h) (o + 1)
theorem BT.sets {w : World} {g : Nat} {cs : List Value} {t : TypeId} (h : BT w g cs t) : ∀ (vs : List Value) (o : Nat), o + vs.length ≤ cs.length → BT (w.setCells g o vs) g (cs.take o ++ vs ++ cs.drop (o + vs.length)) t := by
  intro vs
  induction vs generalizing w cs with
  | nil => intro o _; simpa [World.setCells] using h
  | cons v vs ih =>
    intro o ho
    have h1 := h.set o v
    have := ih h1 (o + 1) (by simp at ho ⊢; omega)
    show BT _ g _ t
    rw [World.setCells]
    have e := list_seg_step cs o v vs (by simpa using ho)
    rw [e] at this
    exact this
/-- A slot that holds a slice made here. -/
def relMk (B n : Nat) (cs : List Value) (t : TypeId) : Rel where
  rel v w := ∃ g, v = .slice (some ⟨g, 0, none⟩) n n ∧ B ≤ g ∧ BT w g cs t
  mono := fun v w w' h ⟨g, e, hg, hb⟩ => ⟨g, e, hg, hb.later h⟩
  real := fun w ⟨_, e, _⟩ => by cases e
/-- A slot that holds a struct boxed here. -/
def relBx (B : Nat) (cs : List Value) (t : TypeId) : Rel where
  rel v w := ∃ g, v = .pointer (some ⟨g, 0, none⟩) ∧ B ≤ g ∧ BT w g cs t
  mono := fun v w w' h ⟨g, e, hg, hb⟩ => ⟨g, e, hg, hb.later h⟩
  real := fun w ⟨_, e, _⟩ => by cases e
theorem mk_gives {P : Program} {a : Act} {op : Oper} (B n : Nat) (cs : List Value) (ts t : TypeId) (l c : Operand) (ho : op.op = .makeSlice ts l c) (hl : a.eval l = .int .i64 (n : Int)) (hc : a.eval c = .int .i64 (n : Int))
    (hr : ∀ w, (Instr.makeSlice ts (.int .i64 (n : Int)) (.int .i64 (n : Int))).run P w = .ok (.slice (some ⟨w.heap.size, 0, none⟩) n n) (w.alloc (.cells cs.toArray t))) (w : World) (hB : B ≤ w.heap.size) : gives P op a (relMk B n cs t).rel w := by
  unfold gives execOp
  simp only [ho, hl, hc, Sem.run_bind, hr, Result.andThen_ok, Sem.run_pure]
  exact ⟨(Below.refl _ _).alloc (Nat.le_refl _) _, _, rfl, hB, BT.new w cs _⟩
theorem bx_gives {P : Program} {a : Act} {op : Oper} (B : Nat) (cs : List Value) (t : TypeId) (y : Operand) (ho : op.op = .box t y) (hy : a.eval y = .agg cs.toArray)
    (hr : ∀ w, (Instr.box t (.agg cs.toArray)).run P w = .ok (.pointer (some ⟨w.heap.size, 0, none⟩)) (w.alloc (.cells cs.toArray t))) (w : World) (hB : B ≤ w.heap.size) : gives P op a (relBx B cs t).rel w := by
  unfold gives execOp
  simp only [ho, hy, Sem.run_bind, hr, Result.andThen_ok, Sem.run_pure]
  exact ⟨(Below.refl _ _).alloc (Nat.le_refl _) _, _, rfl, hB, BT.new w cs _⟩
/-- copy of whole structs. -/
theorem run_copy_whole {P : Program} (w : World) (t ty e : TypeId) (i : TypeInfo) (size : Nat) (ht : P.underlying t = some (.slice e)) (hi : P.info? e = some i) (hsz : i.size = size) (hpos : 0 < size) (g n c c' B : Nat) (A : Option Addr) (news cs : List Value)
    (hl : news.length = n * size) (hs : Sees w B A news) (h1 : ∀ u ∈ news, u.oneCell' = true) (hB : Blk w g cs) (hfit : news.length ≤ cs.length) :
    (Builtin.copy_ #[t, t] ty #[.slice (some ⟨g, 0, none⟩) n c, .slice A n c']).run P w = .ok (goInt n) (w.setCells g 0 news) := by
  have hst := run_storeCells_cells (P := P) g 0 news 0 w (fun j hj => by
    simp only [Nat.zero_add]
    rw [hB.cell (List.getElem?_eq_getElem (show j < cs.length by omega))]
    rfl) (fun j hj => hB.frozen _) h1
  rw [Nat.add_zero] at hst
  cases A with
  | none =>
    have hn : news = [] := by
      cases news with
      | nil => rfl
      | cons x l => obtain ⟨b, o, e, _⟩ := hs (by simp); cases e
    subst hn
    simp [Builtin.copy_, run_underlying ht, Builtin.lenOf, Builtin.firstCells, sizeOf, typeInfo, hi, storeCells, World.setCells]
  | some ad =>
    have hnews : ∀ j u, news[j]? = some u → w.cell? (ad.add j) = some u := fun j u hj => by
      have hlt := (List.getElem?_eq_some_iff.1 hj).1
      obtain ⟨b', o', e', _, hc⟩ := hs (by omega)
      cases e'
      rw [Addr.add_lit]
      have := hc j hlt
      rw [(List.getElem?_eq_some_iff.1 hj).2] at this
      exact this
    have hld := run_loadCells_list (P := P) w ad news hnews
    rw [hl] at hld
    simp [Builtin.copy_, run_underlying ht, Builtin.lenOf, Builtin.firstCells, sizeOf, typeInfo, hi, hsz, hld, hst]
end Go.Proofs.Ytncbhpopobjaiaa

/- Roots: which may be: both; what turns one into the other. -/
namespace Go.Proofs.Ytncbhpopobjaiaa
set_option linter.unusedVariables false
set_option linter.unusedSimpArgs false
open Go Go.RowKit SumM OctM

set_option maxRecDepth 100000 in
set_option maxHeartbeats 1600000 in
theorem rtcheck_any (x : Rt) (w : World) : Calls Try.prog 9 #[.agg (rtc x).toArray] w fun e w' => e = .returned (.bool (decide (Rok x))) ∧ Below w.heap.size w w' := by
  obtain ⟨a, b, c⟩ := x
  show Calls Try.prog 9 #[.agg #[.int .i64 a, .int .i64 b, .int .i64 c]] w _
  have B1 := Blk.new w [.int .i64 a, .int .i64 b, .int .i64 c] 25
  have HL := Lib.hid ((Below.refl w.heap.size w).alloc (Nat.le_refl _) (.cells #[.int .i64 a, .int .i64 b, .int .i64 c] 25))
  have k0 := B1.cell (j := 0) rfl
  have k1 := B1.cell (j := 1) rfl
  have k2 := B1.cell (j := 2) rfl
  clear B1
  by_cases e0 : 1 ≤ a
  · have d0 : decide (1 ≤ a) = true := decide_eq_true e0
    by_cases e1 : a ≤ 4294967295
    · have d1 : decide (a ≤ 4294967295) = true := decide_eq_true e1
      by_cases e2 : 1 ≤ b
      · have d2 : decide (1 ≤ b) = true := decide_eq_true e2
        by_cases e3 : b ≤ 4294967295
        · have d3 : decide (b ≤ 4294967295) = true := decide_eq_true e3
          by_cases e4 : 0 ≤ c
          · have d4 : decide (0 ≤ c) = true := decide_eq_true e4
            by_cases e5 : c < 1099511627776
            · have d5 : decide (c < 1099511627776) = true := decide_eq_true e5
              have HR : Hid (decide (Rok (a, b, c)) = true) := Lib.hid (decide_eq_true (by unfold Rok; dsimp only; omega))
              clear e0 e1 e2 e3 e4 e5
              go_enter Try.func9, Try.ntmps9
              go_wp2_with fail
              go_ret
              exact ⟨by rw [HR.out]; rfl, HL.out⟩
            · have d5 : decide (c < 1099511627776) = false := decide_eq_false e5
              have HR : Hid (decide (Rok (a, b, c)) = false) := Lib.hid (decide_eq_false (by unfold Rok; dsimp only; omega))
              clear e0 e1 e2 e3 e4 e5
              go_enter Try.func9, Try.ntmps9
              go_wp2_with fail
              go_ret
              exact ⟨by rw [HR.out]; rfl, HL.out⟩
          · have d4 : decide (0 ≤ c) = false := decide_eq_false e4
            have HR : Hid (decide (Rok (a, b, c)) = false) := Lib.hid (decide_eq_false (by unfold Rok; dsimp only; omega))
            clear e0 e1 e2 e3 e4
            go_enter Try.func9, Try.ntmps9
            go_wp2_with fail
            go_ret
            exact ⟨by rw [HR.out]; rfl, HL.out⟩
        · have d3 : decide (b ≤ 4294967295) = false := decide_eq_false e3
          have HR : Hid (decide (Rok (a, b, c)) = false) := Lib.hid (decide_eq_false (by unfold Rok; dsimp only; omega))
          clear e0 e1 e2 e3
          go_enter Try.func9, Try.ntmps9
          go_wp2_with fail
          go_ret
          exact ⟨by rw [HR.out]; rfl, HL.out⟩
      · have d2 : decide (1 ≤ b) = false := decide_eq_false e2
        have HR : Hid (decide (Rok (a, b, c)) = false) := Lib.hid (decide_eq_false (by unfold Rok; dsimp only; omega))
        clear e0 e1 e2
        go_enter Try.func9, Try.ntmps9
        go_wp2_with fail
        go_ret
        exact ⟨by rw [HR.out]; rfl, HL.out⟩
    · have d1 : decide (a ≤ 4294967295) = false := decide_eq_false e1
      have HR : Hid (decide (Rok (a, b, c)) = false) := Lib.hid (decide_eq_false (by unfold Rok; dsimp only; omega))
      clear e0 e1
      go_enter Try.func9, Try.ntmps9
      go_wp2_with fail
      go_ret
      exact ⟨by rw [HR.out]; rfl, HL.out⟩
  · have d0 : decide (1 ≤ a) = false := decide_eq_false e0
    have HR : Hid (decide (Rok (a, b, c)) = false) := Lib.hid (decide_eq_false (by unfold Rok; dsimp only; omega))
    clear e0
    go_enter Try.func9, Try.ntmps9
    go_wp2_with fail
    go_ret
    exact ⟨by rw [HR.out]; rfl, HL.out⟩
set_option maxRecDepth 100000 in
set_option maxHeartbeats 1600000 in
theorem rrtcheck_any (x : Rt) (w : World) : Calls Try.prog 11 #[.agg (rtc x).toArray] w fun e w' => e = .returned (.bool (decide (Rok x))) ∧ Below w.heap.size w w' := by
  obtain ⟨a, b, c⟩ := x
  show Calls Try.prog 11 #[.agg #[.int .i64 a, .int .i64 b, .int .i64 c]] w _
  have B1 := Blk.new w [.int .i64 a, .int .i64 b, .int .i64 c] 23
  have HL := Lib.hid ((Below.refl w.heap.size w).alloc (Nat.le_refl _) (.cells #[.int .i64 a, .int .i64 b, .int .i64 c] 23))
  have k0 := B1.cell (j := 0) rfl
  have k1 := B1.cell (j := 1) rfl
  have k2 := B1.cell (j := 2) rfl
  clear B1
  by_cases e0 : 1 ≤ a
  · have d0 : decide (1 ≤ a) = true := decide_eq_true e0
    by_cases e1 : a < 4294967296
    · have d1 : decide (a < 4294967296) = true := decide_eq_true e1
      by_cases e2 : 1 ≤ b
      · have d2 : decide (1 ≤ b) = true := decide_eq_true e2
        by_cases e3 : b < 4294967296
        · have d3 : decide (b < 4294967296) = true := decide_eq_true e3
          by_cases e4 : 0 ≤ c
          · have d4 : decide (0 ≤ c) = true := decide_eq_true e4
            by_cases e5 : c < 1099511627776
            · have d5 : decide (c < 1099511627776) = true := decide_eq_true e5
              have HR : Hid (decide (Rok (a, b, c)) = true) := Lib.hid (decide_eq_true (by unfold Rok; dsimp only; omega))
              clear e0 e1 e2 e3 e4 e5
              go_enter Try.func11, Try.ntmps11
              go_wp2_with fail
              go_ret
              exact ⟨by rw [HR.out]; rfl, HL.out⟩
            · have d5 : decide (c < 1099511627776) = false := decide_eq_false e5
              have HR : Hid (decide (Rok (a, b, c)) = false) := Lib.hid (decide_eq_false (by unfold Rok; dsimp only; omega))
              clear e0 e1 e2 e3 e4 e5
              go_enter Try.func11, Try.ntmps11
              go_wp2_with fail
              go_ret
              exact ⟨by rw [HR.out]; rfl, HL.out⟩
          · have d4 : decide (0 ≤ c) = false := decide_eq_false e4
            have HR : Hid (decide (Rok (a, b, c)) = false) := Lib.hid (decide_eq_false (by unfold Rok; dsimp only; omega))
            clear e0 e1 e2 e3 e4
            go_enter Try.func11, Try.ntmps11
            go_wp2_with fail
            go_ret
            exact ⟨by rw [HR.out]; rfl, HL.out⟩
        · have d3 : decide (b < 4294967296) = false := decide_eq_false e3
          have HR : Hid (decide (Rok (a, b, c)) = false) := Lib.hid (decide_eq_false (by unfold Rok; dsimp only; omega))
          clear e0 e1 e2 e3
          go_enter Try.func11, Try.ntmps11
          go_wp2_with fail
          go_ret
          exact ⟨by rw [HR.out]; rfl, HL.out⟩
      · have d2 : decide (1 ≤ b) = false := decide_eq_false e2
        have HR : Hid (decide (Rok (a, b, c)) = false) := Lib.hid (decide_eq_false (by unfold Rok; dsimp only; omega))
        clear e0 e1 e2
        go_enter Try.func11, Try.ntmps11
        go_wp2_with fail
        go_ret
        exact ⟨by rw [HR.out]; rfl, HL.out⟩
    · have d1 : decide (a < 4294967296) = false := decide_eq_false e1
      have HR : Hid (decide (Rok (a, b, c)) = false) := Lib.hid (decide_eq_false (by unfold Rok; dsimp only; omega))
      clear e0 e1
      go_enter Try.func11, Try.ntmps11
      go_wp2_with fail
      go_ret
      exact ⟨by rw [HR.out]; rfl, HL.out⟩
  · have d0 : decide (1 ≤ a) = false := decide_eq_false e0
    have HR : Hid (decide (Rok (a, b, c)) = false) := Lib.hid (decide_eq_false (by unfold Rok; dsimp only; omega))
    clear e0
    go_enter Try.func11, Try.ntmps11
    go_wp2_with fail
    go_ret
    exact ⟨by rw [HR.out]; rfl, HL.out⟩
theorem info_rtto : (Try.prog.info? 25).map (·.size) = some 3 := by kernel_rfl
set_option maxRecDepth 100000 in
set_option maxHeartbeats 1600000 in
theorem rtto_any (x : Rt) (w : World) : Calls Try.prog 10 #[.agg (rtc x).toArray] w fun e w' => e = .returned (.agg (rtc x).toArray) ∧ Below w.heap.size w w' := by
  obtain ⟨a, b, c⟩ := x
  show Calls Try.prog 10 #[.agg #[.int .i64 a, .int .i64 b, .int .i64 c]] w fun e w' => e = .returned (.agg #[.int .i64 a, .int .i64 b, .int .i64 c]) ∧ Below w.heap.size w w'
  have hu := Try.underlying25
  have B0 := Blk.new w [.int .i64 a, .int .i64 b, .int .i64 c] 23
  have B1 := B0.alloc (.cells #[.int .i64 0, .int .i64 0, .int .i64 0] 25)
  have k0 := B1.cell (j := 0) rfl
  have k1 := B1.cell (j := 1) rfl
  have k2 := B1.cell (j := 2) rfl
  have B2 := Blk.new (w.alloc (.cells #[.int .i64 a, .int .i64 b, .int .i64 c] 23)) [.int .i64 0, .int .i64 0, .int .i64 0] 25
  rw [World.size_alloc] at B2
  have TH := B2.there 0 3 (by simp)
  have HB2 : Hid (Blk (((w.alloc (.cells #[.int .i64 a, .int .i64 b, .int .i64 c] 23)).alloc (.cells #[.int .i64 0, .int .i64 0, .int .i64 0] 25)).setCells (w.heap.size + 1) 0 [.int .i64 a, .int .i64 b, .int .i64 c]) (w.heap.size + 1) [.int .i64 a, .int .i64 b, .int .i64 c]) := Lib.hid (B2.sets [.int .i64 a, .int .i64 b, .int .i64 c] 0 (by simp))
  have HL := Lib.hid (below_sets (Nat.le_succ w.heap.size) [.int .i64 a, .int .i64 b, .int .i64 c] 0 (((Below.refl w.heap.size w).alloc (Nat.le_refl _) (.cells #[.int .i64 a, .int .i64 b, .int .i64 c] 23)).alloc (by simp) (.cells #[.int .i64 0, .int .i64 0, .int .i64 0] 25)))
  clear B0 B1 B2
  go_enter Try.func10, Try.ntmps10
  go_wp2_with (first
    | (refine wpList_store_mid rfl 25 (.tmp 2) (.tmp 9) rfl (w.heap.size + 1) 0 #[.int .i64 a, .int .i64 b, .int .i64 c] rfl rfl TH info_rtto (by simp [Value.oneCell']) ?_
       simp only [Act.put, List.setIfInBounds_toArray, List.set_cons_zero, List.set_cons_succ])
    | fail)
  exact bodyPost_ret (v := .agg #[.int .i64 a, .int .i64 b, .int .i64 c]) (results_blk rfl _ _ (w.heap.size + 1) [.int .i64 a, .int .i64 b, .int .i64 c] _ rfl HB2.out hu rfl info_rtto) rfl ⟨rfl, HL.out⟩
theorem info_rtfrom : (Try.prog.info? 23).map (·.size) = some 3 := by kernel_rfl
set_option maxRecDepth 100000 in
set_option maxHeartbeats 1600000 in
theorem rtfrom_any (x : Rt) (w : World) : Calls Try.prog 14 #[.agg (rtc x).toArray] w fun e w' => e = .returned (.agg (rtc x).toArray) ∧ Below w.heap.size w w' := by
  obtain ⟨a, b, c⟩ := x
  show Calls Try.prog 14 #[.agg #[.int .i64 a, .int .i64 b, .int .i64 c]] w fun e w' => e = .returned (.agg #[.int .i64 a, .int .i64 b, .int .i64 c]) ∧ Below w.heap.size w w'
  have hu := Try.underlying23
  have B0 := Blk.new w [.int .i64 a, .int .i64 b, .int .i64 c] 25
  have B1 := B0.alloc (.cells #[.int .i64 0, .int .i64 0, .int .i64 0] 23)
  have k0 := B1.cell (j := 0) rfl
  have k1 := B1.cell (j := 1) rfl
  have k2 := B1.cell (j := 2) rfl
  have B2 := Blk.new (w.alloc (.cells #[.int .i64 a, .int .i64 b, .int .i64 c] 25)) [.int .i64 0, .int .i64 0, .int .i64 0] 23
  rw [World.size_alloc] at B2
  have TH := B2.there 0 3 (by simp)
  have HB2 : Hid (Blk (((w.alloc (.cells #[.int .i64 a, .int .i64 b, .int .i64 c] 25)).alloc (.cells #[.int .i64 0, .int .i64 0, .int .i64 0] 23)).setCells (w.heap.size + 1) 0 [.int .i64 a, .int .i64 b, .int .i64 c]) (w.heap.size + 1) [.int .i64 a, .int .i64 b, .int .i64 c]) := Lib.hid (B2.sets [.int .i64 a, .int .i64 b, .int .i64 c] 0 (by simp))
  have HL := Lib.hid (below_sets (Nat.le_succ w.heap.size) [.int .i64 a, .int .i64 b, .int .i64 c] 0 (((Below.refl w.heap.size w).alloc (Nat.le_refl _) (.cells #[.int .i64 a, .int .i64 b, .int .i64 c] 25)).alloc (by simp) (.cells #[.int .i64 0, .int .i64 0, .int .i64 0] 23)))
  clear B0 B1 B2
  go_enter Try.func14, Try.ntmps14
  go_wp2_with (first
    | (refine wpList_store_mid rfl 23 (.tmp 2) (.tmp 9) rfl (w.heap.size + 1) 0 #[.int .i64 a, .int .i64 b, .int .i64 c] rfl rfl TH info_rtfrom (by simp [Value.oneCell']) ?_
       simp only [Act.put, List.setIfInBounds_toArray, List.set_cons_zero, List.set_cons_succ])
    | fail)
  exact bodyPost_ret (v := .agg #[.int .i64 a, .int .i64 b, .int .i64 c]) (results_blk rfl _ _ (w.heap.size + 1) [.int .i64 a, .int .i64 b, .int .i64 c] _ rfl HB2.out hu rfl info_rtfrom) rfl ⟨rfl, HL.out⟩
end Go.Proofs.Ytncbhpopobjaiaa

/- Bytes that are read, not owned: what a drawn region keeps of them; slices.Clone of bytes; a struct's cell among the results. -/
namespace Go.Proofs.Ytncbhpopobjaiaa
set_option linter.unusedVariables false
open Go Go.RowKit OctM

def SeesBytes (w : World) (xs : List UInt8) : Ending → World → Prop := fun e w' => ∃ A' c', e = .returned (.slice A' xs.length c') ∧ Sees w' w'.heap.size A' (bvs xs) ∧ Below w.heap.size w w'
def relSee (n : Nat) (l : List UInt8) : Rel where
  rel v w := ∃ A c, v = .slice A n c ∧ Sees w w.heap.size A (bvs l)
  mono := fun v w w' h ⟨A, c, e, hs⟩ => ⟨A, c, e, (hs.below h).more h.size⟩
  real := fun w ⟨A, c, e, _⟩ => by cases e
theorem gives_see {w : World} {xs : List UInt8} {n : Nat} (hn : xs.length = n) {e : Ending} {w' : World} (h : GivesBytes w xs e w') : ∃ v, e = .returned v ∧ Below w.heap.size w w' ∧ (relSee n xs).rel v w' := by
  obtain ⟨A, c, rfl, ho, hb⟩ := h
  subst hn
  exact ⟨_, rfl, hb, A, c, rfl, ho.sees⟩
theorem assign_gives {P : Program} {a : Act} {op : Oper} (R : Rel) (x : Operand) (ho : op.op = .assign x) (w : World) (h : R.rel (a.eval x) w) : gives P op a R.rel w := by
  unfold gives execOp
  simp only [ho]
  exact ⟨Le.refl w, h⟩
theorem results_rows_tmp {P : Program} {fn : Func} {p q : Tmp} {ty : TypeId} (h : fn.results = #[.cell q ty, .tmp p]) (tmps : Array Value) (w : World) (g : Nat) (cs : List Value) (d : TypeDesc) (v : Value) (hp : tmps.getD p undef = v)
    (hq : tmps.getD q undef = .pointer (some ⟨g, 0, none⟩)) (hB : Blk w g cs)
    (hu : P.underlying ty = some d) (hd : (match d with | .struct _ | .array _ _ => true | _ => false) = true) (hi : (P.info? ty).map (·.size) = some cs.length) :
    (results fn tmps).run P w = .ok (.tuple #[.agg cs.toArray, v]) w := by
  obtain ⟨t, hB⟩ := hB
  subst hp
  have hq' : tmps[q]?.getD undef = .pointer (some ⟨g, 0, none⟩) := by simpa using hq
  simp [results, h, hq', asAddr, run_loadVar_row w g t ty cs.toArray (0, 0) d hB hu hd (by simpa using hi)]
end Go.Proofs.Ytncbhpopobjaiaa

/- append(s, make([]T, k)...) onto a row of the call's own: general. -/
namespace Go.Proofs.Ytncbhpopobjaiaa
set_option linter.unusedVariables false
set_option linter.unusedSimpArgs false
open Go Go.RowKit

theorem run_appz {P : Program} (w : World) (base : Nat) (t tn ty e : TypeId) (i : TypeInfo) (z : Value) (kq kn : IntKind) (size bytes : Nat) (ht : P.underlying t = some (.slice e)) (htn : P.underlying tn = some (.int kn)) (hi : P.info? e = some i) (hz : i.zero = some z)
    (hsize : i.size = size) (hby : i.bytes = bytes) (hzs : z.cells.size = size) (hpos : 0 < size) (g n c : Nat) (xs : List Value) (hown : w.ownsRow base e size (.slice (some ⟨g, 0, none⟩) n c) n xs)
    (k : Nat) (h0 : 0 < k) (h1 : ∀ u ∈ (Builtin.zeroCells z.cells k).toList, u.oneCell' = true) (h63 : n + k ≤ maxLen) (hbytes : (n + k) * bytes ≤ 140737488355328) (hbase : base ≤ w.heap.size) :
    ∃ g' c' w', (Builtin.append_ #[t, tn] ty #[.slice (some ⟨g, 0, none⟩) n c, .int kq (k : Int)]).run P w = .ok (.slice (some ⟨g', 0, none⟩) (n + k) c') w' ∧
      w'.ownsRow base e size (.slice (some ⟨g', 0, none⟩) (n + k) c') (n + k) (xs ++ (Builtin.zeroCells z.cells k).toList) ∧ w.grownBy w' (some g) ∧ (g' = g ∨ g' = w.heap.size) := by
  subst hsize
  subst hby
  have hl : (Builtin.zeroCells z.cells k).toList.length = k * i.size := by rw [Array.length_toList, size_zeroCells, hzs]
  generalize hnews : (Builtin.zeroCells z.cells k).toList = news at hl h1 ⊢
  have hna : Builtin.zeroCells z.cells k = news.toArray := by rw [← hnews, Array.toArray_toList]
  have hlen : (xs ++ news).length = (n + k) * i.size := by rw [List.length_append, hown.1, hl, Nat.add_mul]
  have hw : IntKind.i64.wrap (k : Int) = k := by simp only [maxLen] at h63; rw [IntKind.wrap_i64]; try omega
  have hneg : ¬ ((k : Int) < 0) := by omega
  have hkb : k * i.bytes ≤ 140737488355328 := Nat.le_trans (Nat.mul_le_mul_right _ (by omega)) hbytes
  have h48i : ¬ (281474976710656 < (k : Int) * (i.bytes : Int)) := by
    rw [← Int.natCast_mul]
    omega
  have hns : ¬ (k * i.size = 0) := Nat.mul_ne_zero (by omega) (by omega)
  have hk : k ≠ 0 := by omega
  have hcells := hown.cells (g := g) rfl
  rcases hown.2 with ⟨h2, _⟩ | ⟨g', cap, cur, h2, hbg, hg, hnc, hcm, hcs, htake⟩
  · cases h2
  · injection h2 with e1 _ e3
    injection e1 with e1
    injection e1 with e1
    subst e1 e3
    by_cases hroom : n + k ≤ c
    · have hfit : n * i.size + news.length ≤ cur.size := by rw [hl, hcs, ← Nat.add_mul]; exact Nat.mul_le_mul_right _ hroom
      have hst := run_storeCells_at P g (n * i.size) e news 0 cur w hg (by simpa using hfit) h1
      simp only [Nat.add_zero] at hst
      refine ⟨g, c, w.setRow g (cur.toList.take (n * i.size) ++ news ++ cur.toList.drop (n * i.size + news.length)).toArray, ?_, ⟨hlen, .inr ⟨g, c, _, rfl, hbg, setRow_heap w g cur _ e _ hg, hroom, hcm, ?_, ?_⟩⟩, ⟨rfl, rfl, rfl, by simp, fun k _ hk => setRow_other w g k _ (fun e => hk (by simp [e]))⟩, .inl rfl⟩
      · simp [Builtin.append_, run_underlying ht, run_underlying htn, sizeOf, typeInfo, zeroValue, hi, hz, asInt, asIntOf, hw, hneg, hns, h48i, hroom, hna, Addr.add_lit, hst]
      · simp only [List.size_toArray, List.length_append, List.length_take, List.length_drop, Array.length_toList]
        omega
      · rw [htake, ← hlen]
        exact List.take_left
    · have hf := run_firstCells_some (P := P) w.drew i.size n ⟨g, 0, none⟩ n c xs hown.1 (fun j u hj => by
        have := hcells j u hj
        simpa using this)
      have hr := Lib.run_append_grow_zeros (P := P) w t tn ty e i z kq kn ht htn hi hz (some ⟨g, 0, none⟩) n c xs hf k h0 hpos (by omega) (by simp only [maxLen] at h63; omega) (by omega) (growslice_fits (by omega) hbytes)
      have hge := grownCap_ge w (n + k) c e
      have hcm : grownCap w (n + k) c e ≤ maxLen := grownCap_le_maxLen w (n + k) c e h63
      rw [hna] at hr
      refine ⟨w.heap.size, _, _, hr, ⟨hlen, .inr ⟨w.heap.size, _, _, rfl, hbase, heap_alloc_new w.drew _, hge, hcm, ?_, ?_⟩⟩, ⟨rfl, rfl, rfl, by simp, fun j hj _ => heap_alloc_old w.drew _ hj⟩, .inr rfl⟩
      · simp only [Array.size_append, List.size_toArray, size_zeroCells, hzs, hown.1, hl, ← Nat.add_mul]
        congr 1
        omega
      · simp only [Array.toList_append, List.append_assoc]
        rw [← List.append_assoc, ← hlen]
        exact List.take_left
theorem exec_appz {P : Program} {o : Oper} {a : Act} {w w' : World} (s x : Operand) (t tn : TypeId) (ho : o.op = .call { callee := .builtin .append, args := #[s, x], argTypes := #[t, tn] }) (v u r : Value) (hs : a.eval s = v) (hx : a.eval x = u)
    (hr : (Builtin.append_ #[t, tn] o.type #[v, u]).run P w = .ok r w') : (execOp a.eval o).run P w = .ok (.value r) w' := by
  unfold execOp
  simp only [ho, resolve, invoke, builtin, Sem.run_bind, Sem.run_pure, Result.andThen_ok, List.map_toArray, List.map_cons, List.map_nil, hs, hx, hr]
end Go.Proofs.Ytncbhpopobjaiaa

/- append of any number of elements onto a row of the call's own, as a step of a region that draws its order (for go_region_law). -/
namespace Go.Proofs.Ytncbhpopobjaiaa
set_option linter.unusedVariables false
open Go Go.RowKit

theorem step_appk {P : Program} {ops : Array Oper} {o : Oper} {a : Act} {w : World} {K : Act → World → Prop} {Q : Exit → Act → World → Prop} {E : Prop} (hgd : o.guard = none) (s x : Operand) (t : TypeId)
    (ho : o.op = .call { callee := .builtin .append, args := #[s, x], argTypes := #[t, t] })
    (base : Nat) (e : TypeId) (i : TypeInfo) (z : Value) (size bytes : Nat) (ht : P.underlying t = some (.slice e)) (hi : P.info? e = some i) (hz : i.zero = some z)
    (hsize : i.size = size) (hby : i.bytes = bytes) (hzs : z.cells.size = size) (hpos : 0 < size) (v : Value) (n : Nat) (xs : List Value) (hv : a.eval s = v) (hown : w.ownsRow base e size v n xs)
    (B : Nat) (A : Option Addr) (c : Nat) (news : List Value) (m : Nat) (hx : a.eval x = .slice A m c) (hn : news.length = m * size) (hs : Sees w B A news) (h1 : ∀ u ∈ news, u.oneCell' = true)
    (h63 : n + m ≤ maxLen) (hbytes : (n + m) * bytes ≤ 140737488355328) (hbase : base ≤ w.heap.size)
    (h : ∀ A' c' w', w'.ownsRow base e size (.slice A' (n + m) c') (n + m) (xs ++ news) → Below base w w' → w.grownBy w' v.ownBlock →
      ((Value.slice A' (n + m) c').ownBlock = v.ownBlock ∨ (Value.slice A' (n + m) c').ownBlock = some w.heap.size) →
      K (a.put o.dst (.slice A' (n + m) c')) w') : if Region.wanted o (yielded ops a.tmps) = true then Oper.wp P o a w K Q else E := by
  have hw : Region.wanted o (yielded ops a.tmps) = true := by simp [Region.wanted, hgd]
  rw [if_pos hw]
  obtain ⟨A', c', w', hrun, h2, h3, h4⟩ := run_appk (P := P) w base t o.type e i z size bytes ht hi hz hsize hby hzs hpos v n xs hown B A m c news hn hs h1 h63 hbytes hbase
  unfold Oper.wp execOp
  simp only [ho, resolve, invoke, builtin, Sem.run_bind, Sem.run_pure, Result.andThen_ok, List.map_toArray, List.map_cons, List.map_nil, hv, hx, hrun]
  exact h A' c' w' h2 ((Below.refl _ _).grown h3 hbase (fun k hk => (hown.lt k hk).1)) h3 h4
end Go.Proofs.Ytncbhpopobjaiaa

/- Steps of a drawn region that writes memory that was there: values taken ahead, an operation by its run, append, a store: general. -/
namespace Go.Proofs.Ytncbhpopobjaiaa
set_option linter.unusedVariables false
set_option linter.unusedSimpArgs false
open Go Go.RowKit

section
variable {P : Program} {md : Region.Mode} {ops : Array Oper} {Q : Exit → Act → World → Prop} {S : World → Prop} {i : Nat} {oi : Oper} {v : Value} {fuel : Nat} {listed : Array Bool} {a : Act} {w : World}
theorem takeH (d : Option Tmp) (hi : ops[i]? = some oi) (hd : oi.dst = d) (hs : Region.noSelect ops = true) (hf : Region.free md ops listed i = true) (hr : (Region.ready md ops listed).contains i = true)
    (hQ : ∀ c a w, Q (.panic c) (a.put oi.dst v) w → Q (.panic c) a w) (hy : YieldsIf P ops S oi v a) (hS : S w)
    (h : Go.wpAnyH P md ops Q S fuel (listed.setIfInBounds i true) (a.put d v) w) : Go.wpAnyH P md ops Q S (fuel + 1) listed a w := by
  subst hd
  exact wpAnyH_take hi hs hf hr hQ hy hS h
theorem allH (rs : List Nat) (k : Nat) (hr : Region.ready md ops listed = [k])
    (h : wpOp P ops Q k (fun a' w' => S w' ∧ Go.wpAnyH P md ops Q S fuel (listed.setIfInBounds k true) a' w') a w) : Go.wpAnyH P md ops Q S (fuel + 1) listed a w :=
  wpAnyH_all hr (by simp) (fun i hi => by
    simp only [List.mem_singleton] at hi
    subst hi
    exact h)
theorem runH {K : Act → World → Prop} {w' : World} (d : Option Tmp) (o : Oper) (ho : ops[i]? = some o) (hd : o.dst = d) (hw : Region.wanted o (yielded ops a.tmps) = true) (v : Value)
    (he : (execOp a.eval o).run P w = .ok (.value v) w') (h : K (a.put d v) w') : wpOp P ops Q i K a w := by
  subst hd
  unfold wpOp
  simp only [ho, hw, if_true]
  left
  unfold Oper.wp
  rw [he]
  exact h
theorem callH {K : Act → World → Prop} (d : Option Tmp) (o : Oper) (ho : ops[i]? = some o) (hd : o.dst = d) (f : FuncId) (args : Array Value) (hx : (execOp a.eval o).run P w = .ok (.enter f args) w) (hw : Region.wanted o (yielded ops a.tmps) = true)
    (h : Calls P f args w fun e w' => ∃ v, e = .returned v ∧ K (a.put d v) w') : wpOp P ops Q i K a w := by
  subst hd
  unfold wpOp
  simp only [ho, hw, if_true]
  left
  unfold Oper.wp
  rw [hx]
  simp only [Oper.upon]
  exact h.mono fun e w' ⟨v, he, hk⟩ => by subst he; exact hk
theorem appH {K : Act → World → Prop} (d : Option Tmp) (o : Oper) (hoi : ops[i]? = some o) (hd : o.dst = d) (hw : Region.wanted o (yielded ops a.tmps) = true) (s x : Operand) (t : TypeId)
    (ho : o.op = .call { callee := .builtin .append, args := #[s, x], argTypes := #[t, t] })
    (base : Nat) (e : TypeId) (it : TypeInfo) (z : Value) (size bytes : Nat) (ht : P.underlying t = some (.slice e)) (hi : P.info? e = some it) (hz : it.zero = some z)
    (hsize : it.size = size) (hby : it.bytes = bytes) (hzs : z.cells.size = size) (hpos : 0 < size) (v : Value) (n : Nat) (xs : List Value) (hv : a.eval s = v) (hown : w.ownsRow base e size v n xs)
    (B : Nat) (A : Option Addr) (c : Nat) (news : List Value) (m : Nat) (hx : a.eval x = .slice A m c) (hn : news.length = m * size) (hs : Sees w B A news) (h1 : ∀ u ∈ news, u.oneCell' = true)
    (h63 : n + m ≤ maxLen) (hbytes : (n + m) * bytes ≤ 140737488355328) (hbase : base ≤ w.heap.size)
    (h : ∀ A' c' w', w'.ownsRow base e size (.slice A' (n + m) c') (n + m) (xs ++ news) → Below base w w' → w.grownBy w' v.ownBlock →
      ((Value.slice A' (n + m) c').ownBlock = v.ownBlock ∨ (Value.slice A' (n + m) c').ownBlock = some w.heap.size) →
      K (a.put d (.slice A' (n + m) c')) w') : wpOp P ops Q i K a w := by
  subst hd
  obtain ⟨A', c', w', hrun, h2, h3, h4⟩ := run_appk (P := P) w base t o.type e it z size bytes ht hi hz hsize hby hzs hpos v n xs hown B A m c news hn hs h1 h63 hbytes hbase
  unfold wpOp
  simp only [hoi, hw, if_true]
  left
  unfold Oper.wp execOp
  simp only [ho, resolve, invoke, builtin, Sem.run_bind, Sem.run_pure, Result.andThen_ok, List.map_toArray, List.map_cons, List.map_nil, hv, hx, hrun]
  exact h A' c' w' h2 ((Below.refl _ _).grown h3 hbase (fun k hk => (hown.lt k hk).1)) h3 h4
theorem storeH {K : Act → World → Prop} (o : Oper) (ho : ops[i]? = some o) (hd : o.dst = none) (hw : Region.wanted o (yielded ops a.tmps) = true) (ty : TypeId) (x y : Operand) (hop : o.op = .store ty x y)
    (b off : Nat) (cells : Array Value) (hx : a.eval x = .pointer (some ⟨b, off, none⟩)) (hy : a.eval y = .agg cells)
    (ht : w.there b off cells.size) (hi : (P.info? ty).map (·.size) = some cells.size) (h1 : cells.all (·.oneCell') = true)
    (h : K a (w.setCells b off cells.toList)) : wpOp P ops Q i K a w := by
  unfold wpOp
  simp only [ho, hw, if_true]
  left
  refine wp_store_mid ty x y hop b off cells hx hy ht hi h1 ?_
  rw [hd]
  exact h
theorem store1H {K : Act → World → Prop} (o : Oper) (ho : ops[i]? = some o) (hd : o.dst = none) (hw : Region.wanted o (yielded ops a.tmps) = true) (ty : TypeId) (x y : Operand) (hop : o.op = .store ty x y)
    (b off : Nat) (u v : Value) (hx : a.eval x = .pointer (some ⟨b, off, none⟩)) (hy : a.eval y = v) (hag : ∀ w, (sizeOf ty).run P w = .ok 1 w) (hna : ∀ cs, v ≠ .agg cs) (hv : v.oneCell' = true) (cz : w.cell? ⟨b, off, none⟩ = some u) (fz : w.frozen? ⟨b, off, none⟩ = false)
    (h : K a (w.setCell ⟨b, off, none⟩ v)) : wpOp P ops Q i K a w := by
  unfold wpOp
  simp only [ho, hw, if_true]
  left
  unfold Oper.wp execOp
  generalize a.eval = ρ at hx hy
  have hm : (match v with | .agg cs => cs | v => #[v]) = #[v] := by
    cases v <;> first | rfl | exact absurd rfl (hna _)
  simp only [hop, hx, hy]
  simp [go_sem, hag, hm, cz, fz, hv]
  rw [run_store P w _ v .plain hv, cz]
  simp only [fz, Bool.false_eq_true, if_false, Result.andThen_ok]
  simp only [Oper.upon]
  rw [hd]
  exact h
end
end Go.Proofs.Ytncbhpopobjaiaa
