/- A region that draws its order, whose calls make memory, and whose last operations (a store, an append) wait for all the others: the others walked once, in the order of the text. -/
import Derived.Test.YtadmaalhhigbeaaW2
import Derived.StillTail
import Derived.WalkLawsBesides
namespace Go.Proofs.Ytadmaalhhigbeaa
open Go Go.RowKit

section
variable (P : Program) (ops : Array Oper) (md : Region.Mode) (G : Tmp → Option Rel) (w0 : World) (n : Nat) (L : Array Bool → Act → Prop)
def wpAnyH : Nat → Array Bool → Act → Prop
  | 0, listed, a => L listed a
  | f + 1, listed, a => Region.ready md ops listed ≠ [] ∧ ∀ i ∈ Region.ready md ops listed, i < n ∧ gOp P ops G w0 i listed (wpAnyH f (listed.setIfInBounds i true)) a
end
section
variable {P : Program} {ops : Array Oper} {md : Region.Mode} {G : Tmp → Option Rel} {w0 : World} {n : Nat} {L : Array Bool → Act → Prop}

theorem wpAnyH_first (hF : Fed ops md G) {i : Nat} {oi : Oper} (hi : ops[i]? = some oi) (hsel : ∀ (j : Nat) (o : Oper) cs b, ops[j]? = some o → o.op ≠ .select cs b)
    (hs : Region.sinkB md ops n = true) (hc : Region.chainB md ops n = true) (hn : n < ops.size) (hin : i < n)
    (hdone : ∀ listed a, L listed a → ∀ j ∈ Region.ready md ops listed, n ≤ j) :
    ∀ (fuel : Nat) (listed : Array Bool) (a : Act), HeadInv md ops n listed →
      (∀ j oj, ops[j]? = some oj → j ≠ i → listed.getD j true = false → (∀ e ∈ oj.after, Region.binds md e = true → e.on ≠ i) → oi.apart ops oj = true) →
      i ∈ Region.ready md ops listed → (∃ w, Inv ops G w0 listed a w) →
      gOp P ops G w0 i listed (wpAnyH P ops md G w0 n L fuel (listed.setIfInBounds i true)) a → wpAnyH P ops md G w0 n L (fuel + 1) listed a := by
  intro fuel
  induction fuel with
  | zero =>
    intro listed a inv _ hr hne H
    have hun := (mem_ready.1 hr).1
    refine ⟨fun h => (by rw [h] at hr; cases hr), fun j hj => ?_⟩
    have hjn : j < n := by
      rcases Nat.lt_or_ge j n with h | h
      · exact h
      · exact absurd hj (tail_waits hs hc hn inv _ i rfl hin hun j h)
    refine ⟨hjn, ?_⟩
    by_cases hji : j = i
    · subst hji; exact H
    · obtain ⟨u, hp, _⟩ := exists_poss hF hr hi hne (H oi hi).1
      have h1 := (H oi hi).2 u hp
      have := hdone _ _ h1 j (ready_mono hj hji)
      omega
  | succ fuel ih =>
    intro listed a inv hfree hr hne H
    have hiun := (mem_ready.1 hr).1
    refine ⟨fun h => (by rw [h] at hr; cases hr), fun j hj => ?_⟩
    have hjn : j < n := by
      rcases Nat.lt_or_ge j n with h | h
      · exact h
      · exact absurd hj (tail_waits hs hc hn inv _ i rfl hin hiun j h)
    refine ⟨hjn, ?_⟩
    by_cases hji : j = i
    · subst hji; exact H
    obtain ⟨hgi, hnext⟩ := H oi hi
    obtain ⟨v0, hp0, _⟩ := exists_poss hF hr hi hne hgi
    obtain ⟨hjun, oj', hoj', hall⟩ := mem_ready.1 hj
    have hnot : ∀ e ∈ oj'.after, Region.binds md e = true → e.on ≠ i := fun e he hb heq => by
      have h1 := hall e he hb
      rw [heq, getD_both hiun] at h1
      cases h1
    intro oj hoj
    obtain rfl : oj' = oj := by rw [hoj] at hoj'; injection hoj' with h; exact h.symm
    have hap := hfree j oj' hoj hji hjun hnot
    obtain ⟨p1, p2, p3⟩ := Oper.apart_spec hap
    have sj : ∀ v, Alike ops oj' a (a.put oi.dst v) := fun v => alike_put (fun cs b => hsel j oj' cs b hoj) p1
    have si : ∀ u, Alike ops oi a (a.put oj'.dst u) := fun u => alike_put (fun cs b => hsel i oi cs b hi) p3
    have hjr := ready_mono hj hji
    refine ⟨fun hwt w hw => ?_, fun u hu => ?_⟩
    · have h1 := (((hnext v0 hp0).2 j hjr).2 oj' hoj).1 (by rw [(sj v0).want]; exact hwt) w ((sj v0).symm.lean hw)
      exact (sj v0).gives h1
    · have hne' : ∃ w, Inv ops G w0 (listed.setIfInBounds j true) (a.put oj'.dst u) w := by
        rcases hu with ⟨_, h, _⟩ | ⟨_, rfl⟩
        · exact h
        · obtain ⟨w, hw⟩ := hne
          exact ⟨w, hw.put hF hoj (fun d R hd hR h => absurd rfl h)⟩
      have hiun' : (listed.setIfInBounds j true).getD i true = false := by rw [getD_set_ne true hji]; exact hiun
      have hfree' : ∀ k ok, ops[k]? = some ok → k ≠ i → (listed.setIfInBounds j true).getD k true = false →
          (∀ e ∈ ok.after, Region.binds md e = true → e.on ≠ i) → oi.apart ops ok = true := fun k ok hk hki hun hno => by
        refine hfree k ok hk hki ?_ hno
        by_cases hjk : j = k
        · subst hjk; exact hjun
        · rw [getD_set_ne true hjk] at hun; exact hun
      refine ih (listed.setIfInBounds j true) (a.put oj'.dst u) (inv.set hj hjn) hfree' (ready_mono hr (Ne.symm hji)) hne' ?_
      intro oi' hoi'
      obtain rfl : oi = oi' := by rw [hi] at hoi'; injection hoi' with h
      refine ⟨fun hwt w hw => ?_, fun v hv => ?_⟩
      · exact (si u).symm.gives (hgi (by rw [← (si u).want]; exact hwt) w ((si u).lean hw))
      · have hI : ∃ w, Inv ops G w0 ((listed.setIfInBounds i true).setIfInBounds j true) ((a.put oi.dst v).put oj'.dst u) w := by
          rcases hv with ⟨_, ⟨w, hw⟩, _⟩ | ⟨_, rfl⟩
          · exact ⟨w, hw.comm hji (fun d hd he => p2 d he hd)⟩
          · obtain ⟨w, hw⟩ := hne'
            exact ⟨w, (hw.put hF hi (fun d R hd hR h => absurd rfl h)).comm hji (fun d hd he => p2 d he hd)⟩
        have hpi : Poss P ops G w0 i listed oi a v := by
          rcases hv with ⟨h1, _, w2, h2⟩ | ⟨h1, h2⟩
          · refine .inl ⟨by rw [← (si u).want]; exact h1, ?_, w2, by rw [← (si u).rel]; exact h2⟩
            obtain ⟨w, hw⟩ := hI
            exact ⟨w, hw.less hF hoj (by rw [getD_set_ne true (Ne.symm hji)]; exact hjun)⟩
          · exact .inr ⟨by rw [← (si u).want]; exact h1, h2⟩
        have hk := (((hnext v hpi).2 j hjr).2 oj' hoj).2 u (by
          rcases hu with ⟨h1, _, w2, h2⟩ | ⟨h1, h2⟩
          · exact .inl ⟨by rw [(sj v).want]; exact h1, hI, w2, by rw [(sj v).rel]; exact h2⟩
          · exact .inr ⟨by rw [(sj v).want]; exact h1, h2⟩)
        rw [Array.setIfInBounds_comm _ _ hji, Act.put_comm a u v (fun d hd he => p2 d he hd)]
        exact hk

theorem wpAny_of_H {g : Nat} {Q : Exit → Act → World → Prop} (hF : Fed ops md G) (hL : ∀ listed a w, L listed a → Inv ops G w0 listed a w → wpAny P md ops Q g listed a w) :
    ∀ (f : Nat) (listed : Array Bool) (a : Act) (w : World), Inv ops G w0 listed a w → wpAnyH P ops md G w0 n L f listed a → wpAny P md ops Q (f + g) listed a w
  | 0, _, _, w, hw, h => by rw [Nat.zero_add]; exact hL _ _ w h hw
  | fuel + 1, listed, a, w, hw, h => by
    rw [show fuel + 1 + g = (fuel + g) + 1 by omega]
    refine ⟨fun h0 => absurd h0 h.1, fun i hi => ?_⟩
    obtain ⟨hun, o, ho, _⟩ := mem_ready.1 hi
    obtain ⟨hg, hn⟩ := (h.2 i hi).2 o ho
    unfold wpOp
    simp only [ho]
    by_cases hwt : Region.wanted o (yielded ops a.tmps) = true
    · simp only [hwt, if_true]
      left
      have h1 := hg hwt w (hw.lean hF hi ho)
      have next : ∀ u w', Le w w' → relOf P G w0 o a u w' → wpAny P md ops Q (fuel + g) (listed.setIfInBounds i true) (a.put o.dst u) w' := fun u w' hl hr => by
        have hI := (hw.mono hl).put hF ho (u := u) (fun d R hd hR _ => rel_of hr d R hd hR)
        exact wpAny_of_H hF hL fuel _ _ w' hI (hn u (.inl ⟨hwt, ⟨w', hI⟩, ⟨w', hr⟩⟩))
      unfold gives at h1
      unfold Oper.wp
      generalize (execOp a.eval o).run P w = r at *
      cases r with
      | ok n w' =>
        cases n <;> simp only [givesUpon] at h1 <;> simp only [Oper.upon]
        case value u => exact next _ _ h1.1 h1.2
        case skip => exact next _ _ h1.1 h1.2
        case enter f args => exact h1.2.mono fun e w'' ⟨v, he, hl, hr⟩ => by subst he; exact next _ _ (h1.1.trans hl) hr
      | halt x w' => simp only [givesUpon] at h1
    · simp only [hwt]
      exact wpAny_of_H hF hL fuel _ _ w (hw.put hF ho (fun d R hd hR h => absurd rfl h)) (hn undef (.inr ⟨by simpa using hwt, rfl⟩))

attribute [local semireducible] wpG in
theorem wpAnyH_lex {g : Nat} {Tn : Act → World → Prop} (hF : Fed ops md G) (hsel : Region.noSelect ops = true) (hs : Region.sinkB md ops n = true) (hc : Region.chainB md ops n = true) (hn : n < ops.size) (nt : Nat) (hd : ∀ o ∈ ops, ∀ d, o.dst = some d → d < nt) :
    ∀ (l : List Oper) (k : Nat) (listed : Array Bool) (a : Act) (S : World → Prop), (∀ j, j < l.length → l[j]? = ops[k + j]?) → k + l.length = n → HeadInv md ops n listed →
    Region.lexHead md ops g l.length k listed = true → a.tmps.size = nt → (∃ w, Inv ops G w0 listed a w) → (∀ w, Inv ops G w0 listed a w → S w) → wpG P ops G w0 Tn l a S →
    wpAnyH P ops md G w0 n (fun listed' a' => Region.seqB md ops g n listed' = true ∧ ∀ w, Inv ops G w0 listed' a' w → Tn a' w) l.length listed a
  | [], k, listed, a, S, _, hk, _, hB, _, _, hS, h => by
    have : k = n := by simpa using hk
    subst this
    unfold wpG at h
    exact ⟨by simpa [Region.lexHead] using hB, fun w hw => h w hw.1 (hS w hw)⟩
  | o :: l, k, listed, a, S, hl, hk, inv, hB, ha, hne, hS, h => by
    have h0 : ops[k]? = some o := by simpa using (hl 0 (by simp)).symm
    simp only [List.length_cons, Region.lexHead, Bool.and_eq_true] at hB
    obtain ⟨⟨hr, hf⟩, hB'⟩ := hB
    have hkn : k < n := by simp only [List.length_cons] at hk; omega
    have hrd : k ∈ Region.ready md ops listed := by simpa using hr
    have hun := (mem_ready.1 hrd).1
    have hl' : ∀ j, j < l.length → l[j]? = ops[k + 1 + j]? := fun j hj => by have := hl (j + 1) (by simp; omega); simpa [Nat.add_assoc, Nat.add_comm 1 j] using this
    have hk' : k + 1 + l.length = n := by simp only [List.length_cons] at hk; omega
    refine wpAnyH_first hF h0 (Region.noSelect_spec hsel) hs hc hn hkn (fun listed' a' hL => seqB_ready hL.1) l.length listed a inv (Region.free_spec h0 hf) hrd hne ?_
    intro o' ho'
    obtain rfl : o = o' := by rw [h0] at ho'; injection ho' with h
    unfold wpG at h
    by_cases hwt : Region.wanted o (yielded ops a.tmps) = true
    · simp only [hwt, if_true] at h
      cases hb : o.dst.bind G with
      | some R =>
        simp only [hb] at h
        have hrel : relOf P G w0 o a = R.rel := by unfold relOf; rw [hb]
        obtain ⟨d, hod, hGd⟩ := Option.bind_eq_some_iff.1 hb
        refine ⟨fun _ w hw => by rw [hrel]; exact h.1 w hw, fun u hu => ?_⟩
        rcases hu with ⟨_, ⟨w1, hI⟩, w2, hr2⟩ | ⟨hw', _⟩
        · rw [hrel] at hr2
          have hreal : u ≠ undef := fun e => R.real w2 (e ▸ hr2)
          have hlt : d < a.tmps.size := by rw [ha]; exact hd o (Array.mem_of_getElem? h0) d hod
          have hev : (a.put o.dst u).eval (.tmp d) = u := by rw [hod]; simp [Act.put, Act.eval, hlt]
          have hS' : ∀ w, Inv ops G w0 (listed.setIfInBounds k true) (a.put o.dst u) w → S w ∧ R.rel u w := fun w hw => by
            refine ⟨hS w (hw.less hF h0 hun), ?_⟩
            have hls : (listed.setIfInBounds k true).getD k false = true := by
              rcases Nat.lt_or_ge k listed.size with h' | h'
              · simp [h']
              · simp [Array.getElem?_eq_none h'] at hun
            have := hw.2 k o d R h0 hls hod hGd (by rw [hev]; exact hreal)
            rwa [hev] at this
          exact wpAnyH_lex hF hsel hs hc hn nt hd l (k + 1) _ _ _ hl' hk' (inv.set hrd hkn) hB' (by rw [put_size]; exact ha) ⟨w1, hI⟩ hS' (h.2 u ⟨w1, hI.1, (hS' w1 hI).1, (hS' w1 hI).2⟩)
        · rw [hwt] at hw'; cases hw'
      | none =>
        simp only [hb] at h
        obtain ⟨v, hv, hrest⟩ := h
        have hrel : relOf P G w0 o a = fun u _ => u = valOf P G w0 o a := by unfold relOf; rw [hb]
        have hval : valOf P G w0 o a = v := by
          obtain ⟨w, hw⟩ := hne
          have hlw := hw.lean hF hrd h0
          exact firmAt_same P (valOf_firm P G w0 hv w hlw) (hv w hlw)
        refine ⟨fun _ w hw => by rw [hrel]; exact firmAt_gives P (valOf_firm P G w0 hv w hw), fun u hu => ?_⟩
        rcases hu with ⟨_, hI, w2, hr2⟩ | ⟨hw', _⟩
        · rw [hrel, hval] at hr2
          subst hr2
          exact wpAnyH_lex hF hsel hs hc hn nt hd l (k + 1) _ _ S hl' hk' (inv.set hrd hkn) hB' (by rw [put_size]; exact ha) hI (fun w hw => hS w (hw.less hF h0 hun)) hrest
        · rw [hwt] at hw'; cases hw'
    · simp only [hwt] at h
      refine ⟨fun hw' => absurd hw' hwt, fun u hu => ?_⟩
      rcases hu with ⟨hw', _⟩ | ⟨_, rfl⟩
      · exact absurd hw' hwt
      · obtain ⟨w, hw⟩ := hne
        have hI := hw.put hF h0 (u := undef) (fun d R hd hR h => absurd rfl h)
        exact wpAnyH_lex hF hsel hs hc hn nt hd l (k + 1) _ _ S hl' hk' (inv.set hrd hkn) hB' (by rw [put_size]; exact ha) ⟨w, hI⟩ (fun w hw => hS w (hw.less hF h0 hun)) h
end

/-- The first m operations walked once; the others, which wait for them, in a row. -/
theorem wp_region_tail {P : Program} {id : Nat} {Q : Exit → Act → World → Prop} {a : Act} {w : World} {l : List Oper} (g : List (Tmp × Rel)) (nt m : Nat) (hm : P.follows .mixedOrders = true) (hB : Region.lexTailB .any l.toArray m = true)
    (hf : fedB l (g.map (·.1)) nt = true) (hn : a.tmps.size = nt) (h : wpG P l.toArray (openOf g) w (fun a' w' => wpList P l.toArray Q (l.drop m) a' w') (l.take m) a (fun _ => True)) : (Code.region id l.toArray true).wp P Q a w := by
  simp only [Region.lexTailB, Bool.and_eq_true, decide_eq_true_eq] at hB
  obtain ⟨⟨⟨⟨hsel, hn'⟩, hs⟩, hc⟩, hlex⟩ := hB
  obtain ⟨hF, hd⟩ := fedB_fed (n := nt) hf
  have hnl : m < l.length := by simpa using hn'
  have htl : (l.take m).length = m := by simp; omega
  have hdl : (l.drop m).length = l.toArray.size - m := by simp
  have hI : ∀ w', Le w w' → Inv l.toArray (openOf g) w (Array.replicate l.toArray.size false) a w' := fun w' hl => ⟨hl, fun k o d R _ hk => by
    exfalso
    rw [getD_replicate_false] at hk
    cases hk⟩
  have inv0 : HeadInv .any l.toArray m (Array.replicate l.toArray.size false) :=
    ⟨by simp, fun j oj _ hl => (by rw [getD_replicate_false] at hl; cases hl), fun t _ ht => getD_in (by simpa using ht) (getD_replicate_false _ _)⟩
  have H := wpAnyH_lex (md := .any) (g := l.toArray.size - m) hF hsel hs hc hn' nt hd (l.take m) 0 _ a (fun _ => True) (fun j hj => by
    have hj' : j < m := by rw [htl] at hj; exact hj
    simp [hj']) (by simpa using htl) inv0 (by rw [htl]; exact hlex) hn ⟨_, hI w (Le.refl w)⟩ (fun _ _ => trivial) h
  refine wp_region_any hm ?_
  have := wpAny_of_H (Q := Q) (g := l.toArray.size - m) hF (fun listed a' w' hL hw => by
    have := wpAny_of_seq (md := .any) (Q' := Q) (l.drop m) m listed a' w' (fun j => by simp [List.getElem?_drop]) (by rw [hdl]; exact hL.1) (hL.2 w' hw)
    rwa [hdl] at this) _ _ _ _ (hI { w with drawn := w.drawn + 1 } ((Below.refl _ _).drew)) H
  rw [htl, show m + (l.toArray.size - m) = l.toArray.size by omega] at this
  exact this
end Go.Proofs.Ytadmaalhhigbeaa

/- Compare of values and numbers: what the program's and the document's return (of ValB, ValF, ValG). -/
namespace Go.Proofs.Ytadmaalhhigbeaa
set_option linter.unusedVariables false
set_option linter.unusedSimpArgs false
open Go Go.RowKit BitM ValM

theorem cmpint_any (x y : Int) (w : World) : Calls Try.prog 78 #[.int .i64 x, .int .i64 y] w fun e w' => e = .returned (.int .i64 (cmpI x y)) ∧ w = w' := by
  obtain ⟨F, hF⟩ : ∃ F, F = cmpI x y := ⟨_, rfl⟩
  rw [← hF]
  unfold cmpI at hF
  have HF := Lib.hid hF
  clear hF
  rcases Int.lt_trichotomy x y with h | h | h
  · have HR : Hid (F = -1) := Lib.hid (by rw [HF.out, if_pos h])
    clear HF
    go_enter Try.func78, Try.ntmps78
    go_wp2
    go_ret
    exact ⟨by rw [HR.out]; rfl, rfl⟩
  · have HR : Hid (F = 0) := Lib.hid (by rw [HF.out, if_neg (by omega), if_neg (by omega)])
    clear HF
    subst h
    go_enter Try.func78, Try.ntmps78
    go_wp2
    go_ret
    exact ⟨by rw [HR.out]; rfl, rfl⟩
  · have HR : Hid (F = 1) := Lib.hid (by rw [HF.out, if_neg (by omega), if_pos h])
    clear HF
    go_enter Try.func78, Try.ntmps78
    go_wp2
    go_ret
    exact ⟨by rw [HR.out]; rfl, rfl⟩

theorem cmpstr_any (s t : ByteArray) (w : World) : Calls Try.prog 98 #[.string s, .string t] w fun e w' => e = .returned (.int .i64 (cmpS s.data.toList t.data.toList)) ∧ w = w' := by
  have hs := ByteArray.toList_eq s
  have ht := ByteArray.toList_eq t
  obtain ⟨F, hF⟩ : ∃ F, F = cmpS s.data.toList t.data.toList := ⟨_, rfl⟩
  rw [← hF]
  unfold cmpS at hF
  rw [← hs, ← ht] at hF
  have HF := Lib.hid hF
  clear hs ht hF
  rcases bl_tri s.toList t.toList with h | h | h
  · have HR : Hid (F = -1) := Lib.hid (by rw [HF.out, if_pos h])
    clear HF
    go_enter Try.func98, Try.ntmps98
    go_wp2
    go_ret
    exact ⟨by rw [HR.out]; rfl, rfl⟩
  · have h2 : Op.bytesLess s.toList t.toList = false := by rw [h]; exact bl_irrefl _
    have h3 : Op.bytesLess t.toList s.toList = false := by rw [h]; exact bl_irrefl _
    have h4 : (s.toList == t.toList) = true := by simp [h]
    have HR : Hid (F = 0) := Lib.hid (by rw [HF.out, h2, h3]; rfl)
    clear h h3 HF
    go_enter Try.func98, Try.ntmps98
    go_wp2
    go_ret
    exact ⟨by rw [HR.out]; rfl, rfl⟩
  · have h2 := bl_asymm h
    have h4 : (s.toList == t.toList) = false := by
      rw [beq_eq_false_iff_ne]
      intro e
      rw [e, bl_irrefl] at h
      cases h
    have HR : Hid (F = 1) := Lib.hid (by rw [HF.out, h2, h]; rfl)
    clear h HF
    go_enter Try.func98, Try.ntmps98
    go_wp2
    go_ret
    exact ⟨by rw [HR.out]; rfl, rfl⟩

/-- The first number that is not 0. -/
def firstNZ (l : List Int) : Int := (l.find? fun x => x != 0).getD 0
set_option maxHeartbeats 800000 in
theorem or_any (A : Option Addr) (n c : Nat) (l : List Int) (w : World) (B : Nat) (hn : l.length = n) (hs : Sees w B A (ivs l)) (hm : n ≤ 65536) :
    Calls Try.prog 77 #[.slice A n c] w fun e w' => e = .returned (.int .i64 (firstNZ l)) ∧ w = w' := by
  subst hn
  have HF : Hid (firstNZ l = (l.find? fun x => x != 0).getD 0) := Lib.hid rfl
  obtain ⟨F, hF⟩ : ∃ F, F = firstNZ l := ⟨_, rfl⟩
  rw [← hF] at HF ⊢
  clear hF
  go_enter Try.func77, Try.ntmps77
  go_wp2_with fail
  go_loop [8] (fun i => ∃ k : Nat, k ≤ l.length ∧ i = .int .i64 k ∧ Hid (F = ((l.drop k).find? fun x => x != 0).getD 0)) (fun i => l.length - (intOf i).toNat)
  case atStart => exact ⟨0, Nat.zero_le _, rfl, HF⟩
  case round =>
    obtain ⟨k, hk, rfl, HX⟩ := hrel
    by_cases hlt : k < l.length
    · obtain ⟨b, o, rfl, hb, hc⟩ := hs.int k hlt
      obtain ⟨y, hy⟩ : ∃ y, y = l[k] := ⟨_, rfl⟩
      rw [← hy] at hc
      have HS : Hid (F = if (y != 0) = true then y else ((l.drop (k + 1)).find? fun x => x != 0).getD 0) := Lib.hid (by
        rw [HX.out, List.drop_eq_getElem_cons hlt, ← hy, List.find?_cons]
        cases (y != 0) <;> rfl)
      clear hy
      cases h0 : (y != 0) with
      | true =>
        rw [h0] at HS
        go_wp2_with fail
        go_ret
        exact ⟨by rw [HS.out]; rfl, rfl⟩
      | false =>
        rw [h0] at HS
        go_wp2_with fail
        go_round
        case rel => exact ⟨k + 1, by omega, by go_num, Lib.hid (by rw [HS.out]; rfl)⟩
        case measure => simp [intOf]; omega
    · obtain rfl : k = l.length := by omega
      have HS : Hid (F = 0) := Lib.hid (by rw [HX.out, List.drop_length]; rfl)
      go_wp2_with fail
      go_ret
      exact ⟨by rw [HS.out]; rfl, rfl⟩

/-- A slot that holds a slice of numbers. -/
def relInts (l : List Int) : Rel where
  rel x w := ∃ g, x = .slice (some ⟨g, 0, none⟩) l.length l.length ∧ Blk w g (ivs l)
  mono := fun x w w' h ⟨g, e, hr⟩ => ⟨g, e, hr.later h⟩
  real := fun w ⟨g, e, _⟩ => by cases e
theorem Blk.seesInts {w : World} {g : Nat} {l : List Int} (h : Blk w g (ivs l)) : Sees w w.heap.size (some ⟨g, 0, none⟩) (ivs l) := fun _ => by
  refine ⟨g, 0, rfl, h.lt, fun j hj => ?_⟩
  rw [Nat.zero_add]
  exact h.cell (List.getElem?_eq_getElem hj)
theorem run_ints3 (a b c : Int) (w : World) : (Instr.buildSlice 76 3 #[(0, .int .i64 a), (1, .int .i64 b), (2, .int .i64 c)]).run Try.prog w = .ok (.slice (some ⟨w.heap.size, 0, none⟩) 3 3) (w.alloc (.cells (ivs [a, b, c]).toArray 3)) := by kernel_rfl
theorem ints3_gives {a : Act} {op : Oper} (x y z : Operand) (p q r : Int) (ho : op.op = .buildSlice 76 3 #[(0, x), (1, y), (2, z)]) (hx : a.eval x = .int .i64 p) (hy : a.eval y = .int .i64 q) (hz : a.eval z = .int .i64 r) (w : World) : gives Try.prog op a (relInts [p, q, r]).rel w := by
  unfold gives execOp
  simp only [ho, List.map_toArray, List.map_cons, List.map_nil, hx, hy, hz, Sem.run_bind, run_ints3, Result.andThen_ok, Sem.run_pure]
  exact ⟨(Below.refl _ _).alloc (Nat.le_refl _) _, _, rfl, Blk.new w _ _⟩

theorem first3 (a b c : Int) : firstNZ [a, b, c] = if a ≠ 0 then a else if b ≠ 0 then b else c := by
  unfold firstNZ
  by_cases h1 : a = 0
  · by_cases h2 : b = 0
    · by_cases h3 : c = 0 <;> simp [h1, h2, h3]
    · simp [h1, h2]
  · simp [h1]

set_option maxRecDepth 100000 in
set_option maxHeartbeats 1600000 in
theorem vcompare_any (a b : V3) (w : World) : Calls Try.prog 79 #[.agg (vcells a).toArray, .agg (vcells b).toArray] w fun e w' => e = .returned (.int .i64 (vcmp a b)) ∧ Below w.heap.size w w' := by
  obtain ⟨k, n, s⟩ := a
  obtain ⟨k', n', s'⟩ := b
  have HR : Hid (firstNZ [cmpI k k', cmpI n n', cmpS s.data.toList s'.data.toList] = vcmp (k, n, s) (k', n', s')) := Lib.hid (first3 _ _ _)
  have H1 := Lib.hid (fun wx : World => (cmpint_any k k' wx).mono fun e w' (h : e = .returned (.int .i64 (cmpI k k')) ∧ wx = w') => (show e = .returned (.int .i64 (cmpI k k')) ∧ Below wx.heap.size wx w' from ⟨h.1, h.2 ▸ Below.refl _ _⟩))
  have H2 := Lib.hid (fun wx : World => (cmpint_any n n' wx).mono fun e w' (h : e = .returned (.int .i64 (cmpI n n')) ∧ wx = w') => (show e = .returned (.int .i64 (cmpI n n')) ∧ Below wx.heap.size wx w' from ⟨h.1, h.2 ▸ Below.refl _ _⟩))
  have H3 := Lib.hid (fun wx : World => (cmpstr_any s s' wx).mono fun e w' (h : e = .returned (.int .i64 (cmpS s.data.toList s'.data.toList)) ∧ wx = w') => (show e = .returned (.int .i64 (cmpS s.data.toList s'.data.toList)) ∧ Below wx.heap.size wx w' from ⟨h.1, h.2 ▸ Below.refl _ _⟩))
  obtain ⟨c1, hc1⟩ : ∃ c, c = cmpI k k' := ⟨_, rfl⟩
  obtain ⟨c2, hc2⟩ : ∃ c, c = cmpI n n' := ⟨_, rfl⟩
  obtain ⟨c3, hc3⟩ : ∃ c, c = cmpS s.data.toList s'.data.toList := ⟨_, rfl⟩
  rw [← hc1] at H1 HR
  rw [← hc2] at H2 HR
  rw [← hc3] at H3 HR
  obtain ⟨r, hr⟩ : ∃ r, r = vcmp (k, n, s) (k', n', s') := ⟨_, rfl⟩
  rw [← hr] at HR ⊢
  clear hc1 hc2 hc3 hr
  have B0 := (Blk.new w (vcells (k, n, s)) 69).alloc (.cells (vcells (k', n', s')).toArray 69)
  have B1 := Blk.new (w.alloc (.cells (vcells (k, n, s)).toArray 69)) (vcells (k', n', s')) 69
  have hb := ((Below.refl w.heap.size w).alloc (Nat.le_refl _) (.cells (vcells (k, n, s)).toArray 69)).alloc (by simp) (.cells (vcells (k', n', s')).toArray 69)
  have hs1 : (w.alloc (.cells (vcells (k, n, s)).toArray 69)).heap.size = w.heap.size + 1 := by simp
  rw [hs1] at B1
  clear hs1
  go_enter Try.func79, Try.ntmps79
  go_wp2_with fail
  generalize ((w.alloc (.cells (vcells (k, n, s)).toArray 69)).alloc (.cells (vcells (k', n', s')).toArray 69)) = W at *
  have p0 : ∀ kk : LW W, kk.val.cell? ⟨w.heap.size, 0, none⟩ = some (.int .i64 k) := fun kk => (B0.later kk.le).cell rfl
  have p1 : ∀ kk : LW W, kk.val.cell? ⟨w.heap.size, 1, none⟩ = some (.int .i64 n) := fun kk => (B0.later kk.le).cell rfl
  have p2 : ∀ kk : LW W, kk.val.cell? ⟨w.heap.size, 2, none⟩ = some (.string s) := fun kk => (B0.later kk.le).cell rfl
  have q0 : ∀ kk : LW W, kk.val.cell? ⟨w.heap.size + 1, 0, none⟩ = some (.int .i64 k') := fun kk => (B1.later kk.le).cell rfl
  have q1 : ∀ kk : LW W, kk.val.cell? ⟨w.heap.size + 1, 1, none⟩ = some (.int .i64 n') := fun kk => (B1.later kk.le).cell rfl
  have q2 : ∀ kk : LW W, kk.val.cell? ⟨w.heap.size + 1, 2, none⟩ = some (.string s') := fun kk => (B1.later kk.le).cell rfl
  refine wp_region_steady [(20, relInts [c1, c2, c3])] 22 (by kernel_rfl) (by kernel_rfl) (by kernel_rfl) (by rfl) ?_
  iterate 4 (refine wpG_quiet (by rfl) (by rfl) (by rfl) (fun K hK => ?_); go_big_quiet_op; refine hK _ ?_; clear hK K)
  refine wpG_call (by rfl) (by rfl) 78 #[.int .i64 k, .int .i64 k'] (.int .i64 c1) (by intro _; simp [go_sem]) (by kernel_rfl) (fun w1 hl => (H1.out w1)) ?_
  simp only [Act.put, List.setIfInBounds_toArray, List.set_cons_zero, List.set_cons_succ]
  iterate 4 (refine wpG_quiet (by rfl) (by rfl) (by rfl) (fun K hK => ?_); go_big_quiet_op; refine hK _ ?_; clear hK K)
  refine wpG_call (by rfl) (by rfl) 78 #[.int .i64 n, .int .i64 n'] (.int .i64 c2) (by intro _; simp [go_sem]) (by kernel_rfl) (fun w1 hl => (H2.out w1)) ?_
  simp only [Act.put, List.setIfInBounds_toArray, List.set_cons_zero, List.set_cons_succ]
  iterate 4 (refine wpG_quiet (by rfl) (by rfl) (by rfl) (fun K hK => ?_); go_big_quiet_op; refine hK _ ?_; clear hK K)
  refine wpG_call (by rfl) (by rfl) 98 #[.string s, .string s'] (.int .i64 c3) (by intro _; simp [go_sem]) (by kernel_rfl) (fun w1 hl => (H3.out w1)) ?_
  simp only [Act.put, List.setIfInBounds_toArray, List.set_cons_zero, List.set_cons_succ]
  refine wpG_open (relInts [c1, c2, c3]) (by rfl) (by rfl) (fun w1 hl => ints3_gives (.tmp 9) (.tmp 14) (.tmp 19) c1 c2 c3 rfl rfl rfl rfl w1) ?_
  rintro _ ⟨_, _, _, ⟨g, rfl, _⟩⟩
  simp only [Act.put, List.setIfInBounds_toArray, List.set_cons_zero, List.set_cons_succ]
  refine wpG_call (by rfl) (by rfl) 77 #[.slice (some ⟨g, 0, none⟩) 3 3] (.int .i64 r) (by intro _; simp [go_sem]) (by kernel_rfl) (fun w1 hl => ?_) ?_
  · obtain ⟨g5, h5, r5⟩ := hl.2 20 _ (by simp [Op.operands, Call.operands]) rfl (by intro h; cases h)
    cases h5
    have := or_any (some ⟨g, 0, none⟩) 3 3 [c1, c2, c3] w1 w1.heap.size rfl r5.seesInts (by omega)
    rw [HR.out] at this
    exact this.mono fun e w' h => ⟨h.1, h.2 ▸ Below.refl _ _⟩
  simp only [Act.put, List.setIfInBounds_toArray, List.set_cons_zero, List.set_cons_succ]
  iterate 1 (refine wpG_quiet (by rfl) (by rfl) (by rfl) (fun K hK => ?_); go_big_quiet_op; refine hK _ ?_; clear hK K)
  refine wpG_nil fun w1 hl _ => ?_
  have hb1 := hb.trans (hl.mono hb.size)
  clear p0 p1 p2 q0 q1 q2 B0 B1 hb
  go_wp2_with fail
  go_ret
  exact ⟨rfl, hb1⟩

theorem info_val : (Try.prog.info? 69).map (·.size) = some 3 := by kernel_rfl
/-- The world behind two boxes. -/
theorem two_boxes (a b : V3) (w : World) : ∃ W, W = (w.alloc (.cells (vcells a).toArray 69)).alloc (.cells (vcells b).toArray 69) ∧ Blk W w.heap.size (vcells a) ∧ Blk W (w.heap.size + 1) (vcells b) ∧ Below w.heap.size w W := by
  refine ⟨_, rfl, (Blk.new w (vcells a) 69).alloc _, ?_, ((Below.refl w.heap.size w).alloc (Nat.le_refl _) _).alloc (by simp) _⟩
  have := Blk.new (w.alloc (.cells (vcells a).toArray 69)) (vcells b) 69
  have hs1 : (w.alloc (.cells (vcells a).toArray 69)).heap.size = w.heap.size + 1 := by simp
  rw [hs1] at this
  exact this
theorem Blk.val {w : World} {g : Nat} {k n : Int} {s : ByteArray} (h : Blk w g (vcells (k, n, s))) : w.cell? ⟨g, 0, none⟩ = some (.int .i64 k) ∧ w.cell? ⟨g, 1, none⟩ = some (.int .i64 n) ∧ w.cell? ⟨g, 2, none⟩ = some (.string s) := ⟨h.cell rfl, h.cell rfl, h.cell rfl⟩
theorem Blk.valR {w : World} {g : Nat} {a : V3} (h : Blk w g (vcells a)) : w.rangeAt g 0 (vcells a) := h.range 0 _ rfl
theorem take_byte (s : ByteArray) (k : Nat) (h : k < s.size) : s.data.toList.take (k + 1) = s.data.toList.take k ++ [s[k]] := by
  rw [List.take_succ_eq_append_getElem (by simpa using h)]; rfl

theorem cmpS_prefix : ∀ (p x y : List UInt8), cmpS (p ++ x) (p ++ y) = cmpS x y
  | [], x, y => rfl
  | c :: p, x, y => by
    rw [← cmpS_prefix p x y]
    unfold cmpS
    simp [Op.bytesLess, UInt8.lt_irrefl]
theorem cmpS_heads (c d : UInt8) (x y : List UInt8) (h : c ≠ d) : cmpS (c :: x) (d :: y) = cmpI (c.toNat : Int) (d.toNat : Int) := by
  have hn : c.toNat ≠ d.toNat := fun e => h (UInt8.toNat_inj.1 e)
  unfold cmpS cmpI
  have hdc : (d == c) = false := by rw [beq_eq_false_iff_ne]; exact fun e => h e.symm
  have hcd : (c == d) = false := by rw [beq_eq_false_iff_ne]; exact h
  simp only [Op.bytesLess, hcd, hdc, Bool.false_and, Bool.or_false, decide_eq_true_eq, UInt8.lt_iff_toNat_lt, Int.ofNat_lt]
theorem cmpS_diff {l m : List UInt8} {k : Nat} (h1 : k < l.length) (h2 : k < m.length) (h : l.take k = m.take k) (hne : l[k] ≠ m[k]) : cmpS l m = cmpI (l[k].toNat : Int) (m[k].toNat : Int) := by
  rw [← cmpS_heads l[k] m[k] (l.drop (k + 1)) (m.drop (k + 1)) hne, ← List.drop_eq_getElem_cons h1, ← List.drop_eq_getElem_cons h2]
  conv => lhs; rw [← List.take_append_drop k l, ← List.take_append_drop k m, h]
  exact cmpS_prefix _ _ _
theorem cmpS_end {l m : List UInt8} {k : Nat} (hk1 : k ≤ l.length) (hk2 : k ≤ m.length) (h : l.take k = m.take k) (he : k = l.length ∨ k = m.length) : cmpS l m = cmpI (l.length : Int) (m.length : Int) := by
  conv => lhs; rw [← List.take_append_drop k l, ← List.take_append_drop k m, h]
  rw [cmpS_prefix]
  rcases he with rfl | rfl
  · rw [List.drop_length]
    rcases Nat.lt_or_ge l.length m.length with hl | hl
    · rw [List.drop_eq_getElem_cons hl]
      have : cmpI (l.length : Int) (m.length : Int) = -1 := by unfold cmpI; rw [if_pos (by omega)]
      rw [this]; rfl
    · have : m.length = l.length := by omega
      rw [List.drop_eq_nil_of_le hl, this]
      rw [(cmpI_zero _ _).2 rfl]; rfl
  · rw [List.drop_length]
    rcases Nat.lt_or_ge m.length l.length with hl | hl
    · rw [List.drop_eq_getElem_cons hl]
      have : cmpI (l.length : Int) (m.length : Int) = 1 := by unfold cmpI; rw [if_neg (by omega), if_pos (by omega)]
      rw [this]; rfl
    · have : l.length = m.length := by omega
      rw [List.drop_eq_nil_of_le hl, this]
      rw [(cmpI_zero _ _).2 rfl]; rfl

end Go.Proofs.Ytadmaalhhigbeaa

/- Filters as lists of nodes: which nodes may be, where trees end, how deep they are: mathematics. -/
namespace Go.Proofs.Ytadmaalhhigbeaa
set_option linter.unusedVariables false
set_option linter.unusedSimpArgs false
open Go Go.RowKit

/-- A node: its kind, its number, its value. -/
abbrev Nd := Int × Int × V3
def ncells (n : Nd) : List Value := [.int .i64 n.1, .int .i64 n.2.1, .int .i64 n.2.2.1, .int .i64 n.2.2.2.1, .string n.2.2.2.2]
def ncs (l : List Nd) : List Value := l.flatMap ncells
theorem ncells_len (n : Nd) : (ncells n).length = 5 := rfl
theorem ncells_of (n : Nd) : ncells n = [.int .i64 n.1, .int .i64 n.2.1] ++ vcells n.2.2 := rfl
theorem ncs_cons (n : Nd) (l : List Nd) : ncs (n :: l) = ncells n ++ ncs l := rfl
theorem ncs_append (l m : List Nd) : ncs (l ++ m) = ncs l ++ ncs m := by simp [ncs]
theorem ncs_len (l : List Nd) : (ncs l).length = 5 * l.length := by
  induction l with
  | nil => rfl
  | cons n l ih => rw [ncs_cons, List.length_append, ih, ncells_len, List.length_cons]; omega
theorem ncs_one (l : List Nd) : ∀ u ∈ ncs l, u.oneCell' = true := by
  intro u hu
  simp only [ncs, List.mem_flatMap, ncells] at hu
  obtain ⟨v, _, hv⟩ := hu
  simp at hv
  rcases hv with rfl | rfl | rfl | rfl | rfl <;> rfl
theorem ncs_drop (l : List Nd) (k : Nat) : (ncs l).drop (5 * k) = ncs (l.drop k) := by
  induction l generalizing k with
  | nil => simp [ncs]
  | cons n l ih =>
    cases k with
    | zero => simp
    | succ k =>
      rw [ncs_cons, List.drop_succ_cons, show 5 * (k + 1) = 5 + 5 * k by omega, ← List.drop_drop]
      rw [show (ncells n ++ ncs l).drop 5 = ncs l from by rw [List.drop_append_of_le_length (by simp [ncells])]; simp [ncells]]
      exact ih k
theorem ncs_take (l : List Nd) (k : Nat) : (ncs l).take (5 * k) = ncs (l.take k) := by
  induction l generalizing k with
  | nil => simp [ncs]
  | cons n l ih =>
    cases k with
    | zero => simp [ncs]
    | succ k =>
      rw [ncs_cons, List.take_succ_cons, ncs_cons, show 5 * (k + 1) = (ncells n).length + 5 * k by rw [ncells_len]; omega, List.take_length_add_append, ih k]
theorem ncs_get (l : List Nd) (k : Nat) (h : k < l.length) : ((ncs l).drop (5 * k)).take 5 = ncells l[k] := by
  rw [ncs_drop, List.drop_eq_getElem_cons h, ncs_cons, List.take_append_of_le_length (by simp [ncells])]
  simp [ncells]

/-- How many parts a kind has. -/
def par (op : Int) : Nat := if op = 10 then 1 else if op = 11 ∨ op = 12 then 2 else 0
theorem par_le (op : Int) : par op ≤ 2 := by unfold par; split; · omega
                                             · split <;> omega
/-- May a node be? -/
def nok (n : Nd) : Bool :=
  if n.1 = 1 ∨ n.1 = 2 ∨ n.1 = 10 ∨ n.1 = 11 ∨ n.1 = 12 then decide (n.2.1 = 0 ∧ n.2.2 = zv)
  else if n.1 = 3 ∨ n.1 = 4 then decide (0 ≤ n.2.1 ∧ n.2.1 < 16 ∧ n.2.2 = zv)
  else if n.1 = 5 then decide (0 ≤ n.2.1 ∧ n.2.1 < 8 ∧ n.2.2 = zv)
  else if n.1 = 6 ∨ n.1 = 7 ∨ n.1 = 8 then decide (0 ≤ n.2.1 ∧ n.2.1 < 8 ∧ vchk n.2.2 = true ∧ n.2.2 ≠ zv)
  else if n.1 = 9 then decide (0 ≤ n.2.1 ∧ n.2.1 < 8 ∧ vchk n.2.2 = true ∧ n.2.2.1 = 2)
  else false
theorem vchk_zv : vchk zv = true := by unfold zv; rw [vchk_0]; simp [empty]
theorem vchk_isz {v : V3} (h : vchk v = true) : v.1 = 0 ↔ v = zv := by
  obtain ⟨k, n, s⟩ := v
  constructor
  · intro hk
    have hk : k = 0 := hk
    subst hk
    rw [vchk_0] at h
    simp only [decide_eq_true_eq, nil_str_iff] at h
    rw [h.1, h.2]
    rfl
  · intro e
    rw [e]
    rfl

/-- Of so many trees that stand one behind the other: how many nodes they take. -/
def endOf : List Nd → Nat → Option Nat
  | _, 0 => some 0
  | [], _ + 1 => none
  | x :: l, k + 1 => (endOf l (k + par x.1)).map (· + 1)
theorem endOf_zero (l : List Nd) : endOf l 0 = some 0 := by cases l <;> rfl
theorem endOf_cons (x : Nd) (l : List Nd) (k : Nat) : endOf (x :: l) (k + 1) = (endOf l (k + par x.1)).map (· + 1) := rfl
theorem endOf_le : ∀ {l : List Nd} {k m : Nat}, endOf l k = some m → m ≤ l.length
  | l, 0, m, h => by rw [endOf_zero] at h; cases h; omega
  | [], k + 1, m, h => by cases h
  | x :: l, k + 1, m, h => by
    rw [endOf_cons, Option.map_eq_some_iff] at h
    obtain ⟨m', h', rfl⟩ := h
    have := endOf_le h'
    simp; omega
/-- Where the tree at a place ends. -/
def endAt (l : List Nd) (at_ : Int) : Int := if at_ < 0 then -1 else match endOf (l.drop at_.toNat) 1 with
  | some m => at_ + m
  | none => -1
theorem endAt_nat (l : List Nd) (j : Nat) : endAt l (j : Int) = match endOf (l.drop j) 1 with
    | some m => (j : Int) + m
    | none => -1 := by
  unfold endAt
  rw [if_neg (by omega)]
  simp
theorem endAt_neg (l : List Nd) (j : Int) (h : j < 0) : endAt l j = -1 := by unfold endAt; rw [if_pos h]
theorem endAt_le (l : List Nd) (j : Int) (h : j ≤ l.length) : endAt l j ≤ l.length := by
  unfold endAt
  split
  · omega
  · cases he : endOf (l.drop j.toNat) 1 with
    | none => simp
    | some m =>
      have := endOf_le he
      rw [List.length_drop] at this
      simp only
      omega
theorem endAt_ge (l : List Nd) (j : Int) : -1 ≤ endAt l j := by
  unfold endAt
  split
  · omega
  · split <;> omega

/-- A list that is so many trees, one behind the other. -/
def Wood (l : List Nd) (k : Nat) : Prop := endOf l k = some l.length
instance (l : List Nd) (k : Nat) : Decidable (Wood l k) := inferInstanceAs (Decidable (_ = _))
theorem wood_nil : Wood [] 0 := rfl
theorem wood_cons {x : Nd} {l : List Nd} {k : Nat} (h : Wood (x :: l) k) : ∃ j, k = j + 1 ∧ Wood l (j + par x.1) := by
  cases k with
  | zero => unfold Wood at h; rw [endOf_zero] at h; simp at h
  | succ j =>
    refine ⟨j, rfl, ?_⟩
    unfold Wood at h ⊢
    rw [endOf_cons, Option.map_eq_some_iff] at h
    obtain ⟨m, h1, h2⟩ := h
    simp at h2
    rw [h1, h2]
theorem wood_mk {x : Nd} {l : List Nd} {k : Nat} (h : Wood l (k + par x.1)) : Wood (x :: l) (k + 1) := by
  unfold Wood at h ⊢
  rw [endOf_cons, h]
  rfl
theorem wood_drop {l : List Nd} {k : Nat} (h : Wood l k) (j : Nat) (hj : j ≤ l.length) : ∃ k', Wood (l.drop j) k' := by
  induction j generalizing l k with
  | zero => exact ⟨k, h⟩
  | succ j ih =>
    cases l with
    | nil => simp at hj
    | cons x l =>
      obtain ⟨i, _, h'⟩ := wood_cons h
      exact ih h' (by simpa using hj)
theorem wood_uniq {l : List Nd} {k k' : Nat} (h : Wood l k) (h' : Wood l k') : k = k' := by
  induction l generalizing k k' with
  | nil =>
    cases k with
    | zero => cases k' with
      | zero => rfl
      | succ _ => cases h'
    | succ _ => cases h
  | cons x l ih =>
    obtain ⟨j, rfl, h1⟩ := wood_cons h
    obtain ⟨j', rfl, h1'⟩ := wood_cons h'
    have := ih h1 h1'
    omega
theorem wood_app {a b : List Nd} {j k : Nat} (ha : Wood a j) (hb : Wood b k) : Wood (a ++ b) (j + k) := by
  induction a generalizing j with
  | nil =>
    have : j = 0 := wood_uniq ha wood_nil
    subst this
    simpa using hb
  | cons x a ih =>
    obtain ⟨i, rfl, h1⟩ := wood_cons ha
    have := ih h1
    rw [List.cons_append, show i + 1 + k = (i + k) + 1 by omega]
    refine wood_mk ?_
    rw [show i + k + par x.1 = i + par x.1 + k by omega]
    exact this
/-- Of trees the first ones end somewhere, and are trees; the others too. -/
theorem endOf_split {l : List Nd} : ∀ (j k m : Nat), endOf l (j + k) = some m → ∃ m1, endOf l j = some m1 ∧ Wood (l.take m1) j ∧ m1 ≤ m ∧ endOf (l.drop m1) k = some (m - m1) := by
  induction l with
  | nil =>
    intro j k m h
    cases j with
    | zero => exact ⟨0, rfl, rfl, by omega, by simpa using h⟩
    | succ j => rw [show j + 1 + k = (j + k) + 1 by omega] at h; cases h
  | cons x l ih =>
    intro j k m h
    cases j with
    | zero => exact ⟨0, rfl, by simpa using wood_nil, by omega, by simpa using h⟩
    | succ j =>
      rw [show j + 1 + k = (j + k) + 1 by omega, endOf_cons, Option.map_eq_some_iff] at h
      obtain ⟨m', h1, rfl⟩ := h
      rw [show j + k + par x.1 = (j + par x.1) + k by omega] at h1
      obtain ⟨m1, e1, e2, e3, e4⟩ := ih _ _ _ h1
      refine ⟨m1 + 1, by rw [endOf_cons, e1]; rfl, ?_, by omega, ?_⟩
      · rw [List.take_succ_cons]; exact wood_mk e2
      · rw [List.drop_succ_cons, e4]; congr 1; omega
theorem wood_split {l : List Nd} {j k : Nat} (h : Wood l (j + k)) : ∃ m1, endOf l j = some m1 ∧ m1 ≤ l.length ∧ Wood (l.take m1) j ∧ Wood (l.drop m1) k := by
  obtain ⟨m1, e1, e2, e3, e4⟩ := endOf_split j k _ h
  refine ⟨m1, e1, e3, e2, ?_⟩
  unfold Wood
  rw [e4, List.length_drop]
theorem endOf_app {a b : List Nd} {j : Nat} (h : Wood a j) : endOf (a ++ b) j = some a.length := by
  induction a generalizing j with
  | nil =>
    have : j = 0 := wood_uniq h wood_nil
    subst this
    exact endOf_zero _
  | cons x a ih =>
    obtain ⟨i, rfl, h1⟩ := wood_cons h
    rw [List.cons_append, endOf_cons, ih h1]
    simp

/-- How deep the trees are that stand one behind the other. -/
def stk : List Nd → List Nat
  | [] => []
  | x :: l => (((stk l).take (par x.1)).foldl max 0 + 1) :: (stk l).drop (par x.1)
theorem stk_cons (x : Nd) (l : List Nd) : stk (x :: l) = (((stk l).take (par x.1)).foldl max 0 + 1) :: (stk l).drop (par x.1) := rfl
theorem stk_len {l : List Nd} {k : Nat} (h : Wood l k) : (stk l).length = k := by
  induction l generalizing k with
  | nil => rw [wood_uniq h wood_nil]; rfl
  | cons x l ih =>
    obtain ⟨j, rfl, h1⟩ := wood_cons h
    have := ih h1
    simp [stk, this]
theorem stk_app {a b : List Nd} {k : Nat} (h : Wood a k) : stk (a ++ b) = stk a ++ stk b := by
  induction a generalizing k with
  | nil => rfl
  | cons x a ih =>
    obtain ⟨j, rfl, h1⟩ := wood_cons h
    have hl := stk_len h1
    rw [List.cons_append, stk_cons, stk_cons, ih h1]
    rw [List.take_append_of_le_length (by omega), List.drop_append_of_le_length (by omega)]
    rfl
theorem stk_lt (l : List Nd) : ∀ d ∈ stk l, 1 ≤ d ∧ d ≤ l.length := by
  induction l with
  | nil => simp [stk]
  | cons x l ih =>
    intro d hd
    rw [stk_cons, List.mem_cons] at hd
    rcases hd with rfl | hd
    · have hmax : ∀ (q : List Nat) (a : Nat), (∀ y ∈ q, y ≤ l.length) → a ≤ l.length → q.foldl max a ≤ l.length := by
        intro q
        induction q with
        | nil => intro a _ h; exact h
        | cons y q ihq =>
          intro a hq ha
          refine ihq _ (fun z hz => hq z (List.mem_cons_of_mem _ hz)) ?_
          have := hq y (by simp)
          omega
      have := hmax ((stk l).take (par x.1)) 0 (fun y hy => (ih y (List.mem_of_mem_take hy)).2) (by omega)
      simp only [List.length_cons]
      omega
    · have := ih d (List.mem_of_mem_drop hd)
      simp only [List.length_cons]
      omega
/-- How deep a filter is. -/
def dep (l : List Nd) : Nat := if Wood l 1 then (stk l).headD 0 else 0
theorem dep_not {l : List Nd} (h : ¬ Wood l 1) : dep l = 0 := by unfold dep; rw [if_neg h]
theorem dep_wood {l : List Nd} (h : Wood l 1) : stk l = [dep l] := by
  unfold dep
  rw [if_pos h]
  have hl := stk_len h
  match hs : stk l, hl with
  | [d], _ => rfl
theorem dep_le (l : List Nd) : dep l ≤ l.length := by
  unfold dep
  split
  · cases hs : stk l with
    | nil => simp
    | cons d q => exact (stk_lt l d (by rw [hs]; simp)).2
  · omega
theorem wood_end (l : List Nd) : endAt l 0 = (l.length : Int) ↔ Wood l 1 := by
  have := endAt_nat l 0
  simp only [Int.ofNat_zero, List.drop_zero, Int.zero_add, Int.natCast_zero] at this
  rw [show endAt l 0 = _ from this]
  unfold Wood
  cases endOf l 1 with
  | none => simp
  | some m => simp; omega
/-- What is wrong with a filter. -/
def lchk (l : List Nd) : Int :=
  if 31 < l.length then 4 else if l.all nok = false then 1 else if ¬ Wood l 1 then 1 else if 8 < dep l then 5 else 0
theorem lchk_ok {l : List Nd} (h : lchk l = 0) : l.length ≤ 31 ∧ (∀ n ∈ l, nok n = true) ∧ Wood l 1 ∧ dep l ≤ 8 := by
  unfold lchk at h
  by_cases h1 : 31 < l.length
  · rw [if_pos h1] at h; cases h
  · rw [if_neg h1] at h
    by_cases h2 : l.all nok = false
    · rw [if_pos h2] at h; cases h
    · rw [if_neg h2] at h
      by_cases h3 : ¬ Wood l 1
      · rw [if_pos h3] at h; cases h
      · rw [if_neg h3] at h
        by_cases h4 : 8 < dep l
        · rw [if_pos h4] at h; cases h
        · exact ⟨by omega, by simpa using h2, by simpa using h3, by omega⟩
theorem lchk_mk {l : List Nd} (h1 : l.length ≤ 31) (h2 : ∀ n ∈ l, nok n = true) (h3 : Wood l 1) (h4 : dep l ≤ 8) : lchk l = 0 := by
  unfold lchk
  rw [if_neg (by omega), if_neg (by simpa using h2), if_neg (by simpa using h3), if_neg (by omega)]
end Go.Proofs.Ytadmaalhhigbeaa

/- The order of nodes: what the program's and the document's return. -/
namespace Go.Proofs.Ytadmaalhhigbeaa
set_option linter.unusedVariables false
set_option linter.unusedSimpArgs false
open Go Go.RowKit BitM ValM

def ncmp (a b : Nd) : Int := if cmpI a.1 b.1 ≠ 0 then cmpI a.1 b.1 else if cmpI a.2.1 b.2.1 ≠ 0 then cmpI a.2.1 b.2.1 else vcmp a.2.2 b.2.2
theorem vcmp_vals (a b : V3) : vcmp a b = -1 ∨ vcmp a b = 0 ∨ vcmp a b = 1 := by
  unfold vcmp
  split
  · exact cmpI_vals _ _
  · split
    · exact cmpI_vals _ _
    · exact cmpS_vals _ _
theorem ncmp_vals (a b : Nd) : ncmp a b = -1 ∨ ncmp a b = 0 ∨ ncmp a b = 1 := by
  unfold ncmp
  split
  · exact cmpI_vals _ _
  · split
    · exact cmpI_vals _ _
    · exact vcmp_vals _ _
theorem ncmp_neg (a b : Nd) : ncmp a b = -ncmp b a := by
  have h1 := cmpI_neg a.1 b.1
  have h2 := cmpI_neg a.2.1 b.2.1
  have h3 := vcmp_neg a.2.2 b.2.2
  unfold ncmp
  split <;> split <;> (try split) <;> (try split) <;> omega
/-- The order of filters. -/
def lcmp : List Nd → List Nd → Int
  | [], [] => 0
  | [], _ :: _ => -1
  | _ :: _, [] => 1
  | a :: l, b :: m => if ncmp a b ≠ 0 then ncmp a b else lcmp l m
theorem lcmp_vals : ∀ l m : List Nd, lcmp l m = -1 ∨ lcmp l m = 0 ∨ lcmp l m = 1
  | [], [] => by simp [lcmp]
  | [], _ :: _ => by simp [lcmp]
  | _ :: _, [] => by simp [lcmp]
  | a :: l, b :: m => by
    unfold lcmp
    split
    · exact ncmp_vals a b
    · exact lcmp_vals l m
theorem lcmp_neg : ∀ l m : List Nd, lcmp l m = -lcmp m l
  | [], [] => by simp [lcmp]
  | [], _ :: _ => by simp [lcmp]
  | _ :: _, [] => by simp [lcmp]
  | a :: l, b :: m => by
    have h1 := ncmp_neg a b
    have h2 := lcmp_neg l m
    unfold lcmp
    split <;> split <;> omega
theorem lcmp_wrap (l m : List Nd) : IntKind.i64.wrap (-lcmp l m) = -lcmp l m := by
  rcases lcmp_vals l m with h | h | h <;> rw [h] <;> decide +kernel
theorem lcmp_none (l m : List Nd) (k : Nat) (hk : k ≤ l.length) (hk2 : k ≤ m.length) (he : k = l.length ∨ k = m.length) : lcmp (l.drop k) (m.drop k) = if l.length < m.length then -1 else if m.length < l.length then 1 else 0 := by
  rcases he with rfl | rfl
  · rw [List.drop_length]
    rcases Nat.lt_or_ge l.length m.length with h | h
    · rw [List.drop_eq_getElem_cons h, if_pos h]; rfl
    · have e : m.length = l.length := by omega
      rw [if_neg (by omega), if_neg (by omega), List.drop_eq_nil_of_le h]; rfl
  · rw [List.drop_length]
    rcases Nat.lt_or_ge m.length l.length with h | h
    · rw [List.drop_eq_getElem_cons h, if_neg (by omega), if_pos h]; rfl
    · rw [if_neg (by omega), if_neg (by omega), List.drop_eq_nil_of_le h]; rfl
theorem lcmp_at (l m : List Nd) (k : Nat) (hk : k < l.length) (hk2 : k < m.length) : lcmp (l.drop k) (m.drop k) = if ncmp l[k] m[k] ≠ 0 then ncmp l[k] m[k] else lcmp (l.drop (k + 1)) (m.drop (k + 1)) := by
  rw [List.drop_eq_getElem_cons hk, List.drop_eq_getElem_cons hk2]; rfl

theorem two_nboxes (a b : Nd) (w : World) : ∃ W, W = (w.alloc (.cells (ncells a).toArray 71)).alloc (.cells (ncells b).toArray 71) ∧ Blk W w.heap.size (ncells a) ∧ Blk W (w.heap.size + 1) (ncells b) ∧ Below w.heap.size w W := by
  refine ⟨_, rfl, (Blk.new w (ncells a) 71).alloc _, ?_, ((Below.refl w.heap.size w).alloc (Nat.le_refl _) _).alloc (by simp) _⟩
  have := Blk.new (w.alloc (.cells (ncells a).toArray 71)) (ncells b) 71
  have hs1 : (w.alloc (.cells (ncells a).toArray 71)).heap.size = w.heap.size + 1 := by simp
  rw [hs1] at this
  exact this

set_option maxRecDepth 100000 in
set_option maxHeartbeats 1600000 in
theorem ncompare_any (a b : Nd) (w : World) : Calls Try.prog 76 #[.agg (ncells a).toArray, .agg (ncells b).toArray] w fun e w' => e = .returned (.int .i64 (ncmp a b)) ∧ Below w.heap.size w w' := by
  obtain ⟨k, n, s⟩ := a
  obtain ⟨k', n', s'⟩ := b
  have hu := Try.underlying69
  have HR : Hid (firstNZ [cmpI k k', cmpI n n', vcmp s s'] = ncmp (k, n, s) (k', n', s')) := Lib.hid (first3 _ _ _)
  have H1 := Lib.hid (fun wx : World => (cmpint_any k k' wx).mono fun e w' (h : e = .returned (.int .i64 (cmpI k k')) ∧ wx = w') => (show e = .returned (.int .i64 (cmpI k k')) ∧ Below wx.heap.size wx w' from ⟨h.1, h.2 ▸ Below.refl _ _⟩))
  have H2 := Lib.hid (fun wx : World => (cmpint_any n n' wx).mono fun e w' (h : e = .returned (.int .i64 (cmpI n n')) ∧ wx = w') => (show e = .returned (.int .i64 (cmpI n n')) ∧ Below wx.heap.size wx w' from ⟨h.1, h.2 ▸ Below.refl _ _⟩))
  have H3 := Lib.hid (fun wx : World => vcompare_any s s' wx)
  obtain ⟨c1, hc1⟩ : ∃ c, c = cmpI k k' := ⟨_, rfl⟩
  obtain ⟨c2, hc2⟩ : ∃ c, c = cmpI n n' := ⟨_, rfl⟩
  obtain ⟨c3, hc3⟩ : ∃ c, c = vcmp s s' := ⟨_, rfl⟩
  rw [← hc1] at H1 HR
  rw [← hc2] at H2 HR
  rw [← hc3] at H3 HR
  obtain ⟨r, hr⟩ : ∃ r, r = ncmp (k, n, s) (k', n', s') := ⟨_, rfl⟩
  rw [← hr] at HR ⊢
  clear hc1 hc2 hc3 hr
  obtain ⟨W, hW, B0, B1, hb⟩ := two_nboxes (k, n, s) (k', n', s') w
  obtain ⟨ca, hca⟩ : ∃ ca, ca = (ncells (k, n, s)).toArray := ⟨_, rfl⟩
  obtain ⟨cb, hcb⟩ : ∃ cb, cb = (ncells (k', n', s')).toArray := ⟨_, rfl⟩
  rw [← hca, ← hcb] at hW
  rw [← hca, ← hcb]
  have HW := Lib.hid hW
  clear hca hcb hW
  have p0 : ∀ kk : LW W, kk.val.cell? ⟨w.heap.size, 0, none⟩ = some (.int .i64 k) := fun kk => (B0.later kk.le).cell rfl
  have p1 : ∀ kk : LW W, kk.val.cell? ⟨w.heap.size, 1, none⟩ = some (.int .i64 n) := fun kk => (B0.later kk.le).cell rfl
  have q0 : ∀ kk : LW W, kk.val.cell? ⟨w.heap.size + 1, 0, none⟩ = some (.int .i64 k') := fun kk => (B1.later kk.le).cell rfl
  have q1 : ∀ kk : LW W, kk.val.cell? ⟨w.heap.size + 1, 1, none⟩ = some (.int .i64 n') := fun kk => (B1.later kk.le).cell rfl
  have HA := Lib.hid (fun (w1 : World) (hl : Le W w1) => (B0.later hl).range 2 (vcells s) rfl)
  have HB := Lib.hid (fun (w1 : World) (hl : Le W w1) => (B1.later hl).range 2 (vcells s') rfl)
  clear B0 B1
  rw [HW.out] at p0 p1 q0 q1 HA HB hb
  clear HW
  go_enter Try.func76, Try.ntmps76
  go_wp2_with fail
  generalize ((w.alloc (.cells ca 71)).alloc (.cells cb 71)) = W0 at *
  refine wp_region_steady [(20, relInts [c1, c2, c3])] 22 (by kernel_rfl) (by kernel_rfl) (by kernel_rfl) (by rfl) ?_
  iterate 4 (refine wpG_quiet (by rfl) (by rfl) (by rfl) (fun K hK => ?_); go_big_quiet_op; refine hK _ ?_; clear hK K)
  refine wpG_call (by rfl) (by rfl) 78 #[.int .i64 k, .int .i64 k'] (.int .i64 c1) (by intro _; simp [go_sem]) (by kernel_rfl) (fun w1 hl => (H1.out w1)) ?_
  simp only [Act.put, List.setIfInBounds_toArray, List.set_cons_zero, List.set_cons_succ]
  iterate 4 (refine wpG_quiet (by rfl) (by rfl) (by rfl) (fun K hK => ?_); go_big_quiet_op; refine hK _ ?_; clear hK K)
  refine wpG_call (by rfl) (by rfl) 78 #[.int .i64 n, .int .i64 n'] (.int .i64 c2) (by intro _; simp [go_sem]) (by kernel_rfl) (fun w1 hl => (H2.out w1)) ?_
  simp only [Act.put, List.setIfInBounds_toArray, List.set_cons_zero, List.set_cons_succ]
  iterate 1 (refine wpG_quiet (by rfl) (by rfl) (by rfl) (fun K hK => ?_); go_big_quiet_op; refine hK _ ?_; clear hK K)
  refine wpG_run (by rfl) (by rfl) (.agg (vcells s).toArray) (fun w1 hl => exec_load 69 (.tmp 15) rfl w.heap.size 2 rfl (vcells s) _ (HA.out w1 hl.1) hu rfl info_val) ?_
  simp only [Act.put, List.setIfInBounds_toArray, List.set_cons_zero, List.set_cons_succ]
  iterate 1 (refine wpG_quiet (by rfl) (by rfl) (by rfl) (fun K hK => ?_); go_big_quiet_op; refine hK _ ?_; clear hK K)
  refine wpG_run (by rfl) (by rfl) (.agg (vcells s').toArray) (fun w1 hl => exec_load 69 (.tmp 17) rfl (w.heap.size + 1) 2 rfl (vcells s') _ (HB.out w1 hl.1) hu rfl info_val) ?_
  simp only [Act.put, List.setIfInBounds_toArray, List.set_cons_zero, List.set_cons_succ]
  refine wpG_call (by rfl) (by rfl) 79 #[.agg (vcells s).toArray, .agg (vcells s').toArray] (.int .i64 c3) (by intro _; simp [go_sem]) (by kernel_rfl) (fun w1 hl => (H3.out w1)) ?_
  simp only [Act.put, List.setIfInBounds_toArray, List.set_cons_zero, List.set_cons_succ]
  refine wpG_open (relInts [c1, c2, c3]) (by rfl) (by rfl) (fun w1 hl => ints3_gives (.tmp 9) (.tmp 14) (.tmp 19) c1 c2 c3 rfl rfl rfl rfl w1) ?_
  rintro _ ⟨_, _, _, ⟨g, rfl, _⟩⟩
  simp only [Act.put, List.setIfInBounds_toArray, List.set_cons_zero, List.set_cons_succ]
  refine wpG_call (by rfl) (by rfl) 77 #[.slice (some ⟨g, 0, none⟩) 3 3] (.int .i64 r) (by intro _; simp [go_sem]) (by kernel_rfl) (fun w1 hl => ?_) ?_
  · obtain ⟨g5, h5, r5⟩ := hl.2 20 _ (by simp [Op.operands, Call.operands]) rfl (by intro h; cases h)
    cases h5
    have := or_any (some ⟨g, 0, none⟩) 3 3 [c1, c2, c3] w1 w1.heap.size rfl r5.seesInts (by omega)
    rw [HR.out] at this
    exact this.mono fun e w' h => ⟨h.1, h.2 ▸ Below.refl _ _⟩
  simp only [Act.put, List.setIfInBounds_toArray, List.set_cons_zero, List.set_cons_succ]
  iterate 1 (refine wpG_quiet (by rfl) (by rfl) (by rfl) (fun K hK => ?_); go_big_quiet_op; refine hK _ ?_; clear hK K)
  refine wpG_nil fun w1 hl _ => ?_
  have hb1 := hb.trans (hl.mono hb.size)
  clear p0 p1 q0 q1 HA HB hb
  go_wp2_with fail
  go_ret
  exact ⟨rfl, hb1⟩

end Go.Proofs.Ytadmaalhhigbeaa

/- Nodes: what they look like in memory; how many parts a kind has; which nodes may be: what each returns. -/
namespace Go.Proofs.Ytadmaalhhigbeaa
set_option linter.unusedVariables false
set_option linter.unusedSimpArgs false
open Go Go.RowKit

theorem info_node : (Try.prog.info? 71).map (·.size) = some 5 := by kernel_rfl
theorem info_val3 : (Try.prog.info? 69).map (·.size) = some 3 := by kernel_rfl

set_option maxRecDepth 100000 in
set_option maxHeartbeats 800000 in
theorem parts_any (op : Int) (w : World) : Calls Try.prog 90 #[.int .i64 op] w fun e w' => e = .returned (.int .i64 (par op)) ∧ w = w' := by
  by_cases h0 : op = 10
  · subst h0
    go_enter Try.func90, Try.ntmps90
    go_wp2
    go_ret
    exact ⟨rfl, rfl⟩
  by_cases h1 : op = 11
  · subst h1
    go_enter Try.func90, Try.ntmps90
    go_wp2
    go_ret
    exact ⟨rfl, rfl⟩
  by_cases h2 : op = 12
  · subst h2
    go_enter Try.func90, Try.ntmps90
    go_wp2
    go_ret
    exact ⟨rfl, rfl⟩
  have hp : Hid (par op = 0) := Lib.hid (by unfold par; simp [h0, h1, h2])
  have b0 : (op == 10) = false := by simpa using h0
  have b1 : (op == 11) = false := by simpa using h1
  have b2 : (op == 12) = false := by simpa using h2
  clear h0 h1 h2
  go_enter Try.func90, Try.ntmps90
  go_wp2
  go_ret
  exact ⟨by rw [hp.out]; rfl, rfl⟩
set_option maxRecDepth 100000 in
set_option maxHeartbeats 800000 in
theorem rparts_any (op : Int) (w : World) : Calls Try.prog 93 #[.int .i64 op] w fun e w' => e = .returned (.int .i64 (par op)) ∧ w = w' := by
  by_cases h0 : op = 10
  · subst h0
    go_enter Try.func93, Try.ntmps93
    go_wp2
    go_ret
    exact ⟨rfl, rfl⟩
  by_cases h1 : op = 11
  · subst h1
    go_enter Try.func93, Try.ntmps93
    go_wp2
    go_ret
    exact ⟨rfl, rfl⟩
  by_cases h2 : op = 12
  · subst h2
    go_enter Try.func93, Try.ntmps93
    go_wp2
    go_ret
    exact ⟨rfl, rfl⟩
  have hp : Hid (par op = 0) := Lib.hid (by unfold par; simp [h0, h1, h2])
  have b0 : (op == 10) = false := by simpa using h0
  have b1 : (op == 11) = false := by simpa using h1
  have b2 : (op == 12) = false := by simpa using h2
  clear h0 h1 h2
  go_enter Try.func93, Try.ntmps93
  go_wp2
  go_ret
  exact ⟨by rw [hp.out]; rfl, rfl⟩
end Go.Proofs.Ytadmaalhhigbeaa

/- Filters: nodes in memory, where trees end: what each returns. -/
namespace Go.Proofs.Ytadmaalhhigbeaa
set_option linter.unusedVariables false
set_option linter.unusedSimpArgs false
open Go Go.RowKit

theorem ncs_at (l : List Nd) (k : Nat) (hk : k < l.length) (j : Nat) (v : Value) (hj : (ncells l[k])[j]? = some v) : (ncs l)[k * 5 + j]? = some v := by
  have h := ncs_get l k hk
  have hj5 : j < 5 := by
    have := (List.getElem?_eq_some_iff.1 hj).1
    rwa [ncells_len] at this
  rw [← h, List.getElem?_take, if_pos hj5, List.getElem?_drop] at hj
  rw [show k * 5 + j = 5 * k + j by omega]
  exact hj
/-- A node of a list, where it lies. -/
theorem sees_node {w : World} {B : Nat} {A : Option Addr} {l : List Nd} (hs : Sees w B A (ncs l)) (k : Nat) (hk : k < l.length) :
    ∃ b o, A = some ⟨b, o, none⟩ ∧ b < B ∧ w.cell? ⟨b, o + k * 5, none⟩ = some (.int .i64 l[k].1) ∧ w.cell? ⟨b, o + k * 5 + 1, none⟩ = some (.int .i64 l[k].2.1) ∧ w.rangeAt b (o + k * 5) (ncells l[k]) := by
  obtain ⟨b, o, e, hb, hc⟩ := hs (by rw [ncs_len]; omega)
  have key : ∀ j v, (ncells l[k])[j]? = some v → w.cell? ⟨b, o + k * 5 + j, none⟩ = some v := fun j v hj => by
    have h1 := ncs_at l k hk j v hj
    obtain ⟨h2, h3⟩ := List.getElem?_eq_some_iff.1 h1
    have := hc (k * 5 + j) h2
    rw [h3] at this
    rw [Nat.add_assoc]
    exact this
  exact ⟨b, o, e, hb, key 0 _ rfl, key 1 _ rfl, key⟩

theorem end_step {l : List Nd} {a i k m : Nat} (h : endOf (l.drop a) 1 = (endOf (l.drop i) k).map (· + m)) (hk : k < k + 1 ∧ 0 < k) (hi : i < l.length) :
    endOf (l.drop a) 1 = (endOf (l.drop (i + 1)) (k - 1 + par l[i].1)).map (· + (m + 1)) := by
  obtain ⟨k', rfl⟩ : ∃ k', k = k' + 1 := ⟨k - 1, by omega⟩
  rw [h, List.drop_eq_getElem_cons hi, endOf_cons, Nat.add_sub_cancel, Option.map_map]
  congr 1
  funext x
  simp only [Function.comp]
  omega
theorem end_zero {l : List Nd} {a i m : Nat} (h : endOf (l.drop a) 1 = (endOf (l.drop i) 0).map (· + m)) (hm : i = a + m) : endAt l (a : Int) = (i : Int) := by
  rw [endAt_nat, h, endOf_zero]
  show (a : Int) + ((0 + m : Nat) : Int) = (i : Int)
  omega
theorem end_none {l : List Nd} {a i k m : Nat} (h : endOf (l.drop a) 1 = (endOf (l.drop i) k).map (· + m)) (hi : l.length ≤ i) (hk : 0 < k) : endAt l (a : Int) = -1 := by
  obtain ⟨k', rfl⟩ : ∃ k', k = k' + 1 := ⟨k - 1, by omega⟩
  rw [endAt_nat, h, List.drop_of_length_le hi]
  rfl

set_option maxRecDepth 100000 in
set_option maxHeartbeats 1600000 in
theorem end_any (A : Option Addr) (n c : Nat) (l : List Nd) (at_ : Int) (w : World) (B : Nat) (hn : l.length = n) (hs : Sees w B A (ncs l)) (hm : n ≤ 65536) :
    Calls Try.prog 63 #[.slice A n c, .int .i64 at_] w fun e w' => e = .returned (.int .i64 (endAt l at_)) ∧ w = w' := by
  by_cases h0 : at_ < 0
  · have HR := Lib.hid (endAt_neg l at_ h0)
    have d0 : decide (at_ < 0) = true := by simpa using h0
    clear h0 hs hn
    go_enter Try.func63, Try.ntmps63
    go_wp2
    go_ret
    exact ⟨by rw [HR.out]; rfl, rfl⟩
  · obtain ⟨a, rfl⟩ : ∃ a : Nat, at_ = a := ⟨at_.toNat, by omega⟩
    have d0 : decide ((a : Int) < 0) = false := by simp
    obtain ⟨R, hR⟩ : ∃ R, R = endAt l (a : Int) := ⟨_, rfl⟩
    rw [← hR]
    have HR := Lib.hid hR
    have HN := Lib.hid hn
    clear h0 hR hn
    go_enter Try.func63, Try.ntmps63
    go_wp2_with fail
    go_loop [1, 5] (fun p q => ∃ (i k m : Nat), Hid (i = a + m ∧ (m = 0 ∨ i ≤ n)) ∧ k ≤ m + 1 ∧ p = .int .i64 i ∧ q = .int .i64 k ∧ Hid (endOf (l.drop a) 1 = (endOf (l.drop i) k).map (· + m))) (fun p _ => n - (intOf p).toNat)
    case atStart => exact ⟨a, 1, 0, Lib.hid ⟨rfl, .inl rfl⟩, by omega, rfl, rfl, Lib.hid (by simp)⟩
    case round =>
      obtain ⟨i, k, m, HI, hkm, rfl, rfl, HE⟩ := hrel
      have hkb : k ≤ 65537 := by have := HI.out; omega
      by_cases hk : k = 0
      · subst hk
        have HRR := Lib.hid (HR.out.trans (end_zero HE.out HI.out.1))
        go_wp2_with fail
        go_ret
        exact ⟨by rw [HRR.out]; rfl, rfl⟩
      · have d1 : decide ((0 : Int) < (k : Int)) = true := by simp; omega
        by_cases hin : i < n
        · have d2 : decide ((n : Int) ≤ (i : Int)) = false := by simp; omega
          have hil : i < l.length := by rw [HN.out]; exact hin
          obtain ⟨b, o, rfl, hb, hc, _⟩ := sees_node hs i hil
          have HS := Lib.hid (end_step HE.out ⟨by omega, by omega⟩ hil)
          obtain ⟨op, hop⟩ : ∃ op, op = l[i].1 := ⟨_, rfl⟩
          rw [← hop] at hc HS
          have HP := Lib.hid (parts_any op w)
          obtain ⟨pp, hpp⟩ : ∃ pp, pp = par op := ⟨_, rfl⟩
          have hp2 : pp ≤ 2 := by rw [hpp]; exact par_le op
          rw [← hpp] at HS HP
          have hM := Lib.hid hm
          clear hop hpp
          go_wp2_with fail
          refine HP.out.mono ?_
          rintro e w' ⟨rfl, rfl⟩
          go_wp2_with fail
          go_round
          case rel => exact ⟨i + 1, k - 1 + pp, m + 1, Lib.hid ⟨by have := HI.out.1; omega, .inr (by omega)⟩, by omega, by go_num, by go_num, HS⟩
          case measure => simp [intOf]; omega
        · have d2 : decide ((n : Int) ≤ (i : Int)) = true := by simp; omega
          have HRR := Lib.hid (HR.out.trans (end_none HE.out (by rw [HN.out]; omega) (by omega)))
          go_wp2_with fail
          go_ret
          exact ⟨by rw [HRR.out]; rfl, rfl⟩

set_option maxRecDepth 100000 in
set_option maxHeartbeats 1600000 in
theorem rend_any (A : Option Addr) (n c : Nat) (l : List Nd) (at_ : Int) (w : World) (B : Nat) (hn : l.length = n) (hs : Sees w B A (ncs l)) (hm : n ≤ 65536) :
    Calls Try.prog 67 #[.slice A n c, .int .i64 at_] w fun e w' => e = .returned (.int .i64 (endAt l at_)) ∧ w = w' := by
  by_cases h0 : at_ < 0
  · have HR := Lib.hid (endAt_neg l at_ h0)
    have d0 : decide (at_ < 0) = true := by simpa using h0
    clear h0 hs hn
    go_enter Try.func67, Try.ntmps67
    go_wp2
    go_ret
    exact ⟨by rw [HR.out]; rfl, rfl⟩
  · obtain ⟨a, rfl⟩ : ∃ a : Nat, at_ = a := ⟨at_.toNat, by omega⟩
    have d0 : decide ((a : Int) < 0) = false := by simp
    obtain ⟨R, hR⟩ : ∃ R, R = endAt l (a : Int) := ⟨_, rfl⟩
    rw [← hR]
    have HR := Lib.hid hR
    have HN := Lib.hid hn
    clear h0 hR hn
    go_enter Try.func67, Try.ntmps67
    go_wp2_with fail
    go_loop [1, 5] (fun p q => ∃ (i k m : Nat), Hid (i = a + m ∧ (m = 0 ∨ i ≤ n)) ∧ k ≤ m + 1 ∧ p = .int .i64 i ∧ q = .int .i64 k ∧ Hid (endOf (l.drop a) 1 = (endOf (l.drop i) k).map (· + m))) (fun p _ => n - (intOf p).toNat)
    case atStart => exact ⟨a, 1, 0, Lib.hid ⟨rfl, .inl rfl⟩, by omega, rfl, rfl, Lib.hid (by simp)⟩
    case round =>
      obtain ⟨i, k, m, HI, hkm, rfl, rfl, HE⟩ := hrel
      have hkb : k ≤ 65537 := by have := HI.out; omega
      by_cases hin : i < n
      · have d2 : decide ((i : Int) < (n : Int)) = true := by simp; omega
        by_cases hk : k = 0
        · subst hk
          have HRR := Lib.hid (HR.out.trans (end_zero HE.out HI.out.1))
          go_wp2_with fail
          go_ret
          exact ⟨by rw [HRR.out]; rfl, rfl⟩
        · have d1 : decide ((0 : Int) < (k : Int)) = true := by simp; omega
          have hil : i < l.length := by rw [HN.out]; exact hin
          obtain ⟨b, o, rfl, hb, hc, _⟩ := sees_node hs i hil
          have HS := Lib.hid (end_step HE.out ⟨by omega, by omega⟩ hil)
          obtain ⟨op, hop⟩ : ∃ op, op = l[i].1 := ⟨_, rfl⟩
          rw [← hop] at hc HS
          have HP := Lib.hid (rparts_any op w)
          obtain ⟨pp, hpp⟩ : ∃ pp, pp = par op := ⟨_, rfl⟩
          have hp2 : pp ≤ 2 := by rw [hpp]; exact par_le op
          rw [← hpp] at HS HP
          clear hop hpp
          go_wp2_with fail
          refine HP.out.mono ?_
          rintro e w' ⟨rfl, rfl⟩
          go_wp2_with fail
          go_round
          case rel => exact ⟨i + 1, k - 1 + pp, m + 1, Lib.hid ⟨by have := HI.out.1; omega, .inr (by omega)⟩, by omega, by go_num, by go_num, HS⟩
          case measure => simp [intOf]; omega
      · have d2 : decide ((i : Int) < (n : Int)) = false := by simp; omega
        by_cases hk : k = 0
        · subst hk
          have HRR := Lib.hid (HR.out.trans (end_zero HE.out HI.out.1))
          go_wp2_with fail
          go_ret
          exact ⟨by rw [HRR.out]; rfl, rfl⟩
        · have d1 : decide ((0 : Int) < (k : Int)) = true := by simp; omega
          have HRR := Lib.hid (HR.out.trans (end_none HE.out (by rw [HN.out]; omega) (by omega)))
          go_wp2_with fail
          go_ret
          exact ⟨by rw [HRR.out]; rfl, rfl⟩
end Go.Proofs.Ytadmaalhhigbeaa
