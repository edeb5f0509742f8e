/- A drawn region inside a fence (the round of a range over a function): walked once, as Steady and Tail do outside. -/
import Derived.Test.YtadmaalhhigbeaaTail
import Derived.OrdersIn
import Derived.TacticsIn
import Derived.RangeFuncCalls
namespace Go.Proofs.Ytadmaalhhigbeaa
open Go Go.RowKit

/-- A fence in which any call may be made. -/
structure Free (F : Fence) (m : Nat) (P : Program) : Prop where
  fn : ∀ f, F.fn f
  depth : F.depth = none
  call : ∀ {f : FuncId} {args : Array Value} {w : World} {R : Ending → World → Prop}, Calls P f args w R → CallsIn F (m - 1) P f args w R
theorem free_wide (m : Nat) (P : Program) : Free Fence.wide m P := ⟨fun _ => trivial, rfl, fun h => callsIn_wide.2 h⟩
theorem free_round (l m : Nat) (P : Program) : Free (Fence.wide.inRound l) m P := ⟨fun _ => trivial, rfl, fun h => (callsIn_wide.2 h).inRound l⟩

def noDefer (ops : List Oper) : Bool := ops.all fun o => match o.op with | .defer _ => false | _ => true
theorem noDefer_spec {ops : List Oper} (h : noDefer ops = true) {i : Nat} {o : Oper} (ho : ops.toArray[i]? = some o) : ∀ c, o.op ≠ .defer c := by
  intro c e
  rw [List.getElem?_toArray] at ho
  have := List.all_eq_true.1 h o (List.mem_of_getElem? ho)
  rw [e] at this
  cases this

section
variable {P : Program} {ops : Array Oper} {md : Region.Mode} {G : Tmp → Option Rel} {w0 : World} {n : Nat} {L : Array Bool → Act → Prop} {Qn : Act → World → Prop} {F : Fence} {m : Nat}

theorem wpOpIn_of_gives {Q : Exit → Act → World → Prop} (hFr : Free F m P) {i : Nat} {o : Oper} (ho : ops[i]? = some o) (hnd : ∀ c, o.op ≠ .defer c) {a : Act} {w : World} {R : Value → World → Prop} {K : Act → World → Prop}
    (hwt : Region.wanted o (yielded ops a.tmps) = true) (h1 : gives P o a R w) (next : ∀ u w', Le w w' → R u w' → K (a.put o.dst u) w') : wpOpIn F m P ops Q i K a w := by
  unfold wpOpIn
  simp only [ho, hwt, if_true]
  refine ⟨fun f _ => hFr.fn f, ?_⟩
  rw [Oper.semAt_eq _ _ _ hnd]
  unfold gives at h1
  generalize (execOp a.eval o).run P w = r at *
  cases r with
  | ok n w' =>
    cases n <;> simp only [givesUpon] at h1 <;> simp only [Oper.uponIn]
    case value u => exact next _ _ h1.1 h1.2
    case skip => exact next _ _ h1.1 h1.2
    case enter f args =>
      refine ⟨fun h => (by rw [hFr.depth] at h; cases h), hFr.call (h1.2.mono fun e w'' ⟨v, he, hl, hr⟩ => ?_)⟩
      subst he
      exact next _ _ (h1.1.trans hl) hr
  | halt x w' => simp only [givesUpon] at h1

theorem wpAnyIn_of_G {Q : Exit → Act → World → Prop} (hFr : Free F m P) (hnd : ∀ (i : Nat) (o : Oper), ops[i]? = some o → ∀ c, o.op ≠ .defer c) (hF : Fed ops md G) (hQ : ∀ a w, Qn a w → Q .normal a w) :
    ∀ (fuel : Nat) (listed : Array Bool) (a : Act) (w : World), Inv ops G w0 listed a w → wpAnyG P ops md G w0 Qn fuel listed a → wpAnyIn F m P md ops Q fuel listed a w
  | 0, _, _, w, hw, h => ⟨h.1, hQ _ _ (h.2 w hw)⟩
  | fuel + 1, listed, a, w, hw, h => ⟨fun h0 => hQ _ _ (h.1 h0 w hw), fun i hi => by
      obtain ⟨hun, o, ho, _⟩ := mem_ready.1 hi
      obtain ⟨hg, hn⟩ := h.2 i hi o ho
      by_cases hwt : Region.wanted o (yielded ops a.tmps) = true
      · refine wpOpIn_of_gives hFr ho (hnd i o ho) hwt (hg hwt w (hw.lean hF hi ho)) fun u w' hl hr => ?_
        have hI := (hw.mono hl).put hF ho (u := u) (fun d R hd hR _ => rel_of hr d R hd hR)
        exact wpAnyIn_of_G hFr hnd hF hQ fuel _ _ w' hI (hn u (.inl ⟨hwt, ⟨w', hI⟩, ⟨w', hr⟩⟩))
      · unfold wpOpIn
        simp only [ho, hwt]
        exact ⟨fun f _ => hFr.fn f, wpAnyIn_of_G hFr hnd hF hQ fuel _ _ w (hw.put hF ho (fun d R hd hR h => absurd rfl h)) (hn undef (.inr ⟨by simpa using hwt, rfl⟩))⟩⟩

theorem wpAnyIn_of_H {g : Nat} {Q : Exit → Act → World → Prop} (hFr : Free F m P) (hnd : ∀ (i : Nat) (o : Oper), ops[i]? = some o → ∀ c, o.op ≠ .defer c) (hF : Fed ops md G)
    (hL : ∀ listed a w, L listed a → Inv ops G w0 listed a w → wpAnyIn F m P md ops Q g listed a w) :
    ∀ (f : Nat) (listed : Array Bool) (a : Act) (w : World), Inv ops G w0 listed a w → wpAnyH P ops md G w0 n L f listed a → wpAnyIn F m P md ops Q (f + g) listed a w
  | 0, _, _, w, hw, h => by rw [Nat.zero_add]; exact hL _ _ w h hw
  | fuel + 1, listed, a, w, hw, h => by
    rw [show fuel + 1 + g = (fuel + g) + 1 by omega]
    refine ⟨fun h0 => absurd h0 h.1, fun i hi => ?_⟩
    obtain ⟨hun, o, ho, _⟩ := mem_ready.1 hi
    obtain ⟨hg, hn⟩ := (h.2 i hi).2 o ho
    by_cases hwt : Region.wanted o (yielded ops a.tmps) = true
    · refine wpOpIn_of_gives hFr ho (hnd i o ho) hwt (hg hwt w (hw.lean hF hi ho)) fun u w' hl hr => ?_
      have hI := (hw.mono hl).put hF ho (u := u) (fun d R hd hR _ => rel_of hr d R hd hR)
      exact wpAnyIn_of_H hFr hnd hF hL fuel _ _ w' hI (hn u (.inl ⟨hwt, ⟨w', hI⟩, ⟨w', hr⟩⟩))
    · unfold wpOpIn
      simp only [ho, hwt]
      exact ⟨fun f _ => hFr.fn f, wpAnyIn_of_H hFr hnd hF hL fuel _ _ w (hw.put hF ho (fun d R hd hR h => absurd rfl h)) (hn undef (.inr ⟨by simpa using hwt, rfl⟩))⟩

theorem wpAnyIn_of_seq {Q' : Exit → Act → World → Prop} : ∀ (l : List Oper) (k : Nat) (listed : Array Bool) (a : Act) (w : World), (∀ j, l[j]? = ops[k + j]?) →
    Region.seqB md ops l.length k listed = true → wpListIn F m P ops Q' l a w → wpAnyIn F m P md ops Q' l.length listed a w
  | [], _, _, _, _, _, hB, h => ⟨by simpa [Region.seqB] using hB, h⟩
  | o :: l, k, listed, a, w, hl, hB, h => by
    have h0 : ops[k]? = some o := by simpa using (hl 0).symm
    simp only [List.length_cons, Region.seqB, Bool.and_eq_true, decide_eq_true_eq] at hB
    refine ⟨fun h1 => (by rw [hB.1] at h1; cases h1), fun i hi => ?_⟩
    rw [hB.1] at hi
    have hik : i = k := by simpa using hi
    subst hik
    have hw : wpOpIn F m P ops Q' i (wpListIn F m P ops Q' l) a w := by unfold wpOpIn; simp only [h0]; exact h
    exact wpOpIn_mono (fun a' w' h' => wpAnyIn_of_seq l (i + 1) _ a' w' (fun j => by have := hl (j + 1); simpa [Nat.add_assoc, Nat.add_comm 1 j] using this) hB.2 h') hw
end

/-- A region that draws its order, walked once, inside a fence. -/
theorem wpIn_region_steady {F : Fence} {m : Nat} {P : Program} {id : Nat} {Q : Exit → Act → World → Prop} {a : Act} {w : World} {l : List Oper} (hFr : Free F m P) (hnd : noDefer l = true) (g : List (Tmp × Rel)) (n : Nat) (hm : P.follows .mixedOrders = true) (hB : Region.lexB .any l.toArray = true)
    (hf : fedB l (g.map (·.1)) n = true) (hn : a.tmps.size = n) (h : wpG P l.toArray (openOf g) w (fun a' w' => Q .normal a' w') l a (fun _ => True)) : (Code.region id l.toArray true).wpIn F m P Q a w := by
  simp only [Region.lexB, Bool.and_eq_true] at hB
  obtain ⟨hF, hd⟩ := fedB_fed (n := n) hf
  have hI : ∀ w', Le w w' → Inv l.toArray (openOf g) w (Array.replicate l.toArray.size false) a w' := fun w' hl => ⟨hl, fun k o d R _ hk => by
    exfalso
    rw [getD_replicate_false] at hk
    cases hk⟩
  refine wpIn_region_any hm (wpAnyIn_of_G (Qn := fun a' w' => Q .normal a' w') (w0 := w) hFr (fun i o ho => noDefer_spec hnd ho) hF (fun _ _ h => h) _ _ _ _ (hI { w with drawn := w.drawn + 1 } ((Below.refl _ _).drew)) ?_)
  have := wpAnyG_lex hF hB.1 n hd l 0 (Array.replicate l.toArray.size false) a (fun _ => True) (by simp) (by simpa using hB.2) hn ⟨_, hI w (Le.refl w)⟩ (fun _ _ => trivial) h
  simpa using this

/-- The first mm operations walked once; the others, which wait for them, in a row: inside a fence. -/
theorem wpIn_region_tail {F : Fence} {m : Nat} {P : Program} {id : Nat} {Q : Exit → Act → World → Prop} {a : Act} {w : World} {l : List Oper} (hFr : Free F m P) (hnd : noDefer l = true) (g : List (Tmp × Rel)) (nt mm : Nat) (hm : P.follows .mixedOrders = true) (hB : Region.lexTailB .any l.toArray mm = true)
    (hf : fedB l (g.map (·.1)) nt = true) (hn : a.tmps.size = nt) (h : wpG P l.toArray (openOf g) w (fun a' w' => wpListIn F m P l.toArray Q (l.drop mm) a' w') (l.take mm) a (fun _ => True)) : (Code.region id l.toArray true).wpIn F m P Q a w := by
  simp only [Region.lexTailB, Bool.and_eq_true, decide_eq_true_eq] at hB
  obtain ⟨⟨⟨⟨hsel, hn'⟩, hs⟩, hc⟩, hlex⟩ := hB
  obtain ⟨hF, hd⟩ := fedB_fed (n := nt) hf
  have hnl : mm < l.length := by simpa using hn'
  have htl : (l.take mm).length = mm := by simp; omega
  have hdl : (l.drop mm).length = l.toArray.size - mm := by simp
  have hI : ∀ w', Le w w' → Inv l.toArray (openOf g) w (Array.replicate l.toArray.size false) a w' := fun w' hl => ⟨hl, fun k o d R _ hk => by
    exfalso
    rw [getD_replicate_false] at hk
    cases hk⟩
  have inv0 : HeadInv .any l.toArray mm (Array.replicate l.toArray.size false) :=
    ⟨by simp, fun j oj _ hl => (by rw [getD_replicate_false] at hl; cases hl), fun t _ ht => getD_in (by simpa using ht) (getD_replicate_false _ _)⟩
  have H := wpAnyH_lex (md := .any) (g := l.toArray.size - mm) hF hsel hs hc hn' nt hd (l.take mm) 0 _ a (fun _ => True) (fun j hj => by
    have hj' : j < mm := by rw [htl] at hj; exact hj
    simp [hj']) (by simpa using htl) inv0 (by rw [htl]; exact hlex) hn ⟨_, hI w (Le.refl w)⟩ (fun _ _ => trivial) h
  refine wpIn_region_any hm ?_
  have := wpAnyIn_of_H (Q := Q) (g := l.toArray.size - mm) hFr (fun i o ho => noDefer_spec hnd ho) hF (fun listed a' w' hL hw => by
    have := wpAnyIn_of_seq (md := .any) (Q' := Q) (l.drop mm) mm listed a' w' (fun j => by simp [List.getElem?_drop]) (by rw [hdl]; exact hL.1) (hL.2 w' hw)
    rwa [hdl] at this) _ _ _ _ (hI { w with drawn := w.drawn + 1 } ((Below.refl _ _).drew)) H
  rw [htl, show mm + (l.toArray.size - mm) = l.toArray.size by omega] at this
  exact this
end Go.Proofs.Ytadmaalhhigbeaa
