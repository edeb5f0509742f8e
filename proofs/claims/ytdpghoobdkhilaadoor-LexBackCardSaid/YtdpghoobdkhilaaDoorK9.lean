/- A range over an iterator whose loop variable is boxed, where the iterator's contract tells what comes in a round. -/
import Derived.RangeFuncNested
import Derived.RangeFuncBound
import Derived.RangeFuncCalls
import Derived.RangeFuncLeaves
import Derived.RangeFuncBox
import Derived.Shelf.Abstract
import Derived.Shelf.RegionOpen
import Derived.OwnWalkIn
import Derived.TacticsInMore
import Derived.LoopNIn
import Derived.LoopIn
import Derived.Test.YtdpghoobdkhilaaDoorK1
import Derived.Test.YtdpghoobdkhilaaDoorK2
import Derived.OrdersIn
import Derived.TacticsIn
import Derived.Test.YtdpghoobdkhilaaDoorK4
import Derived.Test.YtdpghoobdkhilaaDoorK8
import Derived.Test.YtdpghoobdkhilaaDoorK7
import Derived.Test.YtdpghoobdkhilaaDoorK6
import Derived.Laws.Bits128
namespace Go.Proofs.YtdpghoobdkhilaaDoor
set_option linter.unusedVariables false
open Go Go.RowKit Go.Shelf

/-- What an iterator does, a round being told what comes: Pr pre x. -/
def SeqStopsQ {α : Type} (F : Fence) (n : Nat) (P : Program) (g : Nat) (lb : Array Value) (encs : α → Array Value) (Kp : World → World → Prop) (Pr : List α → α → Prop) (S Sp : List α → Prop) (N : Nat) (w : World) : Prop :=
  ∀ (l : Nat) (J Jx : List α → World → Prop) (W : World), Below w.heap.size w W → AbidesFrom W.heap.size J → AbidesFrom W.heap.size Jx →
    (∀ pre x W1, Pr pre x → J pre W1 → pre.length < N → YieldAt F (n - 1) P l (encs x) W1 fun e W' =>
      (e = .returned (.bool true) ∧ J (pre ++ [x]) W' ∧ Kp W1 W') ∨ (e = .returned (.bool false) ∧ Jx (pre ++ [x]) W')) →
    J [] W →
    CallsIn F n P g (#[.func (.yield l) #[] #[]] ++ lb) W fun e W' => (∃ v, e = .returned v) ∧ ((∃ xs, S xs ∧ J xs W') ∨ (∃ pre, Sp pre ∧ Jx pre W'))

section
variable {F : Fence} {n : Nat} {P : Program}
theorem wpIn_rangeFunc_box {α : Type} {g : Operand} {ps : Array Tmp} {assign body : Code} {Q : Exit → Act → World → Prop} {a : Act} {w : World}
    (hro : F.round = none) (h1 : 1 ≤ n) {gf : Nat} {lb : Array Value} (hg : a.eval g = .func (.func gf) #[] lb) (hFg : F.fn gf) (eg : ∀ args w, (callFunc gf args).run P w = .ok (.enter gf args) w)
    {encs : α → Array Value} {Kp : World → World → Prop} {Pr : List α → α → Prop} {S Sp : List α → Prop} {N : Nat} {w0 : World} (hseq : SeqStopsQ F (n - 1) P gf lb encs Kp Pr S Sp N w0)
    (hKt : ∀ {A B C : World}, Kp A B → Kp B C → Kp A C) (hKb : ∀ (W : World) (l : Nat) (o o' : Obj), w.heap.size ≤ l → W.heap[l]? = some o → o.isCells = false → o.isWalk = false → Kp W (W.putObj l o')) (hb0 : Below w0.heap.size w0 w) (hps : ∀ x, (encs x).size = ps.size)
    (I : List α → World → Prop) (Ix : Code → List α → World → Prop) (hI : OwnFrom w.heap.size I) (hIx : ∀ c, OwnFrom w.heap.size (Ix c)) (h0 : I [] w) (Ax : α → Act → World → Prop) (hAx : ∀ x a', OwnFrom w.heap.size (fun (_ : Unit) W => Ax x a' W))
    (hassign : ∀ (l : Nat) (pre : List α) (x : α) (W : World) (K : Act → World → Prop), Pr pre x → I pre W → (∀ a' W', KeepsFrom w.heap.size W W' → Kp W W' → I pre W' → Ax x a' W' → K a' W') →
      assign.wpIn (F.inRound l) (n - 1 - 1) P (Exit.then K (fun _ _ _ => False)) { tmps := (ps.zip (encs x)).foldl (fun t (p, v) => t.setIfInBounds p v) a.tmps, defers := [] } W)
    (hbody : ∀ (l : Nat) (pre : List α) (x : α) (a' : Act) (W : World), w.heap.size ≤ l → (∃ r, W.heap[l]? = some (.loop r)) → Pr pre x → I pre W → Ax x a' W → pre.length < N → body.wpIn (F.inRound l) (n - 1 - 1) P (ownPostG w.heap.size Kp I Ix (pre ++ [x]) W) a' W)
    (hdone : ∀ (D : Nat) (xs : List α) (W : World), w.heap.size ≤ D → S xs → I xs W → W.heap[D]? = some (.deferred (some [])) → Q .normal { a with defers := { target := .collected D, args := #[] } :: a.defers } W)
    (hstop : ∀ (D : Nat) (c : Code) (pre : List α) (W : World), w.heap.size ≤ D → Sp pre → Ix c pre W → W.heap[D]? = some (.deferred (some [])) → c.wpIn F n P Q { a with defers := { target := .collected D, args := #[] } :: a.defers } W) :
    (Code.rangeFunc g ps assign body).wpIn F n P Q a w := by
  refine wpIn_rangeFunc ?_
  intro fn hfn
  rw [hro]
  obtain ⟨rec, hrec⟩ : ∃ rec : LoopState → Option Code → Loop, rec = fun st pe => { state := st, pending := pe, fn, tmps := a.tmps, params := ps, assign, body, defers := w.heap.size } := ⟨_, rfl⟩
  obtain ⟨W1, hW1⟩ : ∃ W1, (w.alloc (.deferred (some []))).alloc (.loop (rec .ready none)) = W1 := ⟨_, rfl⟩
  have hL1 : W1.heap[w.heap.size + 1]? = some (.loop (rec .ready none)) := by
    rw [← hW1]; have := World.alloc_heap_new (w.alloc (.deferred (some []))) (.loop (rec .ready none)); rwa [World.size_alloc] at this
  have hK1 : W1.heap[w.heap.size]? = some (.deferred (some [])) := by
    rw [← hW1]; exact (Below.heap_alloc _ _ _ (by simp)).trans (World.alloc_heap_new w _)
  have hI1 : I [] W1 := by rw [← hW1]; exact hI.alloc _ (hI.alloc _ h0)
  have hb1 : Below w0.heap.size w0 W1 := by
    rw [← hW1]; exact hb0.trans ((((Below.refl _ w).alloc (Nat.le_refl _) _).alloc (by simp) _).mono hb0.size)
  refine ⟨w.heap.size + 1, [{ target := .collected w.heap.size, args := #[] }], W1, { target := .fn (.func gf) lb, args := #[.func (.yield (w.heap.size + 1)) #[] #[]] }, W1, gf,
    #[.func (.yield (w.heap.size + 1)) #[] #[]] ++ lb, W1, ?_, ?_, ?_, ?_, fun _ => h1, ?_⟩
  · rw [← hW1, hrec]; exact run_enterLoop_outer _ _ _ _ _
  · simp only [resolve, hg]
    simp [go_sem]
  · intro f' hf'; simp [Target.leads] at hf'; subst hf'; exact hFg
  · simp [invoke, go_sem, eg]
  ·
    have hnw : ∀ {A B : World} {row : Option Nat}, (∀ r, row = some r → W1.heap.size ≤ r ∧ ∃ o : Obj, A.heap[r]? = some o ∧ o.isWalk = true) → (∀ r, row = some r → w.heap.size ≤ r ∧ ∃ o : Obj, A.heap[r]? = some o ∧ o.isCells = false) :=
      fun hr r e => by obtain ⟨hB, o, ho, hw⟩ := hr r e; exact ⟨by rw [← hW1] at hB; simp at hB; omega, o, ho, Obj.not_cells_of_walk hw⟩
    refine (hseq (w.heap.size + 1)
      (fun pre W => I pre W ∧ W.heap[w.heap.size + 1]? = some (.loop (rec .ready none)) ∧ W.heap[w.heap.size]? = some (.deferred (some [])))
      (fun pre W => ∃ c, Ix c pre W ∧ W.heap[w.heap.size + 1]? = some (.loop (rec .done (some c))) ∧ W.heap[w.heap.size]? = some (.deferred (some [])))
      W1 hb1
      (fun s A B row hs hg' hr => ⟨hI s A B row hs.1 hg' (hnw (B := B) hr), (grownBy_keeps hg' (fun r e => (hr r e).2) hs.2.1 rfl).trans hs.2.1, (grownBy_keeps hg' (fun r e => (hr r e).2) hs.2.2 rfl).trans hs.2.2⟩)
      (fun s A B row hs hg' hr => by
        obtain ⟨c, hc, hl, hk⟩ := hs
        exact ⟨c, hIx c s A B row hc hg' (hnw (B := B) hr), (grownBy_keeps hg' (fun r e => (hr r e).2) hl rfl).trans hl, (grownBy_keeps hg' (fun r e => (hr r e).2) hk rfl).trans hk⟩)
      ?_ ⟨hI1, hL1, hK1⟩).mono ?_
    ·
      rintro pre x W hpr ⟨hi, hl, hk⟩ hlen
      have hlt : w.heap.size + 1 < W.heap.size := (Array.getElem?_eq_some_iff.1 hl).1
      have hy := run_yield (P := P) (args := encs x) hl (by rw [hrec]; exact hps x)
      rw [hrec] at hy
      refine ⟨fn, _, assign, body, hy, roundIn_of_wpIn hfn (hassign _ pre x W _ hpr hi ?_)⟩
      clear hy
      intro a' Wa hkfa hkpa hia hax

      replace hl := hkfa.same _ _ (by omega) hl rfl
      replace hk := hkfa.same _ _ (Nat.le_refl _) hk rfl
      replace hlt : w.heap.size + 1 < Wa.heap.size := (Array.getElem?_eq_some_iff.1 hl).1
      replace hi := hia
      clear hia
      revert hkpa hkfa
      generalize W = Wb
      intro hkfa hkpa
      obtain ⟨W, rfl⟩ : ∃ W, W = Wa := ⟨_, rfl⟩
      refine ⟨_, run_beginRound hl (by rw [hrec]), ?_⟩
      have hl2 : (W.putObj (w.heap.size + 1) (.loop { rec .ready none with state := .busy })).heap[w.heap.size + 1]? = some (.loop { rec .ready none with state := .busy }) := World.putObj_heap_same hlt
      have hk2 : (W.putObj (w.heap.size + 1) (.loop { rec .ready none with state := .busy })).heap[w.heap.size]? = some (.deferred (some [])) := (World.putObj_heap_other (by omega)).trans hk
      have hw2 : Kp W (W.putObj (w.heap.size + 1) (.loop { rec .ready none with state := .busy })) := hKb _ _ _ _ (by omega) hl rfl rfl
      refine wpIn_mono (hbody _ pre x a' _ (by omega) ⟨_, hl2⟩ hpr (hI.putObj _ hi (by omega) hl rfl) ((hAx x a').putObj (s := ()) _ hax (by omega) hl rfl) hlen) ?_
      have fin : ∀ (jump : Option Code) (W3 : World), KeepsFrom w.heap.size (W.putObj (w.heap.size + 1) (.loop { rec .ready none with state := .busy })) W3 →
          (Instr.endRound (w.heap.size + 1) jump).run P W3 = .ok (.bool jump.isNone) (W3.putObj (w.heap.size + 1) (.loop (rec (if jump.isNone then .ready else .done) jump))) ∧
          W3.heap[w.heap.size + 1]? = some (.loop { rec .ready none with state := .busy }) ∧
          (W3.putObj (w.heap.size + 1) (.loop (rec (if jump.isNone then .ready else .done) jump))).heap[w.heap.size + 1]? = some (.loop (rec (if jump.isNone then .ready else .done) jump)) ∧
          (W3.putObj (w.heap.size + 1) (.loop (rec (if jump.isNone then .ready else .done) jump))).heap[w.heap.size]? = some (.deferred (some [])) := fun jump W3 hk3 => by
        have hl3 := hk3.same _ _ (by omega) hl2 rfl
        have := run_endRound (P := P) jump hl3
        rw [hrec] at this ⊢
        exact ⟨this, by rw [hrec] at hl3; exact hl3, World.putObj_heap_same (Array.getElem?_eq_some_iff.1 hl3).1, (World.putObj_heap_other (by omega)).trans (hk3.same _ _ (Nat.le_refl _) hk2 rfl)⟩
      rintro e a3 W3 hp
      cases e with
      | normal =>
        obtain ⟨hk3, hkp3, hi3⟩ := hp
        obtain ⟨hr, hl3, hl4, hk4⟩ := fin none W3 hk3
        exact ⟨_, _, hr, .inl ⟨rfl, ⟨hI.putObj _ hi3 (by omega) hl3 rfl, hl4, hk4⟩, hKt hkpa (hKt (hKt hw2 hkp3) (hKb _ _ _ _ (by omega) hl3 rfl rfl))⟩⟩
      | ret =>
        obtain ⟨hk3, hi3⟩ := hp
        obtain ⟨hr, hl3, hl4, hk4⟩ := fin (some .ret) W3 hk3
        exact ⟨_, _, hr, .inr ⟨rfl, .ret, (hIx _).putObj _ hi3 (by omega) hl3 rfl, hl4, hk4⟩⟩
      | exit id =>
        obtain ⟨hk3, hi3⟩ := hp
        obtain ⟨hr, hl3, hl4, hk4⟩ := fin (some (.exit id)) W3 hk3
        exact ⟨_, _, hr, .inr ⟨rfl, .exit id, (hIx _).putObj _ hi3 (by omega) hl3 rfl, hl4, hk4⟩⟩
      | goto t =>
        obtain ⟨hk3, hi3⟩ := hp
        obtain ⟨hr, hl3, hl4, hk4⟩ := fin (some (.goto t)) W3 hk3
        exact ⟨_, _, hr, .inr ⟨rfl, .goto t, (hIx _).putObj _ hi3 (by omega) hl3 rfl, hl4, hk4⟩⟩
      | panic ch => exact hp.elim
      | outgrown => exact hp.elim
    ·
      rintro e W2 ⟨⟨v, rfl⟩, (⟨xs, hS, hi, hl, hk⟩ | ⟨pre, hSp, c, hi, hl, hk⟩)⟩
      · exact ⟨none, _, by have := run_endLoop (P := P) hl (by rw [hrec]; simp); rw [hrec] at this; exact this, hdone _ xs _ (Nat.le_refl _) hS (hI.putObj _ hi (by omega) hl rfl) ((World.putObj_heap_other (by omega)).trans hk)⟩
      · exact ⟨some c, _, by have := run_endLoop (P := P) hl (by rw [hrec]; simp); rw [hrec] at this; exact this, hstop _ c pre _ (Nat.le_refl _) hSp ((hIx c).putObj _ hi (by omega) hl rfl) ((World.putObj_heap_other (by omega)).trans hk)⟩


end
end Go.Proofs.YtdpghoobdkhilaaDoor

/- A drawn region inside a fence (the round of a range over a function): walked once, as Steady and Tail do outside. -/
namespace Go.Proofs.YtdpghoobdkhilaaDoor
open Go Go.RowKit

/-- A fence in which any call may be made. -/
structure Free (F : Fence) (m : Nat) (P : Program) : Prop where
  fn : ∀ f, F.fn f
  depth : F.depth = none
  call : ∀ {f : FuncId} {args : Array Value} {w : World} {R : Ending → World → Prop}, Calls P f args w R → CallsIn F (m - 1) P f args w R
theorem free_wide (m : Nat) (P : Program) : Free Fence.wide m P := ⟨fun _ => trivial, rfl, fun h => callsIn_wide.2 h⟩
theorem free_round (l m : Nat) (P : Program) : Free (Fence.wide.inRound l) m P := ⟨fun _ => trivial, rfl, fun h => (callsIn_wide.2 h).inRound l⟩

def noDefer (ops : List Oper) : Bool := ops.all fun o => match o.op with | .defer _ => false | _ => true
theorem noDefer_spec {ops : List Oper} (h : noDefer ops = true) {i : Nat} {o : Oper} (ho : ops.toArray[i]? = some o) : ∀ c, o.op ≠ .defer c := by
  intro c e
  rw [List.getElem?_toArray] at ho
  have := List.all_eq_true.1 h o (List.mem_of_getElem? ho)
  rw [e] at this
  cases this

section
variable {P : Program} {ops : Array Oper} {md : Region.Mode} {G : Tmp → Option Rel} {w0 : World} {n : Nat} {L : Array Bool → Act → Prop} {Qn : Act → World → Prop} {F : Fence} {m : Nat}

theorem wpOpIn_of_gives {Q : Exit → Act → World → Prop} (hFr : Free F m P) {i : Nat} {o : Oper} (ho : ops[i]? = some o) (hnd : ∀ c, o.op ≠ .defer c) {a : Act} {w : World} {R : Value → World → Prop} {K : Act → World → Prop}
    (hwt : Region.wanted o (yielded ops a.tmps) = true) (h1 : gives P o a R w) (next : ∀ u w', Le w w' → R u w' → K (a.put o.dst u) w') : wpOpIn F m P ops Q i K a w := by
  unfold wpOpIn
  simp only [ho, hwt, if_true]
  refine ⟨fun f _ => hFr.fn f, ?_⟩
  rw [Oper.semAt_eq _ _ _ hnd]
  unfold gives at h1
  generalize (execOp a.eval o).run P w = r at *
  cases r with
  | ok n w' =>
    cases n <;> simp only [givesUpon] at h1 <;> simp only [Oper.uponIn]
    case value u => exact next _ _ h1.1 h1.2
    case skip => exact next _ _ h1.1 h1.2
    case enter f args =>
      refine ⟨fun h => (by rw [hFr.depth] at h; cases h), hFr.call (h1.2.mono fun e w'' ⟨v, he, hl, hr⟩ => ?_)⟩
      subst he
      exact next _ _ (h1.1.trans hl) hr
  | halt x w' => simp only [givesUpon] at h1

theorem wpAnyIn_of_G {Q : Exit → Act → World → Prop} (hFr : Free F m P) (hnd : ∀ (i : Nat) (o : Oper), ops[i]? = some o → ∀ c, o.op ≠ .defer c) (hF : Fed ops md G) (hQ : ∀ a w, Qn a w → Q .normal a w) :
    ∀ (fuel : Nat) (listed : Array Bool) (a : Act) (w : World), Inv ops G w0 listed a w → wpAnyG P ops md G w0 Qn fuel listed a → wpAnyIn F m P md ops Q fuel listed a w
  | 0, _, _, w, hw, h => ⟨h.1, hQ _ _ (h.2 w hw)⟩
  | fuel + 1, listed, a, w, hw, h => ⟨fun h0 => hQ _ _ (h.1 h0 w hw), fun i hi => by
      obtain ⟨hun, o, ho, _⟩ := mem_ready.1 hi
      obtain ⟨hg, hn⟩ := h.2 i hi o ho
      by_cases hwt : Region.wanted o (yielded ops a.tmps) = true
      · refine wpOpIn_of_gives hFr ho (hnd i o ho) hwt (hg hwt w (hw.lean hF hi ho)) fun u w' hl hr => ?_
        have hI := (hw.mono hl).put hF ho (u := u) (fun d R hd hR _ => rel_of hr d R hd hR)
        exact wpAnyIn_of_G hFr hnd hF hQ fuel _ _ w' hI (hn u (.inl ⟨hwt, ⟨w', hI⟩, ⟨w', hr⟩⟩))
      · unfold wpOpIn
        simp only [ho, hwt]
        exact ⟨fun f _ => hFr.fn f, wpAnyIn_of_G hFr hnd hF hQ fuel _ _ w (hw.put hF ho (fun d R hd hR h => absurd rfl h)) (hn undef (.inr ⟨by simpa using hwt, rfl⟩))⟩⟩

theorem wpAnyIn_of_H {g : Nat} {Q : Exit → Act → World → Prop} (hFr : Free F m P) (hnd : ∀ (i : Nat) (o : Oper), ops[i]? = some o → ∀ c, o.op ≠ .defer c) (hF : Fed ops md G)
    (hL : ∀ listed a w, L listed a → Inv ops G w0 listed a w → wpAnyIn F m P md ops Q g listed a w) :
    ∀ (f : Nat) (listed : Array Bool) (a : Act) (w : World), Inv ops G w0 listed a w → wpAnyH P ops md G w0 n L f listed a → wpAnyIn F m P md ops Q (f + g) listed a w
  | 0, _, _, w, hw, h => by rw [Nat.zero_add]; exact hL _ _ w h hw
  | fuel + 1, listed, a, w, hw, h => by
    rw [show fuel + 1 + g = (fuel + g) + 1 by omega]
    refine ⟨fun h0 => absurd h0 h.1, fun i hi => ?_⟩
    obtain ⟨hun, o, ho, _⟩ := mem_ready.1 hi
    obtain ⟨hg, hn⟩ := (h.2 i hi).2 o ho
    by_cases hwt : Region.wanted o (yielded ops a.tmps) = true
    · refine wpOpIn_of_gives hFr ho (hnd i o ho) hwt (hg hwt w (hw.lean hF hi ho)) fun u w' hl hr => ?_
      have hI := (hw.mono hl).put hF ho (u := u) (fun d R hd hR _ => rel_of hr d R hd hR)
      exact wpAnyIn_of_H hFr hnd hF hL fuel _ _ w' hI (hn u (.inl ⟨hwt, ⟨w', hI⟩, ⟨w', hr⟩⟩))
    · unfold wpOpIn
      simp only [ho, hwt]
      exact ⟨fun f _ => hFr.fn f, wpAnyIn_of_H hFr hnd hF hL fuel _ _ w (hw.put hF ho (fun d R hd hR h => absurd rfl h)) (hn undef (.inr ⟨by simpa using hwt, rfl⟩))⟩

theorem wpAnyIn_of_seq {Q' : Exit → Act → World → Prop} : ∀ (l : List Oper) (k : Nat) (listed : Array Bool) (a : Act) (w : World), (∀ j, l[j]? = ops[k + j]?) →
    Region.seqB md ops l.length k listed = true → wpListIn F m P ops Q' l a w → wpAnyIn F m P md ops Q' l.length listed a w
  | [], _, _, _, _, _, hB, h => ⟨by simpa [Region.seqB] using hB, h⟩
  | o :: l, k, listed, a, w, hl, hB, h => by
    have h0 : ops[k]? = some o := by simpa using (hl 0).symm
    simp only [List.length_cons, Region.seqB, Bool.and_eq_true, decide_eq_true_eq] at hB
    refine ⟨fun h1 => (by rw [hB.1] at h1; cases h1), fun i hi => ?_⟩
    rw [hB.1] at hi
    have hik : i = k := by simpa using hi
    subst hik
    have hw : wpOpIn F m P ops Q' i (wpListIn F m P ops Q' l) a w := by unfold wpOpIn; simp only [h0]; exact h
    exact wpOpIn_mono (fun a' w' h' => wpAnyIn_of_seq l (i + 1) _ a' w' (fun j => by have := hl (j + 1); simpa [Nat.add_assoc, Nat.add_comm 1 j] using this) hB.2 h') hw
end

/-- A region that draws its order, walked once, inside a fence. -/
theorem wpIn_region_steady {F : Fence} {m : Nat} {P : Program} {id : Nat} {Q : Exit → Act → World → Prop} {a : Act} {w : World} {l : List Oper} (hFr : Free F m P) (hnd : noDefer l = true) (g : List (Tmp × Rel)) (n : Nat) (hm : P.follows .mixedOrders = true) (hB : Region.lexB .any l.toArray = true)
    (hf : fedB l (g.map (·.1)) n = true) (hn : a.tmps.size = n) (h : wpG P l.toArray (openOf g) w (fun a' w' => Q .normal a' w') l a (fun _ => True)) : (Code.region id l.toArray true).wpIn F m P Q a w := by
  simp only [Region.lexB, Bool.and_eq_true] at hB
  obtain ⟨hF, hd⟩ := fedB_fed (n := n) hf
  have hI : ∀ w', Le w w' → Inv l.toArray (openOf g) w (Array.replicate l.toArray.size false) a w' := fun w' hl => ⟨hl, fun k o d R _ hk => by
    exfalso
    rw [getD_replicate_false] at hk
    cases hk⟩
  refine wpIn_region_any hm (wpAnyIn_of_G (Qn := fun a' w' => Q .normal a' w') (w0 := w) hFr (fun i o ho => noDefer_spec hnd ho) hF (fun _ _ h => h) _ _ _ _ (hI { w with drawn := w.drawn + 1 } ((Below.refl _ _).drew)) ?_)
  have := wpAnyG_lex hF hB.1 n hd l 0 (Array.replicate l.toArray.size false) a (fun _ => True) (by simp) (by simpa using hB.2) hn ⟨_, hI w (Le.refl w)⟩ (fun _ _ => trivial) h
  simpa using this

/-- The first mm operations walked once; the others, which wait for them, in a row: inside a fence. -/
theorem wpIn_region_tail {F : Fence} {m : Nat} {P : Program} {id : Nat} {Q : Exit → Act → World → Prop} {a : Act} {w : World} {l : List Oper} (hFr : Free F m P) (hnd : noDefer l = true) (g : List (Tmp × Rel)) (nt mm : Nat) (hm : P.follows .mixedOrders = true) (hB : Region.lexTailB .any l.toArray mm = true)
    (hf : fedB l (g.map (·.1)) nt = true) (hn : a.tmps.size = nt) (h : wpG P l.toArray (openOf g) w (fun a' w' => wpListIn F m P l.toArray Q (l.drop mm) a' w') (l.take mm) a (fun _ => True)) : (Code.region id l.toArray true).wpIn F m P Q a w := by
  simp only [Region.lexTailB, Bool.and_eq_true, decide_eq_true_eq] at hB
  obtain ⟨⟨⟨⟨hsel, hn'⟩, hs⟩, hc⟩, hlex⟩ := hB
  obtain ⟨hF, hd⟩ := fedB_fed (n := nt) hf
  have hnl : mm < l.length := by simpa using hn'
  have htl : (l.take mm).length = mm := by simp; omega
  have hdl : (l.drop mm).length = l.toArray.size - mm := by simp
  have hI : ∀ w', Le w w' → Inv l.toArray (openOf g) w (Array.replicate l.toArray.size false) a w' := fun w' hl => ⟨hl, fun k o d R _ hk => by
    exfalso
    rw [getD_replicate_false] at hk
    cases hk⟩
  have inv0 : HeadInv .any l.toArray mm (Array.replicate l.toArray.size false) :=
    ⟨by simp, fun j oj _ hl => (by rw [getD_replicate_false] at hl; cases hl), fun t _ ht => getD_in (by simpa using ht) (getD_replicate_false _ _)⟩
  have H := wpAnyH_lex (md := .any) (g := l.toArray.size - mm) hF hsel hs hc hn' nt hd (l.take mm) 0 _ a (fun _ => True) (fun j hj => by
    have hj' : j < mm := by rw [htl] at hj; exact hj
    simp [hj']) (by simpa using htl) inv0 (by rw [htl]; exact hlex) hn ⟨_, hI w (Le.refl w)⟩ (fun _ _ => trivial) h
  refine wpIn_region_any hm ?_
  have := wpAnyIn_of_H (Q := Q) (g := l.toArray.size - mm) hFr (fun i o ho => noDefer_spec hnd ho) hF (fun listed a' w' hL hw => by
    have := wpAnyIn_of_seq (md := .any) (Q' := Q) (l.drop mm) mm listed a' w' (fun j => by simp [List.getElem?_drop]) (by rw [hdl]; exact hL.1) (hL.2 w' hw)
    rwa [hdl] at this) _ _ _ _ (hI { w with drawn := w.drawn + 1 } ((Below.refl _ _).drew)) H
  rw [htl, show mm + (l.toArray.size - mm) = l.toArray.size by omega] at this
  exact this
end Go.Proofs.YtdpghoobdkhilaaDoor

/- Whole structs loaded and stored inside a fence: the laws of the plain walk, for a round. -/
namespace Go.Proofs.YtdpghoobdkhilaaDoor
set_option linter.unusedVariables false
open Go Go.RowKit

section
variable {F : Fence} {n : Nat} {P : Program} {ops : Array Oper} {rest : List Oper} {o : Oper} {a : Act} {w : World} {Q : Exit → Act → World → Prop}
theorem wpListIn_exec (hg : o.guard = none) (hd : ∀ c, o.op ≠ .defer c) (hab : o.about P w a.eval = none) (v : Value) (he : (execOp a.eval o).run P w = .ok (.value v) w)
    (h : wpListIn F n P ops Q rest (a.put o.dst v) w) : wpListIn F n P ops Q (o :: rest) a w := by
  refine wpListIn_plain hg fun K hK' => ?_
  unfold Oper.wpIn
  refine ⟨fun f hf => (by rw [hab] at hf; cases hf), ?_⟩
  rw [Oper.semAt_plain F _ _ hd, he]
  exact hK' _ _ h
theorem wpListIn_load (hg : o.guard = none) (ty : TypeId) (x : Operand) (ho : o.op = .load ty x) (b k : Nat) (hx : a.eval x = .pointer (some ⟨b, k, none⟩)) (cs : List Value) (d : TypeDesc) (hc : w.rangeAt b k cs)
    (hu : P.underlying ty = some d) (hd : d.isRow = true) (hi : (P.info? ty).map (·.size) = some cs.length)
    (h : wpListIn F n P ops Q rest (a.put o.dst (.agg cs.toArray)) w) : wpListIn F n P ops Q (o :: rest) a w :=
  wpListIn_exec hg (by rw [ho]; intro c hc; cases hc) (by simp [Oper.about, ho]) _ (exec_load ty x ho b k hx cs d hc hu hd hi) h
theorem wpListIn_store (hg : o.guard = none) (ty : TypeId) (x y : Operand) (ho : o.op = .store ty x y) (b k : Nat) (cells : Array Value) (hx : a.eval x = .pointer (some ⟨b, k, none⟩)) (hy : a.eval y = .agg cells)
    (ht : w.there b k cells.size) (hi : (P.info? ty).map (·.size) = some cells.size) (h1 : cells.all (·.oneCell') = true)
    (h : wpListIn F n P ops Q rest (a.put o.dst undef) (w.setCells b k cells.toList)) : wpListIn F n P ops Q (o :: rest) a w := by
  refine wpListIn_plain hg fun K hK' => ?_
  unfold Oper.wpIn
  refine ⟨fun f hf => (by simp [Oper.about, ho] at hf), ?_⟩
  rw [Oper.semAt_plain F _ _ (by rw [ho]; intro c hc; cases hc)]
  unfold execOp
  simp only [ho, hx, hy, Sem.run_bind, Sem.run_pure, run_storeAt_mid w b k ty cells ht hi h1, Result.andThen_ok]
  exact hK' _ _ h
end
end Go.Proofs.YtdpghoobdkhilaaDoor

/- The words of any text, too long ones too; the iterator over words. -/
namespace Go.Proofs.YtdpghoobdkhilaaDoor
set_option linter.unusedVariables false
set_option linter.unusedSimpArgs false
open Go Go.RowKit Go.Shelf BitM MskM ValM LexM
attribute [local go_sem] Oper.semAt_some

namespace LexM
/-- What All tells: the words, a place, an error. -/
noncomputable def outL (t : ByteArray) : List Wd := if t.size ≤ 1000 then (match (lto t 0 []).1 with | some l => l | none => []) else []
noncomputable def outA (t : ByteArray) : Nat := if t.size ≤ 1000 then (lto t 0 []).2 else 0
noncomputable def outE (t : ByteArray) : Int := if t.size ≤ 1000 then (match (lto t 0 []).1 with | some _ => 0 | none => 3) else 4
end LexM
/-- What All leaves, of any text. -/
def AllOut (T : TypeId) (t : ByteArray) (w : World) (e : Ending) (w' : World) : Prop :=
  ∃ A c, e = .returned (.tuple #[.slice A (outL t).length c, .int .i64 (outA t : Int), .int .i64 (outE t)]) ∧ w'.ownsRow w.heap.size T 4 (.slice A (outL t).length c) (outL t).length (lcs (outL t)) ∧ Below w.heap.size w w'
theorem out_len (t : ByteArray) : (outL t).length ≤ 1000 → True := fun _ => trivial
theorem allOut_of {T : TypeId} {t : ByteArray} {w w' : World} {e : Ending} (hs : t.size ≤ 1000) (h : AllPost T (lto t 0 []) w e w') : AllOut T t w e w' ∧ (outL t).length ≤ 1000 := by
  rcases h with ⟨L, hR, A, c, he, hr, hb, hl⟩ | ⟨p, hR, he, hb⟩
  · have e1 : outL t = L := by unfold outL; rw [if_pos hs, hR]
    have e2 : outA t = 0 := by unfold outA; rw [if_pos hs, hR]
    have e3 : outE t = 0 := by unfold outE; rw [if_pos hs, hR]
    unfold AllOut
    rw [e1, e2, e3]
    exact ⟨⟨A, c, he, hr, hb⟩, hl⟩
  · have e1 : outL t = [] := by unfold outL; rw [if_pos hs, hR]
    have e2 : outA t = p := by unfold outA; rw [if_pos hs, hR]
    have e3 : outE t = 3 := by unfold outE; rw [if_pos hs, hR]
    unfold AllOut
    rw [e1, e2, e3]
    exact ⟨⟨none, 0, he, World.ownsRow_nil _ _ _ _, hb⟩, by simp⟩
theorem all_out (t : ByteArray) (w : World) (ht : Tab w) (hm : t.size ≤ 9223372036854775807) : Calls Tryd.prog 6 #[.string t] w fun e w' => AllOut 34 t w e w' := by
  by_cases hs : t.size ≤ 1000
  · exact (all_any t w hs ht).mono fun e w' h => (allOut_of hs h).1
  · have hs1 : (1000 : Int) < (t.size : Int) := by omega
    have H : Hid (∀ w' : World, w' = w → AllOut 34 t w (.returned (.tuple #[.slice none 0 0, .int .i64 0, .int .i64 4])) w') := Lib.hid (by
      rintro w' rfl
      have e1 : outL t = [] := by unfold outL; rw [if_neg hs]
      have e2 : outA t = 0 := by unfold outA; rw [if_neg hs]
      have e3 : outE t = 4 := by unfold outE; rw [if_neg hs]
      unfold AllOut
      rw [e1, e2, e3]
      exact ⟨none, 0, rfl, World.ownsRow_nil _ _ _ _, Below.refl _ _⟩)
    clear hs ht
    go_enter Tryd.func6, Tryd.ntmps6
    go_wp2_with fail
    go_step3
    go_wp2_with fail
    try rw [Exit.noGoto_ret]
    go_ret3
    exact H.out _ rfl
theorem rall_out (t : ByteArray) (w : World) (ht : Tab w) (hm : t.size ≤ 9223372036854775807) : Calls Tryd.prog 7 #[.string t] w fun e w' => AllOut 38 t w e w' := by
  by_cases hs : t.size ≤ 1000
  · exact (rall_any t w hs ht).mono fun e w' h => (allOut_of hs h).1
  · have hs1 : (1000 : Int) < (t.size : Int) := by omega
    have H : Hid (∀ w' : World, w' = w → AllOut 38 t w (.returned (.tuple #[.slice none 0 0, .int .i64 0, .int .i64 4])) w') := Lib.hid (by
      rintro w' rfl
      have e1 : outL t = [] := by unfold outL; rw [if_neg hs]
      have e2 : outA t = 0 := by unfold outA; rw [if_neg hs]
      have e3 : outE t = 4 := by unfold outE; rw [if_neg hs]
      unfold AllOut
      rw [e1, e2, e3]
      exact ⟨none, 0, rfl, World.ownsRow_nil _ _ _ _, Below.refl _ _⟩)
    clear hs ht
    go_enter Tryd.func7, Tryd.ntmps7
    go_wp2_with fail
    go_ret3
    exact H.out _ rfl
theorem outL_len (t : ByteArray) (w : World) (ht : Tab w) : (outL t).length ≤ 1000 := by
  by_cases hs : t.size ≤ 1000
  · have key : ∀ (f k : Nat) (acc l : List Wd), acc.length ≤ k → k ≤ t.size → (lgo t f k acc).1 = some l → l.length ≤ t.size := by
      intro f
      induction f with
      | zero =>
        intro k acc l h1 h2 h
        unfold lgo at h
        cases h
        omega
      | succ f ih =>
        intro k acc l h1 h2 h
        unfold lgo at h
        split at h
        · cases h; omega
        · rename_i c hc
          have hk : k < t.data.toList.length := (List.getElem?_eq_some_iff.1 hc).1
          have hsz : t.data.toList.length = t.size := by simp
          split at h
          · exact ih (k + 1) acc l (by omega) (by omega) h
          · split at h
            · cases h
            · rename_i x hx
              have := wone_past hx
              exact ih x.2 _ l (by rw [List.length_append, List.length_singleton]; omega) this.2 h
    unfold outL
    rw [if_pos hs]
    cases h : (lto t 0 []).1 with
    | none => simp
    | some l =>
      have := key _ 0 [] l (by simp) (Nat.zero_le _) h
      simp only
      omega
  · unfold outL
    rw [if_neg hs]
    simp

/-- Cells from a place on are kept. -/
structure KeepC (n₀ : Nat) (X Y : World) : Prop where
  size : X.heap.size ≤ Y.heap.size
  same : ∀ k cs t fr, n₀ ≤ k → X.heap[k]? = some (.cells cs t fr) → Y.heap[k]? = some (.cells cs t fr)
theorem KeepC.trans {n₀ : Nat} {X Y Z : World} (h : KeepC n₀ X Y) (k : KeepC n₀ Y Z) : KeepC n₀ X Z := ⟨Nat.le_trans h.size k.size, fun i cs t fr hi hx => k.same i cs t fr hi (h.same i cs t fr hi hx)⟩
theorem KeepC.putObj (n₀ : Nat) (W : World) (l : Nat) (o o' : Obj) (h : W.heap[l]? = some o) (h1 : o.isCells = false) : KeepC n₀ W (W.putObj l o') := by
  refine ⟨(grownBy_putObj' W l o').size, fun k cs t fr _ hk => ?_⟩
  have hne : k ≠ l := by
    rintro rfl
    rw [h] at hk
    cases hk
    cases h1
  exact ((grownBy_putObj' W l o').block k (Array.getElem?_eq_some_iff.1 hk).1 (fun e => hne (Option.some.inj e))).trans hk
theorem KeepC.row {n₀ : Nat} {X Y : World} {e : TypeId} {size n : Nat} {v : Value} {xs : List Value} (h : KeepC n₀ X Y) (hr : X.ownsRow n₀ e size v n xs) : Y.ownsRow n₀ e size v n xs := by
  obtain ⟨h1, h2⟩ := hr
  exact ⟨h1, h2.imp id fun ⟨k, cap, cur, e1, e2, e3, e4⟩ => ⟨k, cap, cur, e1, e2, h.same _ _ _ _ e2 e3, e4⟩⟩
theorem KeepC.of_below {n₀ : Nat} {X Y : World} (h : Below X.heap.size X Y) : KeepC n₀ X Y := ⟨h.size, fun k cs t fr _ hk => (h.block k (Array.getElem?_eq_some_iff.1 hk).1).trans hk⟩
theorem below_grownN {X Y : World} (h : Below X.heap.size X Y) : X.grownBy Y none := ⟨h.os, h.tape, h.output, h.size, fun k hk _ => h.block k hk⟩

set_option maxRecDepth 100000 in
set_option maxHeartbeats 3200000 in
theorem each1_in (m0 : Nat) (hn : 1 ≤ m0) (lp Bn n₀ n : Nat) (t : ByteArray) (L : List Wd) (at_ er : Int) (J Jx : List Wd → World → Prop) (hLn : L.length = n) (hm : n ≤ 1000)
    (hJ : ∀ s X Y, J s X → Below X.heap.size X Y → J s Y)
    (hY : ∀ pre y W, pre ++ [y] <+: L → J pre W → pre.length < n → YieldAt Fence.wide (m0 - 1) Tryd.prog lp #[.agg (wcells4 y).toArray] W fun e W' =>
      (e = .returned (.bool true) ∧ J (pre ++ [y]) W' ∧ KeepC n₀ W W') ∨ (e = .returned (.bool false) ∧ Jx (pre ++ [y]) W'))
    (W : World) (hn₀ : n₀ ≤ W.heap.size)
    (hAll : Calls Tryd.prog 6 #[.string t] W fun e w' => ∃ A c, e = .returned (.tuple #[.slice A n c, .int .i64 at_, .int .i64 er]) ∧ w'.ownsRow W.heap.size 34 4 (.slice A n c) n (lcs L) ∧ Below W.heap.size W w')
    (hBn : W.cell? ⟨Bn, 0, none⟩ = some (.string t)) (h0 : J [] W) :
    CallsIn Fence.wide m0 Tryd.prog 15 #[.func (.yield lp) #[] #[], .pointer (some ⟨Bn, 0, none⟩)] W fun e W' => (∃ v, e = .returned v) ∧
      ((∃ ys, ys = L ∧ J ys W') ∨ (∃ pre, True ∧ Jx pre W')) := by
  have hu := Tryd.underlying34
  have HA := Lib.hid hAll
  have HLN := Lib.hid hLn
  have H0 := Lib.hid h0
  clear hAll hLn h0
  refine callsIn_of_wp Tryd.func15 rfl trivial ?_ rfl
  simp only [Tryd.ntmps15, List.size_toArray, List.length_cons, List.length_nil, Nat.reduceAdd, Nat.reduceSub, Array.replicate_succ, Array.replicate_zero, List.push_toArray, List.append_toArray, List.nil_append, List.cons_append]
  gi_wp2_with fail
  refine ⟨trivial, (callsIn_wide.2 HA.out).mono ?_⟩
  rintro e w1 ⟨A, c, rfl, hrow, hb⟩
  have HROW := Lib.hid (row_lower hrow hn₀)
  have HJ0 : Hid (J (L.take 0) w1) := Lib.hid (hJ _ _ _ H0.out hb)
  have hz1 : n₀ ≤ w1.heap.size := Nat.le_trans hn₀ hb.size
  clear hrow hb HA H0 hBn
  gi_wp2_with fail
  gi_loopw [16] (fun i wr => ∃ k : Nat, k ≤ n ∧ i = .int .i64 (k : Int) ∧ J (L.take k) wr ∧ wr.ownsRow n₀ 34 4 (.slice A n c) n (lcs L) ∧ n₀ ≤ wr.heap.size) (fun i _ => n - (intOf i).toNat)
  case atStart => exact ⟨0, Nat.zero_le _, rfl, HJ0.out, HROW.out, hz1⟩
  case round =>
    clear HROW HJ0 hz1
    obtain ⟨k, hk, rfl, hj, hrow, hz⟩ := hrel
    by_cases hlt : k < n
    · have d1 : decide ((k : Int) < (n : Int)) = true := by simp; omega
      have hki0 : (0 : Int) ≤ (k : Int) := by omega
      have hki : (k : Int) < (n : Int) := by omega
      have hkl : k < L.length := by rw [HLN.out]; exact hlt
      obtain ⟨b, o, rfl, hbb, c0, c1, c2, c3, hrg⟩ := sees_word (row_sees hrow) k hkl
      have HTK : Hid (L.take k ++ [L[k]] = L.take (k + 1)) := Lib.hid (List.take_succ_eq_append_getElem hkl).symm
      have HPRE : Hid (L.take k ++ [L[k]] <+: L) := Lib.hid (by rw [HTK.out]; exact List.take_prefix _ _)
      obtain ⟨y, hy⟩ : ∃ y, y = L[k] := ⟨_, rfl⟩
      rw [← hy] at hrg HTK HPRE
      obtain ⟨W3, hW3, TH, F3, B3, z3⟩ := word_put wr 34 y
      subst hW3
      have ON := wcells4_one y
      have HJ3 := Lib.hid (hJ _ _ _ hj B3)
      have HR3 := Lib.hid (row_later hrow B3)
      have hz3 := Nat.le_trans hz B3.size
      have HSZ := Lib.hid (show (wcells4 y).length = 4 from rfl)
      have HLT : Hid ((L.take k).length < n) := Lib.hid (by rw [List.length_take]; omega)
      obtain ⟨wc, hwc⟩ : ∃ wc, wc = wcells4 y := ⟨_, rfl⟩
      have HY := Lib.hid (fun W hj => hY (L.take k) y W HPRE.out hj HLT.out)
      rw [← hwc] at hrg ON F3 B3 HJ3 HR3 HSZ HY hz3
      have R3 := Lib.hid F3
      have hs4 : wc.toArray.size = 4 := (List.size_toArray).trans HSZ.out
      have TH2 : (wr.alloc (.cells (wcells4 zw).toArray 34)).there wr.heap.size 0 wc.toArray.size := by rw [hs4]; exact TH
      have IN2 : (Tryd.prog.info? 34).map (·.size) = some wc.toArray.size := by rw [hs4]; exact info_lw
      clear hs4 TH
      clear hy hwc hj hrow hY c0 c1 c2 c3 B3 z3 F3
      gi_wp2_with (first
        | (refine wpListIn_load rfl 34 (.tmp 18) rfl b (o + k * 4) rfl wc _ hrg hu rfl (by rw [HSZ.out]; exact info_lw) ?_)
        | (refine wpListIn_store rfl 34 (.tmp 7) (.tmp 19) rfl wr.heap.size 0 wc.toArray rfl rfl TH2 IN2 ON ?_
           simp only [Act.put]
           generalize hw4 : World.setCells _ wr.heap.size 0 wc.toArray.toList = w4
           have F4 : Blk w4 wr.heap.size wc := hw4 ▸ R3.out
           have J4 : J (L.take k) w4 := hw4 ▸ HJ3.out
           have R4 : w4.ownsRow n₀ 34 4 (.slice (some ⟨b, o, none⟩) n c) n (lcs L) := hw4 ▸ HR3.out
           have z4 : n₀ ≤ w4.heap.size := hw4 ▸ hz3
           have RG4 := F4.range 0 wc (by simp)
           obtain ⟨fn, tmps, assign, body, hy, hR⟩ := HY.out w4 J4
           clear hw4 TH2 IN2 R3 HJ3 HR3 hz3 J4 F4)
        | (refine wpListIn_load rfl 34 (.tmp 7) rfl wr.heap.size 0 rfl wc _ RG4 hu rfl (by rw [HSZ.out]; exact info_lw) ?_)
        | fail)
      refine hR.mono ?_
      rintro e W5 (⟨rfl, hJ5, hk5⟩ | ⟨rfl, hJx5⟩)
      · have R5 := hk5.row R4
        have z5 := Nat.le_trans z4 hk5.size
        rw [HTK.out] at hJ5
        clear RG4 R4
        gi_wp2_with fail
        go_roundw
        case rel => exact ⟨k + 1, by omega, by go_num, hJ5, R5, z5⟩
        case measure => simp [intOf]; omega
      · gi_wp2_with fail
        refine bodyPost_ret (results_none rfl _ _ _) rfl ?_
        exact ⟨⟨_, rfl⟩, .inr ⟨_, trivial, hJx5⟩⟩
    · obtain rfl : k = n := by omega
      have d1 : decide ((k : Int) < (k : Int)) = false := by simp
      have HE : Hid (J L wr) := Lib.hid (by rw [List.take_of_length_le (by rw [HLN.out]; exact Nat.le_refl _)] at hj; exact hj)
      clear hj hrow
      gi_wp2_with fail
      go_end0
      exact ⟨⟨_, rfl⟩, .inl ⟨_, rfl, HE.out⟩⟩
theorem each_told (m0 : Nat) (hn : 1 ≤ m0) (Bn n₀ n : Nat) (t : ByteArray) (L : List Wd) (at_ er : Int) (w : World) (hLn : L.length = n) (hm : n ≤ 1000) (hn₀ : n₀ ≤ w.heap.size) (hBn : Bn < w.heap.size) (hc : w.cell? ⟨Bn, 0, none⟩ = some (.string t))
    (hAll : ∀ W, Below w.heap.size w W → Calls Tryd.prog 6 #[.string t] W fun e w' => ∃ A c, e = .returned (.tuple #[.slice A n c, .int .i64 at_, .int .i64 er]) ∧ w'.ownsRow W.heap.size 34 4 (.slice A n c) n (lcs L) ∧ Below W.heap.size W w') :
    SeqStopsQ Fence.wide m0 Tryd.prog 15 #[.pointer (some ⟨Bn, 0, none⟩)] (fun y : Wd => #[.agg (wcells4 y).toArray]) (KeepC n₀) (fun pre y => pre ++ [y] <+: L) (fun ys => ys = L) (fun _ => True) n w :=
  fun lp J Jx W hW hJ _ hY h => each1_in m0 hn lp Bn n₀ n t L at_ er J Jx hLn hm (fun s X Y hs hb => hJ s X Y none hs (below_grownN hb) (fun r e => by cases e)) hY W (Nat.le_trans hn₀ hW.size) (hAll W hW) ((hW.cell (p := ⟨Bn, 0, none⟩) hBn).trans hc) h
theorem leach_not_nil (Bn : Nat) (wx : World) : (binOp BinOp.eql 31 (.func (.func 15) #[] #[.pointer (some ⟨Bn, 0, none⟩)]) .nilFunc).run Tryd.prog wx = .ok (.bool false) wx := by kernel_rfl
end Go.Proofs.YtdpghoobdkhilaaDoor

/- A text that is read as a number is that number's text: the mathematics. -/
namespace Go.Proofs.YtdpghoobdkhilaaDoor
set_option linter.unusedVariables false
open Go Go.RowKit BitM MskM

theorem num_pos : ∀ (k : Nat) (l : List UInt8), l.length = k → l ≠ [] → l.all dig = true → l.headD 0 ≠ 48 → 1 ≤ num l
  | 0, l, h, hne, _, _ => absurd (List.length_eq_zero_iff.1 h) hne
  | k + 1, l, h, hne, ha, hh => by
    rw [← List.dropLast_concat_getLast hne] at ha ⊢
    rw [List.all_append, Bool.and_eq_true] at ha
    rw [num_snoc]
    by_cases hq : l.dropLast = []
    · have hl : l = [l.getLast hne] := by
        conv => lhs; rw [← List.dropLast_concat_getLast hne, hq]
        rfl
      have hd := ha.2
      simp only [List.all_cons, List.all_nil, Bool.and_true, dig, Bool.and_eq_true, decide_eq_true_eq] at hd
      have h48 : (l.getLast hne).toNat ≠ 48 := by
        intro e
        apply hh
        rw [hl]
        exact UInt8.toNat_inj.1 e
      omega
    · have ih := num_pos k l.dropLast (by rw [List.length_dropLast]; omega) hq ha.1 (by
        intro e
        apply hh
        conv => lhs; rw [← List.dropLast_concat_getLast hne]
        cases hd : l.dropLast with
        | nil => exact absurd hd hq
        | cons a b => rw [hd] at e; exact e)
      omega
theorem dec_num : ∀ (k : Nat) (l : List UInt8), l.length = k → l ≠ [] → l.all dig = true → ¬ (1 < l.length ∧ l.headD 0 = 48) → Lib.decDigits (num l) = l
  | 0, l, h, hne, _, _ => absurd (List.length_eq_zero_iff.1 h) hne
  | k + 1, l, h, hne, ha, hh => by
    have e0 := List.dropLast_concat_getLast hne
    obtain ⟨q, hq⟩ : ∃ q, q = l.dropLast := ⟨_, rfl⟩
    obtain ⟨c, hc⟩ : ∃ c, c = l.getLast hne := ⟨_, rfl⟩
    rw [← hq, ← hc] at e0
    have hlq : q.length = k := by rw [hq, List.length_dropLast]; omega
    clear hq hc
    subst e0
    rw [List.all_append, Bool.and_eq_true] at ha
    have hd := ha.2
    simp only [List.all_cons, List.all_nil, Bool.and_true, dig, Bool.and_eq_true, decide_eq_true_eq] at hd
    have h48 : UInt8.ofNat (48 + (c.toNat - 48)) = c := by
      rw [show 48 + (c.toNat - 48) = c.toNat by omega]; simp
    rw [num_snoc]
    by_cases hqe : q = []
    · subst hqe
      show Lib.decDigits (10 * 0 + (c.toNat - 48)) = [c]
      rw [Nat.mul_zero, Nat.zero_add, Lib.decDigits_one (by omega), h48]
    · have hlen : 1 < (q ++ [c]).length := by
        have := List.length_pos_iff.2 hqe
        rw [List.length_append]; simp; omega
      have hhead : (q ++ [c]).headD 0 = q.headD 0 := by
        cases q with
        | nil => exact absurd rfl hqe
        | cons a b => rfl
      have hh2 : q.headD 0 ≠ 48 := fun e => hh ⟨hlen, by rw [hhead]; exact e⟩
      have hp := num_pos q.length q rfl hqe ha.1 hh2
      have ih := dec_num k q hlq hqe ha.1 (fun e => hh2 e.2)
      have h1 : (10 * num q + (c.toNat - 48)) / 10 = num q := by omega
      have h2 : (10 * num q + (c.toNat - 48)) % 10 = c.toNat - 48 := by omega
      rw [Lib.decDigits, dif_neg (by omega), h1, h2, ih, h48]
/-- A text that is read as a number is its text. -/
theorem itoa_pint (p : List UInt8) (most : Int) (h : (pint p most).2 = true) : Lib.itoa (pint p most).1 = p := by
  unfold pint at h ⊢
  split at h
  · cases h
  · rename_i hc
    rw [if_neg hc]
    simp only [not_or] at hc
    obtain ⟨c1, c2, c3, c4, c5⟩ := hc
    show Lib.itoa (num p : Int) = p
    unfold Lib.itoa
    rw [if_neg (by omega), Int.toNat_natCast]
    exact dec_num p.length p rfl c1 (by simpa using c4) c3
end Go.Proofs.YtdpghoobdkhilaaDoor

/- Words that are put one behind the other are read again: the mathematics. -/
namespace Go.Proofs.YtdpghoobdkhilaaDoor
set_option linter.unusedVariables false
open Go Go.RowKit BitM MskM ValM

namespace LexM
/-- A word that may come of a text. -/
def Good (x : Wd) : Prop :=
  (x.1 = 1 ∧ x.2.1 = 0 ∧ x.2.2.2.data.toList ≠ [] ∧ x.2.2.2.data.toList.all letterB = true) ∨
  (x.1 = 2 ∧ 0 ≤ x.2.1 ∧ x.2.1 ≤ 1099511627776 ∧ x.2.2.2 = ⟨#[]⟩) ∨
  (x.1 = 3 ∧ x.2.1 = 0 ∧ vchk (2, 0, x.2.2.2) = true) ∨
  (x.1 = 4 ∧ x.2.1 = 0 ∧ ∃ c, signB c = true ∧ x.2.2.2.data.toList = [c])
/-- The text of a word. -/
def wtxt (x : Wd) : List UInt8 := if x.1 = 2 then Lib.itoa x.2.1 else if x.1 = 3 then quo x.2.2.2.data.toList else x.2.2.2.data.toList
theorem ext_list (t : ByteArray) (a b : Nat) : (t.extract a b).data.toList = (t.data.toList.drop a).take (b - a) := by
  rw [ByteArray.data_extract, Array.toList_extract]
theorem take_run (p : UInt8 → Bool) (l : List UInt8) (k : Nat) : (l.drop k).take (lrun p l k - k) = (l.drop k).takeWhile p := by
  unfold lrun
  rw [Nat.add_sub_cancel_left]
  have := List.takeWhile_prefix (l := l.drop k) p
  exact (List.prefix_iff_eq_take.1 this).symm
theorem all_takeWhile (p : UInt8 → Bool) (l : List UInt8) : (l.takeWhile p).all p = true := by
  induction l with
  | nil => rfl
  | cons x l ih =>
    rw [List.takeWhile_cons]
    by_cases h : p x = true
    · rw [if_pos h, List.all_cons, h, ih]; rfl
    · rw [if_neg h]; rfl
theorem vrd_yes {t : ByteArray} (h : (vrd t).2 = true) : vchk (vrd t).1 = true ∧ vshow (vrd t).1 = t.data.toList := by
  unfold vrd at h ⊢
  by_cases hx : ∃ a : V3, vchk a = true ∧ vshow a = t.data.toList
  · rw [dif_pos hx]
    exact Classical.choose_spec hx
  · rw [dif_neg hx] at h
    cases h
theorem vrd_of {t : ByteArray} {a : V3} (h1 : vchk a = true) (h2 : vshow a = t.data.toList) : vrd t = (a, true) := by
  unfold vrd
  have hx : ∃ a : V3, vchk a = true ∧ vshow a = t.data.toList := ⟨a, h1, h2⟩
  rw [dif_pos hx]
  obtain ⟨h3, h4⟩ := Classical.choose_spec hx
  rw [vshow_inj _ _ h3 h1 (h4.trans h2.symm)]
theorem pint_bound (l : List UInt8) (m : Int) (h : (pint l m).2 = true) : 0 ≤ (pint l m).1 ∧ (pint l m).1 ≤ 1099511627776 := by
  unfold pint at h ⊢
  split
  · rename_i hc
    rw [if_pos hc] at h
    cases h
  · rename_i hc
    simp only [not_or] at hc
    refine ⟨by dsimp only; omega, ?_⟩
    have := hc.2.2.2.2
    dsimp only
    omega
theorem good_of_wone {t : ByteArray} {k : Nat} {x : Wd × Nat} (h : wone t k = some x) : Good x.1 ∧ x.1.2.2.1 = (k : Int) := by
  have hsz : t.data.toList.length = t.size := by simp
  unfold wone at h
  split at h
  · cases h
  · rename_i c hc
    obtain ⟨hk, hc⟩ := List.getElem?_eq_some_iff.1 hc
    split at h
    · rename_i hl
      cases h
      rw [← hc] at hl
      refine ⟨.inl ⟨rfl, rfl, ?_, ?_⟩, rfl⟩
      · dsimp only
        rw [ext_list, take_run, List.drop_eq_getElem_cons hk, List.takeWhile_cons_of_pos hl]
        simp
      · dsimp only
        rw [ext_list, take_run]
        exact all_takeWhile _ _
    · split at h
      · simp only at h
        split at h
        · rename_i hp
          cases h
          have := pint_bound _ _ hp
          exact ⟨.inr (.inl ⟨rfl, this.1, this.2, rfl⟩), rfl⟩
        · cases h
      · split at h
        · rename_i h34
          split at h
          · cases h
          · rename_i hq
            simp only at h
            split at h
            · rename_i hv
              cases h
              obtain ⟨h1, h2⟩ := vrd_yes hv
              have hb := qend_bound _ _ hq
              generalize (vrd (t.extract k (qend t.data.toList k))).1 = v at h1 h2
              obtain ⟨kk, n, s⟩ := v
              have hh : ∃ r, (t.extract k (qend t.data.toList k)).data.toList = 34 :: r := by
                refine ⟨(t.data.toList.drop (k + 1)).take (qend t.data.toList k - k - 1), ?_⟩
                rw [ext_list, List.drop_eq_getElem_cons hk, show qend t.data.toList k - k = (qend t.data.toList k - k - 1) + 1 by omega, List.take_succ_cons, hc]
                rw [show c = 34 from UInt8.toNat_inj.1 h34]
                rfl
              obtain ⟨r, hr⟩ := hh
              rw [hr] at h2
              rcases vshow_of kk n s h1 with ⟨e, _⟩ | ⟨e, _, h3, h4, _⟩ | ⟨e, rfl, rfl⟩
              · rw [e] at h2; cases h2
              · rw [e] at h2
                exact absurd h2 (itoa_not h3 (by decide))
              · exact ⟨.inr (.inr (.inl ⟨rfl, rfl, h1⟩)), rfl⟩
            · cases h
        · split at h
          · rename_i hs
            cases h
            refine ⟨.inr (.inr (.inr ⟨rfl, rfl, c, hs, ?_⟩)), rfl⟩
            dsimp only
            rw [ext_list, List.drop_eq_getElem_cons hk, show k + 1 - k = 0 + 1 by omega, List.take_succ_cons, hc]
            rfl
          · cases h
theorem good_of_lgo (t : ByteArray) : ∀ (f k : Nat) (acc l : List Wd), (∀ x ∈ acc, Good x) → (lgo t f k acc).1 = some l → ∀ x ∈ l, Good x
  | 0, k, acc, l, ha, h => by
    unfold lgo at h
    cases h
    exact ha
  | f + 1, k, acc, l, ha, h => by
    unfold lgo at h
    split at h
    · cases h; exact ha
    · split at h
      · exact good_of_lgo t f _ _ _ ha h
      · split at h
        · cases h
        · rename_i x hx
          refine good_of_lgo t f _ _ _ ?_ h
          intro y hy
          rcases List.mem_append.1 hy with hy | hy
          · exact ha y hy
          · simp only [List.mem_singleton] at hy
            subst hy
            exact (good_of_wone hx).1
/-- What stands behind a word: nothing, or a blank. -/
def Tail (r : List UInt8) : Prop := r = [] ∨ ∃ q, r = 32 :: q
theorem run_word (p : UInt8 → Bool) (l a r : List UInt8) (k : Nat) (hl : l.drop k = a ++ r) (ha : a.all p = true) (hr : Tail r) (hp : p 32 = false) : lrun p l k = k + a.length := by
  unfold lrun
  rw [hl]
  congr 1
  have : (a ++ r).takeWhile p = a := by
    rw [List.takeWhile_append_of_pos (fun x hx => List.all_eq_true.1 ha x hx)]
    rcases hr with rfl | ⟨q, rfl⟩
    · simp
    · rw [List.takeWhile_cons_of_neg (by rw [hp]; simp), List.append_nil]
  rw [this]
/-- A text in quotes ends where it ends. -/
theorem qgo_qug (s r : List UInt8) (i : Nat) : qgo (qug s ++ 34 :: r) i = i + (qug s).length + 1 := by
  induction s generalizing i with
  | nil => simp only [qug, List.flatMap_nil, List.nil_append]; rw [qgo_34]; rfl
  | cons c s ih =>
    rw [qug_cons, List.append_assoc, List.length_append]
    rcases escg_kinds c with ⟨e, h1, h2⟩ | ⟨e, h⟩ | ⟨e, h⟩
    · rw [e, List.singleton_append, qgo_else c _ _ h2 h1, ih]
      simp; omega
    · rw [e]
      show qgo (92 :: c :: (qug s ++ 34 :: r)) i = _
      rw [qgo_92, List.drop_one, List.tail_cons, ih]
      simp; omega
    · rw [e]
      show qgo (92 :: 120 :: hexd (c.toNat / 16) :: hexd (c.toNat % 16) :: (qug s ++ 34 :: r)) i = _
      have hd : ∀ n, n < 16 → hexd n ≠ 34 ∧ hexd n ≠ 92 := by decide
      have h1 := hd (c.toNat / 16) (by have := c.toNat_lt; omega)
      have h2 := hd (c.toNat % 16) (by omega)
      rw [qgo_92, List.drop_one, List.tail_cons, qgo_else _ _ _ h1.1 h1.2, qgo_else _ _ _ h2.1 h2.2, ih]
      simp; omega
theorem take_app (a r : List UInt8) : (a ++ r).take a.length = a := by simp
/-- A word is read where its text stands. -/
theorem wone_text (t : ByteArray) (k : Nat) (x : Wd) (r : List UInt8) (hg : Good x) (ht : t.data.toList.drop k = wtxt x ++ r) (hr : Tail r) :
    wone t k = some ((x.1, x.2.1, (k : Int), x.2.2.2), k + (wtxt x).length) ∧ ∃ hk : k < t.size, (t[k]).toNat ≠ 32 := by
  have hsz : t.data.toList.length = t.size := by simp
  have hne : ∀ (c : UInt8) (q : List UInt8), t.data.toList.drop k = c :: q → ∃ hk : k < t.size, t.data.toList[k]? = some c ∧ t[k] = c := by
    intro c q h
    have h1 : t.data.toList[k]? = some c := by
      rw [← List.head?_drop, h]; rfl
    obtain ⟨h2, h3⟩ := List.getElem?_eq_some_iff.1 h1
    exact ⟨by omega, h1, h3⟩
  obtain ⟨kd, n, at_, s⟩ := x
  rcases hg with ⟨h1, h2, h3, h4⟩ | ⟨h1, h2, h3, h4⟩ | ⟨h1, h2, h3⟩ | ⟨h1, h2, c, h3, h4⟩ <;> dsimp only at * <;> subst h1
  · subst h2
    have hw : wtxt (1, 0, at_, s) = s.data.toList := rfl
    rw [hw] at ht ⊢
    have hrun := run_word letterB _ _ _ k ht h4 hr (by decide)
    obtain ⟨c, q, hcq⟩ : ∃ c q, s.data.toList = c :: q := by
      cases hs : s.data.toList with
      | nil => exact absurd hs h3
      | cons c q => exact ⟨c, q, rfl⟩
    have hcl : letterB c = true := by rw [hcq, List.all_cons, Bool.and_eq_true] at h4; exact h4.1
    obtain ⟨hk, hk1, hk2⟩ := hne c (q ++ r) (by rw [ht, hcq]; rfl)
    refine ⟨?_, hk, ?_⟩
    · unfold wone
      rw [hk1]
      simp only [hcl, if_true, hrun]
      have : t.extract k (k + s.data.toList.length) = s := by
        apply ValM.bytes_ext
        rw [ext_list, Nat.add_sub_cancel_left, ht, take_app]
      rw [this]
    · rw [hk2]
      simp only [letterB, Bool.and_eq_true, decide_eq_true_eq] at hcl
      omega
  · subst h4
    have hw : wtxt (2, n, at_, ⟨#[]⟩) = Lib.itoa n := rfl
    rw [hw] at ht ⊢
    obtain ⟨hd, hn0⟩ := itoa_digs n h2
    have hrun := run_word dig _ _ _ k ht hd hr (by decide)
    obtain ⟨c, q, hcq⟩ : ∃ c q, Lib.itoa n = c :: q := by
      cases hs : Lib.itoa n with
      | nil => exact absurd hs hn0
      | cons c q => exact ⟨c, q, rfl⟩
    have hcl : dig c = true := by rw [hcq, List.all_cons, Bool.and_eq_true] at hd; exact hd.1
    have hcn : letterB c = false := by
      simp only [dig, Bool.and_eq_true, decide_eq_true_eq] at hcl
      simp only [letterB, Bool.and_eq_false_iff, decide_eq_false_iff_not]
      omega
    obtain ⟨hk, hk1, hk2⟩ := hne c (q ++ r) (by rw [ht, hcq]; rfl)
    refine ⟨?_, hk, ?_⟩
    · unfold wone
      rw [hk1]
      have he : (t.extract k (k + (Lib.itoa n).length)).data.toList = Lib.itoa n := by
        rw [ext_list, Nat.add_sub_cancel_left, ht, take_app]
      simp only [hcn, hcl, if_true, hrun, he, pint_itoa n h2 h3]
      rfl
    · rw [hk2]
      simp only [dig, Bool.and_eq_true, decide_eq_true_eq] at hcl
      omega
  · subst h2
    have hw : wtxt (3, 0, at_, s) = quo s.data.toList := rfl
    rw [hw] at ht ⊢
    obtain ⟨hk, hk1, hk2⟩ := hne 34 (qug s.data.toList ++ [34] ++ r) (by rw [ht, quo_head]; simp)
    have hq : qend t.data.toList k = k + (quo s.data.toList).length := by
      unfold qend
      rw [← List.drop_drop, ht, quo_head]
      show qgo (List.drop 1 (34 :: (qug s.data.toList ++ [34]) ++ r)) (k + 1) = _
      rw [show List.drop 1 (34 :: (qug s.data.toList ++ [34]) ++ r) = qug s.data.toList ++ 34 :: r by simp, qgo_qug]
      simp; omega
    have hl : 0 < (quo s.data.toList).length := by rw [quo_head]; simp
    refine ⟨?_, hk, by rw [hk2]; decide⟩
    unfold wone
    rw [hk1]
    have he : vrd (t.extract k (k + (quo s.data.toList).length)) = ((2, 0, s), true) := by
      refine vrd_of h3 ?_
      rw [ext_list, Nat.add_sub_cancel_left, ht, take_app]
      unfold vshow
      rw [if_neg (by rw [h3]; simp)]
      rfl
    have hq0 : ¬ (k + (quo s.data.toList).length = 0) := by omega
    simp only [show letterB 34 = false by decide, show dig 34 = false by decide, show (34 : UInt8).toNat = 34 by decide, hq, hq0, he, if_true, if_false]
    rfl
  · subst h2
    have hw : wtxt (4, 0, at_, s) = s.data.toList := rfl
    rw [hw, h4] at ht ⊢
    obtain ⟨hk, hk1, hk2⟩ := hne c r ht
    have hs := h3
    simp only [signB, decide_eq_true_eq] at hs
    have n1 : letterB c = false := by simp only [letterB, Bool.and_eq_false_iff, decide_eq_false_iff_not]; omega
    have n2 : dig c = false := by simp only [dig, Bool.and_eq_false_iff, decide_eq_false_iff_not]; omega
    have n3 : ¬ c.toNat = 34 := by omega
    refine ⟨?_, hk, by rw [hk2]; omega⟩
    unfold wone
    rw [hk1]
    have he : t.extract k (k + 1) = s := by
      apply ValM.bytes_ext
      rw [ext_list, Nat.add_sub_cancel_left, ht, h4]
      rfl
    simp only [n1, n2, n3, h3, he, if_true, if_false]
    rfl

/-- The text that words make, one behind the other, and these words at their places. -/
def comp : List Wd → List UInt8 × List Wd := fun ws => ws.foldl (fun (a : List UInt8 × List Wd) x =>
  let t := if a.1 = [] then [] else a.1 ++ [32]
  (t ++ wtxt x, a.2 ++ [(x.1, x.2.1, (t.length : Int), x.2.2.2)])) ([], [])
theorem comp_snoc (ws : List Wd) (x : Wd) : comp (ws ++ [x]) = ((if (comp ws).1 = [] then [] else (comp ws).1 ++ [32]) ++ wtxt x, (comp ws).2 ++ [(x.1, x.2.1, (((if (comp ws).1 = [] then [] else (comp ws).1 ++ [32] : List UInt8).length : Nat) : Int), x.2.2.2)]) := by
  unfold comp
  rw [List.foldl_append]
  rfl
theorem snoc_ind {P : List Wd → Prop} (h0 : P []) (h1 : ∀ l x, P l → P (l ++ [x])) : ∀ l, P l := by
  intro l
  have : ∀ n (l : List Wd), l.length = n → P l := by
    intro n
    induction n with
    | zero => intro l hl; rw [List.length_eq_zero_iff.1 hl]; exact h0
    | succ n ih =>
      intro l hl
      have hne : l ≠ [] := by rintro rfl; simp at hl
      rw [← List.dropLast_concat_getLast hne]
      exact h1 _ _ (ih _ (by rw [List.length_dropLast]; omega))
  exact this _ l rfl
theorem comp_reads (ws : List Wd) (hg : ∀ x ∈ ws, Good x) : ∀ (t : ByteArray) (r : List UInt8), t.data.toList = (comp ws).1 ++ r → Tail r → lto t 0 [] = lto t (comp ws).1.length (comp ws).2 := by
  revert hg
  refine snoc_ind (P := fun ws => (∀ x ∈ ws, Good x) → ∀ (t : ByteArray) (r : List UInt8), t.data.toList = (comp ws).1 ++ r → Tail r → lto t 0 [] = lto t (comp ws).1.length (comp ws).2) ?_ ?_ ws
  · intro _ t r _ _; rfl
  · intro ws x ih hg t r ht hr
    have hsz : t.data.toList.length = t.size := by simp
    have hgx : Good x := hg x (by simp)
    have ih := ih (fun y hy => hg y (by simp [hy]))
    rw [comp_snoc] at ht ⊢
    dsimp only at ht ⊢
    by_cases he : (comp ws).1 = []
    · rw [if_pos he] at ht ⊢
      rw [List.nil_append] at ht ⊢
      -- nothing stands ahead: no words ahead either
      have h0 : ws = [] := by
        refine snoc_ind (P := fun ws => (∀ x ∈ ws, Good x) → (comp ws).1 = [] → ws = []) (fun _ _ => rfl) ?_ ws (fun y hy => hg y (by simp [hy])) he
        intro l y _ hgl hl
        rw [comp_snoc] at hl
        dsimp only at hl
        have := (List.append_eq_nil_iff.1 hl).2
        exfalso
        have hy : Good y := hgl y (by simp)
        obtain ⟨kd, n, a, s⟩ := y
        rcases hy with ⟨h1, h2, h3, h4⟩ | ⟨h1, h2, h3, h4⟩ | ⟨h1, h2, h3⟩ | ⟨h1, h2, c, h3, h4⟩ <;> dsimp only at * <;> subst h1
        · exact h3 this
        · exact (itoa_digs n h2).2 this
        · rw [show wtxt (3, n, a, s) = quo s.data.toList from rfl, quo_head] at this; cases this
        · rw [show wtxt (4, n, a, s) = s.data.toList from rfl, h4] at this; cases this
      subst h0
      obtain ⟨hw, hk, h32⟩ := wone_text t 0 x r hgx (by rw [List.drop_zero, ht]) hr
      rw [lto_word t 0 [] hk h32 _ hw]
      simp [comp]
    · rw [if_neg he] at ht ⊢
      have h1 := ih t (32 :: (wtxt x ++ r)) (by rw [ht]; simp) (.inr ⟨_, rfl⟩)
      have hd : t.data.toList.drop (comp ws).1.length = 32 :: (wtxt x ++ r) := by rw [ht]; simp
      have hd1 : t.data.toList.drop ((comp ws).1.length + 1) = wtxt x ++ r := by rw [← List.drop_drop, hd]; rfl
      have hk0 : t.data.toList[(comp ws).1.length]? = some 32 := by rw [← List.head?_drop, hd]; rfl
      obtain ⟨hlt, hv⟩ := List.getElem?_eq_some_iff.1 hk0
      obtain ⟨hw, hk, h32⟩ := wone_text t _ x r hgx hd1 hr
      rw [h1, lto_blank t _ _ (by omega) (by rw [show t[(comp ws).1.length]'(by omega) = 32 from hv]; rfl), lto_word t _ _ hk h32 _ hw]
      simp
      congr 1
      omega
/-- They are read so. -/
theorem comp_all (ws : List Wd) (hg : ∀ x ∈ ws, Good x) (t : ByteArray) (ht : t.data.toList = (comp ws).1) : lto t 0 [] = (some (comp ws).2, 0) := by
  have hsz : t.data.toList.length = t.size := by simp
  rw [comp_reads ws hg t [] (by rw [ht, List.append_nil]) (.inl rfl), lto_end t _ _ (by rw [← hsz, ht]; exact Nat.le_refl _)]
end LexM
end Go.Proofs.YtdpghoobdkhilaaDoor

/- The chapter's examples of words. -/
namespace Go.Proofs.YtdpghoobdkhilaaDoor
set_option linter.unusedVariables false
set_option linter.unusedSimpArgs false
open Go Go.RowKit BitM MskM ValM LexM

namespace LexM
def ex1 : ByteArray := ⟨#[102, 105, 101, 108, 100, 32, 51, 32, 61, 32, 34, 97, 34]⟩
def ex2 : ByteArray := ⟨#[97, 32, 48, 55]⟩
def exw : List Wd := [(1, 0, 0, ⟨#[102, 105, 101, 108, 100]⟩), (2, 3, 6, ⟨#[]⟩), (4, 0, 8, ⟨#[61]⟩), (3, 0, 10, ⟨#[97]⟩)]
theorem ex1_out : outL ex1 = exw ∧ outA ex1 = 0 ∧ outE ex1 = 0 := by
  have hg : ∀ x ∈ exw, Good x := by
    intro x hx
    simp only [exw, List.mem_cons, List.not_mem_nil, or_false] at hx
    rcases hx with rfl | rfl | rfl | rfl
    · exact .inl ⟨rfl, rfl, by decide, by decide⟩
    · exact .inr (.inl ⟨rfl, by decide, by decide, rfl⟩)
    · exact .inr (.inr (.inr ⟨rfl, rfl, 61, by decide, rfl⟩))
    · exact .inr (.inr (.inl ⟨rfl, rfl, by decide +kernel⟩))
  have h3 : Lib.itoa 3 = [51] := by decide +kernel
  have hw : exw.map wtxt = [[102, 105, 101, 108, 100], [51], [61], [34, 97, 34]] := by
    simp only [exw, List.map_cons, List.map_nil]
    rw [show wtxt (2, 3, 6, ⟨#[]⟩) = Lib.itoa 3 from rfl, h3]
    rfl
  have hc : comp exw = (ex1.data.toList, exw) := by
    have e1 : wtxt (1, 0, 0, ⟨#[102, 105, 101, 108, 100]⟩) = [102, 105, 101, 108, 100] := rfl
    have e2 : wtxt (2, 3, 6, ⟨#[]⟩) = [51] := h3
    have e3 : wtxt (4, 0, 8, ⟨#[61]⟩) = [61] := rfl
    have e4 : wtxt (3, 0, 10, ⟨#[97]⟩) = [34, 97, 34] := rfl
    simp only [comp, exw, List.foldl_cons, List.foldl_nil, e1, e2, e3, e4]
    rfl
  have h := comp_all exw hg ex1 (by rw [hc])
  rw [hc] at h
  have hs : ex1.size ≤ 1000 := by decide
  refine ⟨?_, ?_, ?_⟩
  · unfold outL; rw [if_pos hs, h]
  · unfold outA; rw [if_pos hs, h]
  · unfold outE; rw [if_pos hs, h]
theorem ex2_out : outA ex2 = 2 ∧ outE ex2 = 3 := by
  have hs : ex2.size ≤ 1000 := by decide
  obtain ⟨h1, hk, h32⟩ := wone_text ex2 0 (1, 0, 0, ⟨#[97]⟩) [32, 48, 55] (.inl ⟨rfl, rfl, by decide, by decide⟩) rfl (.inr ⟨_, rfl⟩)
  have a1 := lto_word ex2 0 [] hk h32 _ h1
  have a2 := lto_blank ex2 1 ([] ++ [(1, 0, ((0 : Nat) : Int), ⟨#[97]⟩)]) (by decide) (by decide)
  have h3 : wone ex2 2 = none := by
    unfold wone
    have e0 : ex2.data.toList[2]? = some 48 := rfl
    rw [e0]
    have e1 : lrun dig ex2.data.toList 2 = 4 := by decide
    have e2 : (ex2.extract 2 4).data.toList = [48, 55] := by decide
    have e3 : pint [48, 55] 1099511627776 = (0, false) := by decide
    simp only [show letterB 48 = false by decide, show dig 48 = true by decide, e1, e2, e3]
    rfl
  have a3 := lto_bad ex2 2 ([] ++ [(1, 0, ((0 : Nat) : Int), ⟨#[97]⟩)]) (by decide) (by decide) h3
  have h : lto ex2 0 [] = (none, 2) := a1.trans (a2.trans a3)
  refine ⟨?_, ?_⟩
  · unfold outA; rw [if_pos hs, h]
  · unfold outE; rw [if_pos hs, h]
end LexM
set_option maxRecDepth 100000 in
set_option maxHeartbeats 1600000 in
theorem law_any (w : World) (ht : Tab w) : Calls Tryd.prog 5 #[] w fun e w' => e = .returned (.bool true) ∧ Below w.heap.size w w' := by
  have H1 := Lib.hid (all_out ex1 w ht (by decide))
  have H2 := Lib.hid (fun (wx : World) (hb : Below w.heap.size w wx) => all_out ex2 wx (ht.later hb) (by decide))
  have HO1 : Hid (∀ e w', AllOut 34 ex1 w e w' → ∃ b o c, e = .returned (.tuple #[.slice (some ⟨b, o, none⟩) 4 c, .int .i64 0, .int .i64 0]) ∧ b < w'.heap.size ∧ w'.cell? ⟨b, o + 14, none⟩ = some (.int .i64 10) ∧ w'.cell? ⟨b, o + 15, none⟩ = some (.string ⟨#[97]⟩) ∧ Below w.heap.size w w') := Lib.hid (by
    intro e w' h
    obtain ⟨A, c, he, hr, hb⟩ := h
    rw [ex1_out.1, ex1_out.2.1, ex1_out.2.2] at he
    rw [ex1_out.1] at hr
    obtain ⟨b, o, rfl, h1, _, _, h2, h3, _⟩ := sees_word (row_sees hr) 3 (by decide)
    exact ⟨b, o, c, he, h1, h2, h3, hb⟩)
  have HO2 : Hid (∀ wx e w', AllOut 34 ex2 wx e w' → ∃ A n c, e = .returned (.tuple #[.slice A n c, .int .i64 2, .int .i64 3]) ∧ Below wx.heap.size wx w') := Lib.hid (by
    intro wx e w' h
    obtain ⟨A, c, he, hr, hb⟩ := h
    rw [ex2_out.1, ex2_out.2] at he
    exact ⟨A, _, c, he, hb⟩)
  clear ht
  go_enter Tryd.func5, Tryd.ntmps5
  go_wp2_with fail
  refine H1.out.mono ?_
  rintro e w1 h
  obtain ⟨b, o, c, rfl, hlt, c2, c3, hb⟩ := HO1.out _ _ h
  clear h H1 HO1
  go_wp2_with fail
  refine (H2.out _ hb).mono ?_
  rintro e w2 h
  obtain ⟨A2, n2, cc2, rfl, hb2⟩ := HO2.out _ _ _ h
  replace c2 := (hb2.cell (p := ⟨b, o + 14, none⟩) hlt).trans c2
  replace c3 := (hb2.cell (p := ⟨b, o + 15, none⟩) hlt).trans c3
  replace hb := hb.trans (hb2.mono hb.size)
  clear h H2 HO2 hb2
  go_wp2_with fail
  go_ret
  exact ⟨rfl, hb⟩
end Go.Proofs.YtdpghoobdkhilaaDoor

/- A word's text, by the document; sizes; what LexBack's loop wants. -/
namespace Go.Proofs.YtdpghoobdkhilaaDoor
set_option linter.unusedVariables false
set_option linter.unusedSimpArgs false
open Go Go.RowKit BitM MskM ValM LexM

theorem i64_and1023 (n : Int) : bits .and .i64 n 1023 = (((n % 1024).toNat : Nat) : Int) := by
  have h : (BitVec.ofInt 64 1023).toNat = 2 ^ 10 - 1 := by decide
  have key : (BitVec.ofInt 64 n &&& BitVec.ofInt 64 1023).toNat = (n % ((2 ^ 64 : Nat) : Int)).toNat % 2 ^ 10 := by
    rw [BitVec.toNat_and, BitVec.toNat_ofInt, h, Nat.and_two_pow_sub_one_eq_mod]
  show IntKind.i64.wrap ((BitVec.ofInt 64 n &&& BitVec.ofInt 64 1023).toNat : Nat) = _
  rw [key, IntKind.wrap_i64]
  omega
theorem row_other {w : World} {base n size : Nat} {e : TypeId} {v : Value} {xs : List Value} (h : w.ownsRow base e size v n xs) {b : Nat} (hb : v.ownBlock ≠ some b) (o : Nat) (u : Value) : (w.setCell ⟨b, o, none⟩ u).ownsRow base e size v n xs := by
  obtain ⟨h1, h2⟩ := h
  refine ⟨h1, h2.imp id fun ⟨k, cap, cur, e1, e2, e3, e4⟩ => ⟨k, cap, cur, e1, e2, (Below.heap_setCell w ⟨b, o, none⟩ u k (fun e => ?_)).trans e3, e4⟩⟩
  have e : k = b := e
  subst e
  rw [e1] at hb
  exact hb rfl
namespace LexM
theorem small_of_wone {t : ByteArray} {k : Nat} {x : Wd × Nat} (hs : t.size ≤ 1000) (h : wone t k = some x) : x.1.2.2.2.size ≤ 1000 := by
  have hg := (good_of_wone h).1
  have hex : ∀ a b, (t.extract a b).size ≤ 1000 := fun a b => by rw [ByteArray.size_extract]; omega
  rcases hg with ⟨h1, _⟩ | ⟨h1, _, _, h2⟩ | ⟨h1, _, h2⟩ | ⟨h1, _, c, _, h2⟩
  · unfold wone at h
    split at h
    · cases h
    · split at h
      · cases h; exact hex _ _
      · split at h
        · simp only at h
          split at h
          · cases h; cases h1
          · cases h
        · split at h
          · split at h
            · cases h
            · simp only at h
              split at h
              · cases h; cases h1
              · cases h
          · split at h
            · cases h; cases h1
            · cases h
  · rw [h2]; decide
  · have := (vchk_txt 0 _ h2).2
    omega
  · have : x.1.2.2.2.size = 1 := by
      rw [show x.1.2.2.2.size = x.1.2.2.2.data.toList.length by simp, h2]
      rfl
    omega
theorem small_of_lgo (t : ByteArray) (hs : t.size ≤ 1000) : ∀ (f k : Nat) (acc l : List Wd), (∀ x ∈ acc, x.2.2.2.size ≤ 1000) → (lgo t f k acc).1 = some l → ∀ x ∈ l, x.2.2.2.size ≤ 1000
  | 0, k, acc, l, ha, h => by
    unfold lgo at h
    cases h
    exact ha
  | f + 1, k, acc, l, ha, h => by
    unfold lgo at h
    split at h
    · cases h; exact ha
    · split at h
      · exact small_of_lgo t hs f _ _ _ ha h
      · split at h
        · cases h
        · rename_i x hx
          refine small_of_lgo t hs f _ _ _ ?_ h
          intro y hy
          rcases List.mem_append.1 hy with hy | hy
          · exact ha y hy
          · simp only [List.mem_singleton] at hy
            subst hy
            exact small_of_wone hs hx
theorem out_good (t : ByteArray) : ∀ x ∈ outL t, Good x ∧ x.2.2.2.size ≤ 1000 := by
  intro x hx
  unfold outL at hx
  by_cases hs : t.size ≤ 1000
  · rw [if_pos hs] at hx
    cases h : (lto t 0 []).1 with
    | none => rw [h] at hx; cases hx
    | some l =>
      rw [h] at hx
      exact ⟨good_of_lgo t _ 0 [] l (by simp) h x hx, small_of_lgo t hs _ 0 [] l (by simp) h x hx⟩
  · rw [if_neg hs] at hx
    cases hx
theorem wtxt_len {x : Wd} (hg : Good x) (hs : x.2.2.2.size ≤ 1000) : (wtxt x).length ≤ 5000 := by
  obtain ⟨kd, n, a, s⟩ := x
  have hsl : s.data.toList.length = s.size := by simp
  rcases hg with ⟨h1, h2, h3, h4⟩ | ⟨h1, h2, h3, h4⟩ | ⟨h1, h2, h3⟩ | ⟨h1, h2, c, h3, h4⟩ <;> dsimp only at * <;> subst h1
  · rw [show wtxt (1, n, a, s) = s.data.toList from rfl]; omega
  · rw [show wtxt (2, n, a, s) = Lib.itoa n from rfl]
    obtain ⟨k, rfl⟩ := Int.eq_ofNat_of_zero_le h2
    have hi : Lib.itoa (k : Int) = Lib.decDigits k := by unfold Lib.itoa; rw [if_neg (by omega), Int.toNat_natCast]
    rw [hi]
    have := dec_len 12 k (by omega)
    omega
  · rw [show wtxt (3, n, a, s) = quo s.data.toList from rfl, quo_head]
    have := qug_len s.data.toList
    simp
    omega
  · rw [show wtxt (4, n, a, s) = s.data.toList from rfl]; omega
theorem comp_len2 (ws : List Wd) : (comp ws).2.length = ws.length := by
  refine snoc_ind (P := fun ws => (comp ws).2.length = ws.length) rfl (fun l x ih => ?_) ws
  rw [comp_snoc, List.length_append, List.length_append, ih]
  rfl
/-- The words that an order picks. -/
noncomputable def pick (L : List Wd) (n : Nat) (v : Int) : Wd := L.getD ((v % 1024).toNat % n) (0, 0, 0, ⟨#[]⟩)
theorem str_of {t : ByteArray} {l : List UInt8} (h : t.data.toList = l) : t = str l := by
  subst h
  apply ByteArray.ext
  apply Array.ext'
  rfl
end LexM
set_option maxRecDepth 100000 in
set_option maxHeartbeats 1600000 in
theorem rtext_any (x : Wd) (w : World) (hg : LexM.Good x) (hs : x.2.2.2.size ≤ 1000) : Calls Tryd.prog 10 #[.agg (wcells4 x).toArray] w fun e w' => e = .returned (.string (str (wtxt x))) ∧ Below w.heap.size w w' := by
  obtain ⟨kd, n, a, s⟩ := x
  have B0 := Blk.new w (wcells4 (kd, n, a, s)) 38
  have hb := (Below.refl w.heap.size w).alloc (Nat.le_refl _) (.cells (wcells4 (kd, n, a, s)).toArray 38)
  have c0 := B0.cell (j := 0) rfl
  have c1 := B0.cell (j := 1) rfl
  have c3 := B0.cell (j := 3) rfl
  have hsl := str_of (t := s) rfl
  clear B0
  rcases hg with ⟨h1, h2, h3, h4⟩ | ⟨h1, h2, h3, h4⟩ | ⟨h1, h2, h3⟩ | ⟨h1, h2, c, h3, h4⟩ <;> dsimp only at * <;> subst h1
  · subst h2
    have HS : Hid (s = str (wtxt (1, 0, a, s))) := Lib.hid hsl
    clear hsl h3 h4
    go_enter Tryd.func10, Tryd.ntmps10
    go_wp2_with fail
    go_ret
    exact ⟨by rw [← HS.out]; rfl, hb⟩
  · subst h4
    have HT := Lib.hid (fun wx : World => rtens_any n wx (by omega) (by omega))
    clear hsl
    go_enter Tryd.func10, Tryd.ntmps10
    go_wp2_with fail
    refine (HT.out _).mono ?_
    rintro e w1 ⟨rfl, hb1⟩
    have hb2 := hb.trans (hb1.mono hb.size)
    clear hb hb1 c0 c1 c3
    go_wp2_with fail
    go_ret
    exact ⟨rfl, hb2⟩
  · subst h2
    have HT := Lib.hid (fun wx : World => rquote_any s wx hs)
    clear hsl
    go_enter Tryd.func10, Tryd.ntmps10
    go_wp2_with fail
    refine (HT.out _).mono ?_
    rintro e w1 ⟨rfl, rfl⟩
    go_wp2_with fail
    go_ret
    exact ⟨rfl, hb⟩
  · subst h2
    have HS : Hid (s = str (wtxt (4, 0, a, s))) := Lib.hid hsl
    clear hsl h3 h4
    go_enter Tryd.func10, Tryd.ntmps10
    go_wp2_with fail
    go_ret
    exact ⟨by rw [← HS.out]; rfl, hb⟩
end Go.Proofs.YtdpghoobdkhilaaDoor
