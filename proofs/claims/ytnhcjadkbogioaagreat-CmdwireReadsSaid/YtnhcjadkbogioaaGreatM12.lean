/- A range over an iterator whose loop variable is boxed, where the iterator's contract tells what comes in a round. -/
import Derived.RangeFuncNested
import Derived.RangeFuncBound
import Derived.RangeFuncCalls
import Derived.RangeFuncLeaves
import Derived.RangeFuncBox
import Derived.Shelf.Abstract
import Derived.Shelf.RegionOpen
import Derived.OwnWalkIn
import Derived.TacticsInMore
import Derived.LoopNIn
import Derived.LoopIn
import Derived.Test.YtnhcjadkbogioaaGreatM1
import Derived.Test.YtnhcjadkbogioaaGreatM5
import Derived.OrdersIn
import Derived.TacticsIn
import Derived.Test.YtnhcjadkbogioaaGreatM3
import Derived.Test.YtnhcjadkbogioaaGreatM11
import Derived.Test.YtnhcjadkbogioaaGreatM4
set_option maxRecDepth 100000
set_option linter.unusedVariables false
set_option linter.unusedSimpArgs false
set_option maxHeartbeats 8000000
namespace Go.Proofs.YtnhcjadkbogioaaGreat
open Go Go.RowKit Go.Shelf
def SeqStopsQ {α : Type} (F : Fence) (n : Nat) (P : Program) (g : Nat) (lb : Array Value) (encs : α → Array Value) (Kp : World → World → Prop) (Pr : List α → α → Prop) (S Sp : List α → Prop) (N : Nat) (w : World) : Prop :=
  ∀ (l : Nat) (J Jx : List α → World → Prop) (W : World), Below w.heap.size w W → AbidesFrom W.heap.size J → AbidesFrom W.heap.size Jx →
    (∀ pre x W1, Pr pre x → J pre W1 → pre.length < N → YieldAt F (n - 1) P l (encs x) W1 fun e W' =>
      (e = .returned (.bool true) ∧ J (pre ++ [x]) W' ∧ Kp W1 W') ∨ (e = .returned (.bool false) ∧ Jx (pre ++ [x]) W')) →
    J [] W →
    CallsIn F n P g (#[.func (.yield l) #[] #[]] ++ lb) W fun e W' => (∃ v, e = .returned v) ∧ ((∃ xs, S xs ∧ J xs W') ∨ (∃ pre, Sp pre ∧ Jx pre W'))
section
variable {F : Fence} {n : Nat} {P : Program}
theorem wpIn_rangeFunc_box {α : Type} {g : Operand} {ps : Array Tmp} {assign body : Code} {Q : Exit → Act → World → Prop} {a : Act} {w : World}
    (hro : F.round = none) (h1 : 1 ≤ n) {gf : Nat} {lb : Array Value} (hg : a.eval g = .func (.func gf) #[] lb) (hFg : F.fn gf) (eg : ∀ args w, (callFunc gf args).run P w = .ok (.enter gf args) w)
    {encs : α → Array Value} {Kp : World → World → Prop} {Pr : List α → α → Prop} {S Sp : List α → Prop} {N : Nat} {w0 : World} (hseq : SeqStopsQ F (n - 1) P gf lb encs Kp Pr S Sp N w0)
    (hKt : ∀ {A B C : World}, Kp A B → Kp B C → Kp A C) (hKb : ∀ (W : World) (l : Nat) (o o' : Obj), w.heap.size ≤ l → W.heap[l]? = some o → o.isCells = false → o.isWalk = false → Kp W (W.putObj l o')) (hb0 : Below w0.heap.size w0 w) (hps : ∀ x, (encs x).size = ps.size)
    (I : List α → World → Prop) (Ix : Code → List α → World → Prop) (hI : OwnFrom w.heap.size I) (hIx : ∀ c, OwnFrom w.heap.size (Ix c)) (h0 : I [] w) (Ax : α → Act → World → Prop) (hAx : ∀ x a', OwnFrom w.heap.size (fun (_ : Unit) W => Ax x a' W))
    (hassign : ∀ (l : Nat) (pre : List α) (x : α) (W : World) (K : Act → World → Prop), Pr pre x → I pre W → (∀ a' W', KeepsFrom w.heap.size W W' → Kp W W' → I pre W' → Ax x a' W' → K a' W') →
      assign.wpIn (F.inRound l) (n - 1 - 1) P (Exit.then K (fun _ _ _ => False)) { tmps := (ps.zip (encs x)).foldl (fun t (p, v) => t.setIfInBounds p v) a.tmps, defers := [] } W)
    (hbody : ∀ (l : Nat) (pre : List α) (x : α) (a' : Act) (W : World), w.heap.size ≤ l → (∃ r, W.heap[l]? = some (.loop r)) → Pr pre x → I pre W → Ax x a' W → pre.length < N → body.wpIn (F.inRound l) (n - 1 - 1) P (ownPostG w.heap.size Kp I Ix (pre ++ [x]) W) a' W)
    (hdone : ∀ (D : Nat) (xs : List α) (W : World), w.heap.size ≤ D → S xs → I xs W → W.heap[D]? = some (.deferred (some [])) → Q .normal { a with defers := { target := .collected D, args := #[] } :: a.defers } W)
    (hstop : ∀ (D : Nat) (c : Code) (pre : List α) (W : World), w.heap.size ≤ D → Sp pre → Ix c pre W → W.heap[D]? = some (.deferred (some [])) → c.wpIn F n P Q { a with defers := { target := .collected D, args := #[] } :: a.defers } W) :
    (Code.rangeFunc g ps assign body).wpIn F n P Q a w := by
  refine wpIn_rangeFunc ?_
  intro fn hfn
  rw [hro]
  obtain ⟨rec, hrec⟩ : ∃ rec : LoopState → Option Code → Loop, rec = fun st pe => { state := st, pending := pe, fn, tmps := a.tmps, params := ps, assign, body, defers := w.heap.size } := ⟨_, rfl⟩
  obtain ⟨W1, hW1⟩ : ∃ W1, (w.alloc (.deferred (some []))).alloc (.loop (rec .ready none)) = W1 := ⟨_, rfl⟩
  have hL1 : W1.heap[w.heap.size + 1]? = some (.loop (rec .ready none)) := by
    rw [← hW1]; have := World.alloc_heap_new (w.alloc (.deferred (some []))) (.loop (rec .ready none)); rwa [World.size_alloc] at this
  have hK1 : W1.heap[w.heap.size]? = some (.deferred (some [])) := by
    rw [← hW1]; exact (Below.heap_alloc _ _ _ (by simp)).trans (World.alloc_heap_new w _)
  have hI1 : I [] W1 := by rw [← hW1]; exact hI.alloc _ (hI.alloc _ h0)
  have hb1 : Below w0.heap.size w0 W1 := by
    rw [← hW1]; exact hb0.trans ((((Below.refl _ w).alloc (Nat.le_refl _) _).alloc (by simp) _).mono hb0.size)
  refine ⟨w.heap.size + 1, [{ target := .collected w.heap.size, args := #[] }], W1, { target := .fn (.func gf) lb, args := #[.func (.yield (w.heap.size + 1)) #[] #[]] }, W1, gf,
    #[.func (.yield (w.heap.size + 1)) #[] #[]] ++ lb, W1, ?_, ?_, ?_, ?_, fun _ => h1, ?_⟩
  · rw [← hW1, hrec]; exact run_enterLoop_outer _ _ _ _ _
  · simp only [resolve, hg]
    simp [go_sem]
  · intro f' hf'; simp [Target.leads] at hf'; subst hf'; exact hFg
  · simp [invoke, go_sem, eg]
  ·
    have hnw : ∀ {A B : World} {row : Option Nat}, (∀ r, row = some r → W1.heap.size ≤ r ∧ ∃ o : Obj, A.heap[r]? = some o ∧ o.isWalk = true) → (∀ r, row = some r → w.heap.size ≤ r ∧ ∃ o : Obj, A.heap[r]? = some o ∧ o.isCells = false) :=
      fun hr r e => by obtain ⟨hB, o, ho, hw⟩ := hr r e; exact ⟨by rw [← hW1] at hB; simp at hB; omega, o, ho, Obj.not_cells_of_walk hw⟩
    refine (hseq (w.heap.size + 1)
      (fun pre W => I pre W ∧ W.heap[w.heap.size + 1]? = some (.loop (rec .ready none)) ∧ W.heap[w.heap.size]? = some (.deferred (some [])))
      (fun pre W => ∃ c, Ix c pre W ∧ W.heap[w.heap.size + 1]? = some (.loop (rec .done (some c))) ∧ W.heap[w.heap.size]? = some (.deferred (some [])))
      W1 hb1
      (fun s A B row hs hg' hr => ⟨hI s A B row hs.1 hg' (hnw (B := B) hr), (grownBy_keeps hg' (fun r e => (hr r e).2) hs.2.1 rfl).trans hs.2.1, (grownBy_keeps hg' (fun r e => (hr r e).2) hs.2.2 rfl).trans hs.2.2⟩)
      (fun s A B row hs hg' hr => by
        obtain ⟨c, hc, hl, hk⟩ := hs
        exact ⟨c, hIx c s A B row hc hg' (hnw (B := B) hr), (grownBy_keeps hg' (fun r e => (hr r e).2) hl rfl).trans hl, (grownBy_keeps hg' (fun r e => (hr r e).2) hk rfl).trans hk⟩)
      ?_ ⟨hI1, hL1, hK1⟩).mono ?_
    ·
      rintro pre x W hpr ⟨hi, hl, hk⟩ hlen
      have hlt : w.heap.size + 1 < W.heap.size := (Array.getElem?_eq_some_iff.1 hl).1
      have hy := run_yield (P := P) (args := encs x) hl (by rw [hrec]; exact hps x)
      rw [hrec] at hy
      refine ⟨fn, _, assign, body, hy, roundIn_of_wpIn hfn (hassign _ pre x W _ hpr hi ?_)⟩
      clear hy
      intro a' Wa hkfa hkpa hia hax
      replace hl := hkfa.same _ _ (by omega) hl rfl
      replace hk := hkfa.same _ _ (Nat.le_refl _) hk rfl
      replace hlt : w.heap.size + 1 < Wa.heap.size := (Array.getElem?_eq_some_iff.1 hl).1
      replace hi := hia
      clear hia
      revert hkpa hkfa
      generalize W = Wb
      intro hkfa hkpa
      obtain ⟨W, rfl⟩ : ∃ W, W = Wa := ⟨_, rfl⟩
      refine ⟨_, run_beginRound hl (by rw [hrec]), ?_⟩
      have hl2 : (W.putObj (w.heap.size + 1) (.loop { rec .ready none with state := .busy })).heap[w.heap.size + 1]? = some (.loop { rec .ready none with state := .busy }) := World.putObj_heap_same hlt
      have hk2 : (W.putObj (w.heap.size + 1) (.loop { rec .ready none with state := .busy })).heap[w.heap.size]? = some (.deferred (some [])) := (World.putObj_heap_other (by omega)).trans hk
      have hw2 : Kp W (W.putObj (w.heap.size + 1) (.loop { rec .ready none with state := .busy })) := hKb _ _ _ _ (by omega) hl rfl rfl
      refine wpIn_mono (hbody _ pre x a' _ (by omega) ⟨_, hl2⟩ hpr (hI.putObj _ hi (by omega) hl rfl) ((hAx x a').putObj (s := ()) _ hax (by omega) hl rfl) hlen) ?_
      have fin : ∀ (jump : Option Code) (W3 : World), KeepsFrom w.heap.size (W.putObj (w.heap.size + 1) (.loop { rec .ready none with state := .busy })) W3 →
          (Instr.endRound (w.heap.size + 1) jump).run P W3 = .ok (.bool jump.isNone) (W3.putObj (w.heap.size + 1) (.loop (rec (if jump.isNone then .ready else .done) jump))) ∧
          W3.heap[w.heap.size + 1]? = some (.loop { rec .ready none with state := .busy }) ∧
          (W3.putObj (w.heap.size + 1) (.loop (rec (if jump.isNone then .ready else .done) jump))).heap[w.heap.size + 1]? = some (.loop (rec (if jump.isNone then .ready else .done) jump)) ∧
          (W3.putObj (w.heap.size + 1) (.loop (rec (if jump.isNone then .ready else .done) jump))).heap[w.heap.size]? = some (.deferred (some [])) := fun jump W3 hk3 => by
        have hl3 := hk3.same _ _ (by omega) hl2 rfl
        have := run_endRound (P := P) jump hl3
        rw [hrec] at this ⊢
        exact ⟨this, by rw [hrec] at hl3; exact hl3, World.putObj_heap_same (Array.getElem?_eq_some_iff.1 hl3).1, (World.putObj_heap_other (by omega)).trans (hk3.same _ _ (Nat.le_refl _) hk2 rfl)⟩
      rintro e a3 W3 hp
      cases e with
      | normal =>
        obtain ⟨hk3, hkp3, hi3⟩ := hp
        obtain ⟨hr, hl3, hl4, hk4⟩ := fin none W3 hk3
        exact ⟨_, _, hr, .inl ⟨rfl, ⟨hI.putObj _ hi3 (by omega) hl3 rfl, hl4, hk4⟩, hKt hkpa (hKt (hKt hw2 hkp3) (hKb _ _ _ _ (by omega) hl3 rfl rfl))⟩⟩
      | ret =>
        obtain ⟨hk3, hi3⟩ := hp
        obtain ⟨hr, hl3, hl4, hk4⟩ := fin (some .ret) W3 hk3
        exact ⟨_, _, hr, .inr ⟨rfl, .ret, (hIx _).putObj _ hi3 (by omega) hl3 rfl, hl4, hk4⟩⟩
      | exit id =>
        obtain ⟨hk3, hi3⟩ := hp
        obtain ⟨hr, hl3, hl4, hk4⟩ := fin (some (.exit id)) W3 hk3
        exact ⟨_, _, hr, .inr ⟨rfl, .exit id, (hIx _).putObj _ hi3 (by omega) hl3 rfl, hl4, hk4⟩⟩
      | goto t =>
        obtain ⟨hk3, hi3⟩ := hp
        obtain ⟨hr, hl3, hl4, hk4⟩ := fin (some (.goto t)) W3 hk3
        exact ⟨_, _, hr, .inr ⟨rfl, .goto t, (hIx _).putObj _ hi3 (by omega) hl3 rfl, hl4, hk4⟩⟩
      | panic ch => exact hp.elim
      | outgrown => exact hp.elim
    ·
      rintro e W2 ⟨⟨v, rfl⟩, (⟨xs, hS, hi, hl, hk⟩ | ⟨pre, hSp, c, hi, hl, hk⟩)⟩
      · exact ⟨none, _, by have := run_endLoop (P := P) hl (by rw [hrec]; simp); rw [hrec] at this; exact this, hdone _ xs _ (Nat.le_refl _) hS (hI.putObj _ hi (by omega) hl rfl) ((World.putObj_heap_other (by omega)).trans hk)⟩
      · exact ⟨some c, _, by have := run_endLoop (P := P) hl (by rw [hrec]; simp); rw [hrec] at this; exact this, hstop _ c pre _ (Nat.le_refl _) hSp ((hIx c).putObj _ hi (by omega) hl rfl) ((World.putObj_heap_other (by omega)).trans hk)⟩
end
end Go.Proofs.YtnhcjadkbogioaaGreat
namespace Go.Proofs.YtnhcjadkbogioaaGreat
open Go Go.RowKit
structure Free (F : Fence) (m : Nat) (P : Program) : Prop where
  fn : ∀ f, F.fn f
  depth : F.depth = none
  call : ∀ {f : FuncId} {args : Array Value} {w : World} {R : Ending → World → Prop}, Calls P f args w R → CallsIn F (m - 1) P f args w R
theorem free_round (l m : Nat) (P : Program) : Free (Fence.wide.inRound l) m P := ⟨fun _ => trivial, rfl, fun h => (callsIn_wide.2 h).inRound l⟩
def noDefer (ops : List Oper) : Bool := ops.all fun o => match o.op with | .defer _ => false | _ => true
theorem noDefer_spec {ops : List Oper} (h : noDefer ops = true) {i : Nat} {o : Oper} (ho : ops.toArray[i]? = some o) : ∀ c, o.op ≠ .defer c := by
  intro c e
  rw [List.getElem?_toArray] at ho
  have := List.all_eq_true.1 h o (List.mem_of_getElem? ho)
  rw [e] at this
  cases this
section
variable {P : Program} {ops : Array Oper} {md : Region.Mode} {G : Tmp → Option Rel} {w0 : World} {n : Nat} {L : Array Bool → Act → Prop} {Qn : Act → World → Prop} {F : Fence} {m : Nat}
theorem wpOpIn_of_gives {Q : Exit → Act → World → Prop} (hFr : Free F m P) {i : Nat} {o : Oper} (ho : ops[i]? = some o) (hnd : ∀ c, o.op ≠ .defer c) {a : Act} {w : World} {R : Value → World → Prop} {K : Act → World → Prop}
    (hwt : Region.wanted o (yielded ops a.tmps) = true) (h1 : gives P o a R w) (next : ∀ u w', Le w w' → R u w' → K (a.put o.dst u) w') : wpOpIn F m P ops Q i K a w := by
  unfold wpOpIn
  simp only [ho, hwt, if_true]
  refine ⟨fun f _ => hFr.fn f, ?_⟩
  rw [Oper.semAt_eq _ _ _ hnd]
  unfold gives at h1
  generalize (execOp a.eval o).run P w = r at *
  cases r with
  | ok n w' =>
    cases n <;> simp only [givesUpon] at h1 <;> simp only [Oper.uponIn]
    case value u => exact next _ _ h1.1 h1.2
    case skip => exact next _ _ h1.1 h1.2
    case enter f args =>
      refine ⟨fun h => (by rw [hFr.depth] at h; cases h), hFr.call (h1.2.mono fun e w'' ⟨v, he, hl, hr⟩ => ?_)⟩
      subst he
      exact next _ _ (h1.1.trans hl) hr
  | halt x w' => simp only [givesUpon] at h1
theorem wpAnyIn_of_G {Q : Exit → Act → World → Prop} (hFr : Free F m P) (hnd : ∀ (i : Nat) (o : Oper), ops[i]? = some o → ∀ c, o.op ≠ .defer c) (hF : Fed ops md G) (hQ : ∀ a w, Qn a w → Q .normal a w) :
    ∀ (fuel : Nat) (listed : Array Bool) (a : Act) (w : World), Inv ops G w0 listed a w → wpAnyG P ops md G w0 Qn fuel listed a → wpAnyIn F m P md ops Q fuel listed a w
  | 0, _, _, w, hw, h => ⟨h.1, hQ _ _ (h.2 w hw)⟩
  | fuel + 1, listed, a, w, hw, h => ⟨fun h0 => hQ _ _ (h.1 h0 w hw), fun i hi => by
      obtain ⟨hun, o, ho, _⟩ := mem_ready.1 hi
      obtain ⟨hg, hn⟩ := h.2 i hi o ho
      by_cases hwt : Region.wanted o (yielded ops a.tmps) = true
      · refine wpOpIn_of_gives hFr ho (hnd i o ho) hwt (hg hwt w (hw.lean hF hi ho)) fun u w' hl hr => ?_
        have hI := (hw.mono hl).put hF ho (u := u) (fun d R hd hR _ => rel_of hr d R hd hR)
        exact wpAnyIn_of_G hFr hnd hF hQ fuel _ _ w' hI (hn u (.inl ⟨hwt, ⟨w', hI⟩, ⟨w', hr⟩⟩))
      · unfold wpOpIn
        simp only [ho, hwt]
        exact ⟨fun f _ => hFr.fn f, wpAnyIn_of_G hFr hnd hF hQ fuel _ _ w (hw.put hF ho (fun d R hd hR h => absurd rfl h)) (hn undef (.inr ⟨by simpa using hwt, rfl⟩))⟩⟩
end
theorem wpIn_region_steady {F : Fence} {m : Nat} {P : Program} {id : Nat} {Q : Exit → Act → World → Prop} {a : Act} {w : World} {l : List Oper} (hFr : Free F m P) (hnd : noDefer l = true) (g : List (Tmp × Rel)) (n : Nat) (hm : P.follows .mixedOrders = true) (hB : Region.lexB .any l.toArray = true)
    (hf : fedB l (g.map (·.1)) n = true) (hn : a.tmps.size = n) (h : wpG P l.toArray (openOf g) w (fun a' w' => Q .normal a' w') l a (fun _ => True)) : (Code.region id l.toArray true).wpIn F m P Q a w := by
  simp only [Region.lexB, Bool.and_eq_true] at hB
  obtain ⟨hF, hd⟩ := fedB_fed (n := n) hf
  have hI : ∀ w', Le w w' → Inv l.toArray (openOf g) w (Array.replicate l.toArray.size false) a w' := fun w' hl => ⟨hl, fun k o d R _ hk => by
    exfalso
    rw [getD_replicate_false] at hk
    cases hk⟩
  refine wpIn_region_any hm (wpAnyIn_of_G (Qn := fun a' w' => Q .normal a' w') (w0 := w) hFr (fun i o ho => noDefer_spec hnd ho) hF (fun _ _ h => h) _ _ _ _ (hI { w with drawn := w.drawn + 1 } ((Below.refl _ _).drew)) ?_)
  have := wpAnyG_lex hF hB.1 n hd l 0 (Array.replicate l.toArray.size false) a (fun _ => True) (by simp) (by simpa using hB.2) hn ⟨_, hI w (Le.refl w)⟩ (fun _ _ => trivial) h
  simpa using this
end Go.Proofs.YtnhcjadkbogioaaGreat
namespace Go.Proofs.YtnhcjadkbogioaaGreat
open Go Go.RowKit
section
variable {F : Fence} {n : Nat} {P : Program} {ops : Array Oper} {rest : List Oper} {o : Oper} {a : Act} {w : World} {Q : Exit → Act → World → Prop}
theorem wpListIn_exec (hg : o.guard = none) (hd : ∀ c, o.op ≠ .defer c) (hab : o.about P w a.eval = none) (v : Value) (he : (execOp a.eval o).run P w = .ok (.value v) w)
    (h : wpListIn F n P ops Q rest (a.put o.dst v) w) : wpListIn F n P ops Q (o :: rest) a w := by
  refine wpListIn_plain hg fun K hK' => ?_
  unfold Oper.wpIn
  refine ⟨fun f hf => (by rw [hab] at hf; cases hf), ?_⟩
  rw [Oper.semAt_plain F _ _ hd, he]
  exact hK' _ _ h
theorem wpListIn_load (hg : o.guard = none) (ty : TypeId) (x : Operand) (ho : o.op = .load ty x) (b k : Nat) (hx : a.eval x = .pointer (some ⟨b, k, none⟩)) (cs : List Value) (d : TypeDesc) (hc : w.rangeAt b k cs)
    (hu : P.underlying ty = some d) (hd : d.isRow = true) (hi : (P.info? ty).map (·.size) = some cs.length)
    (h : wpListIn F n P ops Q rest (a.put o.dst (.agg cs.toArray)) w) : wpListIn F n P ops Q (o :: rest) a w :=
  wpListIn_exec hg (by rw [ho]; intro c hc; cases hc) (by simp [Oper.about, ho]) _ (exec_load ty x ho b k hx cs d hc hu hd hi) h
theorem wpListIn_store (hg : o.guard = none) (ty : TypeId) (x y : Operand) (ho : o.op = .store ty x y) (b k : Nat) (cells : Array Value) (hx : a.eval x = .pointer (some ⟨b, k, none⟩)) (hy : a.eval y = .agg cells)
    (ht : w.there b k cells.size) (hi : (P.info? ty).map (·.size) = some cells.size) (h1 : cells.all (·.oneCell') = true)
    (h : wpListIn F n P ops Q rest (a.put o.dst undef) (w.setCells b k cells.toList)) : wpListIn F n P ops Q (o :: rest) a w := by
  refine wpListIn_plain hg fun K hK' => ?_
  unfold Oper.wpIn
  refine ⟨fun f hf => (by simp [Oper.about, ho] at hf), ?_⟩
  rw [Oper.semAt_plain F _ _ (by rw [ho]; intro c hc; cases hc)]
  unfold execOp
  simp only [ho, hx, hy, Sem.run_bind, Sem.run_pure, run_storeAt_mid w b k ty cells ht hi h1, Result.andThen_ok]
  exact hK' _ _ h
end
end Go.Proofs.YtnhcjadkbogioaaGreat
namespace Go.Proofs.YtnhcjadkbogioaaGreat
open Go Go.RowKit Go.Shelf
attribute [local go_sem] Oper.semAt_some
def zn : Nd := (0, 0, zv)
def backs (n m : Nat) : List Nat := (List.range m).map fun j => n - 1 - j
theorem backs_succ (n m : Nat) : backs n (m + 1) = backs n m ++ [n - 1 - m] := by unfold backs; rw [List.range_succ, List.map_append]; rfl
theorem backs_len (n m : Nat) : (backs n m).length = m := by simp [backs]
def Keep2 (n₀ Bn : Nat) (X Y : World) : Prop := Below n₀ X Y ∧ Y.cell? ⟨Bn, 0, none⟩ = X.cell? ⟨Bn, 0, none⟩
theorem Keep2.trans {n₀ Bn : Nat} {X Y Z : World} (h : Keep2 n₀ Bn X Y) (k : Keep2 n₀ Bn Y Z) : Keep2 n₀ Bn X Z := ⟨h.1.trans k.1, k.2.trans h.2⟩
theorem back1_in (m0 : Nat) (hn : 1 ≤ m0) (lp Bn n₀ : Nat) (A : Option Addr) (n c : Nat) (l : List Nd) (J Jx : List Nat → World → Prop) (hl : l.length = n) (hm : n ≤ 65536)
    (hY : ∀ pre y W, (pre = backs n pre.length ∧ y + pre.length + 1 = n) → J pre W → pre.length < n → YieldAt Fence.wide (m0 - 1) Tryz.prog lp #[.int .i64 (y : Int), .agg (ncells (l.getD y zn)).toArray] W fun e W' =>
      (e = .returned (.bool true) ∧ J (pre ++ [y]) W' ∧ Keep2 n₀ Bn W W') ∨ (e = .returned (.bool false) ∧ Jx (pre ++ [y]) W'))
    (W : World) (hBn : W.cell? ⟨Bn, 0, none⟩ = some (.slice A n c)) (hs : Sees W n₀ A (ncs l)) (h0 : J [] W) :
    CallsIn Fence.wide m0 Tryz.prog 102 #[.func (.yield lp) #[] #[], .pointer (some ⟨Bn, 0, none⟩)] W fun e W' => (∃ v, e = .returned v) ∧
      ((∃ ys, ys = backs n n ∧ J ys W') ∨ (∃ pre, True ∧ Jx pre W')) := by
  have hu := Tryz.underlying73
  refine callsIn_of_wp Tryz.func102 rfl trivial ?_ rfl
  simp only [Tryz.ntmps102, List.size_toArray, List.length_cons, List.length_nil, Nat.reduceAdd, Nat.reduceSub, Array.replicate_succ, Array.replicate_zero, List.push_toArray, List.append_toArray, List.nil_append, List.cons_append]
  have HL := hid hl
  clear hl
  gi_wp2
  gi_loopw [3] (fun i wr => ∃ r m : Nat, Hid (r + m = n) ∧ r ≤ n ∧ i = .int .i64 ((r : Int) - 1) ∧ J (backs n m) wr ∧ wr.cell? ⟨Bn, 0, none⟩ = some (.slice A n c) ∧ Sees wr n₀ A (ncs l))
    (fun i wr => (intOf i + 1).toNat)
  case atStart => exact ⟨n, 0, hid rfl, Nat.le_refl _, by go_num, h0, hBn, hs⟩
  case round =>
    obtain ⟨r, m, HR, hrn, rfl, hJ, hc, hsr⟩ := hrel
    cases r with
    | zero =>
      have e0 : (((0 : Nat) : Int) - 1) = -1 := rfl
      have HJ := hid (show J (backs n n) wr from by rw [show n = m by have := HR.out; omega] at hJ ⊢; exact hJ)
      rw [e0]
      clear hJ hsr
      gi_wp2
      go_end0
      exact ⟨⟨_, rfl⟩, .inl ⟨_, rfl, HJ.out⟩⟩
    | succ k =>
      have e0 : (((k + 1 : Nat) : Int) - 1) = (k : Int) := by omega
      rw [e0]
      have hkn : k < n := by omega
      have hkl : k < l.length := by rw [HL.out]; exact hkn
      have d1 : decide ((0 : Int) ≤ (k : Int)) = true := by simp
      obtain ⟨b, o, rfl, hb, _, _, hrg⟩ := sees_node hsr k hkl
      have hge : l.getD k zn = l[k] := by simp [hkl]
      obtain ⟨nc, hnc⟩ : ∃ nc, nc = ncells l[k] := ⟨_, rfl⟩
      have HSZ := hid (show nc.length = 5 by rw [hnc]; rfl)
      rw [← hnc] at hrg
      have HBS := hid (show backs n (m + 1) = backs n m ++ [k] by rw [backs_succ]; congr 2; have := HR.out; omega)
      obtain ⟨fn, tmps, assign, body, hy, hR⟩ := hY (backs n m) k wr ⟨by rw [backs_len], by rw [backs_len]; have := HR.out; omega⟩ hJ (by rw [backs_len]; have := HR.out; omega)
      rw [hge, ← hnc] at hy
      clear hge hnc hJ hs h0
      gi_wp2_with (first
        | (refine wpListIn_load rfl 73 (.tmp 15) rfl b (o + k * 5) rfl nc _ hrg hu rfl (by rw [HSZ.out]; exact info_node) ?_)
        | fail)
      refine hR.mono ?_
      rintro e W3 (⟨rfl, hJ3, hk3⟩ | ⟨rfl, hJx3⟩)
      · have hc3 := hk3.2.trans hc
        have hs3 := hsr.below hk3.1
        gi_wp2
        go_roundw
        case rel => exact ⟨k, m + 1, hid (by have := HR.out; omega), by omega, by go_num, by rw [HBS.out]; exact hJ3, hc3, hs3⟩
        case measure => simp [intOf]
      · gi_wp2
        refine bodyPost_ret (results_none rfl _ _ _) rfl ?_
        exact ⟨⟨_, rfl⟩, .inr ⟨_, trivial, hJx3⟩⟩
theorem back_any (A : Option Addr) (n c : Nat) (w : World) : Calls Tryz.prog 95 #[.slice A n c] w fun e w' =>
    e = .returned (.func (.func 102) #[] #[.pointer (some ⟨w.heap.size, 0, none⟩)]) ∧ w' = w.alloc (.cells #[.slice A n c] 39) := by
  go_enter Tryz.func95, Tryz.ntmps95
  go_wp2
  go_ret
  exact ⟨rfl, rfl⟩
theorem back_stops (m0 : Nat) (hn : 1 ≤ m0) (Bn n₀ : Nat) (A : Option Addr) (n c : Nat) (l : List Nd) (w : World) (hl : l.length = n) (hm : n ≤ 65536) (hBn : Bn < w.heap.size) (h0 : n₀ ≤ w.heap.size) (hc : w.cell? ⟨Bn, 0, none⟩ = some (.slice A n c)) (hs : Sees w n₀ A (ncs l)) :
    SeqStopsQ Fence.wide m0 Tryz.prog 102 #[.pointer (some ⟨Bn, 0, none⟩)] (fun y : Nat => #[Value.int .i64 (y : Int), .agg (ncells (l.getD y zn)).toArray]) (Keep2 n₀ Bn)
      (fun pre y => pre = backs n pre.length ∧ y + pre.length + 1 = n) (fun ys => ys = backs n n) (fun _ => True) n w :=
  fun lp J Jx W hW _ _ hY h => back1_in m0 hn lp Bn n₀ A n c l J Jx hl hm hY W ((hW.cell (p := ⟨Bn, 0, none⟩) hBn).trans hc) (hs.below (hW.mono h0)) h
end Go.Proofs.YtnhcjadkbogioaaGreat
namespace Go.Proofs.YtnhcjadkbogioaaGreat
open Go Go.RowKit Go.Shelf
attribute [local go_sem] Oper.semAt_some
def seenI (l : List Nd) : List Int := ((stk l).map fun d : Nat => (d : Int)).reverse
theorem foldl_max_int (l : List Nat) (a : Nat) : (l.map fun d : Nat => (d : Int)).foldl max (a : Int) = ((l.foldl max a : Nat) : Int) := by
  induction l generalizing a with
  | nil => rfl
  | cons x l ih =>
    simp only [List.map_cons, List.foldl_cons]
    rw [show max (a : Int) (x : Int) = ((max a x : Nat) : Int) by omega]
    exact ih _
theorem foldl_max_rev (l : List Int) (a : Int) : l.reverse.foldl max a = l.foldl max a := by
  have hc : ∀ (l : List Int) (a b : Int), l.foldl max (max a b) = max (l.foldl max a) b := by
    intro l
    induction l with
    | nil => intro a b; rfl
    | cons x l ih =>
      intro a b
      simp only [List.foldl_cons]
      rw [show max (max a b) x = max (max a x) b by omega]
      exact ih _ _
  induction l generalizing a with
  | nil => rfl
  | cons x l ih =>
    rw [List.reverse_cons, List.foldl_append, ih]
    show max (l.foldl max a) x = l.foldl max (max a x)
    rw [hc]
theorem seen_step {l : List Nd} {x k' : Nat} (hx : x < l.length) (h : Wood (l.drop x) k') : ∃ j, (seenI (l.drop (x + 1))).length = j + par l[x].1 ∧
    seenI (l.drop x) = (seenI (l.drop (x + 1))).take j ++ [((seenI (l.drop (x + 1))).drop j).foldl max 0 + 1] := by
  rw [List.drop_eq_getElem_cons hx] at h ⊢
  obtain ⟨j, _, h1⟩ := wood_cons h
  have hl := stk_len h1
  refine ⟨j, by simp [seenI, hl], ?_⟩
  have e1 : (seenI (l.drop (x + 1))).take j = (((stk (l.drop (x + 1))).drop (par l[x].1)).map fun d : Nat => (d : Int)).reverse := by
    unfold seenI
    rw [List.take_reverse, List.length_map, hl, show j + par l[x].1 - j = par l[x].1 by omega, List.map_drop]
  have e2 : (seenI (l.drop (x + 1))).drop j = (((stk (l.drop (x + 1))).take (par l[x].1)).map fun d : Nat => (d : Int)).reverse := by
    unfold seenI
    rw [List.drop_reverse, List.length_map, hl, show j + par l[x].1 - j = par l[x].1 by omega, List.map_take]
  rw [e1, e2, foldl_max_rev]
  have := foldl_max_int ((stk (l.drop (x + 1))).take (par l[x].1)) 0
  rw [show ((0 : Nat) : Int) = 0 from rfl] at this
  rw [this]
  unfold seenI
  rw [stk_cons, List.map_cons, List.reverse_cons]
  rfl
theorem seen_small (l : List Nd) : ∀ d ∈ seenI l, 0 ≤ d ∧ d ≤ l.length := by
  intro d hd
  simp only [seenI, List.mem_reverse, List.mem_map] at hd
  obtain ⟨e, he, rfl⟩ := hd
  have := stk_lt l e he
  omega
theorem stk_le (l : List Nd) : (stk l).length ≤ l.length := by
  induction l with
  | nil => exact Nat.le_refl _
  | cons x l ih => rw [stk_cons, List.length_cons, List.length_drop, List.length_cons]; omega
theorem foldl_max_le (l : List Int) (a b : Int) (ha : a ≤ b) (h : ∀ d ∈ l, d ≤ b) : l.foldl max a ≤ b := by
  induction l generalizing a with
  | nil => exact ha
  | cons x l ih =>
    have := h x (by simp)
    exact ih _ (by omega) (fun d hd => h d (List.mem_cons_of_mem _ hd))
theorem foldl_max_ge (l : List Int) (a : Int) : a ≤ l.foldl max a := by
  induction l generalizing a with
  | nil => exact Int.le_refl _
  | cons x l ih => exact Int.le_trans (by omega) (ih (max a x))
theorem Own.cutTo {w : World} {base : Nat} {e : TypeId} {A : Option Addr} {n c : Nat} {xs : List Value} (h : Own w base e (.slice A n c) xs) (j : Nat) (hj : j ≤ n) : Own w base e (.slice A j c) (xs.take j) := by
  obtain ⟨A', c', hv⟩ := h.form
  injection hv with h1 h2 h3
  subst h2
  have hl : (xs.take j).length = j := by rw [List.length_take]; omega
  refine ⟨by rw [hl]; omega, ?_⟩
  rw [hl]
  rcases h.2 with ⟨hv0, h0⟩ | ⟨g, cap, cur, hv0, hb, hh, hnc, hcm, hcs, ht⟩
  · injection hv0 with e1 e2 e3
    subst e1 e3
    exact .inl ⟨by rw [show j = 0 by omega], by omega⟩
  · injection hv0 with e1 e2 e3
    subst e1 e3
    refine .inr ⟨g, c, cur, rfl, hb, hh, by omega, hcm, hcs, ?_⟩
    rw [← ht, List.take_take]
    congr 1
    omega
theorem ownto_run {P : Program} (t e : TypeId) (i : TypeInfo) (ht : P.underlying t = some (.slice e)) (hi : P.info? e = some i) (hsz : i.size = 1) (A : Option Addr) (n m c : Nat) (H : Int) (kh : IntKind) (hm : m ≤ n) (hH : H = (m : Int)) (hc : n ≤ c) (wx : World) :
    (Instr.slice t (.slice A n c) none (some (.int kh H)) none).run P wx = .ok (.slice A m c) wx := by
  have he : P.elem t = e := by simp [Program.elem, ht]
  have ht' : P.underlying t = some (.slice (P.elem t)) := by rw [he]; exact ht
  have hA : (if c = 0 then A else A.map (·.add 0)) = A := by
    cases A with
    | none => simp
    | some a => simp [Addr.add]
  rw [run_slice_h wx t A n c ht' kh H (by omega) (by omega), he]
  simp [sizeOf, typeInfo, hi, hsz, sliced, hH]
  intro h
  rw [if_neg h] at hA
  exact hA
theorem appended_cut {W w1 w2 : World} {n₀ B : Nat} {t e : TypeId} {u v v' : Value} {xs ys : List Value} (hv : Boxed W B t u) (hte : t ≠ e) (hrow : Own w1 n₀ e v xs) (hn₀ : n₀ ≤ W.heap.size) (hB : n₀ ≤ B) (hl : Le W w1)
    (hown' : Own w2 n₀ e v' ys) (hgrow : w1.grownBy w2 v.ownBlock) :
    Boxed w2 B t u ∧ Boxed (w2.setCell ⟨B, 0, none⟩ v') B t v' ∧ Own (w2.setCell ⟨B, 0, none⟩ v') n₀ e v' ys ∧ KeepsOthers W (w2.setCell ⟨B, 0, none⟩ v') ∧ Below n₀ W (w2.setCell ⟨B, 0, none⟩ v') := by
  have hv0 : Boxed w1 B t u := (hl.block B hv.lt).trans hv
  have hv1 : Boxed w2 B t u := hv0.kept hgrow (hv0.not_row hte hrow)
  have hk1 : KeepsOthers W w1 := ⟨hl.size, fun k o hk _ => (hl.block k (Array.getElem?_eq_some_iff.1 hk).1).trans hk⟩
  refine ⟨hv1, hv1.set v', World.ownsRow.kept hown' (grownBy_setCell' w2 B v') (.inr (hv1.not_row hte hown').symm), ?_, ?_⟩
  · refine (hk1.trans (KeepsOthers.of_grownBy hgrow fun j o ej hj => ?_)).trans (KeepsOthers.setCell _ _ _)
    rcases hrow.2 with ⟨rfl, _⟩ | ⟨g, cap, cur, rfl, _, hgb, _⟩
    · simp [Value.ownBlock] at ej
    · obtain rfl : g = j := by simpa [Value.ownBlock] using ej
      rw [hgb] at hj; cases hj; rfl
  · refine ((((Below.refl n₀ W).trans (Below.mono hl hn₀)).grown hgrow (Nat.le_trans hn₀ hl.size) fun j ej => ?_)).setCell (p := ⟨B, 0, none⟩) hB v'
    exact (hrow.lt j ej).1
theorem znode : (ncells zn).toArray = #[Value.int .i64 0, .int .i64 0, .int .i64 0, .int .i64 0, .string { data := #[] }] := rfl
theorem depth_wood (A : Option Addr) (n c : Nat) (l : List Nd) (w : World) (hn : l.length = n) (hs : Sees w w.heap.size A (ncs l)) (hm : n ≤ 65536) (hw : Wood l 1) :
    Calls Tryz.prog 77 #[.slice A n c] w fun e w' => e = .returned (.int .i64 (dep l)) ∧ Below w.heap.size w w' := by
  obtain ⟨i0, hi, hz0, hz1, hz2⟩ := info_parts info_int
  have hu := Tryz.underlying73
  have HE := hid (fun wx (h : Sees wx w.heap.size A (ncs l)) => end_any A n c l 0 wx w.heap.size hn h hm)
  rw [show endAt l 0 = (n : Int) by rw [(wood_end l).2 hw, hn]] at HE
  have HW := hid hw
  have HN := hid hn
  clear hw hn
  refine (callsIn_wide (n := 5)).1 ?_
  refine callsIn_of_wp_marks Tryz.func77 rfl trivial ?_ rfl
  simp only [Tryz.ntmps77, List.size_toArray, List.length_cons, List.length_nil, Nat.reduceAdd, Nat.reduceSub, Array.replicate_succ, Array.replicate_zero, List.push_toArray, List.append_toArray, List.nil_append, List.cons_append]
  gi_wp2_with fail
  refine ⟨trivial, (callsIn_wide.2 (HE.out _ hs)).mono ?_⟩
  rintro e w1 ⟨rfl, rfl⟩
  gi_wp2_with fail
  refine ⟨trivial, (callsIn_wide.2 (back_any A n c _)).mono ?_⟩
  rintro e w1 ⟨rfl, rfl⟩
  gi_wp2
  have hB0 : Below w.heap.size w ((w.alloc (.cells #[.slice none 0 0] 93)).alloc (.cells #[.slice A n c] 39)) := ((Below.refl _ w).alloc (Nat.le_refl _) _).alloc (by simp) _
  have bO : Boxed ((w.alloc (.cells #[.slice none 0 0] 93)).alloc (.cells #[.slice A n c] 39)) w.heap.size 93 (.slice none 0 0) := (Boxed.new w 93 (.slice none 0 0)).alloc _
  have bE := Boxed.new (w.alloc (.cells #[.slice none 0 0] 93)) 39 (.slice A n c)
  have hsz : ((w.alloc (.cells #[.slice none 0 0] 93)).alloc (.cells #[.slice A n c] 39)).heap.size = w.heap.size + 2 := by simp
  obtain ⟨W0, hW0⟩ : ∃ W0, (w.alloc (.cells #[.slice none 0 0] 93)).alloc (.cells #[.slice A n c] 39) = W0 := ⟨_, rfl⟩
  rw [hW0] at hB0 bO bE hsz ⊢
  have hsz1 : (w.alloc (.cells #[.slice none 0 0] 93)).heap.size = w.heap.size + 1 := by simp
  rw [hsz1] at bE
  clear hW0 hsz1
  have HSB : Hid (∀ wx : World, Below w.heap.size w wx → Sees wx w.heap.size A (ncs l)) := hid (fun wx h => hs.below h)
  refine wpIn_rangeFunc_box (F := Fence.wide) rfl (by omega) (gf := 102) (lb := #[.pointer (some ⟨w.heap.size + 1, 0, none⟩)]) rfl trivial (enters_of Tryz.func102 (by kernel_rfl) rfl)
    (back_stops (5 - 1) (by omega) (w.heap.size + 1) w.heap.size A n c l W0 HN.out hm (by omega) (by omega) bE.cell (hs.below hB0)) (fun h k => h.trans k)
    (fun W l o o' hl h h1 h2 => ⟨belowK_b (w := W0) (n₀ := w.heap.size) (by omega) W l o o' hl h h1 h2, (belowK_b (w := W0) (n₀ := w.heap.size + 2) (by omega) W l o o' hl h h1 h2).cell (p := ⟨w.heap.size + 1, 0, none⟩) (by show w.heap.size + 1 < w.heap.size + 2; omega)⟩) (Below.refl _ _) (fun _ => rfl)
    (fun pre W => ((∃ v, Boxed W w.heap.size 93 v ∧ W.ownsRow w.heap.size 3 1 v (ivs (seenI (l.drop (n - pre.length)))).length (ivs (seenI (l.drop (n - pre.length)))) ∧ True) ∧ Boxed W (w.heap.size + 1) 39 (.slice A n c)) ∧ Below w.heap.size w W)
    (fun _ _ _ => False)
    (OwnFrom.and (Own.from (fun s X Y row hs hg hr => ⟨holdsRow_own w.heap.size w.heap.size 93 3 1 (fun pre : List Nat => (ivs (seenI (l.drop (n - pre.length)))).length) (fun pre => ivs (seenI (l.drop (n - pre.length)))) (fun _ _ => True) s X Y row hs.1 hg hr, boxed_own (w.heap.size + 1) 39 (fun _ : List Nat => Value.slice A n c) s X Y row hs.2 hg hr⟩) _) (ownFrom_below (Nat.le_refl _) hB0.size))
    (fun _ _ _ _ _ hs _ _ => hs)
    ⟨⟨⟨_, bO, by have : l.drop n = [] := List.drop_of_length_le (by rw [HN.out]; exact Nat.le_refl _); simp only [List.length_nil, Nat.sub_zero, this]; exact World.ownsRow_nil _ _ _ _, trivial⟩, bE⟩, hB0⟩
    (fun x a' W => ∃ Bx, w.heap.size + 2 ≤ Bx ∧ Blk W Bx (ncells (l.getD x zn)) ∧
      a' = { tmps := #[.slice A n c, undef, .int .i64 0, .pointer (some ⟨w.heap.size, 0, none⟩), undef, .pointer (some ⟨Bx, 0, none⟩), undef, undef, undef, undef, .slice A n c, .int .i64 n, .slice A n c, .int .i64 n, .bool false, .slice A n c, .func (.func 102) #[] #[.pointer (some ⟨w.heap.size + 1, 0, none⟩)], .int .i64 (x : Int), .agg (ncells (l.getD x zn)).toArray, undef, undef, undef, undef, undef, undef, undef, undef, undef, undef, undef, undef, undef, undef, undef, undef, undef, undef, undef, undef, undef, undef, undef, undef, undef, undef, undef, undef], defers := [] })
    (fun x a' s X Y row hs hg hr => by
      obtain ⟨Bx, h1, ⟨tt, h2⟩, h3⟩ := hs
      refine ⟨Bx, h1, ⟨tt, (hg.block Bx (Array.getElem?_eq_some_iff.1 h2).1 (fun e => ?_)).trans h2⟩, h3⟩
      obtain ⟨_, o, ho, hc⟩ := hr Bx e.symm
      rw [h2] at ho
      cases ho
      cases hc)
    ?assign ?body ?done ?stop
  case assign =>
    rintro lp pre x W K hpr ⟨⟨⟨v, hv, hrow, _⟩, hX⟩, hB⟩ hK
    have BN := Blk.new W (ncells zn) 73
    have TH := BN.there 0 5 (by decide)
    have HSZ := hid (show (ncells (l.getD x zn)).length = 5 from rfl)
    have HONE := hid (show ∀ v ∈ ncells (l.getD x zn), v.oneCell' = true from fun v hv => ncs_one [l.getD x zn] v (by simpa [ncs] using hv))
    have FIN : Hid (Blk ((W.alloc (.cells (ncells zn).toArray 73)).setCells W.heap.size 0 (ncells (l.getD x zn))) W.heap.size (ncells (l.getD x zn))) := Lib.hid (by
      have h := BN.sets (ncells (l.getD x zn)) 0 (by rw [ncells_len, ncells_len]; exact Nat.le_refl 5)
      simpa [ncells] using h)
    have G1 : Hid (W.grownBy ((W.alloc (.cells (ncells zn).toArray 73)).setCells W.heap.size 0 (ncells (l.getD x zn))) none) := Lib.hid (by
      have h1 := grown_sets W.heap.size (ncells (l.getD x zn)) 0 (W.alloc (.cells (ncells zn).toArray 73))
      refine ⟨h1.os, h1.tape, h1.output, Nat.le_trans (by simp) h1.size, fun k hk _ => ?_⟩
      exact (h1.block k (by simp; omega) (fun e => by injection e with e; omega)).trans (Below.heap_alloc W _ k hk))
    have GE : Hid (w.heap.size + 2 ≤ W.heap.size) := hid (by have := hX.lt; omega)
    obtain ⟨nc, hnc⟩ : ∃ nc, nc = ncells (l.getD x zn) := ⟨_, rfl⟩
    rw [← hnc] at HSZ HONE FIN G1 hK ⊢
    clear hnc
    rw [znode] at TH FIN G1
    gi_wp2_with (first
      | (refine wpListIn_store rfl 73 (.tmp 5) (.tmp 18) rfl W.heap.size 0 nc.toArray rfl rfl (by simpa [HSZ.out] using TH) (by simpa [HSZ.out] using info_node) (all_oneCell_toArray HONE.out) ?_)
      | fail)
    have g1 := G1.out
    refine hK _ _ ((KeepsOthers.of_grownBy g1 (fun j o e => by cases e)).from _) ⟨(Below.refl _ W).grown g1 hB.size (fun k e => by cases e), World.cell?_of_block (g1.block _ hX.lt (by simp))⟩ ⟨⟨⟨v, hv.kept g1 (by simp), hrow.kept g1 (by by_cases h : v.ownBlock = none; exact .inl h; exact .inr h), trivial⟩, hX.kept g1 (by simp)⟩, hB.grown g1 hB.size (fun k e => by cases e)⟩ ⟨W.heap.size, GE.out, FIN.out, rfl⟩
  case body =>
    rintro lp pre x a' W hlp ⟨r, hr⟩ ⟨hpre, hxm⟩ ⟨⟨⟨v, hv, hrow, _⟩, hX⟩, hB⟩ ⟨Bx, hBx, hN, rfl⟩ hlt
    generalize (ncells (l.getD x zn)).toArray = na
    have hxl : x < l.length := by rw [HN.out]; omega
    have hgd : l.getD x zn = l[x] := by simp [hxl]
    obtain ⟨k', hk'⟩ := wood_drop HW.out x (by omega)
    obtain ⟨j, hj1, hj2⟩ := seen_step hxl hk'
    have hdr : n - pre.length = x + 1 := by omega
    have hdr2 : n - (pre ++ [x]).length = x := by simp; omega
    rw [hdr] at hrow
    have hsm := seen_small (l.drop (x + 1))
    have hsl : (l.drop (x + 1)).length ≤ 65536 := by rw [List.length_drop, HN.out]; omega
    obtain ⟨s, hs0⟩ : ∃ s, s = seenI (l.drop (x + 1)) := ⟨_, rfl⟩
    rw [← hs0] at hrow hj1 hj2 hsm
    have HNEW : Hid (seenI (l.drop (n - (pre ++ [x]).length)) = s.take j ++ [(s.drop j).foldl max 0 + 1]) := hid (by rw [hdr2]; exact hj2)
    have hNc : Blk W Bx (ncells l[x]) := by rw [← hgd]; exact hN
    have HP := hid (fun wx : World => (parts_any l[x].1 wx).mono fun e w' h => (show e = .returned (.int .i64 (par l[x].1)) ∧ Below wx.heap.size wx w' from ⟨h.1, h.2 ▸ Below.refl _ _⟩))
    have hop : ∀ kk : LW W, kk.val.cell? ⟨Bx, 0, none⟩ = some (.int .i64 l[x].1) := fun kk => (kk.le.cell (p := ⟨Bx, 0, none⟩) hNc.lt).trans (hNc.cell (j := 0) rfl)
    have hp2 := par_le l[x].1
    obtain ⟨op, hop0⟩ : ∃ op, op = l[x].1 := ⟨_, rfl⟩
    rw [← hop0] at HP hop hj1 hp2
    obtain ⟨p, hp0⟩ : ∃ p, p = par op := ⟨_, rfl⟩
    rw [← hp0] at HP hj1 hp2
    have HO : Own W w.heap.size 3 v (ivs s) := hrow
    obtain ⟨A1, c1, hvf⟩ := HO.form
    obtain ⟨k, hk0⟩ : ∃ k, k = (ivs s).length := ⟨_, rfl⟩
    rw [← hk0] at hvf
    subst hvf
    rw [ivs_length] at hk0
    have HKJ := hid (show k = j + p by omega)
    have hk65 : k ≤ 65540 := by
      have := stk_le (l.drop (x + 1))
      have h2 : s.length = (stk (l.drop (x + 1))).length := by rw [hs0]; simp [seenI]
      omega
    have hcap := HO.cap
    have HSM : Hid (∀ d ∈ s, 0 ≤ d ∧ d ≤ 65536) := hid (fun d hd => by have := hsm d hd; omega)
    have HKS : Hid (s.length = k) := hid hk0.symm
    have hle : w.heap.size ≤ W.heap.size := hB.size
    have hP : ∀ kk : LW W, kk.val.cell? ⟨w.heap.size, 0, none⟩ = some (.slice A1 k c1) := fun kk => (kk.le.cell (p := ⟨w.heap.size, 0, none⟩) hv.lt).trans hv.cell
    clear hrow hsm hsl hk0 hj1 hj2 hs0 hp0 hop0 hdr hdr2 hgd hN hNc hk'
    gi_wp2
    refine wpIn_region_steady (free_round lp _ _) (by kernel_rfl) [] 47 (by kernel_rfl) (by kernel_rfl) (by kernel_rfl) (by rfl) ?_
    iterate 4 (refine wpG_quiet (by rfl) (by rfl) (by rfl) (fun K hK => ?_); go_big_quiet_op; refine hK _ ?_; clear hK K)
    refine wpG_call (by rfl) (by rfl) 94 #[.int .i64 op] (.int .i64 p) (by intro _; simp [go_sem]) (by kernel_rfl) (fun w1 hl => HP.out w1) ?_
    simp only [pq4]
    iterate 3 (refine wpG_quiet (by rfl) (by rfl) (by rfl) (fun K hK => ?_); go_big_quiet_op; refine hK _ ?_; clear hK K)
    refine wpG_nil fun w1 hl _ => ?_
    have ekj : ((k : Int) - (p : Int)) = (j : Int) := by have := HKJ.out; omega
    rw [ekj]
    have HO1 : Own w1 w.heap.size 3 (.slice A1 k c1) (ivs s) := World.ownsRow.kept HO ⟨hl.os, hl.tape, hl.output, hl.size, fun q hq _ => hl.block q hq⟩ (by by_cases h : (Value.slice A1 k c1).ownBlock = none; exact .inl h; exact .inr h)
    have hv1 : Boxed w1 w.heap.size 93 (.slice A1 k c1) := (hl.block _ hv.lt).trans hv
    have hX1 : Boxed w1 (w.heap.size + 1) 39 (.slice A n c) := (hl.block _ hX.lt).trans hX
    have hle1 : w.heap.size ≤ w1.heap.size := Nat.le_trans hle hl.size
    obtain ⟨A2, hsl1, hse1⟩ := cut_fact 93 3 i0 Tryz.underlying93 hi hz1 HO1.sees k p j c1 (j : Int) .i64 (by rw [ivs_length, HKS.out]) (by have := HKJ.out; omega) rfl hcap.1
    have hsl2 := ownto_run (P := Tryz.prog) 93 3 i0 Tryz.underlying93 hi hz1 A1 k j c1 (j : Int) .i64 (by have := HKJ.out; omega) rfl hcap.1
    have HO2 := HO1.cutTo j (by have := HKJ.out; omega)
    have hc1 := hv1.cell
    have hse2 : Sees w1 w1.heap.size A2 (ivs (s.drop j)) := by unfold ivs at hse1 ⊢; rw [List.map_drop]; exact hse1
    have HPL : Hid ((s.drop j).length = p) := hid (by rw [List.length_drop, HKS.out]; have := HKJ.out; omega)
    have HSM2 : Hid (∀ d ∈ s.drop j, 0 ≤ d ∧ d ≤ 65536) := hid (fun d hd => HSM.out d (List.mem_of_mem_drop hd))
    obtain ⟨q, hq0⟩ : ∃ q, q = s.drop j := ⟨_, rfl⟩
    rw [← hq0] at hse2 HPL HSM2 HNEW
    clear ekj hse1 HO hP hop HP hq0 HSM hlt
    gi_wp2_with fail
    gi_loopw [29, 6] (fun i d wr => ∃ y : Nat, y ≤ p ∧ i = .int .i64 y ∧ (∃ D : Int, d = .int .i64 D ∧ Hid (D = (q.take y).foldl max 0)) ∧ wr = w1) (fun i _ _ => p - (intOf i).toNat)
    case atStart => exact ⟨0, by omega, rfl, ⟨0, rfl, hid rfl⟩, rfl⟩
    case round =>
      obtain ⟨y, hy, rfl, ⟨D, rfl, HD⟩, rfl⟩ := hrel
      by_cases hyp : y < p
      · have hyl : y < q.length := by rw [HPL.out]; exact hyp
        obtain ⟨b2, o2, rfl, hb2, hc2⟩ := hse2.int y hyl
        obtain ⟨d, hd0⟩ : ∃ d, d = q[y] := ⟨_, rfl⟩
        rw [← hd0] at hc2
        have HT : Hid ((q.take (y + 1)).foldl max 0 = max D d) := hid (by rw [List.take_succ_eq_append_getElem hyl, List.foldl_append, ← HD.out, hd0]; rfl)
        clear hd0
        gi_wp2_with fail
        all_goals
          go_roundw
          case rel => exact ⟨y + 1, by omega, by go_num, ⟨_, rfl, hid (by rw [HT.out]; omega)⟩, by first | rfl | trivial⟩
          case measure => simp [intOf]; omega
      · obtain rfl : y = p := by omega
        have HDD : Hid (D = q.foldl max 0) := hid (by rw [HD.out, List.take_of_length_le (by rw [HPL.out]; exact Nat.le_refl _)])
        have hD0 : 0 ≤ D := by rw [HDD.out]; exact foldl_max_ge q 0
        have hD1 : D ≤ 65536 := by rw [HDD.out]; exact foldl_max_le q 0 65536 (by omega) (fun d hd => (HSM2.out d hd).2)
        have HO3 : wr.ownsRow w.heap.size 3 1 (.slice A1 j c1) j ((ivs s).take j) := by
          have h := HO2
          unfold Own at h
          rwa [show ((ivs s).take j).length = j by rw [List.length_take, ivs_length, HKS.out]; have := HKJ.out; omega] at h
        have hx0 := hX1
        have HLE : Hid (Le W (wr.alloc (.cells #[.int .i64 (D + 1)] 3))) := hid (hl.trans ((Below.refl _ _).alloc (Nat.le_refl _) _))
        have HJB : Hid (j ≤ 65540) := hid (by have := HKJ.out; omega)
        gi_wp2_with (first
          | (gi_at_builtin
             refine wpListIn_append_own _ rfl (.tmp 39) (.tmp 42) 93 rfl w.heap.size 3 i0 (.int .i64 0) 1 8 Tryz.underlying93 hi hz0 hz1 hz2 rfl (by decide) (.slice A1 j c1) j ((ivs s).take j) rfl (HO3.alloc (.cells #[.int .i64 (D + 1)] 3)) ⟨wr.heap.size, 0, none⟩ 1 1 [.int .i64 (D + 1)] rfl rfl (cell_one_new _ _ _) (by simp [Value.oneCell']) (by have := HJB.out; unfold maxLen; omega) (by have := HJB.out; omega) (by simp; omega) ?_
             intro v' w2 hown' hgrow _
             obtain ⟨g', cap', rfl⟩ := ownsRow_succ hown'
             have hown2 : Own w2 w.heap.size 3 (.slice (some ⟨g', 0, none⟩) (j + 1) cap') ((ivs s).take j ++ [.int .i64 (D + 1)]) := by
               unfold Own
               rw [List.length_append, show ((ivs s).take j).length = j by rw [List.length_take, ivs_length, HKS.out]; have := HKJ.out; omega]
               exact hown'
             obtain ⟨k1, k2, k3, k4, k5⟩ := appended_cut hv (by decide) (World.ownsRow.alloc HO2 (.cells #[.int .i64 (D + 1)] 3)) hle (Nat.le_refl _) HLE.out hown2 hgrow
             have k1c := k1.cell
             have k1f := k1.frozen
             have x3 := ((hx0.alloc (.cells #[.int .i64 (D + 1)] 3)).kept hgrow ((hx0.alloc (.cells #[.int .i64 (D + 1)] 3)).not_row (by decide) (HO3.alloc (.cells #[.int .i64 (D + 1)] 3)))).other (B' := w.heap.size) (by omega) (.slice (some ⟨g', 0, none⟩) (j + 1) cap')
             clear hown' hown2 hgrow k1 HO3)
          | fail)
        refine ⟨k4.from _, ⟨k5, x3.cell.trans hX.cell.symm⟩, ⟨⟨_, k2, ?_, trivial⟩, x3⟩, hB.trans k5⟩
        rw [HNEW.out, ← HDD.out, ivs_append, show ivs (s.take j) = (ivs s).take j from by unfold ivs; rw [List.map_take]]
        exact k3
  case done =>
    rintro D ys W hD rfl ⟨⟨⟨v, hv, hrow, _⟩, hX⟩, hB⟩ hK
    have e1 : seenI (l.drop (n - (backs n n).length)) = [(dep l : Int)] := by
      rw [backs_len, Nat.sub_self, List.drop_zero]
      unfold seenI
      rw [dep_wood HW.out]
      rfl
    rw [e1] at hrow
    have HO : Own W w.heap.size 3 v (ivs [(dep l : Int)]) := hrow
    obtain ⟨A1, c1, hvf⟩ := HO.form
    subst hvf
    obtain ⟨g, rfl, hg2, hg3⟩ := HO.block (show 0 < (ivs [(dep l : Int)]).length from Nat.one_pos)
    have hcd := HO.cell 0 (show 0 < (ivs [(dep l : Int)]).length from Nat.one_pos)
    have hcd : W.cell? ⟨g, 0, none⟩ = some (.int .i64 (dep l : Int)) := hcd
    have hc0 := hv.cell
    obtain ⟨dd, hdd⟩ : ∃ dd, dd = dep l := ⟨_, rfl⟩
    rw [← hdd] at hcd
    have HDD := hid hdd
    have e2 : (ivs [(dep l : Int)]).length = 1 := rfl
    rw [e2] at hc0
    have hDs : D < W.heap.size := (Array.getElem?_eq_some_iff.1 hK).1
    clear hrow hX hv HO e1 hdd e2
    gi_wp2_with fail
    refine ⟨by simp, .inl ⟨_, _, rfl, run_takeDeferred hK, ?_⟩⟩
    exact ⟨_, results_tmp rfl _ _ _, by rw [← HDD.out]; rfl, hB.trans (belowK_b (w := w) (Nat.le_refl _) W D _ _ (by omega) hK rfl rfl)⟩
  case stop =>
    rintro D c pre W _ _ h _
    exact h.elim
theorem depth_any (A : Option Addr) (n c : Nat) (l : List Nd) (w : World) (hn : l.length = n) (hs : Sees w w.heap.size A (ncs l)) (hm : n ≤ 65536) :
    Calls Tryz.prog 77 #[.slice A n c] w fun e w' => e = .returned (.int .i64 (dep l)) ∧ Below w.heap.size w w' := by
  by_cases hw : Wood l 1
  · exact depth_wood A n c l w hn hs hm hw
  · have HE := hid (end_any A n c l 0 w w.heap.size hn hs hm)
    have b1 : (endAt l 0 != (n : Int)) = true := by
      rw [bne_iff_ne, ← hn]
      exact fun h => hw ((wood_end l).1 h)
    have HR := hid (dep_not hw)
    generalize endAt l 0 = z at HE b1
    clear hw hs hn
    go_enter Tryz.func77, Tryz.ntmps77
    go_wp2_with fail
    refine HE.out.mono ?_
    rintro e w1 ⟨rfl, rfl⟩
    go_wp2_with fail
    go_ret
    exact ⟨by rw [HR.out]; rfl, Below.refl _ _⟩
end Go.Proofs.YtnhcjadkbogioaaGreat
namespace Go.Proofs.YtnhcjadkbogioaaGreat
open Go Go.RowKit
theorem row_form {w : World} {base : Nat} {e : TypeId} {size n : Nat} {v : Value} {xs : List Value} (h : w.ownsRow base e size v n xs) : ∃ A c, v = .slice A n c := by
  rcases h.2 with ⟨rfl, h0⟩ | ⟨g, cap, cur, rfl, _⟩
  · exact ⟨none, 0, by rw [h0]⟩
  · exact ⟨_, _, rfl⟩
theorem row_sees {w : World} {base : Nat} {e : TypeId} {size n : Nat} {A : Option Addr} {c : Nat} {xs : List Value} (h : w.ownsRow base e size (.slice A n c) n xs) : Sees w w.heap.size A xs := fun hx => by
  rcases h.2 with ⟨hv, h0⟩ | ⟨g, cap, cur, hv, _, hh, _⟩
  · have := h.1
    rw [h0, Nat.zero_mul] at this
    omega
  have hA : A = some ⟨g, 0, none⟩ := by injection hv
  subst hA
  have hlt : g < w.heap.size := by
    rcases Nat.lt_or_ge g w.heap.size with h1 | h1
    · exact h1
    · rw [Array.getElem?_eq_none h1] at hh; cases hh
  exact ⟨g, 0, rfl, hlt, fun j hj => by
    have h1 := h.cells (g := g) rfl j _ (List.getElem?_eq_getElem hj)
    rw [add_at] at h1
    exact h1⟩
theorem row_later {w w' : World} {base : Nat} {e : TypeId} {size n : Nat} {v : Value} {xs : List Value} (h : w.ownsRow base e size v n xs) (hl : Below w.heap.size w w') : w'.ownsRow base e size v n xs :=
  World.ownsRow.kept h ⟨hl.os, hl.tape, hl.output, hl.size, fun q hq _ => hl.block q hq⟩ (by by_cases h : v.ownBlock = none; exact .inl h; exact .inr h)
theorem row_lower {w : World} {base base' : Nat} {e : TypeId} {size n : Nat} {v : Value} {xs : List Value} (h : w.ownsRow base e size v n xs) (hb : base' ≤ base) : w.ownsRow base' e size v n xs := by
  refine ⟨h.1, ?_⟩
  rcases h.2 with h' | ⟨g, cap, cur, h1, h2, h3⟩
  · exact .inl h'
  · exact .inr ⟨g, cap, cur, h1, Nat.le_trans hb h2, h3⟩
theorem row_lit (w : World) (base : Nat) (e : TypeId) (size n : Nat) (arr : Array Value) (hb : base ≤ w.heap.size) (hn : n ≤ maxLen) (hs : arr.size = n * size) : (w.alloc (.cells arr e)).ownsRow base e size (.slice (some ⟨w.heap.size, 0, none⟩) n n) n arr.toList := by
  refine ⟨by simpa using hs, .inr ⟨w.heap.size, n, arr, rfl, hb, heap_alloc_new w _, Nat.le_refl _, hn, hs, ?_⟩⟩
  rw [List.take_of_length_le]
  simp [hs]
theorem run_appk {P : Program} (w : World) (base : Nat) (t ty e : TypeId) (i : TypeInfo) (z : Value) (size bytes : Nat) (ht : P.underlying t = some (.slice e)) (hi : P.info? e = some i) (hz : i.zero = some z)
    (hsize : i.size = size) (hby : i.bytes = bytes) (hzs : z.cells.size = size) (hpos : 0 < size) (v : Value) (n : Nat) (xs : List Value) (hown : w.ownsRow base e size v n xs)
    (B : Nat) (A : Option Addr) (m c : Nat) (news : List Value) (hl : news.length = m * size) (hs : Sees w B A news) (h1 : ∀ u ∈ news, u.oneCell' = true)
    (h63 : n + m ≤ maxLen) (hbytes : (n + m) * bytes ≤ 140737488355328) (hbase : base ≤ w.heap.size) :
    ∃ A' c' w', (Builtin.append_ #[t, t] ty #[v, .slice A m c]).run P w = .ok (.slice A' (n + m) c') w' ∧ w'.ownsRow base e size (.slice A' (n + m) c') (n + m) (xs ++ news) ∧
      w.grownBy w' v.ownBlock ∧ ((Value.slice A' (n + m) c').ownBlock = v.ownBlock ∨ (Value.slice A' (n + m) c').ownBlock = some w.heap.size) := by
  obtain ⟨A0, c0, hv⟩ := row_form hown
  rcases A with _ | ad
  · have hn : news = [] := by
      rcases news with _ | ⟨x, l⟩
      · rfl
      · obtain ⟨b, o, h, _⟩ := hs (by simp)
        cases h
    subst hn
    obtain rfl : m = 0 := by
      rcases Nat.eq_zero_or_pos m with h | h
      · exact h
      · have := Nat.mul_pos h hpos
        simp at hl
        omega
    subst hv
    refine ⟨A0, c0, w, ?_, by simpa using hown, World.grownBy.refl w _, .inl (by simp)⟩
    rcases hown.2 with ⟨hv0, h0⟩ | ⟨g, cap, cur, hv0, _, _, hnc, _⟩
    · injection hv0 with h1' h2' h3'
      subst h1' h3'
      simp [Builtin.append_, run_underlying ht, sizeOf, typeInfo, hi, Builtin.lenOf, Builtin.firstCells, h0]
    · injection hv0 with h1' h2' h3'
      subst h1' h3'
      simp [Builtin.append_, run_underlying ht, sizeOf, typeInfo, hi, Builtin.lenOf, Builtin.firstCells, hnc, storeCells]
  · have hcells : ∀ j u, news[j]? = some u → w.cell? (ad.add j) = some u := by
      intro j u hu
      have hj : j < news.length := by
        rcases Nat.lt_or_ge j news.length with h | h
        · exact h
        · rw [List.getElem?_eq_none h] at hu; cases hu
      obtain ⟨b, o, h, _, hc⟩ := hs (by omega)
      injection h with h
      subst h
      rw [add_at, hc j hj, ← hu, List.getElem?_eq_getElem hj]
    obtain ⟨v', w', hrun, h2, h3, _, h5⟩ := run_append_own_at (P := P) w base t ty e i z size bytes ht hi hz hsize hby hzs hpos v n xs hown ad m c news hl hcells h1 h63 hbytes hbase
    obtain ⟨A', c', hv'⟩ := row_form h2
    subst hv'
    exact ⟨A', c', w', hrun, h2, h3, h5⟩
theorem wpList_appk {P : Program} (w : World) {ops : Array Oper} {rest : List Oper} {o : Oper} {a : Act} {Q : Exit → Act → World → Prop} (hgd : o.guard = none) (s x : Operand) (t : TypeId)
    (ho : o.op = .call { callee := .builtin .append, args := #[s, x], argTypes := #[t, t] })
    (base : Nat) (e : TypeId) (i : TypeInfo) (z : Value) (size bytes : Nat) (ht : P.underlying t = some (.slice e)) (hi : P.info? e = some i) (hz : i.zero = some z)
    (hsize : i.size = size) (hby : i.bytes = bytes) (hzs : z.cells.size = size) (hpos : 0 < size) (v : Value) (n : Nat) (xs : List Value) (hv : a.eval s = v) (hown : w.ownsRow base e size v n xs)
    (B : Nat) (A : Option Addr) (c : Nat) (news : List Value) (m : Nat) (hx : a.eval x = .slice A m c) (hn : news.length = m * size) (hs : Sees w B A news) (h1 : ∀ u ∈ news, u.oneCell' = true)
    (h63 : n + m ≤ maxLen) (hbytes : (n + m) * bytes ≤ 140737488355328) (hbase : base ≤ w.heap.size)
    (h : ∀ A' c' w', w'.ownsRow base e size (.slice A' (n + m) c') (n + m) (xs ++ news) → Below base w w' → w.grownBy w' v.ownBlock →
      ((Value.slice A' (n + m) c').ownBlock = v.ownBlock ∨ (Value.slice A' (n + m) c').ownBlock = some w.heap.size) →
      wpList P ops Q rest (a.put o.dst (.slice A' (n + m) c')) w') : wpList P ops Q (o :: rest) a w := by
  refine wpList_plain hgd fun K hK => ?_
  obtain ⟨A', c', w', hrun, h2, h3, h4⟩ := run_appk (P := P) w base t o.type e i z size bytes ht hi hz hsize hby hzs hpos v n xs hown B A m c news hn hs h1 h63 hbytes hbase
  unfold Oper.wp execOp
  simp only [ho, resolve, invoke, builtin, Sem.run_bind, Sem.run_pure, Result.andThen_ok, List.map_toArray, List.map_cons, List.map_nil, hv, hx, hrun]
  exact hK _ _ (h A' c' w' h2 ((Below.refl _ _).grown h3 hbase (fun k hk => (hown.lt k hk).1)) h3 h4)
theorem cutk_fact {P : Program} (t e : TypeId) (i : TypeInfo) (size : Nat) (ht : P.underlying t = some (.slice e)) (hi : P.info? e = some i) (hsz : i.size = size) {w : World} {B : Nat} {A : Option Addr} {xs : List Value} (h : Sees w B A xs)
    (n k m c : Nat) (K H : Int) (kl kh : IntKind) (hn : xs.length = n * size) (hkm : k + m ≤ n) (hK : K = (k : Int)) (hH : H = ((k + m : Nat) : Int)) (hc : n ≤ c) :
    ∃ A2, (∀ wx, (Instr.slice t (.slice A n c) (some (.int kl K)) (some (.int kh H)) none).run P wx = .ok (.slice A2 m (c - k)) wx) ∧ Sees w B A2 ((xs.drop (k * size)).take (m * size)) := by
  refine ⟨if c = k then A else A.map (·.add (k * size)), fun wx => ?_, ?_⟩
  · have he : P.elem t = e := by simp [Program.elem, ht]
    have ht' : P.underlying t = some (.slice (P.elem t)) := by rw [he]; exact ht
    rw [run_slice_lh wx t A n c ht' kl kh K H (by omega) (by omega) (by omega), he]
    simp [sizeOf, typeInfo, hi, hsz, sliced, hK, hH]
    try omega
  · intro hx
    rw [List.length_take, List.length_drop] at hx
    have hm : 0 < m := by
      rcases Nat.eq_zero_or_pos m with h0 | h0
      · rw [h0, Nat.zero_mul] at hx; simp at hx
      · exact h0
    obtain ⟨b, o, rfl, hb, hcell⟩ := h (by omega)
    rw [if_neg (by omega)]
    refine ⟨b, o + k * size, by simp [Addr.add], hb, fun j hj => ?_⟩
    rw [List.length_take, List.length_drop] at hj
    rw [Nat.add_assoc, hcell (k * size + j) (by omega)]
    simp
end Go.Proofs.YtnhcjadkbogioaaGreat
