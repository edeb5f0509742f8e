/- A region that draws its order, whose calls make memory, walked once, in the order of the text: what an operation leaves in its slot stays known in later worlds. -/
import Derived.Deep.Quiet
import Derived.Below
import Derived.Test.YtcdmbidggikmfaaD1
import Derived.Lib.SmallJoins
import Derived.Deep.Strs
import Derived.Laws.StructEq
import Derived.Deep.RegionLaw
import Derived.ArgAppend
import Derived.StillTail
import Derived.Laws.IdiomCopy
import Derived.Lib.AppendZerosOnto
namespace Go.Proofs.Ytcdmbidggikmfaa
open Go Go.RowKit

/-- w' has all that w had, as it was. -/
def Le (w w' : World) : Prop := Below w.heap.size w w'
theorem Le.refl (w : World) : Le w w := Below.refl _ _
theorem Le.trans {a b c : World} (h : Le a b) (k : Le b c) : Le a c := Below.trans h (Below.mono k h.size)

/-- What is known of an open slot: it stays known in later worlds. -/
structure Rel where
  rel : Value → World → Prop
  mono : ∀ v w w', Le w w' → rel v w → rel v w'
  real : ∀ w, ¬ rel undef w

section
variable (P : Program) (ops : Array Oper) (md : Region.Mode) (G : Tmp → Option Rel) (w0 : World) (Qn : Act → World → Prop)

/-- What an operation may lean on: a later world, and what is known of the open slots that it reads. -/
def LeanOn (o : Oper) (a : Act) (w : World) : Prop :=
  Le w0 w ∧ ∀ d R, Operand.tmp d ∈ o.op.operands → G d = some R → a.eval (.tmp d) ≠ undef → R.rel (a.eval (.tmp d)) w

def givesUpon (R : Value → World → Prop) (w : World) : Result Next → Prop
  | .ok (.value u) w' => Le w w' ∧ R u w'
  | .ok .skip w' => Le w w' ∧ R undef w'
  | .ok (.enter f args) w' => Le w w' ∧ Calls P f args w' (fun e w'' => ∃ v, e = .returned v ∧ Le w' w'' ∧ R v w'')
  | _ => False
def gives (o : Oper) (a : Act) (R : Value → World → Prop) (w : World) : Prop := givesUpon P R w ((execOp a.eval o).run P w)

def firmUpon (v : Value) (w : World) : Result Next → Prop
  | .ok (.value u) w' => Le w w' ∧ u = v
  | .ok .skip w' => Le w w' ∧ v = undef
  | .ok (.enter f args) w' => Le w w' ∧ P.inits.idxOf? f = none ∧ Calls P f args w' (fun e w'' => e = .returned v ∧ Le w' w'')
  | _ => False
def firmAt (o : Oper) (a : Act) (v : Value) (w : World) : Prop := firmUpon P v w ((execOp a.eval o).run P w)

theorem steps_stuck {m m' : Machine} (h : Steps P m m') (hs : ∀ x, step P m ≠ .next x) : m = m' := by
  obtain ⟨n, hn⟩ := h
  cases n with
  | zero => simpa [runN] using hn
  | succ n =>
    cases hx : step P m with
    | next x => exact absurd hx (hs _)
    | ended o w => simp only [runN, hx] at hn; cases hn
theorem steps_det {m a b : Machine} (h : Steps P m a) (k : Steps P m b) (ha : ∀ x, step P a ≠ .next x) (hb : ∀ x, step P b ≠ .next x) : a = b := by
  obtain ⟨n, hn⟩ := h
  induction n generalizing m with
  | zero =>
    simp [runN] at hn
    subst hn
    exact steps_stuck P k ha
  | succ n ih =>
    obtain ⟨j, hj⟩ := k
    cases j with
    | zero =>
      simp [runN] at hj
      subst hj
      exact (steps_stuck P ⟨_, hn⟩ hb).symm
    | succ j =>
      simp only [runN] at hn hj
      cases hs : step P m with
      | next x =>
        rw [hs] at hn hj
        exact ih ⟨j, hj⟩ hn
      | ended o w => rw [hs] at hn; cases hn
theorem calls_same {f : FuncId} {args : Array Value} {w : World} {v u : Value} {A B : World → Prop} (hf : P.inits.idxOf? f = none)
    (h : Calls P f args w fun e w' => e = .returned v ∧ A w') (k : Calls P f args w fun e w' => e = .returned u ∧ B w') : v = u := by
  obtain ⟨e, w1, fr1, ⟨rfl, _⟩, hs, hfn, hl⟩ := h []
  obtain ⟨e, w2, fr2, ⟨rfl, _⟩, ks, kfn, kl⟩ := k []
  have h1 := step_leave_done hl (by rw [hfn]; exact hf)
  have k1 := step_leave_done kl (by rw [kfn]; exact hf)
  have he := steps_det P (hs : Steps P _ _) (ks : Steps P _ _) (by intro x hx; rw [h1] at hx; cases hx) (by intro x hx; rw [k1] at hx; cases hx)
  rw [he, k1] at h1
  injection h1 with h1 _
  injection h1 with h1
  exact h1.symm

theorem firmAt_gives {o : Oper} {a : Act} {v : Value} {w : World} (h : firmAt P o a v w) : gives P o a (fun u _ => u = v) w := by
  unfold firmAt at h
  unfold gives
  generalize (execOp a.eval o).run P w = r at *
  cases r with
  | ok n w' =>
    cases n <;> simp only [firmUpon] at h <;> simp only [givesUpon]
    case value u => exact h
    case skip => exact ⟨h.1, h.2.symm⟩
    case enter f args => exact ⟨h.1, h.2.2.mono fun e w'' ⟨he, hl⟩ => ⟨v, he, hl, rfl⟩⟩
  | halt x w' => simp only [firmUpon] at h
theorem firmAt_same {o : Oper} {a : Act} {v u : Value} {w : World} (h : firmAt P o a v w) (k : firmAt P o a u w) : v = u := by
  unfold firmAt at *
  generalize (execOp a.eval o).run P w = r at *
  cases r with
  | ok n w' =>
    cases n <;> simp only [firmUpon] at h k
    case value x => exact h.2.symm.trans k.2
    case skip => exact h.2.trans k.2.symm
    case enter f args => exact calls_same P h.2.1 h.2.2 k.2.2
  | halt x w' => simp only [firmUpon] at h

open Classical in
/-- The value of a firm operation. -/
noncomputable def valOf (o : Oper) (a : Act) : Value := if h : ∃ v, ∀ w, LeanOn G w0 o a w → firmAt P o a v w then Classical.choose h else undef
theorem valOf_firm {o : Oper} {a : Act} {v : Value} (h : ∀ w, LeanOn G w0 o a w → firmAt P o a v w) (w : World) (hw : LeanOn G w0 o a w) : firmAt P o a (valOf P G w0 o a) w := by
  have hx : ∃ v, ∀ w, LeanOn G w0 o a w → firmAt P o a v w := ⟨v, h⟩
  unfold valOf
  rw [dif_pos hx]
  exact Classical.choose_spec hx w hw

/-- What an operation yields. -/
noncomputable def relOf (o : Oper) (a : Act) : Value → World → Prop := match o.dst.bind G with
  | some R => R.rel
  | none => fun u _ => u = valOf P G w0 o a

/-- What is known where these have come up. -/
def Inv (listed : Array Bool) (a : Act) (w : World) : Prop :=
  Le w0 w ∧ ∀ k o d R, ops[k]? = some o → listed.getD k false = true → o.dst = some d → G d = some R → a.eval (.tmp d) ≠ undef → R.rel (a.eval (.tmp d)) w

/-- The values that an operation may have left. -/
def Poss (i : Nat) (listed : Array Bool) (o : Oper) (a : Act) (u : Value) : Prop :=
  (Region.wanted o (yielded ops a.tmps) = true ∧ (∃ w, Inv ops G w0 (listed.setIfInBounds i true) (a.put o.dst u) w) ∧ ∃ w, relOf P G w0 o a u w) ∨
  (Region.wanted o (yielded ops a.tmps) = false ∧ u = undef)

def gOp (i : Nat) (listed : Array Bool) (K : Act → Prop) (a : Act) : Prop :=
  ∀ o, ops[i]? = some o → (Region.wanted o (yielded ops a.tmps) = true → ∀ w, LeanOn G w0 o a w → gives P o a (relOf P G w0 o a) w) ∧ ∀ u, Poss P ops G w0 i listed o a u → K (a.put o.dst u)

def wpAnyG : Nat → Array Bool → Act → Prop
  | 0, listed, a => Region.ready md ops listed = [] ∧ ∀ w, Inv ops G w0 listed a w → Qn a w
  | fuel + 1, listed, a => (Region.ready md ops listed = [] → ∀ w, Inv ops G w0 listed a w → Qn a w) ∧
      ∀ i ∈ Region.ready md ops listed, gOp P ops G w0 i listed (wpAnyG fuel (listed.setIfInBounds i true)) a

/-- Each open slot that is read is written by an operation that is waited for; no two write one slot. -/
structure Fed : Prop where
  fed : ∀ (i : Nat) (o : Oper) (d : Tmp), ops[i]? = some o → Operand.tmp d ∈ o.op.operands → (G d).isSome → ∃ (k : Nat) (ok : Oper), ops[k]? = some ok ∧ ok.dst = some d ∧ ∃ e ∈ o.after, Region.binds md e = true ∧ e.on = k
  one : ∀ (i j : Nat) (o p : Oper) (d : Tmp), ops[i]? = some o → ops[j]? = some p → o.dst = some d → p.dst = some d → i = j

variable {P ops md G w0 Qn}

theorem eval_put_ne {a : Act} {x : Option Tmp} {u : Value} {d : Tmp} (h : x ≠ some d) : (a.put x u).eval (.tmp d) = a.eval (.tmp d) :=
  Act.eval_put fun e he hd => h (by injection hd with hd; rw [he, hd])
theorem eval_put_self {a : Act} {u : Value} {d : Tmp} : (a.put (some d) u).eval (.tmp d) = u ∨ (a.put (some d) u).eval (.tmp d) = undef := by
  simp only [Act.put, Act.eval]
  by_cases h : d < a.tmps.size
  · left; simp [h]
  · right; simp [h]

theorem Inv.mono {listed : Array Bool} {a : Act} {w w' : World} (h : Inv ops G w0 listed a w) (hl : Le w w') : Inv ops G w0 listed a w' :=
  ⟨h.1.trans hl, fun k o d R ho hk hd hR hu => R.mono _ _ _ hl (h.2 k o d R ho hk hd hR hu)⟩
theorem Inv.lean (hF : Fed ops md G) {listed : Array Bool} {a : Act} {w : World} {i : Nat} {o : Oper} (hi : i ∈ Region.ready md ops listed) (ho : ops[i]? = some o) (h : Inv ops G w0 listed a w) : LeanOn G w0 o a w := by
  refine ⟨h.1, fun d R hd hR hu => ?_⟩
  obtain ⟨k, ok, hk, hkd, e, he, hb, rfl⟩ := hF.fed i o d ho hd (by rw [hR]; rfl)
  obtain ⟨_, o', ho', hall⟩ := mem_ready.1 hi
  rw [ho] at ho'
  injection ho' with ho'
  subst ho'
  exact h.2 e.on ok d R hk (hall e he hb) hkd hR hu
set_option linter.unusedVariables false in
theorem Inv.put (hF : Fed ops md G) {listed : Array Bool} {a : Act} {w : World} {i : Nat} {o : Oper} (ho : ops[i]? = some o) {u : Value} (h : Inv ops G w0 listed a w)
    (hu : ∀ d R, o.dst = some d → G d = some R → u ≠ undef → R.rel u w) : Inv ops G w0 (listed.setIfInBounds i true) (a.put o.dst u) w := by
  refine ⟨h.1, fun k p d R hk hl hd hR hne => ?_⟩
  by_cases hik : i = k
  · subst hik
    rw [ho] at hk
    injection hk with hk
    subst hk
    rw [hd] at hne ⊢
    rcases eval_put_self (a := a) (u := u) (d := d) with he | he
    · rw [he] at hne ⊢
      exact hu d R hd hR hne
    · exact absurd he hne
  · have hdd : o.dst ≠ some d := fun he => hik (hF.one i k o p d ho hk he hd)
    rw [eval_put_ne hdd] at hne ⊢
    rw [getD_set_ne false hik] at hl
    exact h.2 k p d R hk hl hd hR hne
theorem Inv.less (hF : Fed ops md G) {listed : Array Bool} {a : Act} {w : World} {i : Nat} {o : Oper} (ho : ops[i]? = some o) (hun : listed.getD i true = false) {u : Value}
    (h : Inv ops G w0 (listed.setIfInBounds i true) (a.put o.dst u) w) : Inv ops G w0 listed a w := by
  refine ⟨h.1, fun k p d R hk hl hd hR hne => ?_⟩
  have hik : i ≠ k := by
    rintro rfl
    have : listed.getD i true = true := by
      rcases Nat.lt_or_ge i listed.size with h' | h'
      · simp [h'] at hl ⊢; exact hl
      · simp [Array.getElem?_eq_none h'] at hl
    rw [hun] at this
    cases this
  have hdd : o.dst ≠ some d := fun he => hik (hF.one i k o p d ho hk he hd)
  have := h.2 k p d R hk (by rw [getD_set_ne false hik]; exact hl) hd hR (by rw [eval_put_ne hdd]; exact hne)
  rwa [eval_put_ne hdd] at this
theorem Inv.comm {listed : Array Bool} {a : Act} {w : World} {i j : Nat} {x y : Option Tmp} {v u : Value} (hij : i ≠ j) (hxy : ∀ d, x = some d → y ≠ some d)
    (h : Inv ops G w0 ((listed.setIfInBounds i true).setIfInBounds j true) ((a.put x v).put y u) w) : Inv ops G w0 ((listed.setIfInBounds j true).setIfInBounds i true) ((a.put y u).put x v) w := by
  rwa [Array.setIfInBounds_comm _ _ hij, Act.put_comm a v u hxy] at h

theorem rel_of {o : Oper} {a : Act} {u : Value} {w : World} (h : relOf P G w0 o a u w) (d : Tmp) (R : Rel) (hd : o.dst = some d) (hR : G d = some R) : R.rel u w := by
  unfold relOf at h
  simpa [hd, hR] using h
theorem gives_some {o : Oper} {a : Act} {R : Value → World → Prop} {w : World} (h : gives P o a R w) : ∃ u w', Le w w' ∧ R u w' := by
  unfold gives at h
  generalize (execOp a.eval o).run P w = r at *
  cases r with
  | ok n w' =>
    cases n <;> simp only [givesUpon] at h
    case value u => exact ⟨_, _, h⟩
    case skip => exact ⟨_, _, h⟩
    case enter f args =>
      obtain ⟨e, w1, fr, ⟨v, _, hl, hr⟩, _⟩ := h.2 []
      exact ⟨v, w1, h.1.trans hl, hr⟩
  | halt x w' => simp only [givesUpon] at h

theorem exists_poss (hF : Fed ops md G) {listed : Array Bool} {a : Act} {i : Nat} {o : Oper} (hi : i ∈ Region.ready md ops listed) (ho : ops[i]? = some o) (hne : ∃ w, Inv ops G w0 listed a w)
    (hg : Region.wanted o (yielded ops a.tmps) = true → ∀ w, LeanOn G w0 o a w → gives P o a (relOf P G w0 o a) w) :
    ∃ u, Poss P ops G w0 i listed o a u ∧ ∃ w, Inv ops G w0 (listed.setIfInBounds i true) (a.put o.dst u) w := by
  obtain ⟨w, hw⟩ := hne
  have hun := (mem_ready.1 hi).1
  by_cases hwt : Region.wanted o (yielded ops a.tmps) = true
  · obtain ⟨u, w', hl, hr⟩ := gives_some (hg hwt w (hw.lean hF hi ho))
    have hI := (hw.mono hl).put hF ho (u := u) (fun d R hd hR _ => rel_of hr d R hd hR)
    exact ⟨u, .inl ⟨hwt, ⟨w', hI⟩, ⟨w', hr⟩⟩, w', hI⟩
  · have hI := hw.put hF ho (u := undef) (fun d R hd hR h => absurd rfl h)
    exact ⟨undef, .inr ⟨by simpa using hwt, rfl⟩, w, hI⟩

/-- Two states that look alike to an operation. -/
structure Alike (ops : Array Oper) (o : Oper) (a a' : Act) : Prop where
  exec : execOp a'.eval o = execOp a.eval o
  eval : ∀ d, Operand.tmp d ∈ o.op.operands → a'.eval (.tmp d) = a.eval (.tmp d)
  want : Region.wanted o (yielded ops a'.tmps) = Region.wanted o (yielded ops a.tmps)
theorem Alike.symm {o : Oper} {a a' : Act} (h : Alike ops o a a') : Alike ops o a' a := ⟨h.exec.symm, fun d hd => (h.eval d hd).symm, h.want.symm⟩
theorem Alike.lean {o : Oper} {a a' : Act} (h : Alike ops o a a') {w : World} (hw : LeanOn G w0 o a' w) : LeanOn G w0 o a w :=
  ⟨hw.1, fun d R hd hR hu => by
    have := hw.2 d R hd hR (by rw [h.eval d hd]; exact hu)
    rwa [h.eval d hd] at this⟩
theorem Alike.lean_eq {o : Oper} {a a' : Act} (h : Alike ops o a a') : LeanOn G w0 o a' = LeanOn G w0 o a := funext fun _ => propext ⟨fun hw => h.lean hw, fun hw => h.symm.lean hw⟩
theorem Alike.val {o : Oper} {a a' : Act} (h : Alike ops o a a') : valOf P G w0 o a' = valOf P G w0 o a := by
  unfold valOf firmAt
  rw [h.lean_eq, h.exec]
theorem Alike.rel {o : Oper} {a a' : Act} (h : Alike ops o a a') : relOf P G w0 o a' = relOf P G w0 o a := by
  unfold relOf
  rw [h.val]
theorem Alike.gives {o : Oper} {a a' : Act} (h : Alike ops o a a') {w : World} (hg : Go.Proofs.Ytcdmbidggikmfaa.gives P o a' (relOf P G w0 o a') w) : Go.Proofs.Ytcdmbidggikmfaa.gives P o a (relOf P G w0 o a) w := by
  unfold Go.Proofs.Ytcdmbidggikmfaa.gives at *
  rwa [h.rel, h.exec] at hg
theorem alike_put {o : Oper} {a : Act} {x : Option Tmp} {v : Value} (hs : ∀ cs b, o.op ≠ .select cs b) (h : ∀ d, x = some d → d ∉ o.looksAt ops) : Alike ops o a (a.put x v) :=
  ⟨execOp_put o hs a x v h, fun d hd => eval_put_ne fun e => h d e (List.mem_append_left _ (List.mem_filterMap.2 ⟨.tmp d, by simpa using hd, rfl⟩)), wanted_put o a x v h⟩

/-- An operation that may come up now may be taken first. -/
theorem wpAnyG_first (hF : Fed ops md G) {i : Nat} {oi : Oper} (hi : ops[i]? = some oi) (hsel : ∀ (j : Nat) (o : Oper) cs b, ops[j]? = some o → o.op ≠ .select cs b) :
    ∀ (fuel : Nat) (listed : Array Bool) (a : Act),
      (∀ j oj, ops[j]? = some oj → j ≠ i → listed.getD j true = false → (∀ e ∈ oj.after, Region.binds md e = true → e.on ≠ i) → oi.apart ops oj = true) →
      i ∈ Region.ready md ops listed → (∃ w, Inv ops G w0 listed a w) →
      gOp P ops G w0 i listed (wpAnyG P ops md G w0 Qn fuel (listed.setIfInBounds i true)) a → wpAnyG P ops md G w0 Qn (fuel + 1) listed a := by
  intro fuel
  induction fuel with
  | zero =>
    intro listed a _ hr hne H
    refine ⟨fun h => (by rw [h] at hr; cases hr), fun j hj => ?_⟩
    by_cases hji : j = i
    · subst hji; exact H
    · obtain ⟨u, hp, _⟩ := exists_poss hF hr hi hne (H oi hi).1
      have h1 := ((H oi hi).2 u hp).1
      have := ready_mono hj hji
      rw [h1] at this
      cases this
  | succ fuel ih =>
    intro listed a hfree hr hne H
    refine ⟨fun h => (by rw [h] at hr; cases hr), fun j hj => ?_⟩
    by_cases hji : j = i
    · subst hji; exact H
    obtain ⟨hgi, hnext⟩ := H oi hi
    obtain ⟨v0, hp0, _⟩ := exists_poss hF hr hi hne hgi
    obtain ⟨hjun, oj', hoj', hall⟩ := mem_ready.1 hj
    have hiun := (mem_ready.1 hr).1
    have hnot : ∀ e ∈ oj'.after, Region.binds md e = true → e.on ≠ i := fun e he hb heq => by
      have h1 := hall e he hb
      have h0 := hiun
      rw [heq] at h1
      rcases Nat.lt_or_ge i listed.size with h' | h'
      · simp [h'] at h0 h1; rw [h0] at h1; cases h1
      · simp [Array.getElem?_eq_none h'] at h1
    intro oj hoj
    obtain rfl : oj' = oj := by rw [hoj] at hoj'; injection hoj' with h; exact h.symm
    have hap := hfree j oj' hoj hji hjun hnot
    obtain ⟨p1, p2, p3⟩ := Oper.apart_spec hap
    have sj : ∀ v, Alike ops oj' a (a.put oi.dst v) := fun v => alike_put (fun cs b => hsel j oj' cs b hoj) p1
    have si : ∀ u, Alike ops oi a (a.put oj'.dst u) := fun u => alike_put (fun cs b => hsel i oi cs b hi) p3
    have hjr := ready_mono hj hji
    refine ⟨fun hwt w hw => ?_, fun u hu => ?_⟩
    · have h1 := (((hnext v0 hp0).2 j hjr) oj' hoj).1 (by rw [(sj v0).want]; exact hwt) w ((sj v0).symm.lean hw)
      exact (sj v0).gives h1
    · have hne' : ∃ w, Inv ops G w0 (listed.setIfInBounds j true) (a.put oj'.dst u) w := by
        rcases hu with ⟨_, h, _⟩ | ⟨_, rfl⟩
        · exact h
        · obtain ⟨w, hw⟩ := hne
          exact ⟨w, hw.put hF hoj (fun d R hd hR h => absurd rfl h)⟩
      have hiun' : (listed.setIfInBounds j true).getD i true = false := by rw [getD_set_ne true hji]; exact hiun
      have hfree' : ∀ k ok, ops[k]? = some ok → k ≠ i → (listed.setIfInBounds j true).getD k true = false →
          (∀ e ∈ ok.after, Region.binds md e = true → e.on ≠ i) → oi.apart ops ok = true := fun k ok hk hki hun hno => by
        refine hfree k ok hk hki ?_ hno
        by_cases hjk : j = k
        · subst hjk; exact hjun
        · rw [getD_set_ne true hjk] at hun; exact hun
      refine ih (listed.setIfInBounds j true) (a.put oj'.dst u) hfree' (ready_mono hr (Ne.symm hji)) hne' ?_
      intro oi' hoi'
      obtain rfl : oi = oi' := by rw [hi] at hoi'; injection hoi' with h
      refine ⟨fun hwt w hw => ?_, fun v hv => ?_⟩
      · exact (si u).symm.gives (hgi (by rw [← (si u).want]; exact hwt) w ((si u).lean hw))
      · have hI : ∃ w, Inv ops G w0 ((listed.setIfInBounds i true).setIfInBounds j true) ((a.put oi.dst v).put oj'.dst u) w := by
          rcases hv with ⟨_, ⟨w, hw⟩, _⟩ | ⟨_, rfl⟩
          · exact ⟨w, hw.comm hji (fun d hd he => p2 d he hd)⟩
          · obtain ⟨w, hw⟩ := hne'
            exact ⟨w, (hw.put hF hi (fun d R hd hR h => absurd rfl h)).comm hji (fun d hd he => p2 d he hd)⟩
        have hpi : Poss P ops G w0 i listed oi a v := by
          rcases hv with ⟨h1, _, w2, h2⟩ | ⟨h1, h2⟩
          · refine .inl ⟨by rw [← (si u).want]; exact h1, ?_, w2, by rw [← (si u).rel]; exact h2⟩
            obtain ⟨w, hw⟩ := hI
            exact ⟨w, hw.less hF hoj (by rw [getD_set_ne true (Ne.symm hji)]; exact hjun)⟩
          · exact .inr ⟨by rw [← (si u).want]; exact h1, h2⟩
        have hk := ((hnext v hpi).2 j hjr oj' hoj).2 u (by
          rcases hu with ⟨h1, _, w2, h2⟩ | ⟨h1, h2⟩
          · exact .inl ⟨by rw [(sj v).want]; exact h1, hI, w2, by rw [(sj v).rel]; exact h2⟩
          · exact .inr ⟨by rw [(sj v).want]; exact h1, h2⟩)
        rw [Array.setIfInBounds_comm _ _ hji, Act.put_comm a u v (fun d hd he => p2 d he hd)]
        exact hk

theorem wpAny_of_G {Q : Exit → Act → World → Prop} (hF : Fed ops md G) (hQ : ∀ a w, Qn a w → Q .normal a w) : ∀ (fuel : Nat) (listed : Array Bool) (a : Act) (w : World), Inv ops G w0 listed a w →
    wpAnyG P ops md G w0 Qn fuel listed a → wpAny P md ops Q fuel listed a w
  | 0, _, _, w, hw, h => ⟨h.1, hQ _ _ (h.2 w hw)⟩
  | fuel + 1, listed, a, w, hw, h => ⟨fun h0 => hQ _ _ (h.1 h0 w hw), fun i hi => by
      obtain ⟨hun, o, ho, _⟩ := mem_ready.1 hi
      obtain ⟨hg, hn⟩ := h.2 i hi o ho
      unfold wpOp
      simp only [ho]
      by_cases hwt : Region.wanted o (yielded ops a.tmps) = true
      · simp only [hwt, if_true]
        left
        have h1 := hg hwt w (hw.lean hF hi ho)
        have next : ∀ u w', Le w w' → relOf P G w0 o a u w' → wpAny P md ops Q fuel (listed.setIfInBounds i true) (a.put o.dst u) w' := fun u w' hl hr => by
          have hI := (hw.mono hl).put hF ho (u := u) (fun d R hd hR _ => rel_of hr d R hd hR)
          exact wpAny_of_G hF hQ fuel _ _ w' hI (hn u (.inl ⟨hwt, ⟨w', hI⟩, ⟨w', hr⟩⟩))
        unfold gives at h1
        unfold Oper.wp
        generalize (execOp a.eval o).run P w = r at *
        cases r with
        | ok n w' =>
          cases n <;> simp only [givesUpon] at h1 <;> simp only [Oper.upon]
          case value u => exact next _ _ h1.1 h1.2
          case skip => exact next _ _ h1.1 h1.2
          case enter f args => exact h1.2.mono fun e w'' ⟨v, he, hl, hr⟩ => by subst he; exact next _ _ (h1.1.trans hl) hr
        | halt x w' => simp only [givesUpon] at h1
      · simp only [hwt]
        exact wpAny_of_G hF hQ fuel _ _ w (hw.put hF ho (fun d R hd hR h => absurd rfl h)) (hn undef (.inr ⟨by simpa using hwt, rfl⟩))⟩

/-- The walk in the order of the text. -/
def wpG (P : Program) (ops : Array Oper) (G : Tmp → Option Rel) (w0 : World) (Qn : Act → World → Prop) : List Oper → Act → (World → Prop) → Prop
  | [], a, S => ∀ w, Le w0 w → S w → Qn a w
  | o :: rest, a, S => if Region.wanted o (yielded ops a.tmps) then
      match o.dst.bind G with
      | some R => (∀ w, LeanOn G w0 o a w → gives P o a R.rel w) ∧ ∀ u, (∃ w, Le w0 w ∧ S w ∧ R.rel u w) → wpG P ops G w0 Qn rest (a.put o.dst u) (fun w => S w ∧ R.rel u w)
      | none => ∃ v, (∀ w, LeanOn G w0 o a w → firmAt P o a v w) ∧ wpG P ops G w0 Qn rest (a.put o.dst v) S
    else wpG P ops G w0 Qn rest (a.put o.dst undef) S

theorem put_size (a : Act) (x : Option Tmp) (v : Value) : (a.put x v).tmps.size = a.tmps.size := by cases x <;> simp [Act.put]

theorem wpAnyG_lex (hF : Fed ops md G) (hs : Region.noSelect ops = true) (n : Nat) (hd : ∀ o ∈ ops, ∀ d, o.dst = some d → d < n) : ∀ (l : List Oper) (k : Nat) (listed : Array Bool) (a : Act) (S : World → Prop), (∀ j, l[j]? = ops[k + j]?) →
    Region.lexFrom md ops l.length k listed = true → a.tmps.size = n → (∃ w, Inv ops G w0 listed a w) → (∀ w, Inv ops G w0 listed a w → S w) → wpG P ops G w0 Qn l a S → wpAnyG P ops md G w0 Qn l.length listed a
  | [], _, _, _, _, _, hB, _, _, hS, h => ⟨by simpa [Region.lexFrom] using hB, fun w hw => h w hw.1 (hS w hw)⟩
  | o :: l, k, listed, a, S, hl, hB, hn, hne, hS, h => by
    have h0 : ops[k]? = some o := by simpa using (hl 0).symm
    simp only [List.length_cons, Region.lexFrom, Bool.and_eq_true] at hB
    obtain ⟨⟨hr, hf⟩, hB'⟩ := hB
    have hrd : k ∈ Region.ready md ops listed := by simpa using hr
    have hun := (mem_ready.1 hrd).1
    have hl' : ∀ j, l[j]? = ops[k + 1 + j]? := fun j => by have := hl (j + 1); simpa [Nat.add_assoc, Nat.add_comm 1 j] using this
    refine wpAnyG_first hF h0 (Region.noSelect_spec hs) l.length listed a (Region.free_spec h0 hf) hrd hne ?_
    intro o' ho'
    obtain rfl : o = o' := by rw [h0] at ho'; injection ho' with h
    unfold wpG at h
    by_cases hwt : Region.wanted o (yielded ops a.tmps) = true
    · simp only [hwt, if_true] at h
      cases hb : o.dst.bind G with
      | some R =>
        simp only [hb] at h
        have hrel : relOf P G w0 o a = R.rel := by unfold relOf; rw [hb]
        obtain ⟨d, hod, hGd⟩ := Option.bind_eq_some_iff.1 hb
        refine ⟨fun _ w hw => by rw [hrel]; exact h.1 w hw, fun u hu => ?_⟩
        rcases hu with ⟨_, ⟨w1, hI⟩, w2, hr2⟩ | ⟨hw', _⟩
        · rw [hrel] at hr2
          have hreal : u ≠ undef := fun e => R.real w2 (e ▸ hr2)
          have hlt : d < a.tmps.size := by rw [hn]; exact hd o (Array.mem_of_getElem? h0) d hod
          have hev : (a.put o.dst u).eval (.tmp d) = u := by rw [hod]; simp [Act.put, Act.eval, hlt]
          have hS' : ∀ w, Inv ops G w0 (listed.setIfInBounds k true) (a.put o.dst u) w → S w ∧ R.rel u w := fun w hw => by
            refine ⟨hS w (hw.less hF h0 hun), ?_⟩
            have hls : (listed.setIfInBounds k true).getD k false = true := by
              rcases Nat.lt_or_ge k listed.size with h' | h'
              · simp [h']
              · simp [Array.getElem?_eq_none h'] at hun
            have := hw.2 k o d R h0 hls hod hGd (by rw [hev]; exact hreal)
            rwa [hev] at this
          exact wpAnyG_lex hF hs n hd l (k + 1) _ _ _ hl' hB' (by rw [put_size]; exact hn) ⟨w1, hI⟩ hS' (h.2 u ⟨w1, hI.1, (hS' w1 hI).1, (hS' w1 hI).2⟩)
        · rw [hwt] at hw'; cases hw'
      | none =>
        simp only [hb] at h
        obtain ⟨v, hv, hrest⟩ := h
        have hrel : relOf P G w0 o a = fun u _ => u = valOf P G w0 o a := by unfold relOf; rw [hb]
        have hval : valOf P G w0 o a = v := by
          obtain ⟨w, hw⟩ := hne
          have hlw := hw.lean hF hrd h0
          exact firmAt_same P (valOf_firm P G w0 hv w hlw) (hv w hlw)
        refine ⟨fun _ w hw => by rw [hrel]; exact firmAt_gives P (valOf_firm P G w0 hv w hw), fun u hu => ?_⟩
        rcases hu with ⟨_, hI, w2, hr2⟩ | ⟨hw', _⟩
        · rw [hrel, hval] at hr2
          subst hr2
          exact wpAnyG_lex hF hs n hd l (k + 1) _ _ S hl' hB' (by rw [put_size]; exact hn) hI (fun w hw => hS w (hw.less hF h0 hun)) hrest
        · rw [hwt] at hw'; cases hw'
    · simp only [hwt] at h
      refine ⟨fun hw' => absurd hw' hwt, fun u hu => ?_⟩
      rcases hu with ⟨hw', _⟩ | ⟨_, rfl⟩
      · exact absurd hw' hwt
      · obtain ⟨w, hw⟩ := hne
        have hI := hw.put hF h0 (u := undef) (fun d R hd hR h => absurd rfl h)
        exact wpAnyG_lex hF hs n hd l (k + 1) _ _ S hl' hB' (by rw [put_size]; exact hn) ⟨w, hI⟩ (fun w hw => hS w (hw.less hF h0 hun)) h

/-- The open slots by their numbers. -/
def openOf (l : List (Tmp × Rel)) : Tmp → Option Rel := fun d => l.lookup d

/-- What is asked of a region's text. -/
def fedB (ops : List Oper) (ds : List Tmp) (n : Nat) : Bool :=
  (List.range ops.length).all fun i => match ops[i]? with
    | none => true
    | some o => (o.op.operands.toList.all fun x => match x with
        | .tmp d => !ds.contains d || o.after.any (fun e => Region.binds .any e && ((ops[e.on]?).bind (·.dst) == some d))
        | _ => true) && (match o.dst with
        | some d => decide (d < n) && (List.range ops.length).all fun j => j == i || ((ops[j]?).bind (·.dst) != some d)
        | none => true)
theorem lookup_in : ∀ (g : List (Tmp × Rel)) (d : Tmp), (openOf g d).isSome → (g.map (·.1)).contains d = true
  | [], d, h => by simp [openOf] at h
  | x :: g, d, h => by
    unfold openOf at h
    rw [List.lookup_cons] at h
    by_cases hx : (d == x.1) = true
    · simp at hx; simp [hx]
    · simp only [hx] at h
      have := lookup_in g d h
      simp at this ⊢
      exact .inr this
theorem fedB_fed {l : List Oper} {g : List (Tmp × Rel)} {n : Nat} (h : fedB l (g.map (·.1)) n = true) : Fed l.toArray .any (openOf g) ∧ ∀ o ∈ l.toArray, ∀ d, o.dst = some d → d < n := by
  unfold fedB at h
  rw [List.all_eq_true] at h
  have each : ∀ (i : Nat) (o : Oper), l[i]? = some o → (o.op.operands.toList.all fun x => match x with
        | .tmp d => !(g.map (·.1)).contains d || o.after.any (fun e => Region.binds .any e && ((l[e.on]?).bind (·.dst) == some d))
        | _ => true) = true ∧ (match o.dst with
        | some d => decide (d < n) && (List.range l.length).all fun j => j == i || ((l[j]?).bind (·.dst) != some d)
        | none => true) = true := fun i o ho => by
    have hlt : i < l.length := by
      rcases Nat.lt_or_ge i l.length with h' | h'
      · exact h'
      · rw [List.getElem?_eq_none h'] at ho; cases ho
    have := h i (List.mem_range.2 hlt)
    simp only [ho, Bool.and_eq_true] at this
    exact this
  refine ⟨⟨fun i o d ho hd hG => ?_, fun i j o p d ho hp hod hpd => ?_⟩, fun o ho d hd => ?_⟩
  · rw [List.getElem?_toArray] at ho
    have h1 := (each i o ho).1
    rw [List.all_eq_true] at h1
    have h2 := h1 (.tmp d) (by simpa using hd)
    simp only [Bool.or_eq_true, Bool.not_eq_true'] at h2
    have hin : (g.map (·.1)).contains d = true := by
      exact lookup_in g d hG
    rcases h2 with h2 | h2
    · rw [hin] at h2; cases h2
    · obtain ⟨e, he, hb⟩ := Array.any_eq_true'.1 h2
      simp only [Bool.and_eq_true, beq_iff_eq] at hb
      obtain ⟨ok, hok, hokd⟩ := Option.bind_eq_some_iff.1 hb.2
      exact ⟨e.on, ok, by rw [List.getElem?_toArray]; exact hok, hokd, e, he, hb.1, rfl⟩
  · rw [List.getElem?_toArray] at ho hp
    have h1 := (each i o ho).2
    rw [hod] at h1
    simp only [Bool.and_eq_true, List.all_eq_true] at h1
    have hlt : j < l.length := by
      rcases Nat.lt_or_ge j l.length with h' | h'
      · exact h'
      · rw [List.getElem?_eq_none h'] at hp; cases hp
    have h2 := h1.2 j (List.mem_range.2 hlt)
    simp only [Bool.or_eq_true, beq_iff_eq, hp, Option.bind_some, hpd, bne_self_eq_false, Bool.false_eq_true, or_false] at h2
    exact h2.symm
  · obtain ⟨i, hi, rfl⟩ := Array.mem_iff_getElem.1 ho
    have h1 := (each i _ (by rw [← List.getElem?_toArray]; exact Array.getElem?_eq_getElem hi)).2
    rw [hd] at h1
    simp only [Bool.and_eq_true, decide_eq_true_eq] at h1
    exact h1.1

/-- A region that draws its order, walked once. -/
theorem wp_region_steady {P : Program} {id : Nat} {Q : Exit → Act → World → Prop} {a : Act} {w : World} {l : List Oper} (g : List (Tmp × Rel)) (n : Nat) (hm : P.follows .mixedOrders = true) (hB : Region.lexB .any l.toArray = true)
    (hf : fedB l (g.map (·.1)) n = true) (hn : a.tmps.size = n) (h : wpG P l.toArray (openOf g) w (fun a' w' => Q .normal a' w') l a (fun _ => True)) : (Code.region id l.toArray true).wp P Q a w := by
  simp only [Region.lexB, Bool.and_eq_true] at hB
  obtain ⟨hF, hd⟩ := fedB_fed (n := n) hf
  have hI : ∀ w', Le w w' → Inv l.toArray (openOf g) w (Array.replicate l.toArray.size false) a w' := fun w' hl => ⟨hl, fun k o d R _ hk => by
    exfalso
    rw [Array.getD_eq_getD_getElem?, Array.getElem?_replicate] at hk
    split at hk <;> simp at hk⟩
  refine wp_region_any hm (wpAny_of_G (Qn := fun a' w' => Q .normal a' w') (w0 := w) hF (fun _ _ h => h) _ _ _ _ (hI { w with drawn := w.drawn + 1 } ((Below.refl _ _).drew)) ?_)
  have := wpAnyG_lex hF hB.1 n hd l 0 (Array.replicate l.toArray.size false) a (fun _ => True) (by simp) (by simpa using hB.2) hn ⟨_, hI w (Le.refl w)⟩ (fun _ _ => trivial) h
  simpa using this


/-! ### The steps of a walk -/

/-- Operations that enter no function. -/
def plainOp : Op → Bool
  | .call c => (match c.callee with | .builtin .len => true | .builtin .min => true | .builtin .max => true | .builtin .cap => true | _ => false)
  | .go _ => false
  | .defer _ => false
  | .send _ _ => false
  | .recv _ _ _ => false
  | .select _ _ => false
  | _ => true
theorem value_no_enter {P : Program} {w w' : World} {f : FuncId} {args : Array Value} (s : Sem Value) : (do pure (Next.value (← s)) : Sem Next).run P w ≠ .ok (.enter f args) w' := by
  simp only [Sem.run_bind, Sem.run_pure]
  cases s.run P w <;> simp [Result.andThen]
theorem unit_no_enter {P : Program} {w w' : World} {f : FuncId} {args : Array Value} (s : Sem Unit) : (do s; pure Next.skip : Sem Next).run P w ≠ .ok (.enter f args) w' := by
  simp only [Sem.run_bind, Sem.run_pure]
  cases s.run P w <;> simp [Result.andThen]
theorem and_no_enter {w' : World} {f : FuncId} {args : Array Value} (r : Result Value) : (r.andThen fun a w' => Result.ok (Next.value a) w') ≠ .ok (.enter f args) w' := by
  cases r <;> simp [Result.andThen]
theorem no_enter {P : Program} {ρ : Operand → Value} {o : Oper} {w w' : World} {f : FuncId} {args : Array Value} (h : plainOp o.op = true) : (execOp ρ o).run P w ≠ .ok (.enter f args) w' := by
  obtain ⟨dst, op, type, pos, after, guard⟩ := o
  cases op <;> simp only [plainOp, Bool.false_eq_true] at h <;> simp only [execOp]
  case move x => simp
  case assign x => simp
  case pick c a b =>
    simp only [Sem.run_bind, Sem.run_pure]
    cases (asBool (ρ c)).run P w <;> simp [Result.andThen]
  case nilCheck x =>
    split
    · simp [go_sem]
    · simp [go_sem]
    · simp [go_sem]
    · split
      · simp [go_sem]
      · simp only [Sem.run_bind]
        generalize (program).run P w = r
        cases r with
        | halt x w1 => simp
        | ok p w1 =>
          simp only [Result.andThen]
          generalize (nilAhead _ _ _ _).run P w1 = r
          cases r with
          | halt x w1 => simp
          | ok p w1 =>
            dsimp only
            split <;> simp [go_sem]
      · simp
    · simp
  case call c =>
    simp only [resolve]
    cases hc : c.callee <;> simp only [hc] at h
    case builtin b =>
      cases b <;> simp only [Bool.false_eq_true] at h <;> simp only [Sem.run_bind, Sem.run_pure, Result.andThen_ok, invoke, builtin] <;> exact and_no_enter _
    all_goals cases h
  all_goals first | exact value_no_enter _ | exact unit_no_enter _

/-- The worlds behind w. -/
structure LW (w : World) where
  val : World
  le : Le w val
instance {w : World} : Nonempty (LW w) := ⟨⟨w, Le.refl w⟩⟩

section
variable {P : Program} {ops : Array Oper} {G : Tmp → Option Rel} {w0 : World} {Qn : Act → World → Prop} {o : Oper} {rest : List Oper} {a : Act} {S : World → Prop}

theorem wpG_nil (h : ∀ w, Le w0 w → S w → Qn a w) : wpG P ops G w0 Qn [] a S := h
theorem wpG_skip (hw : Region.wanted o (yielded ops a.tmps) = false) (h : wpG P ops G w0 Qn rest (a.put o.dst undef) S) : wpG P ops G w0 Qn (o :: rest) a S := by
  unfold wpG
  rw [if_neg (by rw [hw]; exact Bool.false_ne_true)]
  exact h
theorem wpG_firm (hw : Region.wanted o (yielded ops a.tmps) = true) (hb : o.dst.bind G = none) (v : Value) (h1 : ∀ w, LeanOn G w0 o a w → firmAt P o a v w) (h2 : wpG P ops G w0 Qn rest (a.put o.dst v) S) : wpG P ops G w0 Qn (o :: rest) a S := by
  unfold wpG
  rw [if_pos hw, hb]
  exact ⟨v, h1, h2⟩
theorem wpG_open (R : Rel) (hw : Region.wanted o (yielded ops a.tmps) = true) (hb : o.dst.bind G = some R) (h1 : ∀ w, LeanOn G w0 o a w → gives P o a R.rel w)
    (h2 : ∀ u, (∃ w, Le w0 w ∧ S w ∧ R.rel u w) → wpG P ops G w0 Qn rest (a.put o.dst u) (fun w => S w ∧ R.rel u w)) : wpG P ops G w0 Qn (o :: rest) a S := by
  unfold wpG
  rw [if_pos hw, hb]
  exact ⟨h1, h2⟩
/-- A plain operation, by the steps of the quiet walk. -/
theorem wpG_quiet (hw : Region.wanted o (yielded ops a.tmps) = true) (hb : o.dst.bind G = none) (hp : plainOp o.op = true)
    (h : ∀ K : Act → Prop, (∀ a, wpG P ops G w0 Qn rest a S → K a) → o.quiet P a (fun w' => ∃ k : LW w0, w' = k.val) K) : wpG P ops G w0 Qn (o :: rest) a S := by
  obtain ⟨v, h1, h2⟩ := h _ (fun _ h => h)
  refine wpG_firm hw hb v (fun w hl => ?_) h2
  have := h1 w ⟨⟨w, hl.1⟩, rfl⟩
  unfold Oper.quietAt at this
  unfold firmAt
  have hne := fun f args w' => no_enter (P := P) (ρ := a.eval) (o := o) (w := w) (w' := w') (f := f) (args := args) hp
  generalize (execOp a.eval o).run P w = r at *
  cases r with
  | ok n w' =>
    cases n <;> simp only [Oper.quietUpon] at this <;> simp only [firmUpon]
    case value u => exact ⟨this.1 ▸ Le.refl w, this.2⟩
    case skip => exact ⟨this.1 ▸ Le.refl w, this.2⟩
    case enter f args => exact absurd rfl (hne f args w')
  | halt x w' => simp only [Oper.quietUpon] at this
/-- A call whose value is known. -/
theorem wpG_call (hw : Region.wanted o (yielded ops a.tmps) = true) (hb : o.dst.bind G = none) (f : FuncId) (args : Array Value) (v : Value) (hx : ∀ w, (execOp a.eval o).run P w = .ok (.enter f args) w) (hi : P.inits.idxOf? f = none)
    (h1 : ∀ w, LeanOn G w0 o a w → Calls P f args w fun e w' => e = .returned v ∧ Below w.heap.size w w') (h2 : wpG P ops G w0 Qn rest (a.put o.dst v) S) : wpG P ops G w0 Qn (o :: rest) a S :=
  wpG_firm hw hb v (fun w hl => by unfold firmAt; rw [hx w]; exact ⟨Le.refl w, hi, h1 w hl⟩) h2
/-- A call whose value lies in memory. -/
theorem wpG_calls (R : Rel) (hw : Region.wanted o (yielded ops a.tmps) = true) (hb : o.dst.bind G = some R) (f : FuncId) (args : Array Value) (hx : ∀ w, (execOp a.eval o).run P w = .ok (.enter f args) w)
    (h1 : ∀ w, LeanOn G w0 o a w → Calls P f args w fun e w' => ∃ v, e = .returned v ∧ Below w.heap.size w w' ∧ R.rel v w')
    (h2 : ∀ u, (∃ w, Le w0 w ∧ S w ∧ R.rel u w) → wpG P ops G w0 Qn rest (a.put o.dst u) (fun w => S w ∧ R.rel u w)) : wpG P ops G w0 Qn (o :: rest) a S :=
  wpG_open R hw hb (fun w hl => by unfold gives; rw [hx w]; exact ⟨Le.refl w, h1 w hl⟩) h2
/-- A plain operation that leaves the world as it is, by its run; it may lean on what is known of open slots. -/
theorem wpG_run (hw : Region.wanted o (yielded ops a.tmps) = true) (hb : o.dst.bind G = none) (v : Value) (h1 : ∀ w, LeanOn G w0 o a w → (execOp a.eval o).run P w = .ok (.value v) w)
    (h2 : wpG P ops G w0 Qn rest (a.put o.dst v) S) : wpG P ops G w0 Qn (o :: rest) a S :=
  wpG_firm hw hb v (fun w hl => by unfold firmAt; rw [h1 w hl]; exact ⟨Le.refl w, rfl⟩) h2
end
end
/- The elaborator's whnf of a goal must not walk on by itself. -/
attribute [irreducible] wpG
end Go.Proofs.Ytcdmbidggikmfaa

/- Which patches may be, by the document; what is unlike in cards; what is within: what each returns. -/
namespace Go.Proofs.Ytcdmbidggikmfaa
set_option linter.unusedVariables false
open Go Go.RowKit BitM

section
variable {P : Program} {ops : Array Oper} {rest : List Oper} {op : Oper} {a : Act} {w : World} {Q : Exit → Act → World → Prop}
theorem exec_load (ty : TypeId) (x : Operand) (ho : op.op = .load ty x) (b o : Nat) (hx : a.eval x = .pointer (some ⟨b, o, none⟩)) (cs : List Value) (d : TypeDesc) (hc : w.rangeAt b o cs)
    (hu : P.underlying ty = some d) (hd : d.isRow = true) (hi : (P.info? ty).map (·.size) = some cs.length) : (execOp a.eval op).run P w = .ok (.value (.agg cs.toArray)) w := by
  unfold execOp
  simp only [ho, hx, Instr.loadAt, Instr.sureAddr, Sem.run_bind, Sem.run_pure, Result.andThen_ok, run_loadVar_mid w b o ty cs d hc hu hd hi]
end

end Go.Proofs.Ytcdmbidggikmfaa

/- Cards: which cards may be, by the document: what it returns. -/
namespace Go.Proofs.Ytcdmbidggikmfaa
set_option linter.unusedVariables false
open Go Go.RowKit BitM

/-- May the first k values be? -/
def vk (f : List V3) (k : Nat) : Bool := (List.range k).all fun i => vchk (f.getD i zv)
theorem vk_succ (f : List V3) (k : Nat) : vk f (k + 1) = (vk f k && vchk (f.getD k zv)) := by
  unfold vk
  rw [List.range_succ, List.all_append]
  simp
theorem vk_mono (f : List V3) {j k : Nat} (h : j ≤ k) (hf : vk f j = false) : vk f k = false := by
  induction k with
  | zero => obtain rfl : j = 0 := by omega
            exact hf
  | succ k ih =>
    by_cases e : j = k + 1
    · subst e; exact hf
    · rw [vk_succ, ih (by omega)]; rfl
/-- May a card be? -/
def ccheck (id ver lab : Int) (f : List V3) : Bool := decide (1 ≤ id ∧ id < 1073741824 ∧ 1 ≤ ver ∧ ver ≤ 1099511627776 ∧ lab < 65536) && vk f 8

set_option maxRecDepth 100000 in
set_option maxHeartbeats 3200000 in
theorem rccheck_any (id ver lab : Int) (f : List V3) (w : World) (hf : f.length = 8) :
    Calls Try.prog 15 #[.agg (ccells id ver lab f).toArray] w fun e w' => e = .returned (.bool (ccheck id ver lab f)) ∧ Below w.heap.size w w' := by
  have HF := Lib.hid hf
  have B0 := Blk.new w (ccells id ver lab f) 43
  obtain ⟨ca, hca⟩ : ∃ ca, ca = (ccells id ver lab f).toArray := ⟨_, rfl⟩
  rw [← hca] at B0 ⊢
  have HB := Lib.hid ((Below.refl w.heap.size w).alloc (Nat.le_refl _) (.cells ca 43))
  obtain ⟨q0, q1, q2⟩ := B0.card
  obtain ⟨R, hR⟩ : ∃ R, R = ccheck id ver lab f := ⟨_, rfl⟩
  rw [← hR]
  have HR := Lib.hid hR
  clear hR hca hf
  by_cases a1 : id < 1
  · have d1 : decide (id < 1) = true := by simpa using a1
    have HRR : Hid (R = false) := Lib.hid (by rw [HR.out]; unfold ccheck; rw [decide_eq_false (by omega), Bool.false_and])
    go_enter Try.func15, Try.ntmps15
    go_wp2_with fail
    go_ret
    exact ⟨by rw [HRR.out]; rfl, HB.out⟩
  · have d1 : decide (id < 1) = false := by simpa using a1
    by_cases a2 : 1073741824 ≤ id
    · have d2 : decide (1073741824 ≤ id) = true := by simpa using a2
      have HRR : Hid (R = false) := Lib.hid (by rw [HR.out]; unfold ccheck; rw [decide_eq_false (by omega), Bool.false_and])
      go_enter Try.func15, Try.ntmps15
      go_wp2_with fail
      go_ret
      exact ⟨by rw [HRR.out]; rfl, HB.out⟩
    · have d2 : decide (1073741824 ≤ id) = false := by simpa using a2
      by_cases a3 : ver < 1
      · have d3 : decide (ver < 1) = true := by simpa using a3
        have HRR : Hid (R = false) := Lib.hid (by rw [HR.out]; unfold ccheck; rw [decide_eq_false (by omega), Bool.false_and])
        go_enter Try.func15, Try.ntmps15
        go_wp2_with fail
        go_ret
        exact ⟨by rw [HRR.out]; rfl, HB.out⟩
      · have d3 : decide (ver < 1) = false := by simpa using a3
        by_cases a4 : 1099511627776 < ver
        · have d4 : decide (1099511627776 < ver) = true := by simpa using a4
          have HRR : Hid (R = false) := Lib.hid (by rw [HR.out]; unfold ccheck; rw [decide_eq_false (by omega), Bool.false_and])
          go_enter Try.func15, Try.ntmps15
          go_wp2_with fail
          go_ret
          exact ⟨by rw [HRR.out]; rfl, HB.out⟩
        · have d4 : decide (1099511627776 < ver) = false := by simpa using a4
          by_cases a5 : 65536 ≤ lab
          · have d5 : decide (65536 ≤ lab) = true := by simpa using a5
            have HRR : Hid (R = false) := Lib.hid (by rw [HR.out]; unfold ccheck; rw [decide_eq_false (by omega), Bool.false_and])
            go_enter Try.func15, Try.ntmps15
            go_wp2_with fail
            go_ret
            exact ⟨by rw [HRR.out]; rfl, HB.out⟩
          · have d5 : decide (65536 ≤ lab) = false := by simpa using a5
            have HRR : Hid (R = vk f 8) := Lib.hid (by rw [HR.out]; unfold ccheck; rw [decide_eq_true (by omega), Bool.true_and])
            go_enter Try.func15, Try.ntmps15
            go_wp2_with fail
            clear d1 d2 d3 d4 d5 a1 a2 a3 a4 a5 q0 q1 q2
            go_loopw [3] (fun i wr => ∃ k : Nat, k ≤ 8 ∧ i = .int .i64 k ∧ Blk wr w.heap.size (ccells id ver lab f) ∧ Hid (vk f k = true) ∧ Below w.heap.size w wr) (fun i _ => 8 - (intOf i).toNat)
            case atStart => exact ⟨0, by omega, rfl, B0, Lib.hid rfl, HB.out⟩
            case round =>
              obtain ⟨k, hk, rfl, D0, HK, hbr⟩ := hrel
              clear B0 HB
              by_cases hlt : k < 8
              · have hkf : k < f.length := by rw [HF.out]; exact hlt
                obtain ⟨l0, l1, l2⟩ := Blk.field (o := 3) D0 k rfl hkf
                have d8 : (k : Int) < 8 := by omega
                have HS := Lib.hid (vk_succ f k)
                obtain ⟨⟨v0, v1, v2⟩, hv⟩ : ∃ v, v = f[k] := ⟨_, rfl⟩
                have hg : f.getD k zv = (v0, v1, v2) := by rw [hv]; simp [List.getD, hkf]
                have HG := Lib.hid hg
                rw [← hv] at l0 l1 l2
                simp only at l0 l1 l2
                have HC := Lib.hid (fun wx : World => rvcheck_any v0 v1 v2 wx)
                clear hv hg
                cases hc : vchk (v0, v1, v2) with
                | false =>
                  rw [hc] at HC
                  have HCC := Lib.hid hc
                  clear hc
                  go_wp2_with fail
                  refine (HC.out _).mono ?_
                  rintro e w1 ⟨rfl, hb⟩
                  have hbw := hbr.trans (hb.mono hbr.size)
                  go_wp2_with fail
                  go_ret
                  refine ⟨?_, hbw⟩
                  have hfin : R = false := by rw [HRR.out]; exact vk_mono f (j := k + 1) (by omega) (by rw [HS.out, HG.out, HCC.out]; simp)
                  rw [hfin]
                  rfl
                | true =>
                  rw [hc] at HC
                  have HCC := Lib.hid hc
                  clear hc
                  go_wp2_with fail
                  refine (HC.out _).mono ?_
                  rintro e w1 ⟨rfl, hb⟩
                  have hbw := hbr.trans (hb.mono hbr.size)
                  have D1 := D0.later hb
                  clear D0 l0 l1 l2
                  go_wp2_with fail
                  go_roundw
                  case rel => exact ⟨k + 1, by omega, by go_num, D1, Lib.hid (by rw [HS.out, HK.out, HG.out, HCC.out]; rfl), hbw⟩
                  case measure => simp [intOf]; omega
              · obtain rfl : k = 8 := by omega
                go_wp2_with fail
                go_ret
                exact ⟨by rw [HRR.out, HK.out]; rfl, hbr⟩
end Go.Proofs.Ytcdmbidggikmfaa

/- Cards: what a mask shows of a card; a new card: what each returns. -/
namespace Go.Proofs.Ytcdmbidggikmfaa
set_option linter.unusedVariables false
open Go Go.RowKit BitM

theorem Blk.fieldsC {w : World} {g : Nat} {id ver lab : Int} {f : List V3} (h : Blk w g (ccells id ver lab f)) : w.rangeAt g 3 (fcells f) := by
  refine h.range 3 _ ?_
  unfold ccells
  rw [List.drop_append_of_le_length (by simp), List.drop_eq_nil_of_le (by simp), List.nil_append, List.take_length]
theorem Blk.wholeC {w : World} {g : Nat} {cs : List Value} (h : Blk w g cs) : w.rangeAt g 0 cs := h.range 0 cs (by rw [List.drop_zero, List.take_length])
end Go.Proofs.Ytcdmbidggikmfaa

/- Cards: the patch of what a card has; what is in both of two masks, by the document: what each returns. -/
namespace Go.Proofs.Ytcdmbidggikmfaa
set_option linter.unusedVariables false
open Go Go.RowKit BitM

end Go.Proofs.Ytcdmbidggikmfaa

/- Cards: what a mask shows of a card, what a patch writes to it, by the document: what each returns. -/
namespace Go.Proofs.Ytcdmbidggikmfaa
set_option linter.unusedVariables false
open Go Go.RowKit BitM

end Go.Proofs.Ytcdmbidggikmfaa

/- Cards: what a patch writes to a card, by the document: what it returns. -/
namespace Go.Proofs.Ytcdmbidggikmfaa
set_option linter.unusedVariables false
open Go Go.RowKit BitM

end Go.Proofs.Ytcdmbidggikmfaa

/- Cards: a new card: what it returns. -/
namespace Go.Proofs.Ytcdmbidggikmfaa
set_option linter.unusedVariables false
open Go Go.RowKit BitM

end Go.Proofs.Ytcdmbidggikmfaa

/- Cards: the patch of what a card has, a new card, by the document: what each returns. -/
namespace Go.Proofs.Ytcdmbidggikmfaa
set_option linter.unusedVariables false
open Go Go.RowKit BitM

end Go.Proofs.Ytcdmbidggikmfaa

/- Cards: what is unlike in two cards: what it returns. -/
namespace Go.Proofs.Ytcdmbidggikmfaa
set_option linter.unusedVariables false
open Go Go.RowKit BitM

section
variable {P : Program} {ops : Array Oper} {rest : List Oper} {op : Oper} {a : Act} {w : World} {Q : Exit → Act → World → Prop}
/-- An operation by its run. -/
theorem wpList_exec (hw : Region.wanted op (yielded ops a.tmps) = true) (v : Value) (he : (execOp a.eval op).run P w = .ok (.value v) w)
    (h : wpList P ops Q rest (a.put op.dst v) w) : wpList P ops Q (op :: rest) a w :=
  wpList_step fun K hK => by
    rw [if_pos hw]
    unfold Oper.wp
    rw [he]
    exact hK _ _ h
theorem exec_eql (t u : TypeId) (x y : Operand) (ho : op.op = .binOp .eql t x y u) (xs ys : Array Value) (hx : a.eval x = .agg xs) (hy : a.eval y = .agg ys)
    (hg : P.eqGuardType P.depth t = false) (b : Bool) (hr : (Op.equalIn 10000 t (.agg xs) (.agg ys)).run P w = .ok b w) : (execOp a.eval op).run P w = .ok (.value (.bool b)) w := by
  unfold execOp
  simp only [ho, hx, hy, Sem.run_bind, run_eqGuard_agg w _ _ _ _ _ _ hg, run_eql_struct, hr, Result.andThen_ok, Sem.run_pure]
theorem exec_neq (t u : TypeId) (x y : Operand) (ho : op.op = .binOp .neq t x y u) (xs ys : Array Value) (hx : a.eval x = .agg xs) (hy : a.eval y = .agg ys)
    (hg : P.eqGuardType P.depth t = false) (b : Bool) (hr : (Op.equalIn 10000 t (.agg xs) (.agg ys)).run P w = .ok b w) : (execOp a.eval op).run P w = .ok (.value (.bool (!b))) w := by
  unfold execOp
  simp only [ho, hx, hy, Sem.run_bind, run_eqGuard_agg w _ _ _ _ _ _ hg, run_neq_struct, hr, Result.andThen_ok, Sem.run_pure]
end

theorem guard_card : Try.prog.eqGuardType Try.prog.depth 43 = false := by kernel_rfl

end Go.Proofs.Ytcdmbidggikmfaa

/- Cards: the patch of what a card has, by the document: what it returns. -/
namespace Go.Proofs.Ytcdmbidggikmfaa
set_option linter.unusedVariables false
open Go Go.RowKit BitM

end Go.Proofs.Ytcdmbidggikmfaa

/- Cards: which values may be: what it returns. -/
namespace Go.Proofs.Ytcdmbidggikmfaa
set_option linter.unusedVariables false
open Go Go.RowKit BitM

end Go.Proofs.Ytcdmbidggikmfaa

/- Cards: which cards may be: what it returns. -/
namespace Go.Proofs.Ytcdmbidggikmfaa
set_option linter.unusedVariables false
open Go Go.RowKit BitM

end Go.Proofs.Ytcdmbidggikmfaa

/- CardMerges: whether the layer is awake. -/
namespace Go.Proofs.Ytcdmbidggikmfaa
set_option linter.unusedVariables false
open Go Go.RowKit BitM

end Go.Proofs.Ytcdmbidggikmfaa

/- What the frame gives of a value, of fields, of a card, of a patch. -/
namespace Go.Proofs.Ytcdmbidggikmfaa
set_option linter.unusedVariables false
open Go Go.RowKit BitM

section
variable {H : Type} {enc : TypeId × Value → H} {W : World}

theorem list3 {α : Type} {l : List α} {a b c : α} (hl : l.length = 3) (h0 : (l.drop 0).take 1 = [a]) (h1 : (l.drop 1).take 1 = [b]) (h2 : (l.drop 2).take 1 = [c]) : l = [a, b, c] := by
  match l, hl with
  | [x, y, z], _ => simp at h0 h1 h2; rw [h0, h1, h2]
/-- What a number, a text in an input is. -/
def okV (v : V3) : Prop := (-9223372036854775808 ≤ v.1 ∧ v.1 ≤ 9223372036854775807) ∧ (-9223372036854775808 ≤ v.2.1 ∧ v.2.1 ≤ 9223372036854775807) ∧ v.2.2.size ≤ maxLen
theorem trod_val {sp : Nat → Bool} {held : Bool} {n : Nat} {cs : List Value} {x : DataW H × List MemPlace} (h : DataW.trod enc Try.prog W 0 sp held n 40 cs = some x) : ∃ v : V3, cs = vcells v ∧ okV v := by
  obtain ⟨y0, y1, y2, m, _, hl, h0, h1, h2⟩ := Go.Deep.trod_struct3 Try.underlying40 h
  have c1 : Try.prog.cellsOf 3 = 1 := by kernel_rfl
  have c2 : Try.prog.cellsOf 9 = 1 := by kernel_rfl
  have c3 : Try.prog.cellsOf 40 = 3 := by kernel_rfl
  rw [c3] at hl
  simp only [c1] at h0 h1
  simp only [c2] at h2
  obtain ⟨a, e0, _, w0⟩ := DataW.trod_int Try.underlying3 h0
  obtain ⟨b, e1, _, w1⟩ := DataW.trod_int Try.underlying3 h1
  obtain ⟨s, e2, _, w2⟩ := DataW.trod_string Try.underlying9 h2
  exact ⟨(a, b, s), list3 hl e0 e1 e2, i64_wf w0, i64_wf w1, w2⟩
theorem cut3 : ∀ (l : List Value) (n : Nat), l.length = n * 3 → (∀ i, i < n → ∃ v : V3, (l.drop (i * 3)).take 3 = vcells v ∧ okV v) → ∃ f : List V3, l = fcells f ∧ f.length = n ∧ ∀ v ∈ f, okV v
  | l, 0, hl, _ => ⟨[], List.length_eq_zero_iff.1 (by rw [hl]), rfl, by simp⟩
  | l, n + 1, hl, h => by
    obtain ⟨v, hv, ok⟩ := h 0 (by omega)
    obtain ⟨f, hf, hn, hok⟩ := cut3 (l.drop 3) n (by rw [List.length_drop, hl]; omega) (fun i hi => by
      have := h (i + 1) (by omega)
      rw [List.drop_drop, show 3 + i * 3 = (i + 1) * 3 by omega]
      exact this)
    refine ⟨v :: f, ?_, by simp [hn], ?_⟩
    · rw [fcells_cons, ← hf, ← hv]
      simp
    · intro u hu
      rcases List.mem_cons.1 hu with rfl | hu
      · exact ok
      · exact hok u hu
theorem trod_fields {sp : Nat → Bool} {held : Bool} {n : Nat} {cs : List Value} {x : DataW H × List MemPlace} (h : DataW.trod enc Try.prog W 0 sp held n 41 cs = some x) : ∃ f : List V3, cs = fcells f ∧ f.length = 8 ∧ ∀ v ∈ f, okV v := by
  obtain ⟨xs, m, _, _, hl, hxl, heach⟩ := DataW.trod_array Try.underlying41 h
  have c3 : Try.prog.cellsOf 40 = 3 := by kernel_rfl
  have c8 : Try.prog.cellsOf 41 = 24 := by kernel_rfl
  rw [c8] at hl
  simp only [c3] at heach
  refine cut3 cs 8 hl fun i hi => ?_
  have h1 := heach i hi
  rw [List.getElem?_eq_getElem (by rw [hxl]; exact hi)] at h1
  exact trod_val h1
end
end Go.Proofs.Ytcdmbidggikmfaa

/- Loads of whole structs under guards, == and != of structs, of values: general. -/
namespace Go.Proofs.Ytcdmbidggikmfaa
set_option linter.unusedVariables false
open Go Go.RowKit

section
variable {P : Program} {ops : Array Oper} {rest : List Oper} {op : Oper} {a : Act} {w : World} {Q : Exit → Act → World → Prop}
end

section
variable {P : Program} {ops : Array Oper} {rest : List Oper} {op : Oper} {a : Act} {w : World} {Q : Exit → Act → World → Prop}
end

end Go.Proofs.Ytcdmbidggikmfaa

/- Slices of structs: append onto a row of the call's own, and a slice cut, whatever an element's size is. -/
namespace Go.Proofs.Ytcdmbidggikmfaa
set_option linter.unusedVariables false
open Go Go.RowKit

theorem row_form {w : World} {base : Nat} {e : TypeId} {size n : Nat} {v : Value} {xs : List Value} (h : w.ownsRow base e size v n xs) : ∃ A c, v = .slice A n c := by
  rcases h.2 with ⟨rfl, h0⟩ | ⟨g, cap, cur, rfl, _⟩
  · exact ⟨none, 0, by rw [h0]⟩
  · exact ⟨_, _, rfl⟩
theorem row_sees {w : World} {base : Nat} {e : TypeId} {size n : Nat} {A : Option Addr} {c : Nat} {xs : List Value} (h : w.ownsRow base e size (.slice A n c) n xs) : Sees w w.heap.size A xs := fun hx => by
  rcases h.2 with ⟨hv, h0⟩ | ⟨g, cap, cur, hv, _, hh, _⟩
  · have := h.1
    rw [h0, Nat.zero_mul] at this
    omega
  have hA : A = some ⟨g, 0, none⟩ := by injection hv
  subst hA
  have hlt : g < w.heap.size := by
    rcases Nat.lt_or_ge g w.heap.size with h1 | h1
    · exact h1
    · rw [Array.getElem?_eq_none h1] at hh; cases hh
  exact ⟨g, 0, rfl, hlt, fun j hj => by
    have h1 := h.cells (g := g) rfl j _ (List.getElem?_eq_getElem hj)
    rw [add_at] at h1
    exact h1⟩
theorem row_later {w w' : World} {base : Nat} {e : TypeId} {size n : Nat} {v : Value} {xs : List Value} (h : w.ownsRow base e size v n xs) (hl : Below w.heap.size w w') : w'.ownsRow base e size v n xs :=
  World.ownsRow.kept h ⟨hl.os, hl.tape, hl.output, hl.size, fun q hq _ => hl.block q hq⟩ (by by_cases h : v.ownBlock = none; exact .inl h; exact .inr h)
theorem row_lower {w : World} {base base' : Nat} {e : TypeId} {size n : Nat} {v : Value} {xs : List Value} (h : w.ownsRow base e size v n xs) (hb : base' ≤ base) : w.ownsRow base' e size v n xs := by
  refine ⟨h.1, ?_⟩
  rcases h.2 with h' | ⟨g, cap, cur, h1, h2, h3⟩
  · exact .inl h'
  · exact .inr ⟨g, cap, cur, h1, Nat.le_trans hb h2, h3⟩
/-- An empty row, or any, just laid. -/
theorem row_lit (w : World) (base : Nat) (e : TypeId) (size n : Nat) (arr : Array Value) (hb : base ≤ w.heap.size) (hn : n ≤ maxLen) (hs : arr.size = n * size) : (w.alloc (.cells arr e)).ownsRow base e size (.slice (some ⟨w.heap.size, 0, none⟩) n n) n arr.toList := by
  refine ⟨by simpa using hs, .inr ⟨w.heap.size, n, arr, rfl, hb, heap_alloc_new w _, Nat.le_refl _, hn, hs, ?_⟩⟩
  rw [List.take_of_length_le]
  simp [hs]

theorem run_appk {P : Program} (w : World) (base : Nat) (t ty e : TypeId) (i : TypeInfo) (z : Value) (size bytes : Nat) (ht : P.underlying t = some (.slice e)) (hi : P.info? e = some i) (hz : i.zero = some z)
    (hsize : i.size = size) (hby : i.bytes = bytes) (hzs : z.cells.size = size) (hpos : 0 < size) (v : Value) (n : Nat) (xs : List Value) (hown : w.ownsRow base e size v n xs)
    (B : Nat) (A : Option Addr) (m c : Nat) (news : List Value) (hl : news.length = m * size) (hs : Sees w B A news) (h1 : ∀ u ∈ news, u.oneCell' = true)
    (h63 : n + m ≤ maxLen) (hbytes : (n + m) * bytes ≤ 140737488355328) (hbase : base ≤ w.heap.size) :
    ∃ A' c' w', (Builtin.append_ #[t, t] ty #[v, .slice A m c]).run P w = .ok (.slice A' (n + m) c') w' ∧ w'.ownsRow base e size (.slice A' (n + m) c') (n + m) (xs ++ news) ∧
      w.grownBy w' v.ownBlock ∧ ((Value.slice A' (n + m) c').ownBlock = v.ownBlock ∨ (Value.slice A' (n + m) c').ownBlock = some w.heap.size) := by
  obtain ⟨A0, c0, hv⟩ := row_form hown
  rcases A with _ | ad
  · have hn : news = [] := by
      rcases news with _ | ⟨x, l⟩
      · rfl
      · obtain ⟨b, o, h, _⟩ := hs (by simp)
        cases h
    subst hn
    obtain rfl : m = 0 := by
      rcases Nat.eq_zero_or_pos m with h | h
      · exact h
      · have := Nat.mul_pos h hpos
        simp at hl
        omega
    subst hv
    refine ⟨A0, c0, w, ?_, by simpa using hown, World.grownBy.refl w _, .inl (by simp)⟩
    rcases hown.2 with ⟨hv0, h0⟩ | ⟨g, cap, cur, hv0, _, _, hnc, _⟩
    · injection hv0 with h1' h2' h3'
      subst h1' h3'
      simp [Builtin.append_, run_underlying ht, sizeOf, typeInfo, hi, Builtin.lenOf, Builtin.firstCells, h0]
    · injection hv0 with h1' h2' h3'
      subst h1' h3'
      simp [Builtin.append_, run_underlying ht, sizeOf, typeInfo, hi, Builtin.lenOf, Builtin.firstCells, hnc, storeCells]
  · have hcells : ∀ j u, news[j]? = some u → w.cell? (ad.add j) = some u := by
      intro j u hu
      have hj : j < news.length := by
        rcases Nat.lt_or_ge j news.length with h | h
        · exact h
        · rw [List.getElem?_eq_none h] at hu; cases hu
      obtain ⟨b, o, h, _, hc⟩ := hs (by omega)
      injection h with h
      subst h
      rw [add_at, hc j hj, ← hu, List.getElem?_eq_getElem hj]
    obtain ⟨v', w', hrun, h2, h3, _, h5⟩ := run_append_own_at (P := P) w base t ty e i z size bytes ht hi hz hsize hby hzs hpos v n xs hown ad m c news hl hcells h1 h63 hbytes hbase
    obtain ⟨A', c', hv'⟩ := row_form h2
    subst hv'
    exact ⟨A', c', w', hrun, h2, h3, h5⟩

/-- append onto a row of the call's own, whatever the source is, and whatever an element's size is. -/
theorem wpList_appk {P : Program} (w : World) {ops : Array Oper} {rest : List Oper} {o : Oper} {a : Act} {Q : Exit → Act → World → Prop} (hgd : o.guard = none) (s x : Operand) (t : TypeId)
    (ho : o.op = .call { callee := .builtin .append, args := #[s, x], argTypes := #[t, t] })
    (base : Nat) (e : TypeId) (i : TypeInfo) (z : Value) (size bytes : Nat) (ht : P.underlying t = some (.slice e)) (hi : P.info? e = some i) (hz : i.zero = some z)
    (hsize : i.size = size) (hby : i.bytes = bytes) (hzs : z.cells.size = size) (hpos : 0 < size) (v : Value) (n : Nat) (xs : List Value) (hv : a.eval s = v) (hown : w.ownsRow base e size v n xs)
    (B : Nat) (A : Option Addr) (c : Nat) (news : List Value) (m : Nat) (hx : a.eval x = .slice A m c) (hn : news.length = m * size) (hs : Sees w B A news) (h1 : ∀ u ∈ news, u.oneCell' = true)
    (h63 : n + m ≤ maxLen) (hbytes : (n + m) * bytes ≤ 140737488355328) (hbase : base ≤ w.heap.size)
    (h : ∀ A' c' w', w'.ownsRow base e size (.slice A' (n + m) c') (n + m) (xs ++ news) → Below base w w' → w.grownBy w' v.ownBlock →
      ((Value.slice A' (n + m) c').ownBlock = v.ownBlock ∨ (Value.slice A' (n + m) c').ownBlock = some w.heap.size) →
      wpList P ops Q rest (a.put o.dst (.slice A' (n + m) c')) w') : wpList P ops Q (o :: rest) a w := by
  refine wpList_plain hgd fun K hK => ?_
  obtain ⟨A', c', w', hrun, h2, h3, h4⟩ := run_appk (P := P) w base t o.type e i z size bytes ht hi hz hsize hby hzs hpos v n xs hown B A m c news hn hs h1 h63 hbytes hbase
  unfold Oper.wp execOp
  simp only [ho, resolve, invoke, builtin, Sem.run_bind, Sem.run_pure, Result.andThen_ok, List.map_toArray, List.map_cons, List.map_nil, hv, hx, hrun]
  exact hK _ _ (h A' c' w' h2 ((Below.refl _ _).grown h3 hbase (fun k hk => (hown.lt k hk).1)) h3 h4)

end Go.Proofs.Ytcdmbidggikmfaa

/- append of any number of elements onto a row of the call's own, as a step of a region that draws its order (for go_region_law). -/
namespace Go.Proofs.Ytcdmbidggikmfaa
set_option linter.unusedVariables false
open Go Go.RowKit

end Go.Proofs.Ytcdmbidggikmfaa

/- append onto a new slice that has no room: it leaves a later world. -/
namespace Go.Proofs.Ytcdmbidggikmfaa
set_option linter.unusedVariables false
open Go Go.RowKit

end Go.Proofs.Ytcdmbidggikmfaa

/- A region that draws its order, whose calls make memory, and whose last operations (a store, an append) wait for all the others: the others walked once, in the order of the text. -/
namespace Go.Proofs.Ytcdmbidggikmfaa
open Go Go.RowKit

section
variable (P : Program) (ops : Array Oper) (md : Region.Mode) (G : Tmp → Option Rel) (w0 : World) (n : Nat) (L : Array Bool → Act → Prop)
end
section
variable {P : Program} {ops : Array Oper} {md : Region.Mode} {G : Tmp → Option Rel} {w0 : World} {n : Nat} {L : Array Bool → Act → Prop}

end

end Go.Proofs.Ytcdmbidggikmfaa

/- Rows as open slots of a drawn region: a new slice without room, what was appended onto it. -/
namespace Go.Proofs.Ytcdmbidggikmfaa
set_option linter.unusedVariables false
open Go Go.RowKit

end Go.Proofs.Ytcdmbidggikmfaa

/- Slices and boxes that a drawn region makes, told apart by their types; copy of whole structs: general. -/
namespace Go.Proofs.Ytcdmbidggikmfaa
set_option linter.unusedVariables false
set_option linter.unusedSimpArgs false
open Go Go.RowKit

/-- A block that is known whole, with its type. -/
def BT (w : World) (g : Nat) (cs : List Value) (t : TypeId) : Prop := w.heap[g]? = some (.cells cs.toArray t (0, 0))
theorem BT.blk {w : World} {g : Nat} {cs : List Value} {t : TypeId} (h : BT w g cs t) : Blk w g cs := ⟨t, h⟩
theorem BT.lt {w : World} {g : Nat} {cs : List Value} {t : TypeId} (h : BT w g cs t) : g < w.heap.size := h.blk.lt
theorem BT.later {w w' : World} {g : Nat} {cs : List Value} {t : TypeId} (h : BT w g cs t) (hb : Below w.heap.size w w') : BT w' g cs t := (hb.block g h.lt).trans h
theorem BT.new (w : World) (cs : List Value) (t : TypeId) : BT (w.alloc (.cells cs.toArray t)) w.heap.size cs t := by
  show (w.heap.push _)[w.heap.size]? = _
  simp
theorem BT.set {w : World} {g : Nat} {cs : List Value} {t : TypeId} (h : BT w g cs t) (j : Nat) (v : Value) : BT (w.setCell ⟨g, j, none⟩ v) g (cs.set j v) t := by
  obtain ⟨h1, h2⟩ := Array.getElem?_eq_some_iff.1 h
  show (w.heap.modify g _)[g]? = _
  rw [Array.getElem?_eq_getElem (by rw [Array.size_modify]; exact h1), Array.getElem_modify_self, h2]
  simp
theorem BT.other {w : World} {g b : Nat} {cs : List Value} {t : TypeId} (h : BT w g cs t) (hb : b ≠ g) (vs : List Value) (o : Nat) : BT (w.setCells b o vs) g cs t := by
  induction vs generalizing o w with
  | nil => exact h
  | cons v vs ih => exact ih (w := w.setCell ⟨b, o, none⟩ v) ((Below.heap_setCell w ⟨b, o, none⟩ v g (Ne.symm hb)).trans h) (o + 1)
theorem BT.sets {w : World} {g : Nat} {cs : List Value} {t : TypeId} (h : BT w g cs t) : ∀ (vs : List Value) (o : Nat), o + vs.length ≤ cs.length → BT (w.setCells g o vs) g (cs.take o ++ vs ++ cs.drop (o + vs.length)) t := by
  intro vs
  induction vs generalizing w cs with
  | nil => intro o _; simpa [World.setCells] using h
  | cons v vs ih =>
    intro o ho
    have h1 := h.set o v
    have := ih h1 (o + 1) (by simp at ho ⊢; omega)
    show BT _ g _ t
    rw [World.setCells]
    have e := list_seg_step cs o v vs (by simpa using ho)
    rw [e] at this
    exact this
end Go.Proofs.Ytcdmbidggikmfaa

/- append(s, make([]T, k)...) onto a row of the call's own: general. -/
namespace Go.Proofs.Ytcdmbidggikmfaa
set_option linter.unusedVariables false
set_option linter.unusedSimpArgs false
open Go Go.RowKit

end Go.Proofs.Ytcdmbidggikmfaa
