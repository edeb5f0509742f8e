/- A region that draws its order, whose calls make memory, walked once, in the order of the text: what an operation leaves in its slot stays known in later worlds. -/
import Derived.Deep.Quiet
import Derived.Below
import Derived.Test.YtgkpbkedaddekaaO2
namespace Go.Proofs.Ytgkpbkedaddekaa
open Go Go.RowKit

/-- w' has all that w had, as it was. -/
def Le (w w' : World) : Prop := Below w.heap.size w w'
theorem Le.refl (w : World) : Le w w := Below.refl _ _
theorem Le.trans {a b c : World} (h : Le a b) (k : Le b c) : Le a c := Below.trans h (Below.mono k h.size)

/-- What is known of an open slot: it stays known in later worlds. -/
structure Rel where
  rel : Value → World → Prop
  mono : ∀ v w w', Le w w' → rel v w → rel v w'
  real : ∀ w, ¬ rel undef w

section
variable (P : Program) (ops : Array Oper) (md : Region.Mode) (G : Tmp → Option Rel) (w0 : World) (Qn : Act → World → Prop)

/-- What an operation may lean on: a later world, and what is known of the open slots that it reads. -/
def LeanOn (o : Oper) (a : Act) (w : World) : Prop :=
  Le w0 w ∧ ∀ d R, Operand.tmp d ∈ o.op.operands → G d = some R → a.eval (.tmp d) ≠ undef → R.rel (a.eval (.tmp d)) w

def givesUpon (R : Value → World → Prop) (w : World) : Result Next → Prop
  | .ok (.value u) w' => Le w w' ∧ R u w'
  | .ok .skip w' => Le w w' ∧ R undef w'
  | .ok (.enter f args) w' => Le w w' ∧ Calls P f args w' (fun e w'' => ∃ v, e = .returned v ∧ Le w' w'' ∧ R v w'')
  | _ => False
def gives (o : Oper) (a : Act) (R : Value → World → Prop) (w : World) : Prop := givesUpon P R w ((execOp a.eval o).run P w)

def firmUpon (v : Value) (w : World) : Result Next → Prop
  | .ok (.value u) w' => Le w w' ∧ u = v
  | .ok .skip w' => Le w w' ∧ v = undef
  | .ok (.enter f args) w' => Le w w' ∧ P.inits.idxOf? f = none ∧ Calls P f args w' (fun e w'' => e = .returned v ∧ Le w' w'')
  | _ => False
def firmAt (o : Oper) (a : Act) (v : Value) (w : World) : Prop := firmUpon P v w ((execOp a.eval o).run P w)

theorem steps_stuck {m m' : Machine} (h : Steps P m m') (hs : ∀ x, step P m ≠ .next x) : m = m' := by
  obtain ⟨n, hn⟩ := h
  cases n with
  | zero => simpa [runN] using hn
  | succ n =>
    cases hx : step P m with
    | next x => exact absurd hx (hs _)
    | ended o w => simp only [runN, hx] at hn; cases hn
theorem steps_det {m a b : Machine} (h : Steps P m a) (k : Steps P m b) (ha : ∀ x, step P a ≠ .next x) (hb : ∀ x, step P b ≠ .next x) : a = b := by
  obtain ⟨n, hn⟩ := h
  induction n generalizing m with
  | zero =>
    simp [runN] at hn
    subst hn
    exact steps_stuck P k ha
  | succ n ih =>
    obtain ⟨j, hj⟩ := k
    cases j with
    | zero =>
      simp [runN] at hj
      subst hj
      exact (steps_stuck P ⟨_, hn⟩ hb).symm
    | succ j =>
      simp only [runN] at hn hj
      cases hs : step P m with
      | next x =>
        rw [hs] at hn hj
        exact ih ⟨j, hj⟩ hn
      | ended o w => rw [hs] at hn; cases hn
theorem calls_same {f : FuncId} {args : Array Value} {w : World} {v u : Value} {A B : World → Prop} (hf : P.inits.idxOf? f = none)
    (h : Calls P f args w fun e w' => e = .returned v ∧ A w') (k : Calls P f args w fun e w' => e = .returned u ∧ B w') : v = u := by
  obtain ⟨e, w1, fr1, ⟨rfl, _⟩, hs, hfn, hl⟩ := h []
  obtain ⟨e, w2, fr2, ⟨rfl, _⟩, ks, kfn, kl⟩ := k []
  have h1 := step_leave_done hl (by rw [hfn]; exact hf)
  have k1 := step_leave_done kl (by rw [kfn]; exact hf)
  have he := steps_det P (hs : Steps P _ _) (ks : Steps P _ _) (by intro x hx; rw [h1] at hx; cases hx) (by intro x hx; rw [k1] at hx; cases hx)
  rw [he, k1] at h1
  injection h1 with h1 _
  injection h1 with h1
  exact h1.symm

theorem firmAt_gives {o : Oper} {a : Act} {v : Value} {w : World} (h : firmAt P o a v w) : gives P o a (fun u _ => u = v) w := by
  unfold firmAt at h
  unfold gives
  generalize (execOp a.eval o).run P w = r at *
  cases r with
  | ok n w' =>
    cases n <;> simp only [firmUpon] at h <;> simp only [givesUpon]
    case value u => exact h
    case skip => exact ⟨h.1, h.2.symm⟩
    case enter f args => exact ⟨h.1, h.2.2.mono fun e w'' ⟨he, hl⟩ => ⟨v, he, hl, rfl⟩⟩
  | halt x w' => simp only [firmUpon] at h
theorem firmAt_same {o : Oper} {a : Act} {v u : Value} {w : World} (h : firmAt P o a v w) (k : firmAt P o a u w) : v = u := by
  unfold firmAt at *
  generalize (execOp a.eval o).run P w = r at *
  cases r with
  | ok n w' =>
    cases n <;> simp only [firmUpon] at h k
    case value x => exact h.2.symm.trans k.2
    case skip => exact h.2.trans k.2.symm
    case enter f args => exact calls_same P h.2.1 h.2.2 k.2.2
  | halt x w' => simp only [firmUpon] at h

open Classical in
/-- The value of a firm operation. -/
noncomputable def valOf (o : Oper) (a : Act) : Value := if h : ∃ v, ∀ w, LeanOn G w0 o a w → firmAt P o a v w then Classical.choose h else undef
theorem valOf_firm {o : Oper} {a : Act} {v : Value} (h : ∀ w, LeanOn G w0 o a w → firmAt P o a v w) (w : World) (hw : LeanOn G w0 o a w) : firmAt P o a (valOf P G w0 o a) w := by
  have hx : ∃ v, ∀ w, LeanOn G w0 o a w → firmAt P o a v w := ⟨v, h⟩
  unfold valOf
  rw [dif_pos hx]
  exact Classical.choose_spec hx w hw

/-- What an operation yields. -/
noncomputable def relOf (o : Oper) (a : Act) : Value → World → Prop := match o.dst.bind G with
  | some R => R.rel
  | none => fun u _ => u = valOf P G w0 o a

/-- What is known where these have come up. -/
def Inv (listed : Array Bool) (a : Act) (w : World) : Prop :=
  Le w0 w ∧ ∀ k o d R, ops[k]? = some o → listed.getD k false = true → o.dst = some d → G d = some R → a.eval (.tmp d) ≠ undef → R.rel (a.eval (.tmp d)) w

/-- The values that an operation may have left. -/
def Poss (i : Nat) (listed : Array Bool) (o : Oper) (a : Act) (u : Value) : Prop :=
  (Region.wanted o (yielded ops a.tmps) = true ∧ (∃ w, Inv ops G w0 (listed.setIfInBounds i true) (a.put o.dst u) w) ∧ ∃ w, relOf P G w0 o a u w) ∨
  (Region.wanted o (yielded ops a.tmps) = false ∧ u = undef)

def gOp (i : Nat) (listed : Array Bool) (K : Act → Prop) (a : Act) : Prop :=
  ∀ o, ops[i]? = some o → (Region.wanted o (yielded ops a.tmps) = true → ∀ w, LeanOn G w0 o a w → gives P o a (relOf P G w0 o a) w) ∧ ∀ u, Poss P ops G w0 i listed o a u → K (a.put o.dst u)

def wpAnyG : Nat → Array Bool → Act → Prop
  | 0, listed, a => Region.ready md ops listed = [] ∧ ∀ w, Inv ops G w0 listed a w → Qn a w
  | fuel + 1, listed, a => (Region.ready md ops listed = [] → ∀ w, Inv ops G w0 listed a w → Qn a w) ∧
      ∀ i ∈ Region.ready md ops listed, gOp P ops G w0 i listed (wpAnyG fuel (listed.setIfInBounds i true)) a

/-- Each open slot that is read is written by an operation that is waited for; no two write one slot. -/
structure Fed : Prop where
  fed : ∀ (i : Nat) (o : Oper) (d : Tmp), ops[i]? = some o → Operand.tmp d ∈ o.op.operands → (G d).isSome → ∃ (k : Nat) (ok : Oper), ops[k]? = some ok ∧ ok.dst = some d ∧ ∃ e ∈ o.after, Region.binds md e = true ∧ e.on = k
  one : ∀ (i j : Nat) (o p : Oper) (d : Tmp), ops[i]? = some o → ops[j]? = some p → o.dst = some d → p.dst = some d → i = j

variable {P ops md G w0 Qn}

theorem eval_put_ne {a : Act} {x : Option Tmp} {u : Value} {d : Tmp} (h : x ≠ some d) : (a.put x u).eval (.tmp d) = a.eval (.tmp d) :=
  Act.eval_put fun e he hd => h (by injection hd with hd; rw [he, hd])
theorem eval_put_self {a : Act} {u : Value} {d : Tmp} : (a.put (some d) u).eval (.tmp d) = u ∨ (a.put (some d) u).eval (.tmp d) = undef := by
  simp only [Act.put, Act.eval]
  by_cases h : d < a.tmps.size
  · left; simp [h]
  · right; simp [h]

theorem Inv.mono {listed : Array Bool} {a : Act} {w w' : World} (h : Inv ops G w0 listed a w) (hl : Le w w') : Inv ops G w0 listed a w' :=
  ⟨h.1.trans hl, fun k o d R ho hk hd hR hu => R.mono _ _ _ hl (h.2 k o d R ho hk hd hR hu)⟩
theorem Inv.lean (hF : Fed ops md G) {listed : Array Bool} {a : Act} {w : World} {i : Nat} {o : Oper} (hi : i ∈ Region.ready md ops listed) (ho : ops[i]? = some o) (h : Inv ops G w0 listed a w) : LeanOn G w0 o a w := by
  refine ⟨h.1, fun d R hd hR hu => ?_⟩
  obtain ⟨k, ok, hk, hkd, e, he, hb, rfl⟩ := hF.fed i o d ho hd (by rw [hR]; rfl)
  obtain ⟨_, o', ho', hall⟩ := mem_ready.1 hi
  rw [ho] at ho'
  injection ho' with ho'
  subst ho'
  exact h.2 e.on ok d R hk (hall e he hb) hkd hR hu
set_option linter.unusedVariables false in
theorem Inv.put (hF : Fed ops md G) {listed : Array Bool} {a : Act} {w : World} {i : Nat} {o : Oper} (ho : ops[i]? = some o) {u : Value} (h : Inv ops G w0 listed a w)
    (hu : ∀ d R, o.dst = some d → G d = some R → u ≠ undef → R.rel u w) : Inv ops G w0 (listed.setIfInBounds i true) (a.put o.dst u) w := by
  refine ⟨h.1, fun k p d R hk hl hd hR hne => ?_⟩
  by_cases hik : i = k
  · subst hik
    rw [ho] at hk
    injection hk with hk
    subst hk
    rw [hd] at hne ⊢
    rcases eval_put_self (a := a) (u := u) (d := d) with he | he
    · rw [he] at hne ⊢
      exact hu d R hd hR hne
    · exact absurd he hne
  · have hdd : o.dst ≠ some d := fun he => hik (hF.one i k o p d ho hk he hd)
    rw [eval_put_ne hdd] at hne ⊢
    rw [getD_set_ne false hik] at hl
    exact h.2 k p d R hk hl hd hR hne
theorem Inv.less (hF : Fed ops md G) {listed : Array Bool} {a : Act} {w : World} {i : Nat} {o : Oper} (ho : ops[i]? = some o) (hun : listed.getD i true = false) {u : Value}
    (h : Inv ops G w0 (listed.setIfInBounds i true) (a.put o.dst u) w) : Inv ops G w0 listed a w := by
  refine ⟨h.1, fun k p d R hk hl hd hR hne => ?_⟩
  have hik : i ≠ k := by
    rintro rfl
    have : listed.getD i true = true := by
      rcases Nat.lt_or_ge i listed.size with h' | h'
      · simp [h'] at hl ⊢; exact hl
      · simp [Array.getElem?_eq_none h'] at hl
    rw [hun] at this
    cases this
  have hdd : o.dst ≠ some d := fun he => hik (hF.one i k o p d ho hk he hd)
  have := h.2 k p d R hk (by rw [getD_set_ne false hik]; exact hl) hd hR (by rw [eval_put_ne hdd]; exact hne)
  rwa [eval_put_ne hdd] at this
theorem Inv.comm {listed : Array Bool} {a : Act} {w : World} {i j : Nat} {x y : Option Tmp} {v u : Value} (hij : i ≠ j) (hxy : ∀ d, x = some d → y ≠ some d)
    (h : Inv ops G w0 ((listed.setIfInBounds i true).setIfInBounds j true) ((a.put x v).put y u) w) : Inv ops G w0 ((listed.setIfInBounds j true).setIfInBounds i true) ((a.put y u).put x v) w := by
  rwa [Array.setIfInBounds_comm _ _ hij, Act.put_comm a v u hxy] at h

theorem rel_of {o : Oper} {a : Act} {u : Value} {w : World} (h : relOf P G w0 o a u w) (d : Tmp) (R : Rel) (hd : o.dst = some d) (hR : G d = some R) : R.rel u w := by
  unfold relOf at h
  simpa [hd, hR] using h
theorem gives_some {o : Oper} {a : Act} {R : Value → World → Prop} {w : World} (h : gives P o a R w) : ∃ u w', Le w w' ∧ R u w' := by
  unfold gives at h
  generalize (execOp a.eval o).run P w = r at *
  cases r with
  | ok n w' =>
    cases n <;> simp only [givesUpon] at h
    case value u => exact ⟨_, _, h⟩
    case skip => exact ⟨_, _, h⟩
    case enter f args =>
      obtain ⟨e, w1, fr, ⟨v, _, hl, hr⟩, _⟩ := h.2 []
      exact ⟨v, w1, h.1.trans hl, hr⟩
  | halt x w' => simp only [givesUpon] at h

theorem exists_poss (hF : Fed ops md G) {listed : Array Bool} {a : Act} {i : Nat} {o : Oper} (hi : i ∈ Region.ready md ops listed) (ho : ops[i]? = some o) (hne : ∃ w, Inv ops G w0 listed a w)
    (hg : Region.wanted o (yielded ops a.tmps) = true → ∀ w, LeanOn G w0 o a w → gives P o a (relOf P G w0 o a) w) :
    ∃ u, Poss P ops G w0 i listed o a u ∧ ∃ w, Inv ops G w0 (listed.setIfInBounds i true) (a.put o.dst u) w := by
  obtain ⟨w, hw⟩ := hne
  have hun := (mem_ready.1 hi).1
  by_cases hwt : Region.wanted o (yielded ops a.tmps) = true
  · obtain ⟨u, w', hl, hr⟩ := gives_some (hg hwt w (hw.lean hF hi ho))
    have hI := (hw.mono hl).put hF ho (u := u) (fun d R hd hR _ => rel_of hr d R hd hR)
    exact ⟨u, .inl ⟨hwt, ⟨w', hI⟩, ⟨w', hr⟩⟩, w', hI⟩
  · have hI := hw.put hF ho (u := undef) (fun d R hd hR h => absurd rfl h)
    exact ⟨undef, .inr ⟨by simpa using hwt, rfl⟩, w, hI⟩

/-- Two states that look alike to an operation. -/
structure Alike (ops : Array Oper) (o : Oper) (a a' : Act) : Prop where
  exec : execOp a'.eval o = execOp a.eval o
  eval : ∀ d, Operand.tmp d ∈ o.op.operands → a'.eval (.tmp d) = a.eval (.tmp d)
  want : Region.wanted o (yielded ops a'.tmps) = Region.wanted o (yielded ops a.tmps)
theorem Alike.symm {o : Oper} {a a' : Act} (h : Alike ops o a a') : Alike ops o a' a := ⟨h.exec.symm, fun d hd => (h.eval d hd).symm, h.want.symm⟩
theorem Alike.lean {o : Oper} {a a' : Act} (h : Alike ops o a a') {w : World} (hw : LeanOn G w0 o a' w) : LeanOn G w0 o a w :=
  ⟨hw.1, fun d R hd hR hu => by
    have := hw.2 d R hd hR (by rw [h.eval d hd]; exact hu)
    rwa [h.eval d hd] at this⟩
theorem Alike.lean_eq {o : Oper} {a a' : Act} (h : Alike ops o a a') : LeanOn G w0 o a' = LeanOn G w0 o a := funext fun _ => propext ⟨fun hw => h.lean hw, fun hw => h.symm.lean hw⟩
theorem Alike.val {o : Oper} {a a' : Act} (h : Alike ops o a a') : valOf P G w0 o a' = valOf P G w0 o a := by
  unfold valOf firmAt
  rw [h.lean_eq, h.exec]
theorem Alike.rel {o : Oper} {a a' : Act} (h : Alike ops o a a') : relOf P G w0 o a' = relOf P G w0 o a := by
  unfold relOf
  rw [h.val]
theorem Alike.gives {o : Oper} {a a' : Act} (h : Alike ops o a a') {w : World} (hg : Go.Proofs.Ytgkpbkedaddekaa.gives P o a' (relOf P G w0 o a') w) : Go.Proofs.Ytgkpbkedaddekaa.gives P o a (relOf P G w0 o a) w := by
  unfold Go.Proofs.Ytgkpbkedaddekaa.gives at *
  rwa [h.rel, h.exec] at hg
theorem alike_put {o : Oper} {a : Act} {x : Option Tmp} {v : Value} (hs : ∀ cs b, o.op ≠ .select cs b) (h : ∀ d, x = some d → d ∉ o.looksAt ops) : Alike ops o a (a.put x v) :=
  ⟨execOp_put o hs a x v h, fun d hd => eval_put_ne fun e => h d e (List.mem_append_left _ (List.mem_filterMap.2 ⟨.tmp d, by simpa using hd, rfl⟩)), wanted_put o a x v h⟩

/-- An operation that may come up now may be taken first. -/
theorem wpAnyG_first (hF : Fed ops md G) {i : Nat} {oi : Oper} (hi : ops[i]? = some oi) (hsel : ∀ (j : Nat) (o : Oper) cs b, ops[j]? = some o → o.op ≠ .select cs b) :
    ∀ (fuel : Nat) (listed : Array Bool) (a : Act),
      (∀ j oj, ops[j]? = some oj → j ≠ i → listed.getD j true = false → (∀ e ∈ oj.after, Region.binds md e = true → e.on ≠ i) → oi.apart ops oj = true) →
      i ∈ Region.ready md ops listed → (∃ w, Inv ops G w0 listed a w) →
      gOp P ops G w0 i listed (wpAnyG P ops md G w0 Qn fuel (listed.setIfInBounds i true)) a → wpAnyG P ops md G w0 Qn (fuel + 1) listed a := by
  intro fuel
  induction fuel with
  | zero =>
    intro listed a _ hr hne H
    refine ⟨fun h => (by rw [h] at hr; cases hr), fun j hj => ?_⟩
    by_cases hji : j = i
    · subst hji; exact H
    · obtain ⟨u, hp, _⟩ := exists_poss hF hr hi hne (H oi hi).1
      have h1 := ((H oi hi).2 u hp).1
      have := ready_mono hj hji
      rw [h1] at this
      cases this
  | succ fuel ih =>
    intro listed a hfree hr hne H
    refine ⟨fun h => (by rw [h] at hr; cases hr), fun j hj => ?_⟩
    by_cases hji : j = i
    · subst hji; exact H
    obtain ⟨hgi, hnext⟩ := H oi hi
    obtain ⟨v0, hp0, _⟩ := exists_poss hF hr hi hne hgi
    obtain ⟨hjun, oj', hoj', hall⟩ := mem_ready.1 hj
    have hiun := (mem_ready.1 hr).1
    have hnot : ∀ e ∈ oj'.after, Region.binds md e = true → e.on ≠ i := fun e he hb heq => by
      have h1 := hall e he hb
      have h0 := hiun
      rw [heq] at h1
      rcases Nat.lt_or_ge i listed.size with h' | h'
      · simp [h'] at h0 h1; rw [h0] at h1; cases h1
      · simp [Array.getElem?_eq_none h'] at h1
    intro oj hoj
    obtain rfl : oj' = oj := by rw [hoj] at hoj'; injection hoj' with h; exact h.symm
    have hap := hfree j oj' hoj hji hjun hnot
    obtain ⟨p1, p2, p3⟩ := Oper.apart_spec hap
    have sj : ∀ v, Alike ops oj' a (a.put oi.dst v) := fun v => alike_put (fun cs b => hsel j oj' cs b hoj) p1
    have si : ∀ u, Alike ops oi a (a.put oj'.dst u) := fun u => alike_put (fun cs b => hsel i oi cs b hi) p3
    have hjr := ready_mono hj hji
    refine ⟨fun hwt w hw => ?_, fun u hu => ?_⟩
    · have h1 := (((hnext v0 hp0).2 j hjr) oj' hoj).1 (by rw [(sj v0).want]; exact hwt) w ((sj v0).symm.lean hw)
      exact (sj v0).gives h1
    · have hne' : ∃ w, Inv ops G w0 (listed.setIfInBounds j true) (a.put oj'.dst u) w := by
        rcases hu with ⟨_, h, _⟩ | ⟨_, rfl⟩
        · exact h
        · obtain ⟨w, hw⟩ := hne
          exact ⟨w, hw.put hF hoj (fun d R hd hR h => absurd rfl h)⟩
      have hiun' : (listed.setIfInBounds j true).getD i true = false := by rw [getD_set_ne true hji]; exact hiun
      have hfree' : ∀ k ok, ops[k]? = some ok → k ≠ i → (listed.setIfInBounds j true).getD k true = false →
          (∀ e ∈ ok.after, Region.binds md e = true → e.on ≠ i) → oi.apart ops ok = true := fun k ok hk hki hun hno => by
        refine hfree k ok hk hki ?_ hno
        by_cases hjk : j = k
        · subst hjk; exact hjun
        · rw [getD_set_ne true hjk] at hun; exact hun
      refine ih (listed.setIfInBounds j true) (a.put oj'.dst u) hfree' (ready_mono hr (Ne.symm hji)) hne' ?_
      intro oi' hoi'
      obtain rfl : oi = oi' := by rw [hi] at hoi'; injection hoi' with h
      refine ⟨fun hwt w hw => ?_, fun v hv => ?_⟩
      · exact (si u).symm.gives (hgi (by rw [← (si u).want]; exact hwt) w ((si u).lean hw))
      · have hI : ∃ w, Inv ops G w0 ((listed.setIfInBounds i true).setIfInBounds j true) ((a.put oi.dst v).put oj'.dst u) w := by
          rcases hv with ⟨_, ⟨w, hw⟩, _⟩ | ⟨_, rfl⟩
          · exact ⟨w, hw.comm hji (fun d hd he => p2 d he hd)⟩
          · obtain ⟨w, hw⟩ := hne'
            exact ⟨w, (hw.put hF hi (fun d R hd hR h => absurd rfl h)).comm hji (fun d hd he => p2 d he hd)⟩
        have hpi : Poss P ops G w0 i listed oi a v := by
          rcases hv with ⟨h1, _, w2, h2⟩ | ⟨h1, h2⟩
          · refine .inl ⟨by rw [← (si u).want]; exact h1, ?_, w2, by rw [← (si u).rel]; exact h2⟩
            obtain ⟨w, hw⟩ := hI
            exact ⟨w, hw.less hF hoj (by rw [getD_set_ne true (Ne.symm hji)]; exact hjun)⟩
          · exact .inr ⟨by rw [← (si u).want]; exact h1, h2⟩
        have hk := ((hnext v hpi).2 j hjr oj' hoj).2 u (by
          rcases hu with ⟨h1, _, w2, h2⟩ | ⟨h1, h2⟩
          · exact .inl ⟨by rw [(sj v).want]; exact h1, hI, w2, by rw [(sj v).rel]; exact h2⟩
          · exact .inr ⟨by rw [(sj v).want]; exact h1, h2⟩)
        rw [Array.setIfInBounds_comm _ _ hji, Act.put_comm a u v (fun d hd he => p2 d he hd)]
        exact hk

theorem wpAny_of_G {Q : Exit → Act → World → Prop} (hF : Fed ops md G) (hQ : ∀ a w, Qn a w → Q .normal a w) : ∀ (fuel : Nat) (listed : Array Bool) (a : Act) (w : World), Inv ops G w0 listed a w →
    wpAnyG P ops md G w0 Qn fuel listed a → wpAny P md ops Q fuel listed a w
  | 0, _, _, w, hw, h => ⟨h.1, hQ _ _ (h.2 w hw)⟩
  | fuel + 1, listed, a, w, hw, h => ⟨fun h0 => hQ _ _ (h.1 h0 w hw), fun i hi => by
      obtain ⟨hun, o, ho, _⟩ := mem_ready.1 hi
      obtain ⟨hg, hn⟩ := h.2 i hi o ho
      unfold wpOp
      simp only [ho]
      by_cases hwt : Region.wanted o (yielded ops a.tmps) = true
      · simp only [hwt, if_true]
        left
        have h1 := hg hwt w (hw.lean hF hi ho)
        have next : ∀ u w', Le w w' → relOf P G w0 o a u w' → wpAny P md ops Q fuel (listed.setIfInBounds i true) (a.put o.dst u) w' := fun u w' hl hr => by
          have hI := (hw.mono hl).put hF ho (u := u) (fun d R hd hR _ => rel_of hr d R hd hR)
          exact wpAny_of_G hF hQ fuel _ _ w' hI (hn u (.inl ⟨hwt, ⟨w', hI⟩, ⟨w', hr⟩⟩))
        unfold gives at h1
        unfold Oper.wp
        generalize (execOp a.eval o).run P w = r at *
        cases r with
        | ok n w' =>
          cases n <;> simp only [givesUpon] at h1 <;> simp only [Oper.upon]
          case value u => exact next _ _ h1.1 h1.2
          case skip => exact next _ _ h1.1 h1.2
          case enter f args => exact h1.2.mono fun e w'' ⟨v, he, hl, hr⟩ => by subst he; exact next _ _ (h1.1.trans hl) hr
        | halt x w' => simp only [givesUpon] at h1
      · simp only [hwt]
        exact wpAny_of_G hF hQ fuel _ _ w (hw.put hF ho (fun d R hd hR h => absurd rfl h)) (hn undef (.inr ⟨by simpa using hwt, rfl⟩))⟩

/-- The walk in the order of the text. -/
def wpG (P : Program) (ops : Array Oper) (G : Tmp → Option Rel) (w0 : World) (Qn : Act → World → Prop) : List Oper → Act → (World → Prop) → Prop
  | [], a, S => ∀ w, Le w0 w → S w → Qn a w
  | o :: rest, a, S => if Region.wanted o (yielded ops a.tmps) then
      match o.dst.bind G with
      | some R => (∀ w, LeanOn G w0 o a w → gives P o a R.rel w) ∧ ∀ u, (∃ w, Le w0 w ∧ S w ∧ R.rel u w) → wpG P ops G w0 Qn rest (a.put o.dst u) (fun w => S w ∧ R.rel u w)
      | none => ∃ v, (∀ w, LeanOn G w0 o a w → firmAt P o a v w) ∧ wpG P ops G w0 Qn rest (a.put o.dst v) S
    else wpG P ops G w0 Qn rest (a.put o.dst undef) S

theorem put_size (a : Act) (x : Option Tmp) (v : Value) : (a.put x v).tmps.size = a.tmps.size := by cases x <;> simp [Act.put]

theorem wpAnyG_lex (hF : Fed ops md G) (hs : Region.noSelect ops = true) (n : Nat) (hd : ∀ o ∈ ops, ∀ d, o.dst = some d → d < n) : ∀ (l : List Oper) (k : Nat) (listed : Array Bool) (a : Act) (S : World → Prop), (∀ j, l[j]? = ops[k + j]?) →
    Region.lexFrom md ops l.length k listed = true → a.tmps.size = n → (∃ w, Inv ops G w0 listed a w) → (∀ w, Inv ops G w0 listed a w → S w) → wpG P ops G w0 Qn l a S → wpAnyG P ops md G w0 Qn l.length listed a
  | [], _, _, _, _, _, hB, _, _, hS, h => ⟨by simpa [Region.lexFrom] using hB, fun w hw => h w hw.1 (hS w hw)⟩
  | o :: l, k, listed, a, S, hl, hB, hn, hne, hS, h => by
    have h0 : ops[k]? = some o := by simpa using (hl 0).symm
    simp only [List.length_cons, Region.lexFrom, Bool.and_eq_true] at hB
    obtain ⟨⟨hr, hf⟩, hB'⟩ := hB
    have hrd : k ∈ Region.ready md ops listed := by simpa using hr
    have hun := (mem_ready.1 hrd).1
    have hl' : ∀ j, l[j]? = ops[k + 1 + j]? := fun j => by have := hl (j + 1); simpa [Nat.add_assoc, Nat.add_comm 1 j] using this
    refine wpAnyG_first hF h0 (Region.noSelect_spec hs) l.length listed a (Region.free_spec h0 hf) hrd hne ?_
    intro o' ho'
    obtain rfl : o = o' := by rw [h0] at ho'; injection ho' with h
    unfold wpG at h
    by_cases hwt : Region.wanted o (yielded ops a.tmps) = true
    · simp only [hwt, if_true] at h
      cases hb : o.dst.bind G with
      | some R =>
        simp only [hb] at h
        have hrel : relOf P G w0 o a = R.rel := by unfold relOf; rw [hb]
        obtain ⟨d, hod, hGd⟩ := Option.bind_eq_some_iff.1 hb
        refine ⟨fun _ w hw => by rw [hrel]; exact h.1 w hw, fun u hu => ?_⟩
        rcases hu with ⟨_, ⟨w1, hI⟩, w2, hr2⟩ | ⟨hw', _⟩
        · rw [hrel] at hr2
          have hreal : u ≠ undef := fun e => R.real w2 (e ▸ hr2)
          have hlt : d < a.tmps.size := by rw [hn]; exact hd o (Array.mem_of_getElem? h0) d hod
          have hev : (a.put o.dst u).eval (.tmp d) = u := by rw [hod]; simp [Act.put, Act.eval, hlt]
          have hS' : ∀ w, Inv ops G w0 (listed.setIfInBounds k true) (a.put o.dst u) w → S w ∧ R.rel u w := fun w hw => by
            refine ⟨hS w (hw.less hF h0 hun), ?_⟩
            have hls : (listed.setIfInBounds k true).getD k false = true := by
              rcases Nat.lt_or_ge k listed.size with h' | h'
              · simp [h']
              · simp [Array.getElem?_eq_none h'] at hun
            have := hw.2 k o d R h0 hls hod hGd (by rw [hev]; exact hreal)
            rwa [hev] at this
          exact wpAnyG_lex hF hs n hd l (k + 1) _ _ _ hl' hB' (by rw [put_size]; exact hn) ⟨w1, hI⟩ hS' (h.2 u ⟨w1, hI.1, (hS' w1 hI).1, (hS' w1 hI).2⟩)
        · rw [hwt] at hw'; cases hw'
      | none =>
        simp only [hb] at h
        obtain ⟨v, hv, hrest⟩ := h
        have hrel : relOf P G w0 o a = fun u _ => u = valOf P G w0 o a := by unfold relOf; rw [hb]
        have hval : valOf P G w0 o a = v := by
          obtain ⟨w, hw⟩ := hne
          have hlw := hw.lean hF hrd h0
          exact firmAt_same P (valOf_firm P G w0 hv w hlw) (hv w hlw)
        refine ⟨fun _ w hw => by rw [hrel]; exact firmAt_gives P (valOf_firm P G w0 hv w hw), fun u hu => ?_⟩
        rcases hu with ⟨_, hI, w2, hr2⟩ | ⟨hw', _⟩
        · rw [hrel, hval] at hr2
          subst hr2
          exact wpAnyG_lex hF hs n hd l (k + 1) _ _ S hl' hB' (by rw [put_size]; exact hn) hI (fun w hw => hS w (hw.less hF h0 hun)) hrest
        · rw [hwt] at hw'; cases hw'
    · simp only [hwt] at h
      refine ⟨fun hw' => absurd hw' hwt, fun u hu => ?_⟩
      rcases hu with ⟨hw', _⟩ | ⟨_, rfl⟩
      · exact absurd hw' hwt
      · obtain ⟨w, hw⟩ := hne
        have hI := hw.put hF h0 (u := undef) (fun d R hd hR h => absurd rfl h)
        exact wpAnyG_lex hF hs n hd l (k + 1) _ _ S hl' hB' (by rw [put_size]; exact hn) ⟨w, hI⟩ (fun w hw => hS w (hw.less hF h0 hun)) h

/-- The open slots by their numbers. -/
def openOf (l : List (Tmp × Rel)) : Tmp → Option Rel := fun d => l.lookup d

/-- What is asked of a region's text. -/
def fedB (ops : List Oper) (ds : List Tmp) (n : Nat) : Bool :=
  (List.range ops.length).all fun i => match ops[i]? with
    | none => true
    | some o => (o.op.operands.toList.all fun x => match x with
        | .tmp d => !ds.contains d || o.after.any (fun e => Region.binds .any e && ((ops[e.on]?).bind (·.dst) == some d))
        | _ => true) && (match o.dst with
        | some d => decide (d < n) && (List.range ops.length).all fun j => j == i || ((ops[j]?).bind (·.dst) != some d)
        | none => true)
theorem lookup_in : ∀ (g : List (Tmp × Rel)) (d : Tmp), (openOf g d).isSome → (g.map (·.1)).contains d = true
  | [], d, h => by simp [openOf] at h
  | x :: g, d, h => by
    unfold openOf at h
    rw [List.lookup_cons] at h
    by_cases hx : (d == x.1) = true
    · simp at hx; simp [hx]
    · simp only [hx] at h
      have := lookup_in g d h
      simp at this ⊢
      exact .inr this
theorem fedB_fed {l : List Oper} {g : List (Tmp × Rel)} {n : Nat} (h : fedB l (g.map (·.1)) n = true) : Fed l.toArray .any (openOf g) ∧ ∀ o ∈ l.toArray, ∀ d, o.dst = some d → d < n := by
  unfold fedB at h
  rw [List.all_eq_true] at h
  have each : ∀ (i : Nat) (o : Oper), l[i]? = some o → (o.op.operands.toList.all fun x => match x with
        | .tmp d => !(g.map (·.1)).contains d || o.after.any (fun e => Region.binds .any e && ((l[e.on]?).bind (·.dst) == some d))
        | _ => true) = true ∧ (match o.dst with
        | some d => decide (d < n) && (List.range l.length).all fun j => j == i || ((l[j]?).bind (·.dst) != some d)
        | none => true) = true := fun i o ho => by
    have hlt : i < l.length := by
      rcases Nat.lt_or_ge i l.length with h' | h'
      · exact h'
      · rw [List.getElem?_eq_none h'] at ho; cases ho
    have := h i (List.mem_range.2 hlt)
    simp only [ho, Bool.and_eq_true] at this
    exact this
  refine ⟨⟨fun i o d ho hd hG => ?_, fun i j o p d ho hp hod hpd => ?_⟩, fun o ho d hd => ?_⟩
  · rw [List.getElem?_toArray] at ho
    have h1 := (each i o ho).1
    rw [List.all_eq_true] at h1
    have h2 := h1 (.tmp d) (by simpa using hd)
    simp only [Bool.or_eq_true, Bool.not_eq_true'] at h2
    have hin : (g.map (·.1)).contains d = true := by
      exact lookup_in g d hG
    rcases h2 with h2 | h2
    · rw [hin] at h2; cases h2
    · obtain ⟨e, he, hb⟩ := Array.any_eq_true'.1 h2
      simp only [Bool.and_eq_true, beq_iff_eq] at hb
      obtain ⟨ok, hok, hokd⟩ := Option.bind_eq_some_iff.1 hb.2
      exact ⟨e.on, ok, by rw [List.getElem?_toArray]; exact hok, hokd, e, he, hb.1, rfl⟩
  · rw [List.getElem?_toArray] at ho hp
    have h1 := (each i o ho).2
    rw [hod] at h1
    simp only [Bool.and_eq_true, List.all_eq_true] at h1
    have hlt : j < l.length := by
      rcases Nat.lt_or_ge j l.length with h' | h'
      · exact h'
      · rw [List.getElem?_eq_none h'] at hp; cases hp
    have h2 := h1.2 j (List.mem_range.2 hlt)
    simp only [Bool.or_eq_true, beq_iff_eq, hp, Option.bind_some, hpd, bne_self_eq_false, Bool.false_eq_true, or_false] at h2
    exact h2.symm
  · obtain ⟨i, hi, rfl⟩ := Array.mem_iff_getElem.1 ho
    have h1 := (each i _ (by rw [← List.getElem?_toArray]; exact Array.getElem?_eq_getElem hi)).2
    rw [hd] at h1
    simp only [Bool.and_eq_true, decide_eq_true_eq] at h1
    exact h1.1

/-- A region that draws its order, walked once. -/
theorem wp_region_steady {P : Program} {id : Nat} {Q : Exit → Act → World → Prop} {a : Act} {w : World} {l : List Oper} (g : List (Tmp × Rel)) (n : Nat) (hm : P.follows .mixedOrders = true) (hB : Region.lexB .any l.toArray = true)
    (hf : fedB l (g.map (·.1)) n = true) (hn : a.tmps.size = n) (h : wpG P l.toArray (openOf g) w (fun a' w' => Q .normal a' w') l a (fun _ => True)) : (Code.region id l.toArray true).wp P Q a w := by
  simp only [Region.lexB, Bool.and_eq_true] at hB
  obtain ⟨hF, hd⟩ := fedB_fed (n := n) hf
  have hI : ∀ w', Le w w' → Inv l.toArray (openOf g) w (Array.replicate l.toArray.size false) a w' := fun w' hl => ⟨hl, fun k o d R _ hk => by
    exfalso
    rw [Array.getD_eq_getD_getElem?, Array.getElem?_replicate] at hk
    split at hk <;> simp at hk⟩
  refine wp_region_any hm (wpAny_of_G (Qn := fun a' w' => Q .normal a' w') (w0 := w) hF (fun _ _ h => h) _ _ _ _ (hI { w with drawn := w.drawn + 1 } ((Below.refl _ _).drew)) ?_)
  have := wpAnyG_lex hF hB.1 n hd l 0 (Array.replicate l.toArray.size false) a (fun _ => True) (by simp) (by simpa using hB.2) hn ⟨_, hI w (Le.refl w)⟩ (fun _ _ => trivial) h
  simpa using this


/-! ### The steps of a walk -/

/-- Operations that enter no function. -/
def plainOp : Op → Bool
  | .call c => (match c.callee with | .builtin .len => true | .builtin .min => true | .builtin .max => true | .builtin .cap => true | _ => false)
  | .go _ => false
  | .defer _ => false
  | .send _ _ => false
  | .recv _ _ _ => false
  | .select _ _ => false
  | _ => true
theorem value_no_enter {P : Program} {w w' : World} {f : FuncId} {args : Array Value} (s : Sem Value) : (do pure (Next.value (← s)) : Sem Next).run P w ≠ .ok (.enter f args) w' := by
  simp only [Sem.run_bind, Sem.run_pure]
  cases s.run P w <;> simp [Result.andThen]
theorem unit_no_enter {P : Program} {w w' : World} {f : FuncId} {args : Array Value} (s : Sem Unit) : (do s; pure Next.skip : Sem Next).run P w ≠ .ok (.enter f args) w' := by
  simp only [Sem.run_bind, Sem.run_pure]
  cases s.run P w <;> simp [Result.andThen]
theorem and_no_enter {w' : World} {f : FuncId} {args : Array Value} (r : Result Value) : (r.andThen fun a w' => Result.ok (Next.value a) w') ≠ .ok (.enter f args) w' := by
  cases r <;> simp [Result.andThen]
theorem no_enter {P : Program} {ρ : Operand → Value} {o : Oper} {w w' : World} {f : FuncId} {args : Array Value} (h : plainOp o.op = true) : (execOp ρ o).run P w ≠ .ok (.enter f args) w' := by
  obtain ⟨dst, op, type, pos, after, guard⟩ := o
  cases op <;> simp only [plainOp, Bool.false_eq_true] at h <;> simp only [execOp]
  case move x => simp
  case assign x => simp
  case pick c a b =>
    simp only [Sem.run_bind, Sem.run_pure]
    cases (asBool (ρ c)).run P w <;> simp [Result.andThen]
  case nilCheck x =>
    split
    · simp [go_sem]
    · simp [go_sem]
    · simp [go_sem]
    · split
      · simp [go_sem]
      · simp only [Sem.run_bind]
        generalize (program).run P w = r
        cases r with
        | halt x w1 => simp
        | ok p w1 =>
          simp only [Result.andThen]
          generalize (nilAhead _ _ _ _).run P w1 = r
          cases r with
          | halt x w1 => simp
          | ok p w1 =>
            dsimp only
            split <;> simp [go_sem]
      · simp
    · simp
  case call c =>
    simp only [resolve]
    cases hc : c.callee <;> simp only [hc] at h
    case builtin b =>
      cases b <;> simp only [Bool.false_eq_true] at h <;> simp only [Sem.run_bind, Sem.run_pure, Result.andThen_ok, invoke, builtin] <;> exact and_no_enter _
    all_goals cases h
  all_goals first | exact value_no_enter _ | exact unit_no_enter _

/-- The worlds behind w. -/
structure LW (w : World) where
  val : World
  le : Le w val
instance {w : World} : Nonempty (LW w) := ⟨⟨w, Le.refl w⟩⟩

section
variable {P : Program} {ops : Array Oper} {G : Tmp → Option Rel} {w0 : World} {Qn : Act → World → Prop} {o : Oper} {rest : List Oper} {a : Act} {S : World → Prop}

theorem wpG_nil (h : ∀ w, Le w0 w → S w → Qn a w) : wpG P ops G w0 Qn [] a S := h
theorem wpG_skip (hw : Region.wanted o (yielded ops a.tmps) = false) (h : wpG P ops G w0 Qn rest (a.put o.dst undef) S) : wpG P ops G w0 Qn (o :: rest) a S := by
  unfold wpG
  rw [if_neg (by rw [hw]; exact Bool.false_ne_true)]
  exact h
theorem wpG_firm (hw : Region.wanted o (yielded ops a.tmps) = true) (hb : o.dst.bind G = none) (v : Value) (h1 : ∀ w, LeanOn G w0 o a w → firmAt P o a v w) (h2 : wpG P ops G w0 Qn rest (a.put o.dst v) S) : wpG P ops G w0 Qn (o :: rest) a S := by
  unfold wpG
  rw [if_pos hw, hb]
  exact ⟨v, h1, h2⟩
theorem wpG_open (R : Rel) (hw : Region.wanted o (yielded ops a.tmps) = true) (hb : o.dst.bind G = some R) (h1 : ∀ w, LeanOn G w0 o a w → gives P o a R.rel w)
    (h2 : ∀ u, (∃ w, Le w0 w ∧ S w ∧ R.rel u w) → wpG P ops G w0 Qn rest (a.put o.dst u) (fun w => S w ∧ R.rel u w)) : wpG P ops G w0 Qn (o :: rest) a S := by
  unfold wpG
  rw [if_pos hw, hb]
  exact ⟨h1, h2⟩
/-- A plain operation, by the steps of the quiet walk. -/
theorem wpG_quiet (hw : Region.wanted o (yielded ops a.tmps) = true) (hb : o.dst.bind G = none) (hp : plainOp o.op = true)
    (h : ∀ K : Act → Prop, (∀ a, wpG P ops G w0 Qn rest a S → K a) → o.quiet P a (fun w' => ∃ k : LW w0, w' = k.val) K) : wpG P ops G w0 Qn (o :: rest) a S := by
  obtain ⟨v, h1, h2⟩ := h _ (fun _ h => h)
  refine wpG_firm hw hb v (fun w hl => ?_) h2
  have := h1 w ⟨⟨w, hl.1⟩, rfl⟩
  unfold Oper.quietAt at this
  unfold firmAt
  have hne := fun f args w' => no_enter (P := P) (ρ := a.eval) (o := o) (w := w) (w' := w') (f := f) (args := args) hp
  generalize (execOp a.eval o).run P w = r at *
  cases r with
  | ok n w' =>
    cases n <;> simp only [Oper.quietUpon] at this <;> simp only [firmUpon]
    case value u => exact ⟨this.1 ▸ Le.refl w, this.2⟩
    case skip => exact ⟨this.1 ▸ Le.refl w, this.2⟩
    case enter f args => exact absurd rfl (hne f args w')
  | halt x w' => simp only [Oper.quietUpon] at this
/-- A call whose value is known. -/
theorem wpG_call (hw : Region.wanted o (yielded ops a.tmps) = true) (hb : o.dst.bind G = none) (f : FuncId) (args : Array Value) (v : Value) (hx : ∀ w, (execOp a.eval o).run P w = .ok (.enter f args) w) (hi : P.inits.idxOf? f = none)
    (h1 : ∀ w, LeanOn G w0 o a w → Calls P f args w fun e w' => e = .returned v ∧ Below w.heap.size w w') (h2 : wpG P ops G w0 Qn rest (a.put o.dst v) S) : wpG P ops G w0 Qn (o :: rest) a S :=
  wpG_firm hw hb v (fun w hl => by unfold firmAt; rw [hx w]; exact ⟨Le.refl w, hi, h1 w hl⟩) h2
/-- A plain operation that leaves the world as it is, by its run; it may lean on what is known of open slots. -/
theorem wpG_run (hw : Region.wanted o (yielded ops a.tmps) = true) (hb : o.dst.bind G = none) (v : Value) (h1 : ∀ w, LeanOn G w0 o a w → (execOp a.eval o).run P w = .ok (.value v) w)
    (h2 : wpG P ops G w0 Qn rest (a.put o.dst v) S) : wpG P ops G w0 Qn (o :: rest) a S :=
  wpG_firm hw hb v (fun w hl => by unfold firmAt; rw [h1 w hl]; exact ⟨Le.refl w, rfl⟩) h2
end
end
/- The elaborator's whnf of a goal must not walk on by itself. -/
attribute [irreducible] wpG
end Go.Proofs.Ytgkpbkedaddekaa

/- Which patches may be, by the document; what is unlike in cards; what is within: what each returns. -/
namespace Go.Proofs.Ytgkpbkedaddekaa
set_option linter.unusedVariables false
open Go Go.RowKit BitM

section
variable {P : Program} {ops : Array Oper} {rest : List Oper} {op : Oper} {a : Act} {w : World} {Q : Exit → Act → World → Prop}
/-- A load of a whole struct, where its guard lets it. -/
theorem wpList_load_g (hw : Region.wanted op (yielded ops a.tmps) = true) (ty : TypeId) (x : Operand) (ho : op.op = .load ty x)
    (b o : Nat) (hx : a.eval x = .pointer (some ⟨b, o, none⟩)) (cs : List Value) (d : TypeDesc) (hc : w.rangeAt b o cs)
    (hu : P.underlying ty = some d) (hd : d.isRow = true) (hi : (P.info? ty).map (·.size) = some cs.length)
    (h : wpList P ops Q rest (a.put op.dst (.agg cs.toArray)) w) : wpList P ops Q (op :: rest) a w :=
  wpList_step fun K hK => by
    rw [if_pos hw]
    exact wp_load_mid ty x ho b o hx cs d hc hu hd hi (hK _ _ h)
theorem exec_load (ty : TypeId) (x : Operand) (ho : op.op = .load ty x) (b o : Nat) (hx : a.eval x = .pointer (some ⟨b, o, none⟩)) (cs : List Value) (d : TypeDesc) (hc : w.rangeAt b o cs)
    (hu : P.underlying ty = some d) (hd : d.isRow = true) (hi : (P.info? ty).map (·.size) = some cs.length) : (execOp a.eval op).run P w = .ok (.value (.agg cs.toArray)) w := by
  unfold execOp
  simp only [ho, hx, Instr.loadAt, Instr.sureAddr, Sem.run_bind, Sem.run_pure, Result.andThen_ok, run_loadVar_mid w b o ty cs d hc hu hd hi]
end

/-- Are the first k fields of a patch as they must be? -/
def fok (x : BitVec 32) (f : List V3) (k : Nat) : Bool := (List.range k).all fun i => vchk (f.getD i zv) && (decide ((f.getD i zv).1 = 0) || has x (i : Int))
/-- What is wrong with a patch. -/
def pchk (x : BitVec 32) (lab : Int) (f : List V3) : Int :=
  if 511 < x.toNat ∨ x.toNat = 0 then 11 else if 65536 ≤ lab ∨ (lab ≠ 0 ∧ has x 8 = false) then 1 else if fok x f 8 then 0 else 1

end Go.Proofs.Ytgkpbkedaddekaa

/- Cards: which cards may be, by the document: what it returns. -/
namespace Go.Proofs.Ytgkpbkedaddekaa
set_option linter.unusedVariables false
open Go Go.RowKit BitM

/-- May the first k values be? -/
def vk (f : List V3) (k : Nat) : Bool := (List.range k).all fun i => vchk (f.getD i zv)
theorem vk_succ (f : List V3) (k : Nat) : vk f (k + 1) = (vk f k && vchk (f.getD k zv)) := by
  unfold vk
  rw [List.range_succ, List.all_append]
  simp
theorem vk_mono (f : List V3) {j k : Nat} (h : j ≤ k) (hf : vk f j = false) : vk f k = false := by
  induction k with
  | zero => obtain rfl : j = 0 := by omega
            exact hf
  | succ k ih =>
    by_cases e : j = k + 1
    · subst e; exact hf
    · rw [vk_succ, ih (by omega)]; rfl
/-- May a card be? -/
def ccheck (id ver lab : Int) (f : List V3) : Bool := decide (1 ≤ id ∧ id < 1073741824 ∧ 1 ≤ ver ∧ ver ≤ 1099511627776 ∧ lab < 65536) && vk f 8

end Go.Proofs.Ytgkpbkedaddekaa

/- Cards: what a mask shows of a card; a new card: what each returns. -/
namespace Go.Proofs.Ytgkpbkedaddekaa
set_option linter.unusedVariables false
open Go Go.RowKit BitM

theorem info_fields : (Try.prog.info? 34).map (·.size) = some 24 := by kernel_rfl
theorem Blk.fieldsC {w : World} {g : Nat} {id ver lab : Int} {f : List V3} (h : Blk w g (ccells id ver lab f)) : w.rangeAt g 3 (fcells f) := by
  refine h.range 3 _ ?_
  unfold ccells
  rw [List.drop_append_of_le_length (by simp), List.drop_eq_nil_of_le (by simp), List.nil_append, List.take_length]
theorem Blk.fieldsP {w : World} {g : Nat} {m lab : Int} {f : List V3} (h : Blk w g (pcells m lab f)) : w.rangeAt g 2 (fcells f) := by
  refine h.range 2 _ ?_
  unfold pcells
  rw [List.drop_append_of_le_length (by simp), List.drop_eq_nil_of_le (by simp), List.nil_append, List.take_length]
theorem Blk.wholeC {w : World} {g : Nat} {cs : List Value} (h : Blk w g cs) : w.rangeAt g 0 cs := h.range 0 cs (by rw [List.drop_zero, List.take_length])
end Go.Proofs.Ytgkpbkedaddekaa

/- Cards: the patch of what a card has; what is in both of two masks, by the document: what each returns. -/
namespace Go.Proofs.Ytgkpbkedaddekaa
set_option linter.unusedVariables false
open Go Go.RowKit BitM

end Go.Proofs.Ytgkpbkedaddekaa

/- Cards: what a mask shows of a card, what a patch writes to it, by the document: what each returns. -/
namespace Go.Proofs.Ytgkpbkedaddekaa
set_option linter.unusedVariables false
open Go Go.RowKit BitM

/-- The fields ahead of k that a mask has. -/
def pk (x : BitVec 32) (k : Nat) : Nat → Bool := fun i => decide (i < k) && has x (i : Int)
theorem pk_no (x : BitVec 32) (k i : Nat) (h : has x (k : Int) = false) : pk x (k + 1) i = pk x k i := by
  unfold pk
  by_cases e : i = k
  · subst e; simp [h]
  · rw [show decide (i < k + 1) = decide (i < k) from by by_cases h2 : i < k <;> simp [h2] <;> omega]
theorem pk_yes (x : BitVec 32) (k i : Nat) (h : has x (k : Int) = true) : pk x (k + 1) i = (pk x k i || i == k) := by
  unfold pk
  by_cases e : i = k
  · subst e; simp [h]
  · rw [show decide (i < k + 1) = decide (i < k) from by by_cases h2 : i < k <;> simp [h2] <;> omega, show (i == k) = false from by simpa using e, Bool.or_false]
theorem pk_all (x : BitVec 32) (a c : List V3) : mix (pk x 8) a c = mix (fun i => has x (i : Int)) a c := mix_congr _ _ (fun i hi => by unfold pk; rw [decide_eq_true hi]; rfl)
theorem pk_none (x : BitVec 32) (a c : List V3) (hc : c.length = 8) : mix (pk x 0) a c = c := by
  exact (mix_congr (p := pk x 0) (q := fun _ => false) a c (fun i _ => by unfold pk; simp)).trans (mix_none a c hc)

end Go.Proofs.Ytgkpbkedaddekaa
