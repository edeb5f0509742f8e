/- A region that draws its order, some of whose operations turn memory (one block), one behind the other; the last operations (a store) wait for all the others. Each turn tells what the memory is then; no other operation minds it. The others are walked once, in the order of the text. -/
import Derived.Test.YtadmaalhhigbeaaW3
import Derived.Maps.AppendAt
import Derived.OwnWalk
import Derived.Test.YtadmaalhhigbeaaW13
import Derived.Test.YtadmaalhhigbeaaW1
namespace Go.Proofs.Ytadmaalhhigbeaa
set_option linter.unusedVariables false
open Go Go.RowKit

theorem le_grown {w w' : World} (h : Le w w') (row : Option Nat) : w.grownBy w' row := ⟨h.os, h.tape, h.output, h.size, fun k hk _ => h.block k hk⟩
/-- What is known of an open slot: it stays known whatever becomes of the block. -/
structure RelT (row : Option Nat) where
  rel : Value → World → Prop
  mono : ∀ v w w', w.grownBy w' row → rel v w → rel v w'
  real : ∀ w, ¬ rel undef w
/-- The block, what is known behind k turns, and the places of the turns. -/
structure Turns where
  row : Option Nat
  Z : Nat → World → Prop
  at_ : List Nat
namespace Turns
def num (T : Turns) (i : Nat) : Option Nat := T.at_.findIdx? (· == i)
theorem num_get {T : Turns} {i k : Nat} (h : T.num i = some k) : ∃ hk : k < T.at_.length, T.at_[k] = i := by
  unfold num at h
  rw [List.findIdx?_eq_some_iff_getElem] at h
  obtain ⟨hk, h1, _⟩ := h
  exact ⟨hk, by simpa using h1⟩
theorem num_inj {T : Turns} {i j k : Nat} (h : T.num i = some k) (h' : T.num j = some k) : i = j := by
  obtain ⟨_, e⟩ := num_get h
  obtain ⟨_, e'⟩ := num_get h'
  exact e.symm.trans e'
theorem num_at {T : Turns} (hn : T.at_.Nodup) {k : Nat} (hk : k < T.at_.length) : T.num T.at_[k] = some k := by
  unfold num
  rw [List.findIdx?_eq_some_iff_getElem]
  refine ⟨hk, by simp, fun j hj => ?_⟩
  have : j < T.at_.length := by omega
  intro he
  have he' : T.at_[j] = T.at_[k] := by simpa using he
  have h2 := List.pairwise_iff_getElem.1 hn j k this hk hj
  exact h2 he'
end Turns

section
variable (P : Program) (ops : Array Oper) (md : Region.Mode) (T : Turns) (G : Tmp → Option (RelT T.row)) (w0 : World)

def LeanT (i : Nat) (o : Oper) (a : Act) (w : World) : Prop :=
  (w0.grownBy w T.row ∧ ∀ d R, Operand.tmp d ∈ o.op.operands → G d = some R → a.eval (.tmp d) ≠ undef → R.rel (a.eval (.tmp d)) w) ∧ ∀ k, T.num i = some k → T.Z k w
/-- What an operation makes of memory. -/
def Eff (i : Nat) (w w' : World) : Prop := match T.num i with
  | none => Le w w'
  | some k => w.grownBy w' T.row ∧ T.Z (k + 1) w'
def givesUponT (i : Nat) (R : Value → World → Prop) (w : World) : Result Next → Prop
  | .ok (.value u) w' => Eff T i w w' ∧ R u w'
  | .ok .skip w' => Eff T i w w' ∧ R undef w'
  | .ok (.enter f args) w' => w' = w ∧ Calls P f args w (fun e w'' => ∃ v, e = .returned v ∧ Eff T i w w'' ∧ R v w'')
  | _ => False
def givesT (i : Nat) (o : Oper) (a : Act) (R : Value → World → Prop) (w : World) : Prop := givesUponT P T i R w ((execOp a.eval o).run P w)
def firmUponT (i : Nat) (v : Value) (w : World) : Result Next → Prop
  | .ok (.value u) w' => Eff T i w w' ∧ u = v
  | .ok .skip w' => Eff T i w w' ∧ v = undef
  | .ok (.enter f args) w' => w' = w ∧ P.inits.idxOf? f = none ∧ Calls P f args w (fun e w'' => e = .returned v ∧ Eff T i w w'')
  | _ => False
def firmAtT (i : Nat) (o : Oper) (a : Act) (v : Value) (w : World) : Prop := firmUponT P T i v w ((execOp a.eval o).run P w)
theorem firmAtT_gives {i : Nat} {o : Oper} {a : Act} {v : Value} {w : World} (h : firmAtT P T i o a v w) : givesT P T i o a (fun u _ => u = v) w := by
  unfold firmAtT at h
  unfold givesT
  generalize (execOp a.eval o).run P w = r at *
  cases r with
  | ok n w' =>
    cases n <;> simp only [firmUponT] at h <;> simp only [givesUponT]
    case value u => exact h
    case skip => exact ⟨h.1, h.2.symm⟩
    case enter f args => exact ⟨h.1, h.2.2.mono fun e w'' ⟨he, hl⟩ => ⟨v, he, hl, rfl⟩⟩
  | halt x w' => simp only [firmUponT] at h
theorem firmAtT_same {i : Nat} {o : Oper} {a : Act} {v u : Value} {w : World} (h : firmAtT P T i o a v w) (k : firmAtT P T i o a u w) : v = u := by
  unfold firmAtT at *
  generalize (execOp a.eval o).run P w = r at *
  cases r with
  | ok n w' =>
    cases n <;> simp only [firmUponT] at h k
    case value x => exact h.2.symm.trans k.2
    case skip => exact h.2.trans k.2.symm
    case enter f args => exact calls_same P h.2.1 h.2.2 k.2.2
  | halt x w' => simp only [firmUponT] at h
open Classical in
noncomputable def valOfT (i : Nat) (o : Oper) (a : Act) : Value := if h : ∃ v, ∀ w, LeanT T G w0 i o a w → firmAtT P T i o a v w then Classical.choose h else undef
theorem valOfT_firm {i : Nat} {o : Oper} {a : Act} {v : Value} (h : ∀ w, LeanT T G w0 i o a w → firmAtT P T i o a v w) (w : World) (hw : LeanT T G w0 i o a w) : firmAtT P T i o a (valOfT P T G w0 i o a) w := by
  have hx : ∃ v, ∀ w, LeanT T G w0 i o a w → firmAtT P T i o a v w := ⟨v, h⟩
  unfold valOfT
  rw [dif_pos hx]
  exact Classical.choose_spec hx w hw
noncomputable def relOfT (i : Nat) (o : Oper) (a : Act) : Value → World → Prop := match o.dst.bind G with
  | some R => R.rel
  | none => fun u _ => u = valOfT P T G w0 i o a
def InvT (listed : Array Bool) (a : Act) (w : World) : Prop :=
  w0.grownBy w T.row ∧ ∀ k o d R, ops[k]? = some o → listed.getD k false = true → o.dst = some d → G d = some R → a.eval (.tmp d) ≠ undef → R.rel (a.eval (.tmp d)) w
def PossT (i : Nat) (listed : Array Bool) (o : Oper) (a : Act) (u : Value) : Prop :=
  (Region.wanted o (yielded ops a.tmps) = true ∧ (∃ w, InvT ops T G w0 (listed.setIfInBounds i true) (a.put o.dst u) w) ∧ ∃ w, relOfT P T G w0 i o a u w) ∨
  (Region.wanted o (yielded ops a.tmps) = false ∧ u = undef)
def gOpT (i : Nat) (listed : Array Bool) (K : Act → Prop) (a : Act) : Prop :=
  ∀ o, ops[i]? = some o → (Region.wanted o (yielded ops a.tmps) = true → ∀ w, LeanT T G w0 i o a w → givesT P T i o a (relOfT P T G w0 i o a) w) ∧ (Region.wanted o (yielded ops a.tmps) = false → T.num i = none) ∧ ∀ u, PossT P ops T G w0 i listed o a u → K (a.put o.dst u)
/-- So many turns are done. -/
def Phase (listed : Array Bool) (p : Nat) : Prop := p ≤ T.at_.length ∧ ∀ i k, T.num i = some k → (listed.getD i false = true ↔ k < p)
structure TurnsOk : Prop where
  zmono : ∀ k w w', T.Z k w → Le w w' → T.Z k w'
  zall : ∀ k w, k ≤ T.at_.length → w0.grownBy w T.row → ∃ w', w.grownBy w' T.row ∧ T.Z k w'
  nodup : T.at_.Nodup
  chain : ∀ i k, T.num i = some (k + 1) → ∃ o, ops[i]? = some o ∧ ∃ e ∈ o.after, Region.binds md e = true ∧ T.num e.on = some k
structure FedT : Prop where
  fed : ∀ (i : Nat) (o : Oper) (d : Tmp), ops[i]? = some o → Operand.tmp d ∈ o.op.operands → (G d).isSome → ∃ (k : Nat) (ok : Oper), ops[k]? = some ok ∧ ok.dst = some d ∧ ∃ e ∈ o.after, Region.binds md e = true ∧ e.on = k
  one : ∀ (i j : Nat) (o p : Oper) (d : Tmp), ops[i]? = some o → ops[j]? = some p → o.dst = some d → p.dst = some d → i = j

variable {P ops md T G w0}

theorem Eff.grown {i : Nat} {w w' : World} (h : Eff T i w w') : w.grownBy w' T.row := by
  unfold Eff at h
  split at h
  · exact le_grown h _
  · exact h.1
theorem InvT.mono {listed : Array Bool} {a : Act} {w w' : World} (h : InvT ops T G w0 listed a w) (hl : w.grownBy w' T.row) : InvT ops T G w0 listed a w' :=
  ⟨h.1.trans hl, fun k o d R ho hk hd hR hu => R.mono _ _ _ hl (h.2 k o d R ho hk hd hR hu)⟩
theorem InvT.lean (hF : FedT ops md T G) {listed : Array Bool} {a : Act} {w : World} {i : Nat} {o : Oper} (hi : i ∈ Region.ready md ops listed) (ho : ops[i]? = some o) (h : InvT ops T G w0 listed a w) (hz : ∀ k, T.num i = some k → T.Z k w) : LeanT T G w0 i o a w := by
  refine ⟨⟨h.1, fun d R hd hR hu => ?_⟩, hz⟩
  obtain ⟨k, ok, hk, hkd, e, he, hb, rfl⟩ := hF.fed i o d ho hd (by rw [hR]; rfl)
  obtain ⟨_, o', ho', hall⟩ := mem_ready.1 hi
  rw [ho] at ho'
  injection ho' with ho'
  subst ho'
  exact h.2 e.on ok d R hk (hall e he hb) hkd hR hu
theorem InvT.put (hF : FedT ops md T G) {listed : Array Bool} {a : Act} {w : World} {i : Nat} {o : Oper} (ho : ops[i]? = some o) {u : Value} (h : InvT ops T G w0 listed a w)
    (hu : ∀ d R, o.dst = some d → G d = some R → u ≠ undef → R.rel u w) : InvT ops T G w0 (listed.setIfInBounds i true) (a.put o.dst u) w := by
  refine ⟨h.1, fun k p d R hk hl hd hR hne => ?_⟩
  by_cases hik : i = k
  · subst hik
    rw [ho] at hk
    injection hk with hk
    subst hk
    rw [hd] at hne ⊢
    rcases eval_put_self (a := a) (u := u) (d := d) with he | he
    · rw [he] at hne ⊢
      exact hu d R hd hR hne
    · exact absurd he hne
  · have hdd : o.dst ≠ some d := fun he => hik (hF.one i k o p d ho hk he hd)
    rw [eval_put_ne hdd] at hne ⊢
    rw [getD_set_ne false hik] at hl
    exact h.2 k p d R hk hl hd hR hne
theorem InvT.less (hF : FedT ops md T G) {listed : Array Bool} {a : Act} {w : World} {i : Nat} {o : Oper} (ho : ops[i]? = some o) (hun : listed.getD i true = false) {u : Value}
    (h : InvT ops T G w0 (listed.setIfInBounds i true) (a.put o.dst u) w) : InvT ops T G w0 listed a w := by
  refine ⟨h.1, fun k p d R hk hl hd hR hne => ?_⟩
  have hik : i ≠ k := by
    rintro rfl
    have : listed.getD i true = true := by
      rcases Nat.lt_or_ge i listed.size with h' | h'
      · simp [h'] at hl ⊢; exact hl
      · simp [Array.getElem?_eq_none h'] at hl
    rw [hun] at this
    cases this
  have hdd : o.dst ≠ some d := fun he => hik (hF.one i k o p d ho hk he hd)
  have := h.2 k p d R hk (by rw [getD_set_ne false hik]; exact hl) hd hR (by rw [eval_put_ne hdd]; exact hne)
  rwa [eval_put_ne hdd] at this
theorem InvT.comm {listed : Array Bool} {a : Act} {w : World} {i j : Nat} {x y : Option Tmp} {v u : Value} (hij : i ≠ j) (hxy : ∀ d, x = some d → y ≠ some d)
    (h : InvT ops T G w0 ((listed.setIfInBounds i true).setIfInBounds j true) ((a.put x v).put y u) w) : InvT ops T G w0 ((listed.setIfInBounds j true).setIfInBounds i true) ((a.put y u).put x v) w := by
  rwa [Array.setIfInBounds_comm _ _ hij, Act.put_comm a v u hxy] at h
theorem ready_phase (ok : TurnsOk ops md T w0) {listed : Array Bool} {i k p : Nat} (hi : i ∈ Region.ready md ops listed) (hk : T.num i = some k) (hp : Phase T listed p) : p = k := by
  obtain ⟨hun, o, ho, hall⟩ := mem_ready.1 hi
  have h1 : ¬ k < p := fun h => by
    have := (hp.2 i k hk).2 h
    rw [getD_both hun] at this
    cases this
  rcases Nat.lt_or_ge p k with h2 | h2
  · obtain ⟨k', rfl⟩ : ∃ k', k = k' + 1 := ⟨k - 1, by omega⟩
    obtain ⟨o', ho', e, he, hb, hon⟩ := ok.chain i k' hk
    rw [ho] at ho'
    injection ho' with ho'
    subst ho'
    have := (hp.2 e.on k' hon).1 (hall e he hb)
    omega
  · omega
theorem Phase.set_none {listed : Array Bool} {i p : Nat} (h : Phase T listed p) (hi : T.num i = none) : Phase T (listed.setIfInBounds i true) p :=
  ⟨h.1, fun j k hj => by
    have hij : i ≠ j := by rintro rfl; rw [hi] at hj; cases hj
    rw [getD_set_ne false hij]
    exact h.2 j k hj⟩
theorem Phase.set_turn {listed : Array Bool} {i k : Nat} (h : Phase T listed k) (hun : listed.getD i true = false) (hi : T.num i = some k) : Phase T (listed.setIfInBounds i true) (k + 1) := by
  obtain ⟨hk, _⟩ := Turns.num_get hi
  refine ⟨hk, fun j m hj => ?_⟩
  by_cases hij : i = j
  · subst hij
    have : m = k := by rw [hi] at hj; injection hj with e; exact e.symm
    subst this
    have hls : (listed.setIfInBounds i true).getD i false = true := by
      rcases Nat.lt_or_ge i listed.size with h' | h'
      · simp [h']
      · simp [Array.getElem?_eq_none h'] at hun
    rw [hls]
    simp
  · rw [getD_set_ne false hij, h.2 j m hj]
    have : m ≠ k := fun e => hij (Turns.num_inj hi (e ▸ hj))
    omega
theorem Phase.set (ok : TurnsOk ops md T w0) {listed : Array Bool} {i p : Nat} (h : Phase T listed p) (hi : i ∈ Region.ready md ops listed) : ∃ p', Phase T (listed.setIfInBounds i true) p' := by
  cases hk : T.num i with
  | none => exact ⟨p, h.set_none hk⟩
  | some k =>
    obtain rfl := ready_phase ok hi hk h
    exact ⟨p + 1, h.set_turn (mem_ready.1 hi).1 hk⟩
theorem Phase.one (ok : TurnsOk ops md T w0) {listed : Array Bool} {p q : Nat} (h : Phase T listed p) (h' : Phase T listed q) : p = q := by
  have key : ∀ p q, Phase T listed p → Phase T listed q → ¬ p < q := fun p q h h' hlt => by
    have hk : p < T.at_.length := Nat.lt_of_lt_of_le hlt h'.1
    have hn := Turns.num_at ok.nodup hk
    have h1 := (h'.2 _ _ hn).2 hlt
    have h2 := (h.2 _ _ hn).1 h1
    omega
  have := key p q h h'
  have := key q p h' h
  omega
theorem rel_ofT {i : Nat} {o : Oper} {a : Act} {u : Value} {w : World} (h : relOfT P T G w0 i o a u w) (d : Tmp) (R : RelT T.row) (hd : o.dst = some d) (hR : G d = some R) : R.rel u w := by
  unfold relOfT at h
  simpa [hd, hR] using h
theorem givesT_some {i : Nat} {o : Oper} {a : Act} {R : Value → World → Prop} {w : World} (h : givesT P T i o a R w) : ∃ u w', Eff T i w w' ∧ R u w' := by
  unfold givesT at h
  generalize (execOp a.eval o).run P w = r at *
  cases r with
  | ok n w' =>
    cases n <;> simp only [givesUponT] at h
    case value u => exact ⟨_, _, h⟩
    case skip => exact ⟨_, _, h⟩
    case enter f args =>
      obtain ⟨e, w1, fr, ⟨v, _, hl, hr⟩, _⟩ := h.2 []
      exact ⟨v, w1, hl, hr⟩
  | halt x w' => simp only [givesUponT] at h
/-- A world in which the operation may come up. -/
theorem exists_at (ok : TurnsOk ops md T w0) {listed : Array Bool} {a : Act} {i p : Nat} (hi : i ∈ Region.ready md ops listed) (hne : ∃ w, InvT ops T G w0 listed a w) (hp : Phase T listed p) :
    ∃ w, InvT ops T G w0 listed a w ∧ ∀ k, T.num i = some k → T.Z k w := by
  obtain ⟨w, hw⟩ := hne
  obtain ⟨w', hg, hz⟩ := ok.zall p w hp.1 hw.1
  refine ⟨w', hw.mono hg, fun k hk => ?_⟩
  rw [← ready_phase ok hi hk hp]
  exact hz
theorem exists_possT (ok : TurnsOk ops md T w0) (hF : FedT ops md T G) {listed : Array Bool} {a : Act} {i p : Nat} {o : Oper} (hi : i ∈ Region.ready md ops listed) (ho : ops[i]? = some o) (hne : ∃ w, InvT ops T G w0 listed a w) (hp : Phase T listed p)
    (hg : Region.wanted o (yielded ops a.tmps) = true → ∀ w, LeanT T G w0 i o a w → givesT P T i o a (relOfT P T G w0 i o a) w) :
    ∃ u, PossT P ops T G w0 i listed o a u ∧ ∃ w, InvT ops T G w0 (listed.setIfInBounds i true) (a.put o.dst u) w := by
  obtain ⟨w, hw, hz⟩ := exists_at ok hi hne hp
  by_cases hwt : Region.wanted o (yielded ops a.tmps) = true
  · obtain ⟨u, w', hl, hr⟩ := givesT_some (hg hwt w (hw.lean hF hi ho hz))
    have hI := (hw.mono hl.grown).put hF ho (u := u) (fun d R hd hR _ => rel_ofT hr d R hd hR)
    exact ⟨u, .inl ⟨hwt, ⟨w', hI⟩, ⟨w', hr⟩⟩, w', hI⟩
  · have hI := hw.put hF ho (u := undef) (fun d R hd hR h => absurd rfl h)
    exact ⟨undef, .inr ⟨by simpa using hwt, rfl⟩, w, hI⟩
theorem Alike.leanT {i : Nat} {o : Oper} {a a' : Act} (h : Alike ops o a a') {w : World} (hw : LeanT T G w0 i o a' w) : LeanT T G w0 i o a w :=
  ⟨⟨hw.1.1, fun d R hd hR hu => by
    have := hw.1.2 d R hd hR (by rw [h.eval d hd]; exact hu)
    rwa [h.eval d hd] at this⟩, hw.2⟩
theorem Alike.leanT_eq {i : Nat} {o : Oper} {a a' : Act} (h : Alike ops o a a') : LeanT T G w0 i o a' = LeanT T G w0 i o a := funext fun _ => propext ⟨fun hw => h.leanT hw, fun hw => h.symm.leanT hw⟩
theorem Alike.valT {i : Nat} {o : Oper} {a a' : Act} (h : Alike ops o a a') : valOfT P T G w0 i o a' = valOfT P T G w0 i o a := by
  unfold valOfT firmAtT
  rw [h.leanT_eq, h.exec]
theorem Alike.relT {i : Nat} {o : Oper} {a a' : Act} (h : Alike ops o a a') : relOfT P T G w0 i o a' = relOfT P T G w0 i o a := by
  unfold relOfT
  rw [h.valT]
theorem Alike.givesT {i : Nat} {o : Oper} {a a' : Act} (h : Alike ops o a a') {w : World} (hg : Go.Proofs.Ytadmaalhhigbeaa.givesT P T i o a' (relOfT P T G w0 i o a') w) : Go.Proofs.Ytadmaalhhigbeaa.givesT P T i o a (relOfT P T G w0 i o a) w := by
  unfold Go.Proofs.Ytadmaalhhigbeaa.givesT at *
  rwa [h.relT, h.exec] at hg
end

section
variable (P : Program) (ops : Array Oper) (md : Region.Mode) (T : Turns) (G : Tmp → Option (RelT T.row)) (w0 : World) (n : Nat) (L : Array Bool → Act → Prop)
def wpAnyC : Nat → Array Bool → Act → Prop
  | 0, listed, a => L listed a
  | f + 1, listed, a => Region.ready md ops listed ≠ [] ∧ ∀ i ∈ Region.ready md ops listed, i < n ∧ gOpT P ops T G w0 i listed (wpAnyC f (listed.setIfInBounds i true)) a
end
section
variable {P : Program} {ops : Array Oper} {md : Region.Mode} {T : Turns} {G : Tmp → Option (RelT T.row)} {w0 : World} {n : Nat} {L : Array Bool → Act → Prop}

theorem wpAnyC_first (ok : TurnsOk ops md T w0) (hF : FedT ops md T G) {i : Nat} {oi : Oper} (hi : ops[i]? = some oi) (hsel : ∀ (j : Nat) (o : Oper) cs b, ops[j]? = some o → o.op ≠ .select cs b)
    (hs : Region.sinkB md ops n = true) (hc : Region.chainB md ops n = true) (hn : n < ops.size) (hin : i < n)
    (hdone : ∀ listed a, L listed a → ∀ j ∈ Region.ready md ops listed, n ≤ j) :
    ∀ (fuel : Nat) (listed : Array Bool) (a : Act), HeadInv md ops n listed →
      (∀ j oj, ops[j]? = some oj → j ≠ i → listed.getD j true = false → (∀ e ∈ oj.after, Region.binds md e = true → e.on ≠ i) → oi.apart ops oj = true) →
      i ∈ Region.ready md ops listed → (∃ w, InvT ops T G w0 listed a w) → (∃ p, Phase T listed p) →
      gOpT P ops T G w0 i listed (wpAnyC P ops md T G w0 n L fuel (listed.setIfInBounds i true)) a → wpAnyC P ops md T G w0 n L (fuel + 1) listed a := by
  intro fuel
  induction fuel with
  | zero =>
    intro listed a inv _ hr hne hph H
    have hun := (mem_ready.1 hr).1
    obtain ⟨p, hp⟩ := hph
    refine ⟨fun h => (by rw [h] at hr; cases hr), fun j hj => ?_⟩
    have hjn : j < n := by
      rcases Nat.lt_or_ge j n with h | h
      · exact h
      · exact absurd hj (tail_waits hs hc hn inv _ i rfl hin hun j h)
    refine ⟨hjn, ?_⟩
    by_cases hji : j = i
    · subst hji; exact H
    · obtain ⟨u, hp, _⟩ := exists_possT ok hF hr hi hne hp (H oi hi).1
      have h1 := (H oi hi).2.2 u hp
      have := hdone _ _ h1 j (ready_mono hj hji)
      omega
  | succ fuel ih =>
    intro listed a inv hfree hr hne hph H
    obtain ⟨p, hp⟩ := hph
    have hiun := (mem_ready.1 hr).1
    refine ⟨fun h => (by rw [h] at hr; cases hr), fun j hj => ?_⟩
    have hjn : j < n := by
      rcases Nat.lt_or_ge j n with h | h
      · exact h
      · exact absurd hj (tail_waits hs hc hn inv _ i rfl hin hiun j h)
    refine ⟨hjn, ?_⟩
    by_cases hji : j = i
    · subst hji; exact H
    obtain ⟨hgi, hwi, hnext⟩ := H oi hi
    obtain ⟨v0, hp0, _⟩ := exists_possT ok hF hr hi hne hp hgi
    obtain ⟨hjun, oj', hoj', hall⟩ := mem_ready.1 hj
    have hnot : ∀ e ∈ oj'.after, Region.binds md e = true → e.on ≠ i := fun e he hb heq => by
      have h1 := hall e he hb
      rw [heq, getD_both hiun] at h1
      cases h1
    intro oj hoj
    obtain rfl : oj' = oj := by rw [hoj] at hoj'; injection hoj' with h; exact h.symm
    have hap := hfree j oj' hoj hji hjun hnot
    obtain ⟨p1, p2, p3⟩ := Oper.apart_spec hap
    have sj : ∀ v, Alike ops oj' a (a.put oi.dst v) := fun v => alike_put (fun cs b => hsel j oj' cs b hoj) p1
    have si : ∀ u, Alike ops oi a (a.put oj'.dst u) := fun u => alike_put (fun cs b => hsel i oi cs b hi) p3
    have hjr := ready_mono hj hji
    refine ⟨fun hwt w hw => ?_, fun hwt => ?_, fun u hu => ?_⟩
    · have h1 := (((hnext v0 hp0).2 j hjr).2 oj' hoj).1 (by rw [(sj v0).want]; exact hwt) w ((sj v0).symm.leanT hw)
      exact (sj v0).givesT h1
    · exact (((hnext v0 hp0).2 j hjr).2 oj' hoj).2.1 (by rw [(sj v0).want]; exact hwt)
    · have hne' : ∃ w, InvT ops T G w0 (listed.setIfInBounds j true) (a.put oj'.dst u) w := by
        rcases hu with ⟨_, h, _⟩ | ⟨_, rfl⟩
        · exact h
        · obtain ⟨w, hw⟩ := hne
          exact ⟨w, hw.put hF hoj (fun d R hd hR h => absurd rfl h)⟩
      have hiun' : (listed.setIfInBounds j true).getD i true = false := by rw [getD_set_ne true hji]; exact hiun
      have hfree' : ∀ k ok, ops[k]? = some ok → k ≠ i → (listed.setIfInBounds j true).getD k true = false →
          (∀ e ∈ ok.after, Region.binds md e = true → e.on ≠ i) → oi.apart ops ok = true := fun k ok hk hki hun hno => by
        refine hfree k ok hk hki ?_ hno
        by_cases hjk : j = k
        · subst hjk; exact hjun
        · rw [getD_set_ne true hjk] at hun; exact hun
      refine ih (listed.setIfInBounds j true) (a.put oj'.dst u) (inv.set hj hjn) hfree' (ready_mono hr (Ne.symm hji)) hne' (hp.set ok hj) ?_
      intro oi' hoi'
      obtain rfl : oi = oi' := by rw [hi] at hoi'; injection hoi' with h
      refine ⟨fun hwt w hw => ?_, fun hwt => hwi (by rw [← (si u).want]; exact hwt), fun v hv => ?_⟩
      · exact (si u).symm.givesT (hgi (by rw [← (si u).want]; exact hwt) w ((si u).leanT hw))
      · have hI : ∃ w, InvT ops T G w0 ((listed.setIfInBounds i true).setIfInBounds j true) ((a.put oi.dst v).put oj'.dst u) w := by
          rcases hv with ⟨_, ⟨w, hw⟩, _⟩ | ⟨_, rfl⟩
          · exact ⟨w, hw.comm hji (fun d hd he => p2 d he hd)⟩
          · obtain ⟨w, hw⟩ := hne'
            exact ⟨w, (hw.put hF hi (fun d R hd hR h => absurd rfl h)).comm hji (fun d hd he => p2 d he hd)⟩
        have hpi : PossT P ops T G w0 i listed oi a v := by
          rcases hv with ⟨h1, _, w2, h2⟩ | ⟨h1, h2⟩
          · refine .inl ⟨by rw [← (si u).want]; exact h1, ?_, w2, by rw [← (si u).relT]; exact h2⟩
            obtain ⟨w, hw⟩ := hI
            exact ⟨w, hw.less hF hoj (by rw [getD_set_ne true (Ne.symm hji)]; exact hjun)⟩
          · exact .inr ⟨by rw [← (si u).want]; exact h1, h2⟩
        have hk := (((hnext v hpi).2 j hjr).2 oj' hoj).2.2 u (by
          rcases hu with ⟨h1, _, w2, h2⟩ | ⟨h1, h2⟩
          · exact .inl ⟨by rw [(sj v).want]; exact h1, hI, w2, by rw [(sj v).relT]; exact h2⟩
          · exact .inr ⟨by rw [(sj v).want]; exact h1, h2⟩)
        rw [Array.setIfInBounds_comm _ _ hji, Act.put_comm a u v (fun d hd he => p2 d he hd)]
        exact hk

theorem wpAny_of_C {g : Nat} {Q : Exit → Act → World → Prop} (ok : TurnsOk ops md T w0) (hF : FedT ops md T G) (hL : ∀ listed a w p, L listed a → InvT ops T G w0 listed a w → Phase T listed p → T.Z p w → wpAny P md ops Q g listed a w) :
    ∀ (f : Nat) (listed : Array Bool) (a : Act) (w : World) (p : Nat), InvT ops T G w0 listed a w → Phase T listed p → T.Z p w → wpAnyC P ops md T G w0 n L f listed a → wpAny P md ops Q (f + g) listed a w
  | 0, _, _, w, p, hw, hp, hz, h => by rw [Nat.zero_add]; exact hL _ _ w p h hw hp hz
  | fuel + 1, listed, a, w, p, hw, hp, hz, h => by
    rw [show fuel + 1 + g = (fuel + g) + 1 by omega]
    refine ⟨fun h0 => absurd h0 h.1, fun i hi => ?_⟩
    obtain ⟨hun, o, ho, _⟩ := mem_ready.1 hi
    obtain ⟨hg, hnw, hn⟩ := (h.2 i hi).2 o ho
    have hzi : ∀ k, T.num i = some k → T.Z k w := fun k hk => by rw [← ready_phase ok hi hk hp]; exact hz
    unfold wpOp
    simp only [ho]
    by_cases hwt : Region.wanted o (yielded ops a.tmps) = true
    · simp only [hwt, if_true]
      left
      have h1 := hg hwt w (hw.lean hF hi ho hzi)
      have next : ∀ u w', Eff T i w w' → relOfT P T G w0 i o a u w' → wpAny P md ops Q (fuel + g) (listed.setIfInBounds i true) (a.put o.dst u) w' := fun u w' hl hr => by
        have hI := (hw.mono hl.grown).put hF ho (u := u) (fun d R hd hR _ => rel_ofT hr d R hd hR)
        have hK := hn u (.inl ⟨hwt, ⟨w', hI⟩, ⟨w', hr⟩⟩)
        cases hk : T.num i with
        | none =>
          unfold Eff at hl
          rw [hk] at hl
          exact wpAny_of_C ok hF hL fuel _ _ w' p hI (hp.set_none hk) (ok.zmono _ _ _ hz hl) hK
        | some k =>
          obtain rfl := ready_phase ok hi hk hp
          unfold Eff at hl
          rw [hk] at hl
          exact wpAny_of_C ok hF hL fuel _ _ w' (p + 1) hI (hp.set_turn hun hk) hl.2 hK
      unfold givesT at h1
      unfold Oper.wp
      generalize (execOp a.eval o).run P w = r at *
      cases r with
      | ok n w' =>
        cases n <;> simp only [givesUponT] at h1 <;> simp only [Oper.upon]
        case value u => exact next _ _ h1.1 h1.2
        case skip => exact next _ _ h1.1 h1.2
        case enter f args =>
          obtain ⟨rfl, h2⟩ := h1
          exact h2.mono fun e w'' ⟨v, he, hl, hr⟩ => by subst he; exact next _ _ hl hr
      | halt x w' => simp only [givesUponT] at h1
    · simp only [hwt]
      exact wpAny_of_C ok hF hL fuel _ _ w p (hw.put hF ho (fun d R hd hR h => absurd rfl h)) (hp.set_none (hnw (by simpa using hwt))) hz (hn undef (.inr ⟨by simpa using hwt, rfl⟩))
end

/-- The walk in the order of the text: the place, how many turns are done. -/
def wpT (P : Program) (ops : Array Oper) (T : Turns) (G : Tmp → Option (RelT T.row)) (w0 : World) (Qn : Act → World → Prop) : Nat → Nat → List Oper → Act → (World → Prop) → Prop
  | _, p, [], a, S => ∀ w, w0.grownBy w T.row → S w → T.Z p w → Qn a w
  | i, p, o :: rest, a, S => if Region.wanted o (yielded ops a.tmps) then
      match o.dst.bind G with
      | some R => T.num i = none ∧ (∀ w, LeanT T G w0 i o a w → givesT P T i o a R.rel w) ∧ ∀ u, (∃ w, w0.grownBy w T.row ∧ S w ∧ R.rel u w) → wpT P ops T G w0 Qn (i + 1) p rest (a.put o.dst u) (fun w => S w ∧ R.rel u w)
      | none => ∃ v, (∀ w, LeanT T G w0 i o a w → firmAtT P T i o a v w) ∧ ((T.num i = none ∧ wpT P ops T G w0 Qn (i + 1) p rest (a.put o.dst v) S) ∨ (T.num i = some p ∧ wpT P ops T G w0 Qn (i + 1) (p + 1) rest (a.put o.dst v) S))
    else T.num i = none ∧ wpT P ops T G w0 Qn (i + 1) p rest (a.put o.dst undef) S

section
variable {P : Program} {ops : Array Oper} {md : Region.Mode} {T : Turns} {G : Tmp → Option (RelT T.row)} {w0 : World} {n : Nat}
theorem wpAnyC_lex {g : Nat} {Tn : Act → World → Prop} (ok : TurnsOk ops md T w0) (hF : FedT ops md T G) (hsel : Region.noSelect ops = true) (hs : Region.sinkB md ops n = true) (hc : Region.chainB md ops n = true) (hn : n < ops.size) (nt : Nat) (hd : ∀ o ∈ ops, ∀ d, o.dst = some d → d < nt) :
    ∀ (l : List Oper) (k p : Nat) (listed : Array Bool) (a : Act) (S : World → Prop), (∀ j, j < l.length → l[j]? = ops[k + j]?) → k + l.length = n → HeadInv md ops n listed →
    Region.lexHead md ops g l.length k listed = true → a.tmps.size = nt → (∃ w, InvT ops T G w0 listed a w) → Phase T listed p → (∀ w, InvT ops T G w0 listed a w → S w) → wpT P ops T G w0 Tn k p l a S →
    wpAnyC P ops md T G w0 n (fun listed' a' => Region.seqB md ops g n listed' = true ∧ ∃ p', Phase T listed' p' ∧ ∀ w, InvT ops T G w0 listed' a' w → T.Z p' w → Tn a' w) l.length listed a
  | [], k, p, listed, a, S, _, hk, _, hB, _, _, hp, hS, h => by
    have : k = n := by simpa using hk
    subst this
    exact ⟨by simpa [Region.lexHead] using hB, p, hp, fun w hw hz => h w hw.1 (hS w hw) hz⟩
  | o :: l, k, p, listed, a, S, hl, hk, inv, hB, ha, hne, hp, hS, h => by
    have h0 : ops[k]? = some o := by simpa using (hl 0 (by simp)).symm
    simp only [List.length_cons, Region.lexHead, Bool.and_eq_true] at hB
    obtain ⟨⟨hr, hf⟩, hB'⟩ := hB
    have hkn : k < n := by simp only [List.length_cons] at hk; omega
    have hrd : k ∈ Region.ready md ops listed := by simpa using hr
    have hun := (mem_ready.1 hrd).1
    have hl' : ∀ j, j < l.length → l[j]? = ops[k + 1 + j]? := fun j hj => by have := hl (j + 1) (by simp; omega); simpa [Nat.add_assoc, Nat.add_comm 1 j] using this
    have hk' : k + 1 + l.length = n := by simp only [List.length_cons] at hk; omega
    refine wpAnyC_first ok hF h0 (Region.noSelect_spec hsel) hs hc hn hkn (fun listed' a' hL => seqB_ready hL.1) l.length listed a inv (Region.free_spec h0 hf) hrd hne ⟨p, hp⟩ ?_
    intro o' ho'
    obtain rfl : o = o' := by rw [h0] at ho'; injection ho' with h
    unfold wpT at h
    by_cases hwt : Region.wanted o (yielded ops a.tmps) = true
    · simp only [hwt, if_true] at h
      cases hb : o.dst.bind G with
      | some R =>
        simp only [hb] at h
        have hrel : relOfT P T G w0 k o a = R.rel := by unfold relOfT; rw [hb]
        obtain ⟨d, hod, hGd⟩ := Option.bind_eq_some_iff.1 hb
        refine ⟨fun _ w hw => by rw [hrel]; exact h.2.1 w hw, fun hw' => absurd hwt (by rw [hw']; simp), fun u hu => ?_⟩
        rcases hu with ⟨_, ⟨w1, hI⟩, w2, hr2⟩ | ⟨hw', _⟩
        · rw [hrel] at hr2
          have hreal : u ≠ undef := fun e => R.real w2 (e ▸ hr2)
          have hlt : d < a.tmps.size := by rw [ha]; exact hd o (Array.mem_of_getElem? h0) d hod
          have hev : (a.put o.dst u).eval (.tmp d) = u := by rw [hod]; simp [Act.put, Act.eval, hlt]
          have hS' : ∀ w, InvT ops T G w0 (listed.setIfInBounds k true) (a.put o.dst u) w → S w ∧ R.rel u w := fun w hw => by
            refine ⟨hS w (hw.less hF h0 hun), ?_⟩
            have hls : (listed.setIfInBounds k true).getD k false = true := by
              rcases Nat.lt_or_ge k listed.size with h' | h'
              · simp [h']
              · simp [Array.getElem?_eq_none h'] at hun
            have := hw.2 k o d R h0 hls hod hGd (by rw [hev]; exact hreal)
            rwa [hev] at this
          exact wpAnyC_lex ok hF hsel hs hc hn nt hd l (k + 1) p _ _ _ hl' hk' (inv.set hrd hkn) hB' (by rw [put_size]; exact ha) ⟨w1, hI⟩ (hp.set_none h.1) hS' (h.2.2 u ⟨w1, hI.1, (hS' w1 hI).1, (hS' w1 hI).2⟩)
        · rw [hwt] at hw'; cases hw'
      | none =>
        simp only [hb] at h
        obtain ⟨v, hv, hrest⟩ := h
        have hrel : relOfT P T G w0 k o a = fun u _ => u = valOfT P T G w0 k o a := by unfold relOfT; rw [hb]
        have hval : valOfT P T G w0 k o a = v := by
          obtain ⟨w, hw, hz⟩ := exists_at ok hrd hne hp
          have hlw := hw.lean hF hrd h0 hz
          exact firmAtT_same P T (valOfT_firm P T G w0 hv w hlw) (hv w hlw)
        refine ⟨fun _ w hw => by rw [hrel]; exact firmAtT_gives P T (valOfT_firm P T G w0 hv w hw), fun hw' => absurd hwt (by rw [hw']; simp), fun u hu => ?_⟩
        rcases hu with ⟨_, hI, w2, hr2⟩ | ⟨hw', _⟩
        · rw [hrel, hval] at hr2
          subst hr2
          rcases hrest with ⟨hnone, hrest⟩ | ⟨hsome, hrest⟩
          · exact wpAnyC_lex ok hF hsel hs hc hn nt hd l (k + 1) p _ _ S hl' hk' (inv.set hrd hkn) hB' (by rw [put_size]; exact ha) hI (hp.set_none hnone) (fun w hw => hS w (hw.less hF h0 hun)) hrest
          · exact wpAnyC_lex ok hF hsel hs hc hn nt hd l (k + 1) (p + 1) _ _ S hl' hk' (inv.set hrd hkn) hB' (by rw [put_size]; exact ha) hI (hp.set_turn hun hsome) (fun w hw => hS w (hw.less hF h0 hun)) hrest
        · rw [hwt] at hw'; cases hw'
    · simp only [hwt] at h
      refine ⟨fun hw' => absurd hw' hwt, fun _ => h.1, fun u hu => ?_⟩
      rcases hu with ⟨hw', _⟩ | ⟨_, rfl⟩
      · exact absurd hw' hwt
      · obtain ⟨w, hw⟩ := hne
        have hI := hw.put hF h0 (u := undef) (fun d R hd hR h => absurd rfl h)
        exact wpAnyC_lex ok hF hsel hs hc hn nt hd l (k + 1) p _ _ S hl' hk' (inv.set hrd hkn) hB' (by rw [put_size]; exact ha) ⟨w, hI⟩ (hp.set_none h.1) (fun w hw => hS w (hw.less hF h0 hun)) h.2
end

def openOfT {row : Option Nat} (l : List (Tmp × RelT row)) : Tmp → Option (RelT row) := fun d => l.lookup d
def anyRel : Rel := ⟨fun v _ => v ≠ undef, fun _ _ _ _ h => h, fun _ h => h rfl⟩
theorem open_any {row : Option Nat} : ∀ (g : List (Tmp × RelT row)) (d : Tmp), (openOfT g d).isSome = (openOf (g.map fun x => (x.1, anyRel)) d).isSome
  | [], d => rfl
  | x :: g, d => by
    have ih := open_any g d
    unfold openOfT openOf at *
    rw [List.map_cons, List.lookup_cons, List.lookup_cons]
    cases d == x.1
    · exact ih
    · rfl
theorem fedT_of {l : List Oper} {T : Turns} {g : List (Tmp × RelT T.row)} {n : Nat} (h : fedB l (g.map (·.1)) n = true) : FedT l.toArray .any T (openOfT g) ∧ ∀ o ∈ l.toArray, ∀ d, o.dst = some d → d < n := by
  have h' : fedB l ((g.map fun x => (x.1, anyRel)).map (·.1)) n = true := by rw [List.map_map]; exact h
  obtain ⟨⟨f1, f2⟩, hd⟩ := fedB_fed h'
  exact ⟨⟨fun i o d ho hx hG => f1 i o d ho hx (by rw [← open_any]; exact hG), f2⟩, hd⟩
/-- Each turn waits for the one ahead. -/
def chainTB (l : List Oper) (at_ : List Nat) : Bool := (List.range at_.length).all fun k => match at_[k + 1]?, at_[k]? with
  | some i, some j => (match l[i]? with | some o => o.after.any (fun e => Region.binds .any e && (e.on == j)) | none => false)
  | _, _ => true
theorem turns_ok {l : List Oper} {T : Turns} {w : World} (hz : ∀ k w1 w2, T.Z k w1 → Le w1 w2 → T.Z k w2) (ha : ∀ k w1, k ≤ T.at_.length → w.grownBy w1 T.row → ∃ w', w1.grownBy w' T.row ∧ T.Z k w')
    (hn : T.at_.Nodup) (hc : chainTB l T.at_ = true) : TurnsOk l.toArray .any T w := by
  refine ⟨hz, ha, hn, fun i k hk => ?_⟩
  obtain ⟨hk1, e⟩ := Turns.num_get hk
  unfold chainTB at hc
  rw [List.all_eq_true] at hc
  have h := hc k (List.mem_range.2 (by omega))
  have e1 : T.at_[k + 1]? = some i := by rw [List.getElem?_eq_getElem hk1, e]
  have e2 : T.at_[k]? = some (T.at_[k]'(by omega)) := List.getElem?_eq_getElem (by omega)
  rw [e1, e2] at h
  simp only at h
  cases ho : l[i]? with
  | none => rw [ho] at h; cases h
  | some o =>
    rw [ho] at h
    simp only at h
    obtain ⟨x, hx, hb⟩ := Array.any_eq_true'.1 h
    simp only [Bool.and_eq_true, beq_iff_eq] at hb
    exact ⟨o, by rw [List.getElem?_toArray]; exact ho, x, hx, hb.1, by rw [hb.2]; exact Turns.num_at hn (by omega)⟩

/-- The first m operations walked once, some of them turns; the others, which wait for them, in a row. -/
theorem wp_region_chain {P : Program} {id : Nat} {Q : Exit → Act → World → Prop} {a : Act} {w : World} {l : List Oper} (T : Turns) (g : List (Tmp × RelT T.row)) (nt m : Nat) (hm : P.follows .mixedOrders = true) (hB : Region.lexTailB .any l.toArray m = true)
    (hf : fedB l (g.map (·.1)) nt = true) (hn : a.tmps.size = nt) (ok : TurnsOk l.toArray .any T w) (hz : T.Z 0 w)
    (h : wpT P l.toArray T (openOfT g) w (fun a' w' => wpList P l.toArray Q (l.drop m) a' w') 0 0 (l.take m) a (fun _ => True)) : (Code.region id l.toArray true).wp P Q a w := by
  simp only [Region.lexTailB, Bool.and_eq_true, decide_eq_true_eq] at hB
  obtain ⟨⟨⟨⟨hsel, hn'⟩, hs⟩, hc⟩, hlex⟩ := hB
  obtain ⟨hF, hd⟩ := fedT_of (n := nt) hf
  have hnl : m < l.length := by simpa using hn'
  have htl : (l.take m).length = m := by simp; omega
  have hdl : (l.drop m).length = l.toArray.size - m := by simp
  have hI : ∀ w', Le w w' → InvT l.toArray T (openOfT g) w (Array.replicate l.toArray.size false) a w' := fun w' hl => ⟨le_grown hl _, fun k o d R _ hk => by
    exfalso
    rw [getD_replicate_false] at hk
    cases hk⟩
  have inv0 : HeadInv .any l.toArray m (Array.replicate l.toArray.size false) :=
    ⟨by simp, fun j oj _ hl => (by rw [getD_replicate_false] at hl; cases hl), fun t _ ht => getD_in (by simpa using ht) (getD_replicate_false _ _)⟩
  have ph0 : Phase T (Array.replicate l.toArray.size false) 0 := ⟨Nat.zero_le _, fun i k _ => by rw [getD_replicate_false]; simp⟩
  have H := wpAnyC_lex (md := .any) (g := l.toArray.size - m) ok hF hsel hs hc hn' nt hd (l.take m) 0 0 _ a (fun _ => True) (fun j hj => by
    have hj' : j < m := by rw [htl] at hj; exact hj
    simp [hj']) (by simpa using htl) inv0 (by rw [htl]; exact hlex) hn ⟨_, hI w (Le.refl w)⟩ ph0 (fun _ _ => trivial) h
  refine wp_region_any hm ?_
  have := wpAny_of_C (Q := Q) (g := l.toArray.size - m) ok hF (fun listed a' w' p hL hw hp hzp => by
    obtain ⟨hq, p', hp', hT⟩ := hL
    obtain rfl := hp.one ok hp'
    have := wpAny_of_seq (md := .any) (Q' := Q) (l.drop m) m listed a' w' (fun j => by simp [List.getElem?_drop]) (by rw [hdl]; exact hq) (hT w' hw hzp)
    rwa [hdl] at this) _ _ _ { w with drawn := w.drawn + 1 } 0 (hI { w with drawn := w.drawn + 1 } ((Below.refl _ _).drew)) ph0 (ok.zmono 0 w _ hz ((Below.refl _ _).drew)) H
  rw [htl, show m + (l.toArray.size - m) = l.toArray.size by omega] at this
  exact this

/-- The worlds that w becomes where one block is turned. -/
structure GW (w : World) (row : Option Nat) where
  val : World
  grown : w.grownBy val row
instance {w : World} {row : Option Nat} : Nonempty (GW w row) := ⟨⟨w, World.grownBy.refl _ _⟩⟩

section
variable {P : Program} {ops : Array Oper} {T : Turns} {G : Tmp → Option (RelT T.row)} {w0 : World} {Qn : Act → World → Prop} {o : Oper} {rest : List Oper} {a : Act} {S : World → Prop} {i p : Nat}

theorem wpT_nil (h : ∀ w, w0.grownBy w T.row → S w → T.Z p w → Qn a w) : wpT P ops T G w0 Qn i p [] a S := h
theorem wpT_firm (hi : T.num i = none) (hw : Region.wanted o (yielded ops a.tmps) = true) (hb : o.dst.bind G = none) (v : Value) (h1 : ∀ w, LeanT T G w0 i o a w → firmAtT P T i o a v w) (h2 : wpT P ops T G w0 Qn (i + 1) p rest (a.put o.dst v) S) :
    wpT P ops T G w0 Qn i p (o :: rest) a S := by
  unfold wpT
  rw [if_pos hw, hb]
  exact ⟨v, h1, .inl ⟨hi, h2⟩⟩
theorem wpT_skip (hi : T.num i = none) (hw : Region.wanted o (yielded ops a.tmps) = false) (h : wpT P ops T G w0 Qn (i + 1) p rest (a.put o.dst undef) S) : wpT P ops T G w0 Qn i p (o :: rest) a S := by
  unfold wpT
  rw [if_neg (by rw [hw]; exact Bool.false_ne_true)]
  exact ⟨hi, h⟩
/-- A turn: a call whose value is known. -/
theorem wpT_turn (hi : T.num i = some p) (hw : Region.wanted o (yielded ops a.tmps) = true) (hb : o.dst.bind G = none) (f : FuncId) (args : Array Value) (v : Value) (hx : ∀ w, (execOp a.eval o).run P w = .ok (.enter f args) w) (hn : P.inits.idxOf? f = none)
    (h1 : ∀ w, w0.grownBy w T.row → T.Z p w → Calls P f args w fun e w' => e = .returned v ∧ w.grownBy w' T.row ∧ T.Z (p + 1) w') (h2 : wpT P ops T G w0 Qn (i + 1) (p + 1) rest (a.put o.dst v) S) :
    wpT P ops T G w0 Qn i p (o :: rest) a S := by
  unfold wpT
  rw [if_pos hw, hb]
  refine ⟨v, fun w hl => ?_, .inr ⟨hi, h2⟩⟩
  unfold firmAtT
  rw [hx w]
  refine ⟨rfl, hn, (h1 w hl.1.1 (hl.2 p hi)).mono fun e w' hh => ⟨hh.1, ?_⟩⟩
  unfold Eff
  rw [hi]
  exact hh.2
/-- A call that is no turn. -/
theorem wpT_call (hi : T.num i = none) (hw : Region.wanted o (yielded ops a.tmps) = true) (hb : o.dst.bind G = none) (f : FuncId) (args : Array Value) (v : Value) (hx : ∀ w, (execOp a.eval o).run P w = .ok (.enter f args) w) (hn : P.inits.idxOf? f = none)
    (h1 : ∀ w, w0.grownBy w T.row → Calls P f args w fun e w' => e = .returned v ∧ Below w.heap.size w w') (h2 : wpT P ops T G w0 Qn (i + 1) p rest (a.put o.dst v) S) :
    wpT P ops T G w0 Qn i p (o :: rest) a S :=
  wpT_firm hi hw hb v (fun w hl => by
    unfold firmAtT
    rw [hx w]
    refine ⟨rfl, hn, (h1 w hl.1.1).mono fun e w' hh => ⟨hh.1, ?_⟩⟩
    unfold Eff
    rw [hi]
    exact hh.2) h2
theorem wpT_run (hi : T.num i = none) (hw : Region.wanted o (yielded ops a.tmps) = true) (hb : o.dst.bind G = none) (v : Value) (h1 : ∀ w, w0.grownBy w T.row → (execOp a.eval o).run P w = .ok (.value v) w) (h2 : wpT P ops T G w0 Qn (i + 1) p rest (a.put o.dst v) S) :
    wpT P ops T G w0 Qn i p (o :: rest) a S :=
  wpT_firm hi hw hb v (fun w hl => by
    unfold firmAtT
    rw [h1 w hl.1.1]
    refine ⟨?_, rfl⟩
    unfold Eff
    rw [hi]
    exact Le.refl w) h2
theorem wpT_open (R : RelT T.row) (hi : T.num i = none) (hw : Region.wanted o (yielded ops a.tmps) = true) (hb : o.dst.bind G = some R) (h1 : ∀ w, LeanT T G w0 i o a w → givesT P T i o a R.rel w)
    (h2 : ∀ u, (∃ w, w0.grownBy w T.row ∧ S w ∧ R.rel u w) → wpT P ops T G w0 Qn (i + 1) p rest (a.put o.dst u) (fun w => S w ∧ R.rel u w)) : wpT P ops T G w0 Qn i p (o :: rest) a S := by
  unfold wpT
  rw [if_pos hw, hb]
  exact ⟨hi, h1, h2⟩
/-- A block is made. -/
theorem wpT_made (R : RelT T.row) (hi : T.num i = none) (hw : Region.wanted o (yielded ops a.tmps) = true) (hb : o.dst.bind G = some R) (u : World → Value) (n : World → World) (hx : ∀ w, (execOp a.eval o).run P w = .ok (.value (u w)) (n w)) (hl : ∀ w, Le w (n w))
    (h1 : ∀ w, w0.grownBy w T.row → R.rel (u w) (n w)) (h2 : ∀ u, (∃ w, w0.grownBy w T.row ∧ S w ∧ R.rel u w) → wpT P ops T G w0 Qn (i + 1) p rest (a.put o.dst u) (fun w => S w ∧ R.rel u w)) : wpT P ops T G w0 Qn i p (o :: rest) a S :=
  wpT_open R hi hw hb (fun w hw' => by
    unfold givesT
    rw [hx w]
    refine ⟨?_, h1 w hw'.1.1⟩
    unfold Eff
    rw [hi]
    exact hl w) h2
theorem wpT_quiet (hi : T.num i = none) (hw : Region.wanted o (yielded ops a.tmps) = true) (hb : o.dst.bind G = none) (hp : plainOp o.op = true)
    (h : ∀ K : Act → Prop, (∀ a, wpT P ops T G w0 Qn (i + 1) p rest a S → K a) → o.quiet P a (fun w' => ∃ k : GW w0 T.row, w' = k.val) K) : wpT P ops T G w0 Qn i p (o :: rest) a S := by
  obtain ⟨v, h1, h2⟩ := h _ (fun _ h => h)
  refine wpT_firm hi hw hb v (fun w hl => ?_) h2
  have := h1 w ⟨⟨w, hl.1.1⟩, rfl⟩
  unfold Oper.quietAt at this
  unfold firmAtT
  have hne := fun f args w' => no_enter (P := P) (ρ := a.eval) (o := o) (w := w) (w' := w') (f := f) (args := args) hp
  have hE : Eff T i w w := by
    unfold Eff
    rw [hi]
    exact Le.refl w
  generalize (execOp a.eval o).run P w = r at *
  cases r with
  | ok n w' =>
    cases n <;> simp only [Oper.quietUpon] at this <;> simp only [firmUponT]
    case value u => exact ⟨this.1 ▸ hE, this.2⟩
    case skip => exact ⟨this.1 ▸ hE, this.2⟩
    case enter f args => exact absurd rfl (hne f args w')
  | halt x w' => simp only [Oper.quietUpon] at this
end
attribute [irreducible] wpT
end Go.Proofs.Ytadmaalhhigbeaa

/- Cards as they are read of bytes: the program's. -/
namespace Go.Proofs.Ytadmaalhhigbeaa
set_option linter.unusedVariables false
open Go Go.RowKit OctM BitM

/-- Fields, one behind the other. -/
def fldsOut (must : Bool) (l : List UInt8) : List Int → List V3 → Nat → Int → List V3 × Nat × Int
  | [], f, a, e => (f, a, e)
  | i :: L, f, a, e => if (fldOut must l a e).2.2 = 0 then fldsOut must l L (f.set i.toNat (fldOut must l a e).1) (fldOut must l a e).2.1 (fldOut must l a e).2.2 else (f.set i.toNat (fldOut must l a e).1, (fldOut must l a e).2)
theorem fldsOut_at (must : Bool) (l : List UInt8) : ∀ (L : List Int) (f : List V3) (a : Nat) (e : Int), a ≤ l.length → (fldsOut must l L f a e).2.1 ≤ l.length
  | [], f, a, e, h => h
  | i :: L, f, a, e, h => by
    unfold fldsOut
    split
    · exact fldsOut_at must l L _ _ _ (fldOut_at _ _ _ _ h)
    · exact fldOut_at _ _ _ _ h
theorem fldsOut_len (must : Bool) (l : List UInt8) : ∀ (L : List Int) (f : List V3) (a : Nat) (e : Int), (fldsOut must l L f a e).1.length = f.length
  | [], f, a, e => rfl
  | i :: L, f, a, e => by
    unfold fldsOut
    split
    · rw [fldsOut_len must l L, List.length_set]
    · rw [List.length_set]
theorem fldsOut_go {must : Bool} {l : List UInt8} {L : List Int} {f : List V3} {a : Nat} {e : Int} (k : Nat) (hk : k < L.length) (h : ((fldOut must l a e).2.2 == 0) = true) :
    fldsOut must l (L.drop k) f a e = fldsOut must l (L.drop (k + 1)) (f.set L[k].toNat (fldOut must l a e).1) (fldOut must l a e).2.1 (fldOut must l a e).2.2 := by
  rw [List.drop_eq_getElem_cons hk]
  conv => lhs; unfold fldsOut
  rw [if_pos (by simpa using h)]
theorem fldsOut_stop {must : Bool} {l : List UInt8} {L : List Int} {f : List V3} {a : Nat} {e : Int} (k : Nat) (hk : k < L.length) (h : ((fldOut must l a e).2.2 == 0) = false) :
    fldsOut must l (L.drop k) f a e = (f.set L[k].toNat (fldOut must l a e).1, (fldOut must l a e).2) := by
  rw [List.drop_eq_getElem_cons hk]
  unfold fldsOut
  rw [if_neg (by simpa using h)]
theorem numOut_le (l : List UInt8) (a : Nat) (e m : Int) (h : 0 ≤ m) : ((numOut l a e m).1 : Int) ≤ m := by
  unfold numOut
  split
  · exact h
  · split
    · exact h
    · split
      · exact h
      · simp only; omega
def cardA (l : List UInt8) (a : Nat) (e : Int) : Nat × Nat × Int := abvOut l a e 1073741823
def cardB (l : List UInt8) (a : Nat) (e : Int) : Nat × Nat × Int := abvOut l (cardA l a e).2.1 (cardA l a e).2.2 1099511627776
def cardC (l : List UInt8) (a : Nat) (e : Int) : Nat × Nat × Int := numOut l (cardB l a e).2.1 (cardB l a e).2.2 65535
def cardD (l : List UInt8) (a : Nat) (e : Int) : Nat × Nat × Int := numOut l (cardC l a e).2.1 (cardC l a e).2.2 255
def cardE (l : List UInt8) (a : Nat) (e : Int) : List V3 × Nat × Int := fldsOut true l (flds (BitVec.ofNat 32 (cardD l a e).1)) zeros (cardD l a e).2.1 (cardD l a e).2.2
/-- What is read of bytes: the card, how far, the error. -/
def cardOut (l : List UInt8) (a : Nat) (e : Int) : (Int × Int × Int × List V3) × Nat × Int :=
  (if (cardE l a e).2.2 = 0 then (((cardA l a e).1 : Int), ((cardB l a e).1 : Int), ((cardC l a e).1 : Int), (cardE l a e).1) else (0, 0, 0, zeros), (cardE l a e).2)
theorem cardOut_at (l : List UInt8) (a : Nat) (e : Int) (h : a ≤ l.length) : (cardOut l a e).2.1 ≤ l.length :=
  fldsOut_at _ _ _ _ _ _ (numOut_at _ _ _ _ (numOut_at _ _ _ _ (abvOut_at _ _ _ _ (abvOut_at _ _ _ _ h))))
theorem cardOut_len (l : List UInt8) (a : Nat) (e : Int) : (cardOut l a e).1.2.2.2.length = 8 := by
  unfold cardOut
  simp only
  split
  · simp only [cardE, fldsOut_len, zeros_len]
  · exact zeros_len
def cc4 (t : Int × Int × Int × List V3) : List Value := ccells t.1 t.2.1 t.2.2.1 t.2.2.2

/-- A world in which a reader stands elsewhere. -/
theorem Rd.any {base g : Nat} {l : List UInt8} {a : Nat} {e : Int} {w w1 : World} (h : Rd w base g l a e) (hg : w.grownBy w1 (some g)) (a2 : Nat) (e2 : Int) : ∃ w', w1.grownBy w' (some g) ∧ Rd w' base g l a2 e2 := by
  have hlt := h.block.2
  obtain ⟨R2, G2⟩ := h.put_at a2
  obtain ⟨R3, G3⟩ := R2.put_err e2
  have G := G2.trans G3
  have hs : ((w.setCell ⟨g, 1, none⟩ (.int .i64 a2)).setCell ⟨g, 2, none⟩ (.int .i64 e2)).heap.size = w.heap.size := by simp [World.setCell]
  generalize ((w.setCell ⟨g, 1, none⟩ (.int .i64 a2)).setCell ⟨g, 2, none⟩ (.int .i64 e2)) = w3 at R3 G hs
  clear R2 G2 G3
  have h3 := R3.block.2
  have hg1 : g < w1.heap.size := Nat.lt_of_lt_of_le hlt hg.size
  have hl : Below w3.heap.size w3 { w1 with heap := w1.heap.setIfInBounds g w3.heap[g] } := by
    refine ⟨hg.os.trans G.os.symm, hg.tape.trans G.tape.symm, hg.output.trans G.output.symm, by simp [hs, hg.size], fun k hk => ?_⟩
    by_cases hkg : k = g
    · subst hkg
      simp [hg1, h3]
    · have e1 := hg.block k (by omega) (by simpa using hkg)
      have e2 := G.block k (by omega) (by simpa using hkg)
      simp only [Array.getElem?_setIfInBounds, if_neg (Ne.symm hkg)]
      rw [e1, e2]
  refine ⟨{ w1 with heap := w1.heap.setIfInBounds g w3.heap[g] }, ⟨rfl, rfl, rfl, by simp, fun k hk hr => ?_⟩, R3.later hl⟩
  have : g ≠ k := fun e => hr (by rw [e])
  simp only [Array.getElem?_setIfInBounds, if_neg this]
/-- A reader's turns: where it stands behind each. -/
def rdTurns (base g : Nat) (l : List UInt8) (sts : List (Nat × Int)) (at_ : List Nat) : Turns := ⟨some g, fun k w => Rd w base g l (sts.getD k (0, 0)).1 (sts.getD k (0, 0)).2, at_⟩
theorem rdTurns_row (base g : Nat) (l : List UInt8) (sts : List (Nat × Int)) (at_ : List Nat) : (rdTurns base g l sts at_).row = some g := rfl
theorem rd_turns {base g : Nat} {l : List UInt8} {a : Nat} {e : Int} {w : World} (h : Rd w base g l a e) (sts : List (Nat × Int)) (at_ : List Nat) {ops : List Oper} (hn : at_.Nodup) (hc : chainTB ops at_ = true) : TurnsOk ops.toArray .any (rdTurns base g l sts at_) w :=
  turns_ok (T := rdTurns base g l sts at_) (fun k w1 w2 hz hl => Rd.later hz hl) (fun k w1 _ hg => h.any hg _ _) hn hc
/-- A slot that holds a pointer to a new block. -/
def relNew (T : Turns) (g B : Nat) (hT : T.row = some g) (hg : g < B) (cs : List Value) : RelT T.row where
  rel v w := ∃ b, v = .pointer (some ⟨b, 0, none⟩) ∧ B ≤ b ∧ Blk w b cs
  mono := fun v w w' h ⟨b, e, hb, hB⟩ => ⟨b, e, hb, hB.kept h (by rw [hT]; simp; omega)⟩
  real := fun w ⟨b, e, _⟩ => by cases e
end Go.Proofs.Ytadmaalhhigbeaa

/- The document's reader, by the place in the bytes. -/
namespace Go.Proofs.Ytadmaalhhigbeaa
set_option linter.unusedVariables false
open Go Go.RowKit OctM

theorem Rr.off {w w' : World} {base g m : Nat} {l : List UInt8} {e : Int} (h : Rr w base g l e) (hg : w.grownBy w' (some m)) (hm : m ≠ g) : Rr w' base g l e :=
  Own.kept h hg (.inr (by simp [Value.ownBlock]; omega))
theorem rr_numd (base g : Nat) (l : List UInt8) (a : Nat) (e y : Int) (w : World) (h : Rr w base g (l.drop a) e) (hm : l.length ≤ 4000) :
    Calls Try.prog 53 #[.pointer (some ⟨g, 0, none⟩), .int .i64 y] w fun x w' => x = .returned (.int .i64 ((numOut l a e y).1 : Nat)) ∧ Rr w' base g (l.drop (numOut l a e y).2.1) (numOut l a e y).2.2 ∧ w.grownBy w' (some g) :=
  (rr_num base g (l.drop a) e y w h (by simp; omega)).mono fun x w' h => by
    rw [same_num] at h
    exact h

theorem rr_strd (base g : Nat) (l : List UInt8) (a : Nat) (e y : Int) (w : World) (h : Rr w base g (l.drop a) e) (ha : a ≤ l.length) (hm : l.length ≤ 4000) :
    Calls Try.prog 105 #[.pointer (some ⟨g, 0, none⟩), .int .i64 y] w fun x w' => x = .returned (.string (str (strOut l a e y).1)) ∧ Rr w' base g (l.drop (strOut l a e y).2.1) (strOut l a e y).2.2 ∧ w.grownBy w' (some g) :=
  (rr_str base g (l.drop a) e y w h (by simp; omega)).mono fun x w' h => by
    rw [same_str _ _ _ _ ha] at h
    exact h
end Go.Proofs.Ytadmaalhhigbeaa
