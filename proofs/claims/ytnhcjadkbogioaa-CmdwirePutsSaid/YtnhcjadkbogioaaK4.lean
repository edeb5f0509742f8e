/- A region that draws its order, some of whose operations turn memory (one block), one behind the other; the last operations (a store) wait for all the others. Each turn tells what the memory is then; no other operation minds it. The others are walked once, in the order of the text. -/
import Derived.Test.YtnhcjadkbogioaaK3
import Derived.Maps.AppendAt
import Derived.OwnWalk
import Derived.Test.YtnhcjadkbogioaaK2
namespace Go.Proofs.Ytnhcjadkbogioaa
set_option linter.unusedVariables false
open Go Go.RowKit

theorem le_grown {w w' : World} (h : Le w w') (row : Option Nat) : w.grownBy w' row := ⟨h.os, h.tape, h.output, h.size, fun k hk _ => h.block k hk⟩
/-- What is known of an open slot: it stays known whatever becomes of the block. -/
structure RelT (row : Option Nat) where
  rel : Value → World → Prop
  mono : ∀ v w w', w.grownBy w' row → rel v w → rel v w'
  real : ∀ w, ¬ rel undef w
/-- The block, what is known behind k turns, and the places of the turns. -/
structure Turns where
  row : Option Nat
  Z : Nat → World → Prop
  at_ : List Nat
namespace Turns
def num (T : Turns) (i : Nat) : Option Nat := T.at_.findIdx? (· == i)
theorem num_get {T : Turns} {i k : Nat} (h : T.num i = some k) : ∃ hk : k < T.at_.length, T.at_[k] = i := by
  unfold num at h
  rw [List.findIdx?_eq_some_iff_getElem] at h
  obtain ⟨hk, h1, _⟩ := h
  exact ⟨hk, by simpa using h1⟩
theorem num_inj {T : Turns} {i j k : Nat} (h : T.num i = some k) (h' : T.num j = some k) : i = j := by
  obtain ⟨_, e⟩ := num_get h
  obtain ⟨_, e'⟩ := num_get h'
  exact e.symm.trans e'
theorem num_at {T : Turns} (hn : T.at_.Nodup) {k : Nat} (hk : k < T.at_.length) : T.num T.at_[k] = some k := by
  unfold num
  rw [List.findIdx?_eq_some_iff_getElem]
  refine ⟨hk, by simp, fun j hj => ?_⟩
  have : j < T.at_.length := by omega
  intro he
  have he' : T.at_[j] = T.at_[k] := by simpa using he
  have h2 := List.pairwise_iff_getElem.1 hn j k this hk hj
  exact h2 he'
end Turns

section
variable (P : Program) (ops : Array Oper) (md : Region.Mode) (T : Turns) (G : Tmp → Option (RelT T.row)) (w0 : World)

def LeanT (i : Nat) (o : Oper) (a : Act) (w : World) : Prop :=
  (w0.grownBy w T.row ∧ ∀ d R, Operand.tmp d ∈ o.op.operands → G d = some R → a.eval (.tmp d) ≠ undef → R.rel (a.eval (.tmp d)) w) ∧ ∀ k, T.num i = some k → T.Z k w
/-- What an operation makes of memory. -/
def Eff (i : Nat) (w w' : World) : Prop := match T.num i with
  | none => Le w w'
  | some k => w.grownBy w' T.row ∧ T.Z (k + 1) w'
def givesUponT (i : Nat) (R : Value → World → Prop) (w : World) : Result Next → Prop
  | .ok (.value u) w' => Eff T i w w' ∧ R u w'
  | .ok .skip w' => Eff T i w w' ∧ R undef w'
  | .ok (.enter f args) w' => w' = w ∧ Calls P f args w (fun e w'' => ∃ v, e = .returned v ∧ Eff T i w w'' ∧ R v w'')
  | _ => False
def givesT (i : Nat) (o : Oper) (a : Act) (R : Value → World → Prop) (w : World) : Prop := givesUponT P T i R w ((execOp a.eval o).run P w)
def firmUponT (i : Nat) (v : Value) (w : World) : Result Next → Prop
  | .ok (.value u) w' => Eff T i w w' ∧ u = v
  | .ok .skip w' => Eff T i w w' ∧ v = undef
  | .ok (.enter f args) w' => w' = w ∧ P.inits.idxOf? f = none ∧ Calls P f args w (fun e w'' => e = .returned v ∧ Eff T i w w'')
  | _ => False
def firmAtT (i : Nat) (o : Oper) (a : Act) (v : Value) (w : World) : Prop := firmUponT P T i v w ((execOp a.eval o).run P w)
open Classical in
noncomputable def valOfT (i : Nat) (o : Oper) (a : Act) : Value := if h : ∃ v, ∀ w, LeanT T G w0 i o a w → firmAtT P T i o a v w then Classical.choose h else undef
noncomputable def relOfT (i : Nat) (o : Oper) (a : Act) : Value → World → Prop := match o.dst.bind G with
  | some R => R.rel
  | none => fun u _ => u = valOfT P T G w0 i o a
def InvT (listed : Array Bool) (a : Act) (w : World) : Prop :=
  w0.grownBy w T.row ∧ ∀ k o d R, ops[k]? = some o → listed.getD k false = true → o.dst = some d → G d = some R → a.eval (.tmp d) ≠ undef → R.rel (a.eval (.tmp d)) w
/-- So many turns are done. -/
def Phase (listed : Array Bool) (p : Nat) : Prop := p ≤ T.at_.length ∧ ∀ i k, T.num i = some k → (listed.getD i false = true ↔ k < p)
structure TurnsOk : Prop where
  zmono : ∀ k w w', T.Z k w → Le w w' → T.Z k w'
  zall : ∀ k w, k ≤ T.at_.length → w0.grownBy w T.row → ∃ w', w.grownBy w' T.row ∧ T.Z k w'
  nodup : T.at_.Nodup
  chain : ∀ i k, T.num i = some (k + 1) → ∃ o, ops[i]? = some o ∧ ∃ e ∈ o.after, Region.binds md e = true ∧ T.num e.on = some k
structure FedT : Prop where
  fed : ∀ (i : Nat) (o : Oper) (d : Tmp), ops[i]? = some o → Operand.tmp d ∈ o.op.operands → (G d).isSome → ∃ (k : Nat) (ok : Oper), ops[k]? = some ok ∧ ok.dst = some d ∧ ∃ e ∈ o.after, Region.binds md e = true ∧ e.on = k
  one : ∀ (i j : Nat) (o p : Oper) (d : Tmp), ops[i]? = some o → ops[j]? = some p → o.dst = some d → p.dst = some d → i = j

variable {P ops md T G w0}

theorem Eff.grown {i : Nat} {w w' : World} (h : Eff T i w w') : w.grownBy w' T.row := by
  unfold Eff at h
  split at h
  · exact le_grown h _
  · exact h.1
theorem InvT.mono {listed : Array Bool} {a : Act} {w w' : World} (h : InvT ops T G w0 listed a w) (hl : w.grownBy w' T.row) : InvT ops T G w0 listed a w' :=
  ⟨h.1.trans hl, fun k o d R ho hk hd hR hu => R.mono _ _ _ hl (h.2 k o d R ho hk hd hR hu)⟩
theorem InvT.lean (hF : FedT ops md T G) {listed : Array Bool} {a : Act} {w : World} {i : Nat} {o : Oper} (hi : i ∈ Region.ready md ops listed) (ho : ops[i]? = some o) (h : InvT ops T G w0 listed a w) (hz : ∀ k, T.num i = some k → T.Z k w) : LeanT T G w0 i o a w := by
  refine ⟨⟨h.1, fun d R hd hR hu => ?_⟩, hz⟩
  obtain ⟨k, ok, hk, hkd, e, he, hb, rfl⟩ := hF.fed i o d ho hd (by rw [hR]; rfl)
  obtain ⟨_, o', ho', hall⟩ := mem_ready.1 hi
  rw [ho] at ho'
  injection ho' with ho'
  subst ho'
  exact h.2 e.on ok d R hk (hall e he hb) hkd hR hu
theorem InvT.put (hF : FedT ops md T G) {listed : Array Bool} {a : Act} {w : World} {i : Nat} {o : Oper} (ho : ops[i]? = some o) {u : Value} (h : InvT ops T G w0 listed a w)
    (hu : ∀ d R, o.dst = some d → G d = some R → u ≠ undef → R.rel u w) : InvT ops T G w0 (listed.setIfInBounds i true) (a.put o.dst u) w := by
  refine ⟨h.1, fun k p d R hk hl hd hR hne => ?_⟩
  by_cases hik : i = k
  · subst hik
    rw [ho] at hk
    injection hk with hk
    subst hk
    rw [hd] at hne ⊢
    rcases eval_put_self (a := a) (u := u) (d := d) with he | he
    · rw [he] at hne ⊢
      exact hu d R hd hR hne
    · exact absurd he hne
  · have hdd : o.dst ≠ some d := fun he => hik (hF.one i k o p d ho hk he hd)
    rw [eval_put_ne hdd] at hne ⊢
    rw [getD_set_ne false hik] at hl
    exact h.2 k p d R hk hl hd hR hne
theorem InvT.less (hF : FedT ops md T G) {listed : Array Bool} {a : Act} {w : World} {i : Nat} {o : Oper} (ho : ops[i]? = some o) (hun : listed.getD i true = false) {u : Value}
    (h : InvT ops T G w0 (listed.setIfInBounds i true) (a.put o.dst u) w) : InvT ops T G w0 listed a w := by
  refine ⟨h.1, fun k p d R hk hl hd hR hne => ?_⟩
  have hik : i ≠ k := by
    rintro rfl
    have : listed.getD i true = true := by
      rcases Nat.lt_or_ge i listed.size with h' | h'
      · simp [h'] at hl ⊢; exact hl
      · simp [Array.getElem?_eq_none h'] at hl
    rw [hun] at this
    cases this
  have hdd : o.dst ≠ some d := fun he => hik (hF.one i k o p d ho hk he hd)
  have := h.2 k p d R hk (by rw [getD_set_ne false hik]; exact hl) hd hR (by rw [eval_put_ne hdd]; exact hne)
  rwa [eval_put_ne hdd] at this
theorem InvT.comm {listed : Array Bool} {a : Act} {w : World} {i j : Nat} {x y : Option Tmp} {v u : Value} (hij : i ≠ j) (hxy : ∀ d, x = some d → y ≠ some d)
    (h : InvT ops T G w0 ((listed.setIfInBounds i true).setIfInBounds j true) ((a.put x v).put y u) w) : InvT ops T G w0 ((listed.setIfInBounds j true).setIfInBounds i true) ((a.put y u).put x v) w := by
  rwa [Array.setIfInBounds_comm _ _ hij, Act.put_comm a v u hxy] at h
theorem ready_phase (ok : TurnsOk ops md T w0) {listed : Array Bool} {i k p : Nat} (hi : i ∈ Region.ready md ops listed) (hk : T.num i = some k) (hp : Phase T listed p) : p = k := by
  obtain ⟨hun, o, ho, hall⟩ := mem_ready.1 hi
  have h1 : ¬ k < p := fun h => by
    have := (hp.2 i k hk).2 h
    rw [getD_both hun] at this
    cases this
  rcases Nat.lt_or_ge p k with h2 | h2
  · obtain ⟨k', rfl⟩ : ∃ k', k = k' + 1 := ⟨k - 1, by omega⟩
    obtain ⟨o', ho', e, he, hb, hon⟩ := ok.chain i k' hk
    rw [ho] at ho'
    injection ho' with ho'
    subst ho'
    have := (hp.2 e.on k' hon).1 (hall e he hb)
    omega
  · omega
theorem Phase.set_none {listed : Array Bool} {i p : Nat} (h : Phase T listed p) (hi : T.num i = none) : Phase T (listed.setIfInBounds i true) p :=
  ⟨h.1, fun j k hj => by
    have hij : i ≠ j := by rintro rfl; rw [hi] at hj; cases hj
    rw [getD_set_ne false hij]
    exact h.2 j k hj⟩
theorem Phase.set_turn {listed : Array Bool} {i k : Nat} (h : Phase T listed k) (hun : listed.getD i true = false) (hi : T.num i = some k) : Phase T (listed.setIfInBounds i true) (k + 1) := by
  obtain ⟨hk, _⟩ := Turns.num_get hi
  refine ⟨hk, fun j m hj => ?_⟩
  by_cases hij : i = j
  · subst hij
    have : m = k := by rw [hi] at hj; injection hj with e; exact e.symm
    subst this
    have hls : (listed.setIfInBounds i true).getD i false = true := by
      rcases Nat.lt_or_ge i listed.size with h' | h'
      · simp [h']
      · simp [Array.getElem?_eq_none h'] at hun
    rw [hls]
    simp
  · rw [getD_set_ne false hij, h.2 j m hj]
    have : m ≠ k := fun e => hij (Turns.num_inj hi (e ▸ hj))
    omega
theorem Phase.set (ok : TurnsOk ops md T w0) {listed : Array Bool} {i p : Nat} (h : Phase T listed p) (hi : i ∈ Region.ready md ops listed) : ∃ p', Phase T (listed.setIfInBounds i true) p' := by
  cases hk : T.num i with
  | none => exact ⟨p, h.set_none hk⟩
  | some k =>
    obtain rfl := ready_phase ok hi hk h
    exact ⟨p + 1, h.set_turn (mem_ready.1 hi).1 hk⟩
theorem Phase.one (ok : TurnsOk ops md T w0) {listed : Array Bool} {p q : Nat} (h : Phase T listed p) (h' : Phase T listed q) : p = q := by
  have key : ∀ p q, Phase T listed p → Phase T listed q → ¬ p < q := fun p q h h' hlt => by
    have hk : p < T.at_.length := Nat.lt_of_lt_of_le hlt h'.1
    have hn := Turns.num_at ok.nodup hk
    have h1 := (h'.2 _ _ hn).2 hlt
    have h2 := (h.2 _ _ hn).1 h1
    omega
  have := key p q h h'
  have := key q p h' h
  omega
theorem Alike.leanT {i : Nat} {o : Oper} {a a' : Act} (h : Alike ops o a a') {w : World} (hw : LeanT T G w0 i o a' w) : LeanT T G w0 i o a w :=
  ⟨⟨hw.1.1, fun d R hd hR hu => by
    have := hw.1.2 d R hd hR (by rw [h.eval d hd]; exact hu)
    rwa [h.eval d hd] at this⟩, hw.2⟩
theorem Alike.leanT_eq {i : Nat} {o : Oper} {a a' : Act} (h : Alike ops o a a') : LeanT T G w0 i o a' = LeanT T G w0 i o a := funext fun _ => propext ⟨fun hw => h.leanT hw, fun hw => h.symm.leanT hw⟩
theorem Alike.valT {i : Nat} {o : Oper} {a a' : Act} (h : Alike ops o a a') : valOfT P T G w0 i o a' = valOfT P T G w0 i o a := by
  unfold valOfT firmAtT
  rw [h.leanT_eq, h.exec]
theorem Alike.relT {i : Nat} {o : Oper} {a a' : Act} (h : Alike ops o a a') : relOfT P T G w0 i o a' = relOfT P T G w0 i o a := by
  unfold relOfT
  rw [h.valT]
theorem Alike.givesT {i : Nat} {o : Oper} {a a' : Act} (h : Alike ops o a a') {w : World} (hg : Go.Proofs.Ytnhcjadkbogioaa.givesT P T i o a' (relOfT P T G w0 i o a') w) : Go.Proofs.Ytnhcjadkbogioaa.givesT P T i o a (relOfT P T G w0 i o a) w := by
  unfold Go.Proofs.Ytnhcjadkbogioaa.givesT at *
  rwa [h.relT, h.exec] at hg
end

section
variable (P : Program) (ops : Array Oper) (md : Region.Mode) (T : Turns) (G : Tmp → Option (RelT T.row)) (w0 : World) (n : Nat) (L : Array Bool → Act → Prop)
end
section
variable {P : Program} {ops : Array Oper} {md : Region.Mode} {T : Turns} {G : Tmp → Option (RelT T.row)} {w0 : World} {n : Nat} {L : Array Bool → Act → Prop}

end

/-- The walk in the order of the text: the place, how many turns are done. -/
def wpT (P : Program) (ops : Array Oper) (T : Turns) (G : Tmp → Option (RelT T.row)) (w0 : World) (Qn : Act → World → Prop) : Nat → Nat → List Oper → Act → (World → Prop) → Prop
  | _, p, [], a, S => ∀ w, w0.grownBy w T.row → S w → T.Z p w → Qn a w
  | i, p, o :: rest, a, S => if Region.wanted o (yielded ops a.tmps) then
      match o.dst.bind G with
      | some R => T.num i = none ∧ (∀ w, LeanT T G w0 i o a w → givesT P T i o a R.rel w) ∧ ∀ u, (∃ w, w0.grownBy w T.row ∧ S w ∧ R.rel u w) → wpT P ops T G w0 Qn (i + 1) p rest (a.put o.dst u) (fun w => S w ∧ R.rel u w)
      | none => ∃ v, (∀ w, LeanT T G w0 i o a w → firmAtT P T i o a v w) ∧ ((T.num i = none ∧ wpT P ops T G w0 Qn (i + 1) p rest (a.put o.dst v) S) ∨ (T.num i = some p ∧ wpT P ops T G w0 Qn (i + 1) (p + 1) rest (a.put o.dst v) S))
    else T.num i = none ∧ wpT P ops T G w0 Qn (i + 1) p rest (a.put o.dst undef) S

section
variable {P : Program} {ops : Array Oper} {md : Region.Mode} {T : Turns} {G : Tmp → Option (RelT T.row)} {w0 : World} {n : Nat}
end

/-- The worlds that w becomes where one block is turned. -/
structure GW (w : World) (row : Option Nat) where
  val : World
  grown : w.grownBy val row
instance {w : World} {row : Option Nat} : Nonempty (GW w row) := ⟨⟨w, World.grownBy.refl _ _⟩⟩

section
variable {P : Program} {ops : Array Oper} {T : Turns} {G : Tmp → Option (RelT T.row)} {w0 : World} {Qn : Act → World → Prop} {o : Oper} {rest : List Oper} {a : Act} {S : World → Prop} {i p : Nat}

end
attribute [irreducible] wpT
end Go.Proofs.Ytnhcjadkbogioaa

/- Cards as they are read of bytes: the program's. -/
namespace Go.Proofs.Ytnhcjadkbogioaa
set_option linter.unusedVariables false
open Go Go.RowKit OctM BitM

/-- A world in which a reader stands elsewhere. -/
theorem Rd.any {base g : Nat} {l : List UInt8} {a : Nat} {e : Int} {w w1 : World} (h : Rd w base g l a e) (hg : w.grownBy w1 (some g)) (a2 : Nat) (e2 : Int) : ∃ w', w1.grownBy w' (some g) ∧ Rd w' base g l a2 e2 := by
  have hlt := h.block.2
  obtain ⟨R2, G2⟩ := h.put_at a2
  obtain ⟨R3, G3⟩ := R2.put_err e2
  have G := G2.trans G3
  have hs : ((w.setCell ⟨g, 1, none⟩ (.int .i64 a2)).setCell ⟨g, 2, none⟩ (.int .i64 e2)).heap.size = w.heap.size := by simp [World.setCell]
  generalize ((w.setCell ⟨g, 1, none⟩ (.int .i64 a2)).setCell ⟨g, 2, none⟩ (.int .i64 e2)) = w3 at R3 G hs
  clear R2 G2 G3
  have h3 := R3.block.2
  have hg1 : g < w1.heap.size := Nat.lt_of_lt_of_le hlt hg.size
  have hl : Below w3.heap.size w3 { w1 with heap := w1.heap.setIfInBounds g w3.heap[g] } := by
    refine ⟨hg.os.trans G.os.symm, hg.tape.trans G.tape.symm, hg.output.trans G.output.symm, by simp [hs, hg.size], fun k hk => ?_⟩
    by_cases hkg : k = g
    · subst hkg
      simp [hg1, h3]
    · have e1 := hg.block k (by omega) (by simpa using hkg)
      have e2 := G.block k (by omega) (by simpa using hkg)
      simp only [Array.getElem?_setIfInBounds, if_neg (Ne.symm hkg)]
      rw [e1, e2]
  refine ⟨{ w1 with heap := w1.heap.setIfInBounds g w3.heap[g] }, ⟨rfl, rfl, rfl, by simp, fun k hk hr => ?_⟩, R3.later hl⟩
  have : g ≠ k := fun e => hr (by rw [e])
  simp only [Array.getElem?_setIfInBounds, if_neg this]
end Go.Proofs.Ytnhcjadkbogioaa

/- The document's reader, by the place in the bytes. -/
namespace Go.Proofs.Ytnhcjadkbogioaa
set_option linter.unusedVariables false
open Go Go.RowKit OctM

end Go.Proofs.Ytnhcjadkbogioaa

/- Values as they are read of bytes: the document's; a number above 0. -/
namespace Go.Proofs.Ytnhcjadkbogioaa
set_option linter.unusedVariables false
open Go Go.RowKit OctM

end Go.Proofs.Ytnhcjadkbogioaa
