/- Filters as they are read of bytes: mathematics. -/
import Derived.Test.YtgpbglmlakildaaG10
import Derived.Test.YtgpbglmlakildaaG16
import Derived.Test.YtgpbglmlakildaaG7
import Derived.Test.YtgpbglmlakildaaG3
namespace Go.Proofs.Ytgpbglmlakildaa
set_option linter.unusedVariables false
set_option linter.unusedSimpArgs false
open Go Go.RowKit OctM

/-- A node's kind; its number; its value: how far, and the error. -/
def ndA (l : List UInt8) (a : Nat) : Nat := (numOut l a 0 12).1
def naA (l : List UInt8) (a : Nat) : Nat := (numOut l a 0 12).2.1
def neA (l : List UInt8) (a : Nat) : Int := if ndA l a = 0 then failOut (numOut l a 0 12).2.2 3 else (numOut l a 0 12).2.2
def nB (l : List UInt8) (a : Nat) : Nat × Nat × Int := if hasN (ndA l a : Int) = true then numOut l (naA l a) (neA l a) (npm (ndA l a : Int)) else (0, naA l a, neA l a)
def nV (l : List UInt8) (a : Nat) : V3 × Nat × Int := if hasV (ndA l a : Int) = true then valOut l (nB l a).2.1 (nB l a).2.2 else (zv, (nB l a).2.1, (nB l a).2.2)
def ndOf (l : List UInt8) (a : Nat) : Nd := ((ndA l a : Int), ((nB l a).1 : Int), (nV l a).1)
def nodeOut (l : List UInt8) (a : Nat) : Nd × Nat × Int := (ndOf l a, (nV l a).2.1, if nok (ndOf l a) = true then (nV l a).2.2 else failOut (nV l a).2.2 3)
theorem failOut_not (e x : Int) (h : e ≠ 0) : failOut e x = e := by unfold failOut; rw [if_neg h]
theorem failOut_zero (x : Int) : failOut 0 x = x := rfl
theorem hasN_zero : hasN 0 = false := by decide
theorem hasV_zero : hasV 0 = false := by decide
theorem hasV_N {op : Int} (h : hasV op = true) : hasN op = true := by
  unfold hasV at h
  unfold hasN
  have := of_decide_eq_true h
  exact decide_eq_true (by omega)
theorem npm_ge (op : Int) : 0 ≤ npm op := by
  unfold npm
  split
  · omega
  · split <;> omega
theorem ndA_le (l : List UInt8) (a : Nat) : ndA l a ≤ 12 := by
  have := numOut_le l a 0 12 (by omega)
  unfold ndA
  omega
/-- Behind an error there is no kind. -/
theorem neA_op {l : List UInt8} {a : Nat} (h : neA l a ≠ 0) : ndA l a = 0 := by
  unfold neA at h
  by_cases h0 : ndA l a = 0
  · exact h0
  · rw [if_neg h0] at h
    exact numOut_err l a 0 12 h
theorem neA_no {l : List UInt8} {a : Nat} (h : ndA l a = 0) : neA l a ≠ 0 := by
  unfold neA
  rw [if_pos h]
  by_cases h0 : (numOut l a 0 12).2.2 = 0
  · rw [h0]; simp [failOut]
  · rw [failOut_not _ _ h0]; exact h0
theorem naA_at {l : List UInt8} {a : Nat} (h : a ≤ l.length) : naA l a ≤ l.length := numOut_at l a 0 12 h
theorem nB_at {l : List UInt8} {a : Nat} (h : a ≤ l.length) : (nB l a).2.1 ≤ l.length := by
  unfold nB
  split
  · exact numOut_at _ _ _ _ (naA_at h)
  · exact naA_at h
theorem nV_at {l : List UInt8} {a : Nat} (h : a ≤ l.length) : (nV l a).2.1 ≤ l.length := by
  unfold nV
  split
  · exact valOut_at _ _ _ (nB_at h)
  · exact nB_at h
theorem nodeOut_at {l : List UInt8} {a : Nat} (h : a ≤ l.length) : (nodeOut l a).2.1 ≤ l.length := nV_at h
theorem nA_stop {l : List UInt8} {a : Nat} (h : neA l a ≠ 0) : (nodeOut l a).2 = (naA l a, neA l a) := by
  have h0 := neA_op h
  have hb : nB l a = (0, naA l a, neA l a) := by unfold nB; rw [h0]; rw [if_neg (by show ¬ hasN 0 = true; rw [hasN_zero]; simp)]
  have hv : nV l a = (zv, naA l a, neA l a) := by unfold nV; rw [h0]; rw [if_neg (by show ¬ hasV 0 = true; rw [hasV_zero]; simp), hb]
  unfold nodeOut
  rw [hv]
  simp only
  rw [failOut_not _ _ h]
  simp
theorem nB_stop {l : List UInt8} {a : Nat} (h : (nB l a).2.2 ≠ 0) : (nodeOut l a).2 = (nB l a).2 := by
  have hv : (nV l a).2 = (nB l a).2 := by
    unfold nV
    split
    · rw [valOut_err _ _ _ h]
    · rfl
  unfold nodeOut
  rw [hv]
  rw [failOut_not _ _ h]
  simp
/-- Where there was no error, and no value is asked, the node may be. -/
theorem nok_plain {l : List UInt8} {a : Nat} (h : (nB l a).2.2 = 0) (hv : hasV (ndA l a : Int) = false) : nok (ndOf l a) = true := by
  have hA : neA l a = 0 := by
    by_cases h0 : neA l a = 0
    · exact h0
    · have hb : nB l a = (0, naA l a, neA l a) := by unfold nB; rw [neA_op h0]; rw [if_neg (by show ¬ hasN 0 = true; rw [hasN_zero]; simp)]
      rw [hb] at h
      exact absurd h h0
  have h1 : ndA l a ≠ 0 := fun e => neA_no e hA
  have h12 := ndA_le l a
  have hz : (nV l a).1 = zv := by unfold nV; rw [if_neg (by rw [hv]; simp)]
  unfold ndOf
  rw [hz]
  by_cases hN : hasN (ndA l a : Int) = true
  · have hb : nB l a = numOut l (naA l a) (neA l a) (npm (ndA l a : Int)) := by unfold nB; rw [if_pos hN]
    have hle := numOut_le l (naA l a) (neA l a) (npm (ndA l a : Int)) (npm_ge _)
    rw [← hb] at hle
    have hN' := of_decide_eq_true (show decide (3 ≤ (ndA l a : Int) ∧ (ndA l a : Int) ≤ 9) = true from hN)
    have hV' := of_decide_eq_false (show decide (6 ≤ (ndA l a : Int) ∧ (ndA l a : Int) ≤ 9) = false from hv)
    unfold nok
    simp only
    rw [if_neg (by omega)]
    by_cases h34 : (ndA l a : Int) = 3 ∨ (ndA l a : Int) = 4
    · rw [if_pos h34]
      have : npm (ndA l a : Int) = 15 := by unfold npm; rw [if_pos h34]
      rw [this] at hle
      exact decide_eq_true ⟨by omega, by omega, trivial⟩
    · rw [if_neg h34, if_pos (by omega)]
      have : npm (ndA l a : Int) = 7 := by unfold npm; rw [if_neg h34, if_pos hN]
      rw [this] at hle
      exact decide_eq_true ⟨by omega, by omega, trivial⟩
  · have hb : (nB l a).1 = 0 := by unfold nB; rw [if_neg hN]
    rw [hb]
    have hN' : ¬ (3 ≤ (ndA l a : Int) ∧ (ndA l a : Int) ≤ 9) := fun h => hN (decide_eq_true h)
    unfold nok
    simp only
    rw [if_pos (by omega)]
    exact decide_eq_true ⟨rfl, trivial⟩
/-- So many nodes, one behind the other. -/
def nodesOut (l : List UInt8) : Nat → Nat → List Nd × Nat × Int
  | 0, a => ([], a, 0)
  | k + 1, a => if (nodesOut l k a).2.2 ≠ 0 then nodesOut l k a else ((nodesOut l k a).1 ++ [(nodeOut l (nodesOut l k a).2.1).1], (nodeOut l (nodesOut l k a).2.1).2)
theorem nodes_at {l : List UInt8} {a : Nat} (h : a ≤ l.length) : ∀ k, (nodesOut l k a).2.1 ≤ l.length
  | 0 => h
  | k + 1 => by
    unfold nodesOut
    split
    · exact nodes_at h k
    · exact nodeOut_at (nodes_at h k)
theorem nodes_len {l : List UInt8} {a : Nat} : ∀ k, (nodesOut l k a).1.length ≤ k
  | 0 => Nat.le_refl _
  | k + 1 => by
    unfold nodesOut
    have := nodes_len (l := l) (a := a) k
    split
    · omega
    · simp only [List.length_append, List.length_singleton]; omega
theorem nodes_full {l : List UInt8} {a : Nat} : ∀ k, (nodesOut l k a).2.2 = 0 → (nodesOut l k a).1.length = k
  | 0, _ => rfl
  | k + 1, h => by
    unfold nodesOut at h ⊢
    by_cases h0 : (nodesOut l k a).2.2 ≠ 0
    · rw [if_pos h0] at h; exact absurd h h0
    · rw [if_neg h0]
      have := nodes_full (l := l) (a := a) k (by simpa using h0)
      simp [this]
theorem nodes_step {l : List UInt8} {a k : Nat} (h : (nodesOut l k a).2.2 = 0) : nodesOut l (k + 1) a = ((nodesOut l k a).1 ++ [(nodeOut l (nodesOut l k a).2.1).1], (nodeOut l (nodesOut l k a).2.1).2) := by
  rw [nodesOut, if_neg (by simpa using h)]
theorem nodes_stuck {l : List UInt8} {a k : Nat} (h : (nodesOut l k a).2.2 ≠ 0) : ∀ n, k ≤ n → nodesOut l n a = nodesOut l k a
  | 0, hn => by rw [show k = 0 by omega]
  | n + 1, hn => by
    by_cases e : k = n + 1
    · rw [e]
    · have ih := nodes_stuck h n (by omega)
      rw [nodesOut, if_pos (by rw [ih]; exact h), ih]
/-- How many nodes there are to be; the error. -/
def mny (l : List UInt8) (a : Nat) (e : Int) : Nat × Nat × Int := ((numOut l a e 31).1, (numOut l a e 31).2.1, if (numOut l a e 31).1 = 0 then failOut (numOut l a e 31).2.2 3 else (numOut l a e 31).2.2)
theorem mny_le (l : List UInt8) (a : Nat) (e : Int) : (mny l a e).1 ≤ 31 := by
  have := numOut_le l a e 31 (by omega)
  show (numOut l a e 31).1 ≤ 31
  omega
theorem mny_err {l : List UInt8} {a : Nat} {e : Int} (h : (mny l a e).2.2 ≠ 0) : (mny l a e).1 = 0 := by
  by_cases h0 : (numOut l a e 31).1 = 0
  · exact h0
  · have h1 : (mny l a e).2.2 = (numOut l a e 31).2.2 := by unfold mny; simp only; rw [if_neg h0]
    rw [h1] at h
    exact numOut_err l a e 31 h
theorem mny_none {l : List UInt8} {a : Nat} {e : Int} (h : (mny l a e).1 = 0) : (mny l a e).2.2 ≠ 0 := by
  have h' : (numOut l a e 31).1 = 0 := h
  unfold mny
  simp only
  rw [if_pos h']
  by_cases h0 : (numOut l a e 31).2.2 = 0
  · rw [h0]; simp [failOut]
  · rw [failOut_not _ _ h0]; exact h0
theorem mny_at {l : List UInt8} {a : Nat} {e : Int} (h : a ≤ l.length) : (mny l a e).2.1 ≤ l.length := numOut_at l a e 31 h
/-- What is read of bytes: the filter, how far, the error. -/
def filtOut (l : List UInt8) (a : Nat) (e : Int) : List Nd × Nat × Int :=
  if (mny l a e).2.2 ≠ 0 then ([], (mny l a e).2)
  else if (nodesOut l (mny l a e).1 (mny l a e).2.1).2.2 ≠ 0 then ([], (nodesOut l (mny l a e).1 (mny l a e).2.1).2)
  else if lchk (nodesOut l (mny l a e).1 (mny l a e).2.1).1 = 0 then nodesOut l (mny l a e).1 (mny l a e).2.1
  else ([], (nodesOut l (mny l a e).1 (mny l a e).2.1).2.1, if lchk (nodesOut l (mny l a e).1 (mny l a e).2.1).1 = 1 then 3 else lchk (nodesOut l (mny l a e).1 (mny l a e).2.1).1)
theorem filt_at {l : List UInt8} {a : Nat} {e : Int} (h : a ≤ l.length) : (filtOut l a e).2.1 ≤ l.length := by
  unfold filtOut
  split
  · exact mny_at h
  · split
    · exact nodes_at (mny_at h) _
    · split
      · exact nodes_at (mny_at h) _
      · exact nodes_at (mny_at h) _
theorem lchk_few {l : List Nd} (h : l.length ≤ 31) : lchk l = 0 ∨ lchk l = 1 ∨ lchk l = 5 := by
  unfold lchk
  rw [if_neg (by omega)]
  split
  · exact .inr (.inl rfl)
  · split
    · exact .inr (.inl rfl)
    · split
      · exact .inr (.inr rfl)
      · exact .inl rfl
end Go.Proofs.Ytgpbglmlakildaa

/- Filters as they are read of bytes: the three parts of a node: what predwire.take does. -/
namespace Go.Proofs.Ytgpbglmlakildaa
set_option linter.unusedVariables false
set_option linter.unusedSimpArgs false
open Go Go.RowKit OctM

/-- A world that parts from another one in two blocks at most, and new ones. -/
structure Grown2 (w w' : World) (g h : Nat) : Prop where
  os : w'.os = w.os
  tape : w'.tape = w.tape
  output : w'.output = w.output
  size : w.heap.size ≤ w'.heap.size
  block : ∀ k, k < w.heap.size → k ≠ g → k ≠ h → w'.heap[k]? = w.heap[k]?
theorem Grown2.refl (w : World) (g h : Nat) : Grown2 w w g h := ⟨rfl, rfl, rfl, Nat.le_refl _, fun _ _ _ _ => rfl⟩
theorem Grown2.trans {a b c : World} {g h : Nat} (x : Grown2 a b g h) (y : Grown2 b c g h) : Grown2 a c g h :=
  ⟨y.os.trans x.os, y.tape.trans x.tape, y.output.trans x.output, Nat.le_trans x.size y.size, fun k hk h1 h2 => (y.block k (Nat.lt_of_lt_of_le hk x.size) h1 h2).trans (x.block k hk h1 h2)⟩
theorem Grown2.one {w w' : World} {g h : Nat} (x : w.grownBy w' (some g)) : Grown2 w w' g h :=
  ⟨x.os, x.tape, x.output, x.size, fun k hk h1 _ => x.block k hk (fun e => h1 (by injection e))⟩
theorem Grown2.two {w w' : World} {g h : Nat} (x : w.grownBy w' (some h)) : Grown2 w w' g h :=
  ⟨x.os, x.tape, x.output, x.size, fun k hk _ h2 => x.block k hk (fun e => h2 (by injection e))⟩
theorem Grown2.none_ {w w' : World} {g h : Nat} (x : Below w.heap.size w w') : Grown2 w w' g h :=
  ⟨x.os, x.tape, x.output, x.size, fun k hk _ _ => x.block k hk⟩
theorem Grown2.grown {w w' : World} {g h : Nat} (x : Grown2 w w' g h) (hh : w.heap.size ≤ h) : w.grownBy w' (some g) :=
  ⟨x.os, x.tape, x.output, x.size, fun k hk h1 => x.block k hk (fun e => h1 (by rw [e])) (by omega)⟩
theorem Rd.set2 {w : World} {base g : Nat} {l : List UInt8} {a : Nat} {e : Int} (h : Rd w base g l a e) {B j : Nat} {v : Value} (hB : g < B) : Rd (w.setCell ⟨B, j, none⟩ v) base g l a e :=
  h.other (grown_setCell w B j v) hB
theorem Rd.sets2 {w : World} {base g : Nat} {l : List UInt8} {a : Nat} {e : Int} (h : Rd w base g l a e) {B j : Nat} {vs : List Value} (hB : g < B) : Rd (w.setCells B j vs) base g l a e :=
  h.other (grown_sets B vs j w) hB

set_option maxRecDepth 100000 in
set_option maxHeartbeats 3200000 in
theorem take0_any (base g Bx : Nat) (l : List UInt8) (a : Nat) (w : World) (h : Rd w base g l a 0) (hB : Blk w Bx (ncells (0, 0, zv))) (hg : g < Bx) (ha : a ≤ l.length) (hm : l.length ≤ 2000) :
    Calls Try.prog 71 #[.pointer (some ⟨g, 0, none⟩), .pointer (some ⟨Bx, 0, none⟩), .int .i64 0] w fun x w' => x = .returned (.tuple #[]) ∧ Rd w' base g l (naA l a) (neA l a) ∧ Blk w' Bx (ncells ((ndA l a : Int), 0, zv)) ∧ Grown2 w w' g Bx := by
  have HN := Lib.hid (rd_num base g l a 0 12 w h ha (by omega))
  have e1 : (numOut l a 0 12).1 = ndA l a := rfl
  have e2 : (numOut l a 0 12).2.1 = naA l a := rfl
  rw [e1, e2] at HN
  have hcells := hB
  obtain ⟨ez, hez⟩ : ∃ ez, ez = (numOut l a 0 12).2.2 := ⟨_, rfl⟩
  rw [← hez] at HN
  have HNE : Hid (neA l a = if ndA l a = 0 then failOut ez 3 else ez) := Lib.hid (by rw [hez]; rfl)
  have HF := Lib.hid (fun (wx : World) (hr : Rd wx base g l (naA l a) ez) => rd_fail base g l (naA l a) ez 3 wx hr)
  obtain ⟨op, hop⟩ : ∃ op, op = ndA l a := ⟨_, rfl⟩
  obtain ⟨aA, haA⟩ : ∃ aA, aA = naA l a := ⟨_, rfl⟩
  obtain ⟨eA, heA⟩ : ∃ eA, eA = neA l a := ⟨_, rfl⟩
  rw [← hop, ← haA] at HN
  rw [← haA] at HF
  rw [← heA, ← hop] at HNE
  rw [← hop, ← haA, ← heA]
  have hBl := hB.lt
  have HG := Lib.hid hg
  clear e1 e2 hop haA heA hez h hcells
  go_enter Try.func71, Try.ntmps71
  go_wp2_with fail
  refine HN.out.mono ?_
  rintro e w1 ⟨rfl, hr, hgr⟩
  have B1 := hB.kept hgr (by simp; have := HG.out; omega)
  have f1 := B1.frozen 0
  have q0 := B1.cell (j := 0) rfl
  have B2 := B1.set 0 (.int .i64 (op : Int))
  have R2 := hr.set2 (B := Bx) (j := 0) (v := .int .i64 (op : Int)) HG.out
  have G2 : Grown2 w (w1.setCell ⟨Bx, 0, none⟩ (.int .i64 (op : Int))) g Bx := (Grown2.one hgr).trans (Grown2.two (grown_setCell w1 Bx 0 _))
  have p0 := B2.cell (j := 0) (v := .int .i64 (op : Int)) rfl
  clear hr hgr B1 hB hBl
  have HR2 := Lib.hid R2
  have HB2 := Lib.hid B2
  have HG2 := Lib.hid G2
  clear R2 B2 G2
  by_cases h0 : op = 0
  · subst h0
    have HE : Hid (eA = failOut ez 3) := Lib.hid (by rw [HNE.out, if_pos rfl])
    go_wp2_with fail
    refine (HF.out _ HR2.out).mono ?_
    rintro e w3 ⟨rfl, hr3, hg3⟩
    have B3 := HB2.out.kept hg3 (by simp; have := HG.out; omega)
    have G3 := HG2.out.trans (Grown2.one hg3)
    have HR3 := Lib.hid hr3
    clear hr3 hg3 HR2 HB2 HG2
    go_wp2_with fail
    go_end0
    exact ⟨rfl, by rw [HE.out]; exact HR3.out, B3, G3⟩
  · have HE : Hid (eA = ez) := Lib.hid (by rw [HNE.out, if_neg h0])
    have b0 : ((op : Int) == 0) = false := by simp [h0]
    have b0n : (op == 0) = false := by simp [h0]
    clear h0
    go_wp2_with fail
    go_end0
    exact ⟨rfl, by rw [HE.out]; exact HR2.out, HB2.out, HG2.out⟩

set_option maxRecDepth 100000 in
set_option maxHeartbeats 3200000 in
theorem take1_any (base g Bx : Nat) (l : List UInt8) (a : Nat) (w : World) (h0 : neA l a = 0) (h : Rd w base g l (naA l a) 0) (hB : Blk w Bx (ncells ((ndA l a : Int), 0, zv))) (hg : g < Bx) (ha : a ≤ l.length) (hm : l.length ≤ 2000) :
    Calls Try.prog 71 #[.pointer (some ⟨g, 0, none⟩), .pointer (some ⟨Bx, 0, none⟩), .int .i64 1] w fun x w' => x = .returned (.tuple #[]) ∧ Rd w' base g l (nB l a).2.1 (nB l a).2.2 ∧ Blk w' Bx (ncells ((ndA l a : Int), ((nB l a).1 : Int), zv)) ∧ Grown2 w w' g Bx := by
  have HM := Lib.hid (fun wx : World => most_any (ndA l a : Int) wx)
  have HG := Lib.hid hg
  have q0 := hB.cell (j := 0) rfl
  cases hN : hasN (ndA l a : Int) with
  | false =>
    have e : nB l a = (0, naA l a, 0) := by unfold nB; rw [if_neg (by rw [hN]; simp), h0]
    rw [e]
    rw [hN] at HM
    have HR := Lib.hid h
    have HB := Lib.hid hB
    simp only at q0
    generalize npm (ndA l a : Int) = mm at HM
    generalize ((ndA l a : Nat) : Int) = op at HM q0 HB ⊢
    clear h hB hN e h0
    go_enter Try.func71, Try.ntmps71
    go_wp2_with fail
    refine (HM.out _).mono ?_
    rintro e w1 ⟨rfl, rfl⟩
    go_wp2_with fail
    go_end0
    exact ⟨rfl, HR.out, HB.out, Grown2.refl _ _ _⟩
  | true =>
    have e : nB l a = numOut l (naA l a) 0 (npm (ndA l a : Int)) := by unfold nB; rw [if_pos hN, h0]
    rw [hN] at HM
    have HNUM := Lib.hid (rd_num base g l (naA l a) 0 (npm (ndA l a : Int)) w h (naA_at ha) (by omega))
    rw [← e] at HNUM
    obtain ⟨⟨m, a2, e2⟩, hq⟩ : ∃ q, q = nB l a := ⟨_, rfl⟩
    rw [← hq] at HNUM ⊢
    simp only at HNUM q0 ⊢
    generalize npm (ndA l a : Int) = mm at HM HNUM
    have HB := Lib.hid hB
    generalize ((ndA l a : Nat) : Int) = op at HM q0 HB ⊢
    clear h hB hN e h0 hq
    go_enter Try.func71, Try.ntmps71
    go_wp2_with fail
    refine (HM.out _).mono ?_
    rintro e w1 ⟨rfl, rfl⟩
    go_wp2_with fail
    refine HNUM.out.mono ?_
    rintro e w1 ⟨rfl, hr, hgr⟩
    have B1 := HB.out.kept hgr (by simp; have := HG.out; omega)
    have f1 := B1.frozen 1
    have q1 := B1.cell (j := 1) rfl
    have B2 := B1.set 1 (.int .i64 (m : Int))
    have HR2 := Lib.hid (hr.set2 (B := Bx) (j := 1) (v := .int .i64 (m : Int)) HG.out)
    have HG2 : Hid (Grown2 w (w1.setCell ⟨Bx, 1, none⟩ (.int .i64 (m : Int))) g Bx) := Lib.hid ((Grown2.one hgr).trans (Grown2.two (grown_setCell w1 Bx 1 _)))
    have HB2 : Hid (Blk (w1.setCell ⟨Bx, 1, none⟩ (.int .i64 (m : Int))) Bx (ncells (op, (m : Int), zv))) := Lib.hid B2
    clear hr hgr B1 B2
    go_wp2_with fail
    go_end0
    exact ⟨rfl, HR2.out, HB2.out, HG2.out⟩

set_option maxRecDepth 100000 in
set_option maxHeartbeats 3200000 in
theorem take2_any (base g Bx : Nat) (l : List UInt8) (a : Nat) (w : World) (h0 : (nB l a).2.2 = 0) (h : Rd w base g l (nB l a).2.1 0) (hB : Blk w Bx (ncells ((ndA l a : Int), ((nB l a).1 : Int), zv))) (hg : g < Bx) (ha : a ≤ l.length) (hm : l.length ≤ 2000) :
    Calls Try.prog 71 #[.pointer (some ⟨g, 0, none⟩), .pointer (some ⟨Bx, 0, none⟩), .int .i64 2] w fun x w' => x = .returned (.tuple #[]) ∧ Rd w' base g l (nodeOut l a).2.1 (nodeOut l a).2.2 ∧ Blk w' Bx (ncells (nodeOut l a).1) ∧ Grown2 w w' g Bx := by
  have HH := Lib.hid (fun wx : World => pholds_any (ndA l a : Int) wx)
  have HND := Lib.hid (fun wx : World => node_any (ndOf l a) wx)
  have hu := Try.underlying29
  have HG := Lib.hid hg
  have q0 := hB.cell (j := 0) rfl
  cases hV : hasV (ndA l a : Int) with
  | false =>
    have hok := nok_plain h0 hV
    have e : nV l a = (zv, (nB l a).2.1, 0) := by unfold nV; rw [if_neg (by rw [hV]; simp), h0]
    have en : nodeOut l a = (((ndA l a : Int), ((nB l a).1 : Int), zv), (nB l a).2.1, 0) := by unfold nodeOut; rw [hok, if_pos rfl, e]; unfold ndOf; rw [e]
    rw [hV] at HH
    rw [hok] at HND
    have e3 : ndOf l a = ((ndA l a : Int), ((nB l a).1 : Int), zv) := by unfold ndOf; rw [e]
    rw [e3] at HND
    rw [en]
    have HR := Lib.hid h
    have HB := Lib.hid hB
    have RG := hB.range 0 (ncells ((ndA l a : Int), ((nB l a).1 : Int), zv)) rfl
    simp only at q0 ⊢
    generalize (nB l a).2.1 = a2 at HR ⊢
    generalize ((nB l a).1 : Int) = m at HND HB RG ⊢
    generalize ((ndA l a : Nat) : Int) = op at HH q0 HB HND RG ⊢
    obtain ⟨nc, hnc⟩ : ∃ nc, nc = ncells (op, m, zv) := ⟨_, rfl⟩
    have HSZ : Hid (nc.length = 5) := Lib.hid (by rw [hnc]; rfl)
    rw [← hnc] at HND HB RG ⊢
    clear h hB hV e h0 hok en e3 hnc
    go_enter Try.func71, Try.ntmps71
    go_wp2_with fail
    refine (HH.out _).mono ?_
    rintro e w1 ⟨rfl, rfl⟩
    go_wp2_with (first
      | (refine wpList_load_mid rfl 29 (.tmp 53) rfl Bx 0 rfl nc _ RG hu rfl (by rw [HSZ.out]; exact info_node) ?_)
      | fail)
    refine (HND.out _).mono ?_
    rintro e w1 ⟨rfl, hb⟩
    have HR1 := Lib.hid (HR.out.later hb)
    have HB1 := Lib.hid (HB.out.later hb)
    have HG1 := Lib.hid (Grown2.none_ (g := g) (h := Bx) hb)
    clear RG hb HR HB
    go_wp2_with fail
    go_end0
    exact ⟨rfl, HR1.out, HB1.out, HG1.out⟩
  | true =>
    have e : nV l a = valOut l (nB l a).2.1 0 := by unfold nV; rw [if_pos hV, h0]
    rw [hV] at HH
    have HVAL := Lib.hid (rd_value base g l (nB l a).2.1 0 w h (nB_at ha) hm)
    rw [← e] at HVAL
    have en : nodeOut l a = (((ndA l a : Int), ((nB l a).1 : Int), (nV l a).1), (nV l a).2.1, if nok ((ndA l a : Int), ((nB l a).1 : Int), (nV l a).1) = true then (nV l a).2.2 else failOut (nV l a).2.2 3) := rfl
    rw [en]
    have e3 : ndOf l a = ((ndA l a : Int), ((nB l a).1 : Int), (nV l a).1) := rfl
    rw [e3] at HND
    obtain ⟨⟨v, a3, e4⟩, hq⟩ : ∃ q, q = nV l a := ⟨_, rfl⟩
    rw [← hq] at HVAL HND ⊢
    simp only at HVAL HND q0 ⊢
    have HB := Lib.hid hB
    generalize ((nB l a).1 : Int) = m at HND HB ⊢
    generalize ((ndA l a : Nat) : Int) = op at HH q0 HB HND ⊢
    have HF := Lib.hid (fun (wx : World) (hr : Rd wx base g l a3 e4) => rd_fail base g l a3 e4 3 wx hr)
    have HVC : Hid ((vcells v).length = 3) := Lib.hid rfl
    have HONE : Hid (∀ u ∈ vcells v, u.oneCell' = true) := Lib.hid (fun u hu => fcells_one [v] u (by simpa [fcells] using hu))
    have HNC : Hid ((ncells (op, m, zv)).take 2 ++ vcells v ++ (ncells (op, m, zv)).drop (2 + (vcells v).length) = ncells (op, m, v)) := Lib.hid rfl
    obtain ⟨vc, hvc⟩ : ∃ vc, vc = vcells v := ⟨_, rfl⟩
    rw [← hvc] at HVAL HVC HONE HNC
    obtain ⟨ok, hok⟩ : ∃ ok, ok = nok (op, m, v) := ⟨_, rfl⟩
    rw [← hok] at HND ⊢
    obtain ⟨nc, hnc⟩ : ∃ nc, nc = ncells (op, m, v) := ⟨_, rfl⟩
    have HSZ : Hid (nc.length = 5) := Lib.hid (by rw [hnc]; rfl)
    rw [← hnc] at HND HNC ⊢
    have HSZ0 : Hid ((ncells (op, m, zv)).length = 5) := Lib.hid rfl
    clear h hB hV e h0 hq en e3 hvc hnc hok
    go_enter Try.func71, Try.ntmps71
    go_wp2_with fail
    refine (HH.out _).mono ?_
    rintro e w1 ⟨rfl, rfl⟩
    go_wp2_with fail
    refine HVAL.out.mono ?_
    rintro e w1 ⟨rfl, hr, hgr⟩
    have B1 := HB.out.kept hgr (by simp; have := HG.out; omega)
    have TH := B1.there 2 3 (by rw [HSZ0.out]; omega)
    have B2 := B1.sets vc 2 (by rw [HSZ0.out, HVC.out]; omega)
    rw [HNC.out] at B2
    have RG := B2.range 0 nc (by rw [HSZ.out, List.drop_zero, List.take_of_length_le (by rw [HSZ.out]; exact Nat.le_refl _)])
    have HR2 := Lib.hid (hr.sets2 (B := Bx) (j := 2) (vs := vc) HG.out)
    have HG2 : Hid (Grown2 w (w1.setCells Bx 2 vc) g Bx) := Lib.hid ((Grown2.one hgr).trans (Grown2.two (grown_sets Bx vc 2 w1)))
    have HB2 := Lib.hid B2
    clear hr hgr B1 B2
    go_wp2_with (first
      | (refine wpList_store_mid rfl 27 (.tmp 51) (.tmp 49) rfl Bx 2 vc.toArray rfl rfl (by simpa [HVC.out] using TH) (by simpa [HVC.out] using info_val3) (all_oneCell_toArray HONE.out) ?_)
      | (refine wpList_load_mid rfl 29 (.tmp 53) rfl Bx 0 rfl nc _ RG hu rfl (by rw [HSZ.out]; exact info_node) ?_)
      | fail)
    refine (HND.out _).mono ?_
    rintro e w3 ⟨rfl, hb⟩
    have HR3 := Lib.hid (HR2.out.later hb)
    have HB3 := Lib.hid (HB2.out.later hb)
    have HG3 := Lib.hid (HG2.out.trans (Grown2.none_ (g := g) (h := Bx) hb))
    clear RG TH hb HR2 HB2 HG2
    cases ok with
    | true =>
      go_wp2_with fail
      go_end0
      exact ⟨rfl, HR3.out, HB3.out, HG3.out⟩
    | false =>
      go_wp2_with fail
      refine (HF.out _ HR3.out).mono ?_
      rintro e w4 ⟨rfl, hr4, hg4⟩
      have B4 := HB3.out.kept hg4 (by simp; have := HG.out; omega)
      have G4 := HG3.out.trans (Grown2.one hg4)
      have HR4 := Lib.hid hr4
      clear hr4 hg4 HR3 HB3 HG3
      go_wp2_with fail
      go_end0
      exact ⟨rfl, HR4.out, B4, G4⟩
end Go.Proofs.Ytgpbglmlakildaa

/- A filter's parts: slices.Clone of nodes, and what the program's Kids returns. -/
namespace Go.Proofs.Ytgpbglmlakildaa
set_option linter.unusedVariables false
set_option linter.unusedSimpArgs false
open Go Go.RowKit

/-- What a call gives that tells nodes, in a row of its own. -/
def GivesNodes (w : World) (l : List Nd) : Ending → World → Prop := fun e w' => ∃ A c, e = .returned (.slice A l.length c) ∧ w'.ownsRow w.heap.size 29 5 (.slice A l.length c) l.length (ncs l) ∧ Below w.heap.size w w'
set_option maxRecDepth 100000 in
set_option maxHeartbeats 1600000 in
theorem clone_nodes (A : Option Addr) (n c : Nat) (l : List Nd) (w : World) (hn : l.length = n) (hs : Sees w w.heap.size A (ncs l)) (hm : n ≤ 65536) :
    Calls Try.prog 59 #[.slice A n c] w (GivesNodes w l) := by
  obtain ⟨i1, ji, jz0, jz1, jz2⟩ := info_parts info_noded
  subst hn
  rcases A with _ | ad
  · have hl : l = [] := by
      rcases l with _ | ⟨x, l⟩
      · rfl
      · obtain ⟨b, o, h, _⟩ := hs (by rw [ncs_len]; simp)
        cases h
    subst hl
    have hq := fun wx => Lib.run_eql_slice_nil (P := Try.prog) wx 22 29 none 0 c 0 0 Try.underlying22
    go_enter Try.func59, Try.ntmps59
    go_wp2
    go_ret
    exact ⟨none, 0, rfl, World.ownsRow_nil _ _ _ _, Below.refl _ _⟩
  · have hq := fun wx => Lib.run_eql_slice_nil (P := Try.prog) wx 22 29 (some ad) l.length c 0 0 Try.underlying22
    have R1 := row_lit w w.heap.size 29 5 0 #[] (Nat.le_refl _) (by simp [maxLen]) rfl
    go_enter Try.func59, Try.ntmps59
    go_wp2_with (first
      | (at_builtin
         refine wpList_appk _ rfl (.tmp 5) (.tmp 6) 22 rfl w.heap.size 29 i1 _ 5 48 Try.underlying22 ji jz0 jz1 jz2 rfl (by decide) (.slice (some ⟨w.heap.size, 0, none⟩) 0 0) 0 [] rfl R1 w.heap.size (some ad) c (ncs l) l.length rfl (by rw [ncs_len]; omega) (hs.alloc (Nat.le_refl _) (.cells #[] 29)) (ncs_one l) (by unfold maxLen; omega) (by omega) (by simp) ?_
         intro A3 c3 w3 hr3 hb3 hg3 hat3
         rw [Nat.zero_add, List.nil_append] at hr3
         simp only [Nat.zero_add])
      | fail)
    go_ret
    exact ⟨A3, c3, rfl, hr3, ((Below.refl _ _).alloc (Nat.le_refl _) _).trans hb3⟩

set_option maxRecDepth 100000 in
set_option maxHeartbeats 3200000 in
theorem kids_any (A : Option Addr) (n c : Nat) (l : List Nd) (a : Nat) (w : World) (hn : l.length = n) (hs : Sees w w.heap.size A (ncs l)) (hc : n ≤ c) (hm : n ≤ 65536) (ha : a < l.length) (N : Nat) (he : endOf (l.drop (a + 1)) (par l[a].1) = some N) :
    Calls Try.prog 30 #[.slice A n c, .int .i64 a] w (GivesKids w (kidsOf (l.drop (a + 1)) (par l[a].1))) := by
  obtain ⟨i0, hi, hz0, hz1, hz2⟩ := info_parts info_nodes
  obtain ⟨i1, ji, jz0, jz1, jz2⟩ := info_parts info_noded
  have HN := Lib.hid hn
  have han : a < n := by omega
  have HEA := Lib.hid (end_any A n c l (a : Int) w w.heap.size hn hs hm)
  have d0 : decide (endAt l (a : Int) < 0) = false := by
    rw [endAt_nat, List.drop_eq_getElem_cons ha, endOf_cons, Nat.zero_add, he]
    show decide ((a : Int) + ((N + 1 : Nat) : Int) < 0) = false
    exact decide_eq_false (by omega)
  obtain ⟨zE, hzE⟩ : ∃ z, z = endAt l (a : Int) := ⟨_, rfl⟩
  rw [← hzE] at HEA d0
  obtain ⟨all, hall⟩ : ∃ all, all = kidsOf (l.drop (a + 1)) (par l[a].1) := ⟨_, rfl⟩
  have HL := Lib.hid (show all.length = par l[a].1 by rw [hall]; exact kids_len he)
  rw [← hall]
  obtain ⟨b, o, rfl, hb, hcell, hcr⟩ := sees_node hs a ha
  clear hcr
  obtain ⟨op, hop⟩ : ∃ op, op = l[a].1 := ⟨_, rfl⟩
  rw [← hop] at hcell hall he HL
  have HP := Lib.hid (fun wx : World => parts_any op wx)
  obtain ⟨p, hp⟩ : ∃ p, p = par op := ⟨_, rfl⟩
  have hp2 : p ≤ 2 := by rw [hp]; exact par_le op
  rw [← hp] at HP hall he HL
  have H0 := Lib.hid hall
  have HE0 := Lib.hid he
  clear hop hp hall he hn ha hzE
  unfold GivesKids
  go_enter Try.func30, Try.ntmps30
  go_wp2_with fail
  refine HEA.out.mono ?_
  rintro e w' ⟨rfl, rfl⟩
  go_wp2_with fail
  refine (HP.out _).mono ?_
  rintro e w' ⟨rfl, rfl⟩
  go_wp2_with fail
  go_loopw [5, 6, 20] (fun u f i wr => ∃ (q g N' : Nat) (ks : List (List Nd)) (vs : List Value) (AO : Option Addr) (cO : Nat), q ≤ p ∧ g ≤ n ∧ i = .int .i64 q ∧ f = .int .i64 g ∧ u = .slice AO q cO ∧ Hid (all = ks ++ kidsOf (l.drop g) (p - q) ∧ endOf (l.drop g) (p - q) = some N' ∧ ks.length = q) ∧
    wr.ownsRow w.heap.size 22 1 (.slice AO q cO) q vs ∧ Kept wr w.heap.size vs ks ∧ Below w.heap.size w wr) (fun _ _ i _ => p - (intOf i).toNat)
  case atStart => exact ⟨0, a + 1, N, [], [], _, _, by omega, by omega, rfl, by go_num, rfl, Lib.hid ⟨H0.out, HE0.out, rfl⟩, World.ownsRow_nil _ _ _ _, Kept.nil_ _ _, Below.refl _ _⟩
  case round =>
    obtain ⟨q, g, N', ks, vs, AO, cO, hq, hg, rfl, rfl, rfl, HI, hrow, HK, hbr⟩ := hrel
    by_cases hlt : q < p
    · have d2 : decide ((q : Int) < (p : Int)) = true := by simp; omega
      have e1 : p - q = (p - (q + 1)) + 1 := by omega
      have hI1 := HI.out.1
      have hI2 := HI.out.2.1
      rw [e1] at hI1 hI2
      obtain ⟨m, N2, k1, k2, k3, k4⟩ := kids_next hI1 hI2
      have hgm : g + m ≤ n := by rw [HN.out] at k2; omega
      have HEN := Lib.hid (end_any (some ⟨b, o, none⟩) n c l (g : Int) wr wr.heap.size HN.out ((hs.below hbr).more hbr.size) hm)
      rw [k1] at HEN
      obtain ⟨T, hT⟩ : ∃ T, T = g + m := ⟨_, rfl⟩
      rw [← hT] at HEN
      obtain ⟨A2, hsl, hse⟩ := cutk_fact 22 29 i1 5 Try.underlying22 ji jz1 ((hs.below hbr).more hbr.size) n g m c (g : Int) (T : Int) .i64 .i64 (by rw [ncs_len, HN.out]; omega) hgm rfl (by rw [hT]) hc
      rw [ncs_piece] at hse
      obtain ⟨kd, hkd⟩ : ∃ kd, kd = (l.drop g).take m := ⟨_, rfl⟩
      have hkdl : kd.length = m := by rw [hkd, List.length_take, List.length_drop, HN.out]; omega
      rw [← hkd] at hse k3
      have HKD := Lib.hid hkdl
      have HNX : Hid (all = (ks ++ [kd]) ++ kidsOf (l.drop T) (p - (q + 1)) ∧ endOf (l.drop T) (p - (q + 1)) = some N2 ∧ (ks ++ [kd]).length = q + 1) := Lib.hid ⟨by rw [hT]; exact k3, by rw [hT]; exact k4, by rw [List.length_append, HI.out.2.2]; rfl⟩
      have hTn : T ≤ n := by omega
      have hmn : m ≤ n := by omega
      have HCL := Lib.hid (clone_nodes A2 m (c - g) kd wr hkdl hse (by omega))
      have hbz := hbr.size
      clear k1 k2 k3 k4 e1 hT hkd hkdl hgm hI1 hI2
      go_wp2_with fail
      refine HEN.out.mono ?_
      rintro e w' ⟨rfl, rfl⟩
      go_wp2_with fail
      refine HCL.out.mono ?_
      rintro e w3 ⟨A3, c3, rfl, hr3, hb3⟩
      rw [HKD.out] at hr3 ⊢
      have hr4 := row_later hrow hb3
      have hk4 := HK.later hb3
      have hb3z := hb3.size
      have hr3' := row_lower hr3 hbz
      clear hr3 hse hsl
      go_wp2_with (first
        | (at_builtin
           refine wpList_appk _ rfl (.tmp 25) (.tmp 31) 40 rfl w.heap.size 22 i0 _ 1 24 Try.underlying40 hi hz0 hz1 hz2 rfl (by decide) (.slice AO q cO) q vs rfl (World.ownsRow.alloc hr4 (.cells #[.slice A3 m c3] 22)) (w3.heap.size + 1) (some ⟨w3.heap.size, 0, none⟩) 1 [.slice A3 m c3] 1 rfl rfl (sees_lit w3 #[.slice A3 m c3] 22 (0, 0) [.slice A3 m c3] rfl) (by simp [Value.oneCell']) (by unfold maxLen; omega) (by omega) (by simp; omega) ?_
           intro A5 c5 w5 hr5 hb5 hg5 hat5)
        | fail)
      have hrw := World.ownsRow.alloc hr4 (.cells #[.slice A3 m c3] 22)
      have hka := hk4.later ((Below.refl w3.heap.size w3).alloc (Nat.le_refl _) (.cells #[.slice A3 m c3] 22))
      have hra := World.ownsRow.alloc hr3' (.cells #[.slice A3 m c3] 22)
      have hk5 := hka.kept hrw (by decide) hg5
      have hr6 := World.ownsRow.kept hra hg5 (rows_apart hra hrw (by decide))
      have hb6 : Below w.heap.size w w5 := ((hbr.trans (hb3.mono hbz)).alloc (Nat.le_trans hbz hb3z) (.cells #[.slice A3 m c3] 22)).grown hg5 (by simp; omega) (fun k e => (hrw.lt k e).1)
      go_roundw
      case rel => exact ⟨q + 1, T, N2, ks ++ [kd], vs ++ [.slice A3 m c3], A5, c5, by omega, hTn, by go_num, rfl, rfl, HNX, hr5, hk5.snoc A3 c3 m kd HKD.out hr6, hb6⟩
      case measure => simp [intOf]; omega
    · obtain rfl : q = p := by omega
      have HA : Hid (all = ks ∧ ks.length = q) := Lib.hid ⟨by have := HI.out.1; rw [Nat.sub_self, kids_zero, List.append_nil] at this; exact this, HI.out.2.2⟩
      go_wp2_with fail
      go_ret
      rw [HA.out.1, HA.out.2]
      exact ⟨AO, cO, vs, rfl, hrow, HK, hbr⟩
end Go.Proofs.Ytgpbglmlakildaa

/- Lists of nodes: when two are alike, when lists of them are, and what Join returns. -/
namespace Go.Proofs.Ytgpbglmlakildaa
set_option linter.unusedVariables false
set_option linter.unusedSimpArgs false
open Go Go.RowKit

theorem guard_node : Try.prog.eqGuardType Try.prog.depth 29 = false := by kernel_rfl
theorem fieldsN : Try.prog.underlying 29 = some (.struct (Try.prog.fieldsOf 29)) := by kernel_rfl
set_option maxRecDepth 100000 in
theorem eq_node (d : Nat) (a b : Nd) (w : World) : (Op.equalIn (d + 4) 29 (.agg (ncells a).toArray) (.agg (ncells b).toArray)).run Try.prog w = .ok (decide (a = b)) w := by
  obtain ⟨op, m, v⟩ := a
  obtain ⟨op', m', v'⟩ := b
  have hsz : ∀ w, (sizeOf 27).run Try.prog w = .ok 3 w := fun w => by kernel_rfl
  have hag : ∀ w, (isAgg 27).run Try.prog w = .ok true w := fun w => by kernel_rfl
  rw [run_equalIn_agg w (d + 3) 29 _ _ fieldsN (by kernel_rfl)]
  have e : (Try.prog.fieldsOf 29).toList = [⟨"Op", 3, 0, false, "", "", 0⟩, ⟨"N", 3, 1, false, "", "", 8⟩, ⟨"V", 27, 2, false, "", "", 16⟩] := by kernel_rfl
  rw [e]
  have px : ∀ (a b : Int) (h : V3), (part 27 (ncells (a, b, h)).toArray 2).run Try.prog w = .ok (.agg (vcells h).toArray) w := fun a b h => by
    simp only [part, Sem.run_bind, hag, Result.andThen_ok, hsz, if_true, Sem.run_pure]
    rfl
  have p0 : ∀ (a b : Int) (h : V3), (part 3 (ncells (a, b, h)).toArray 0).run Try.prog w = .ok (.int .i64 a) w := fun a b h => by simp [go_sem, part, isAgg, ncells]
  have p1 : ∀ (a b : Int) (h : V3), (part 3 (ncells (a, b, h)).toArray 1).run Try.prog w = .ok (.int .i64 b) w := fun a b h => by simp [go_sem, part, isAgg, ncells]
  have ef : (Op.equalIn (d + 3) 27 (.agg (vcells v).toArray) (.agg (vcells v').toArray)).run Try.prog w = .ok (decide (v = v')) w := eq_val (d + 1) v v' w
  have q0 : ∀ a b : Int, (Op.equalIn (d + 3) 3 (.int .i64 a) (.int .i64 b)).run Try.prog w = .ok (a == b) w := fun a b => run_equalIn_int w (d + 2) 3 .i64 .i64 a b Try.underlying3
  simp only [Op.eqFields, if_pos (show ("Op" : String) ≠ "_" by decide), if_pos (show ("N" : String) ≠ "_" by decide), if_pos (show ("V" : String) ≠ "_" by decide)]
  simp only [Sem.run_bind, Sem.run_ite, Sem.run_pure, px, p0, p1, q0, ef, Result.andThen_ok]
  by_cases h1 : op = op' <;> by_cases h2 : m = m' <;> by_cases h3 : v = v' <;> simp [h1, h2, h3]

theorem range_sees {w : World} {B b o k : Nat} {cs : List Value} (h : w.rangeAt b (o + k) cs) {w' : World} (hl : Below B w w') (hb : b < B) : w'.rangeAt b (o + k) cs := fun j v hj => (hl.cell (p := ⟨b, o + k + j, none⟩) hb).trans (h j v hj)

set_option maxRecDepth 100000 in
set_option maxHeartbeats 3200000 in
theorem rsame_len (A : Option Addr) (n c : Nat) (l : List Nd) (A' : Option Addr) (c' : Nat) (m : List Nd) (w : World) (hn : l.length = n) (hn' : m.length = n) (hs : Sees w w.heap.size A (ncs l)) (hs' : Sees w w.heap.size A' (ncs m)) (hm : n ≤ 65536) :
    Calls Try.prog 26 #[.slice A n c, .slice A' n c'] w fun e w' => e = .returned (.bool (decide (l = m))) ∧ Below w.heap.size w w' := by
  have HN := Lib.hid hn
  have HN' := Lib.hid hn'
  have hu := Try.underlying29
  obtain ⟨R, hR⟩ : ∃ R, R = decide (l = m) := ⟨_, rfl⟩
  have HR := Lib.hid hR
  rw [← hR]
  clear hn hn' hR
  have hbe : ((n : Int) != (n : Int)) = false := by simp
  go_enter Try.func26, Try.ntmps26
  go_wp2_with fail
  go_loopw [5] (fun i wr => ∃ k : Nat, k ≤ n ∧ i = .int .i64 k ∧ Hid (l.take k = m.take k) ∧ Below w.heap.size w wr) (fun i _ => n - (intOf i).toNat)
  case atStart => exact ⟨0, Nat.zero_le _, rfl, Lib.hid (by simp), Below.refl _ _⟩
  case round =>
    obtain ⟨k, hk, rfl, HP, hbr⟩ := hrel
    by_cases hlt : k < n
    · have d1 : decide ((k : Int) < (n : Int)) = true := by simp; omega
      have hkl : k < l.length := by rw [HN.out]; exact hlt
      have hkm : k < m.length := by rw [HN'.out]; exact hlt
      obtain ⟨b, o, rfl, hb, hc1, hc2, hrg⟩ := sees_node ((hs.below hbr).more hbr.size) k hkl
      obtain ⟨b', o', rfl, hb', hc1', hc2', hrg'⟩ := sees_node ((hs'.below hbr).more hbr.size) k hkm
      clear hc1 hc2 hc1' hc2'
      have HA := Lib.hid (fun (w1 : World) (hl : Le wr w1) => range_sees hrg hl hb)
      have HB := Lib.hid (fun (w1 : World) (hl : Le wr w1) => range_sees hrg' hl hb')
      have HQ := Lib.hid (fun w1 : World => eq_node 9996 l[k] m[k] w1)
      obtain ⟨x, hx⟩ : ∃ x, x = l[k] := ⟨_, rfl⟩
      obtain ⟨y, hy⟩ : ∃ y, y = m[k] := ⟨_, rfl⟩
      rw [← hx] at HA HQ
      rw [← hy] at HB HQ
      have HX := Lib.hid hx
      have HY := Lib.hid hy
      have HSX : Hid ((ncells x).length = 5) := Lib.hid rfl
      have HSY : Hid ((ncells y).length = 5) := Lib.hid rfl
      clear hx hy hrg hrg'
      cases hxy : decide (x = y) with
      | true =>
        rw [hxy] at HQ
        have HE := Lib.hid (of_decide_eq_true hxy)
        clear hxy
        go_wp2_with fail
        refine wp_region_steady [] 26 (by kernel_rfl) (by kernel_rfl) (by kernel_rfl) (by rfl) ?_
        iterate 3 (refine wpG_quiet (by rfl) (by rfl) (by rfl) (fun K hK => ?_); go_big_quiet_op; refine hK _ ?_; clear hK K)
        refine wpG_run (by rfl) (by rfl) (.agg (ncells x).toArray) (fun w1 hl => exec_load 29 (.tmp 19) rfl b (o + k * 5) rfl (ncells x) _ (HA.out w1 hl.1) hu rfl (by rw [HSX.out]; exact info_node)) ?_
        simp only [Act.put, List.setIfInBounds_toArray, List.set_cons_zero, List.set_cons_succ]
        iterate 3 (refine wpG_quiet (by rfl) (by rfl) (by rfl) (fun K hK => ?_); go_big_quiet_op; refine hK _ ?_; clear hK K)
        refine wpG_run (by rfl) (by rfl) (.agg (ncells y).toArray) (fun w1 hl => exec_load 29 (.tmp 23) rfl b' (o' + k * 5) rfl (ncells y) _ (HB.out w1 hl.1) hu rfl (by rw [HSY.out]; exact info_node)) ?_
        simp only [Act.put, List.setIfInBounds_toArray, List.set_cons_zero, List.set_cons_succ]
        refine wpG_run (by rfl) (by rfl) (.bool (!true)) (fun w1 hl => exec_neq 29 _ (.tmp 20) (.tmp 24) rfl _ _ rfl rfl guard_node true (HQ.out w1)) ?_
        simp only [Act.put, List.setIfInBounds_toArray, List.set_cons_zero, List.set_cons_succ]
        refine wpG_nil fun w1 hl _ => ?_
        have hb1 := hbr.trans (hl.mono hbr.size)
        clear hbr
        go_wp2_with fail
        go_roundw
        case rel => exact ⟨k + 1, by omega, by go_num, Lib.hid (by rw [List.take_succ_eq_append_getElem hkl, List.take_succ_eq_append_getElem hkm, HP.out, ← HX.out, ← HY.out, HE.out]), hb1⟩
        case measure => simp [intOf]; omega
      | false =>
        rw [hxy] at HQ
        have HRR : Hid (R = false) := Lib.hid (by
          rw [HR.out]
          refine decide_eq_false fun e => of_decide_eq_false hxy ?_
          rw [HX.out, HY.out]
          subst e
          rfl)
        clear hxy
        go_wp2_with fail
        refine wp_region_steady [] 26 (by kernel_rfl) (by kernel_rfl) (by kernel_rfl) (by rfl) ?_
        iterate 3 (refine wpG_quiet (by rfl) (by rfl) (by rfl) (fun K hK => ?_); go_big_quiet_op; refine hK _ ?_; clear hK K)
        refine wpG_run (by rfl) (by rfl) (.agg (ncells x).toArray) (fun w1 hl => exec_load 29 (.tmp 19) rfl b (o + k * 5) rfl (ncells x) _ (HA.out w1 hl.1) hu rfl (by rw [HSX.out]; exact info_node)) ?_
        simp only [Act.put, List.setIfInBounds_toArray, List.set_cons_zero, List.set_cons_succ]
        iterate 3 (refine wpG_quiet (by rfl) (by rfl) (by rfl) (fun K hK => ?_); go_big_quiet_op; refine hK _ ?_; clear hK K)
        refine wpG_run (by rfl) (by rfl) (.agg (ncells y).toArray) (fun w1 hl => exec_load 29 (.tmp 23) rfl b' (o' + k * 5) rfl (ncells y) _ (HB.out w1 hl.1) hu rfl (by rw [HSY.out]; exact info_node)) ?_
        simp only [Act.put, List.setIfInBounds_toArray, List.set_cons_zero, List.set_cons_succ]
        refine wpG_run (by rfl) (by rfl) (.bool (!false)) (fun w1 hl => exec_neq 29 _ (.tmp 20) (.tmp 24) rfl _ _ rfl rfl guard_node false (HQ.out w1)) ?_
        simp only [Act.put, List.setIfInBounds_toArray, List.set_cons_zero, List.set_cons_succ]
        refine wpG_nil fun w1 hl _ => ?_
        have hb1 := hbr.trans (hl.mono hbr.size)
        clear hbr
        go_wp2_with fail
        go_ret
        exact ⟨by rw [HRR.out]; rfl, hb1⟩
    · obtain rfl : k = n := by omega
      have HRR : Hid (R = true) := Lib.hid (by
        have := HP.out
        rw [List.take_of_length_le (by rw [HN.out]; exact Nat.le_refl _), List.take_of_length_le (by rw [HN'.out]; exact Nat.le_refl _)] at this
        rw [HR.out]
        exact decide_eq_true this)
      go_wp2_with fail
      go_ret
      exact ⟨by rw [HRR.out]; rfl, hbr⟩
theorem rsame_any (A : Option Addr) (n c : Nat) (l : List Nd) (A' : Option Addr) (n' c' : Nat) (m : List Nd) (w : World) (hn : l.length = n) (hn' : m.length = n') (hs : Sees w w.heap.size A (ncs l)) (hs' : Sees w w.heap.size A' (ncs m)) (hm : n ≤ 65536) :
    Calls Try.prog 26 #[.slice A n c, .slice A' n' c'] w fun e w' => e = .returned (.bool (decide (l = m))) ∧ Below w.heap.size w w' := by
  by_cases h : n = n'
  · subst h
    exact rsame_len A n c l A' c' m w hn hn' hs hs' hm
  · have hbe : ((n : Int) != (n' : Int)) = true := by rw [bne_iff_ne]; omega
    have HNE : Hid (decide (l = m) = false) := Lib.hid (decide_eq_false (by rintro rfl; omega))
    clear h hn hn' hs hs'
    go_enter Try.func26, Try.ntmps26
    go_wp2_with fail
    go_ret
    exact ⟨by rw [HNE.out]; rfl, Below.refl _ _⟩
end Go.Proofs.Ytgpbglmlakildaa
