/- Disks: sectors and writes that wait, as cells; where a disk lies: mathematics and frames. -/
import Derived.Test.YtjnfdhjnfginpaaRowK
import Derived.Test.YtjnfdhjnfginpaaLoadG
namespace Go.Proofs.Ytjnfdhjnfginpaa
set_option linter.unusedVariables false
set_option linter.unusedSimpArgs false
open Go Go.RowKit

section
variable {α : Type} (f : α → List Value) (n : Nat) (hf : ∀ x, (f x).length = n)
include hf
theorem fix_len (l : List α) : (l.flatMap f).length = l.length * n := by
  induction l with
  | nil => simp
  | cons x l ih => rw [List.flatMap_cons, List.length_append, hf, ih, List.length_cons, Nat.add_mul]; omega
theorem fix_take (l : List α) (k : Nat) : (l.flatMap f).take (k * n) = (l.take k).flatMap f := by
  induction l generalizing k with
  | nil => simp
  | cons x l ih =>
    cases k with
    | zero => simp
    | succ k => rw [List.flatMap_cons, List.take_succ_cons, List.flatMap_cons, ← ih k, Nat.add_mul, Nat.one_mul, Nat.add_comm, List.take_append, hf, Nat.add_comm]; simp [hf]; exact List.take_of_length_le (by rw [hf]; omega)
theorem fix_drop (l : List α) (k : Nat) : (l.flatMap f).drop (k * n) = (l.drop k).flatMap f := by
  induction l generalizing k with
  | nil => simp
  | cons x l ih =>
    cases k with
    | zero => simp
    | succ k => rw [List.flatMap_cons, List.drop_succ_cons, ← ih k, Nat.add_mul, Nat.one_mul, Nat.add_comm, List.drop_append, hf]; simp [hf]
theorem fix_get (l : List α) (k : Nat) (h : k < l.length) : ((l.flatMap f).drop (k * n)).take n = f l[k] := by
  rw [fix_drop f n hf, List.drop_eq_getElem_cons h, List.flatMap_cons, List.take_append_of_le_length (by rw [hf]; exact Nat.le_refl _), List.take_of_length_le (by rw [hf]; exact Nat.le_refl _)]
theorem fix_set (l : List α) (k : Nat) (x : α) (h : k < l.length) : (l.flatMap f).take (k * n) ++ f x ++ (l.flatMap f).drop (k * n + n) = (l.set k x).flatMap f := by
  rw [show k * n + n = (k + 1) * n by rw [Nat.add_mul, Nat.one_mul], fix_take f n hf, fix_drop f n hf, List.set_eq_take_append_cons_drop, if_pos h, List.flatMap_append, List.flatMap_cons, List.append_assoc]
end

abbrev B64 := {l : List UInt8 // l.length = 64}
abbrev Sc := B64 × Bool
abbrev Wr := Int × B64
def z64 : B64 := ⟨List.replicate 64 0, by simp⟩
def scell (s : Sc) : List Value := bvs s.1.1 ++ [.bool s.2]
def wcell (x : Wr) : List Value := .int .i64 x.1 :: bvs x.2.1
theorem scell_len (s : Sc) : (scell s).length = 65 := by unfold scell; rw [List.length_append, bvs_length, s.1.2]; rfl
theorem wcell_len (x : Wr) : (wcell x).length = 65 := by unfold wcell; rw [List.length_cons, bvs_length, x.2.2]
def scs (l : List Sc) : List Value := l.flatMap scell
def wcs (l : List Wr) : List Value := l.flatMap wcell
theorem scs_len (l : List Sc) : (scs l).length = l.length * 65 := fix_len _ 65 scell_len l
theorem wcs_len (l : List Wr) : (wcs l).length = l.length * 65 := fix_len _ 65 wcell_len l
theorem scell_one (s : Sc) : ∀ u ∈ scell s, u.oneCell' = true := fun u hu => by
  unfold scell at hu
  rcases List.mem_append.1 hu with h | h
  · exact bvs_one _ u h
  · simp only [List.mem_singleton] at h; subst h; rfl
theorem wcell_one (x : Wr) : ∀ u ∈ wcell x, u.oneCell' = true := fun u hu => by
  unfold wcell at hu
  rcases List.mem_cons.1 hu with h | h
  · subst h; rfl
  · exact bvs_one _ u h
theorem wcs_one (l : List Wr) : ∀ u ∈ wcs l, u.oneCell' = true := fun u hu => by
  obtain ⟨x, _, h⟩ := List.mem_flatMap.1 hu
  exact wcell_one x u h
theorem wcs_app (l m : List Wr) : wcs (l ++ m) = wcs l ++ wcs m := by simp [wcs]

structure Dk where
  s : List Sc
  w : List Wr
  fuse : Int
  dead : Bool

/-- All but three blocks is as it was. -/
structure Turn3 (w w' : World) (g b : Nat) (r : Option Nat) : Prop where
  os : w'.os = w.os
  tape : w'.tape = w.tape
  output : w'.output = w.output
  size : w.heap.size ≤ w'.heap.size
  block : ∀ k, k < w.heap.size → k ≠ g → k ≠ b → some k ≠ r → w'.heap[k]? = w.heap[k]?
theorem Turn3.refl (w : World) (g b : Nat) (r : Option Nat) : Turn3 w w g b r := ⟨rfl, rfl, rfl, Nat.le_refl _, fun _ _ _ _ _ => rfl⟩
theorem Turn3.of_below {w w' : World} (h : Below w.heap.size w w') (g b : Nat) (r : Option Nat) : Turn3 w w' g b r := ⟨h.os, h.tape, h.output, h.size, fun k hk _ _ _ => h.block k hk⟩
/-- A row that is the old one, or a new one. -/
def RowN (w : World) (r r' : Option Nat) : Prop := ∀ k, r' = some k → r = some k ∨ w.heap.size ≤ k
theorem RowN.refl (w : World) (r : Option Nat) : RowN w r r := fun k h => .inl h
theorem RowN.none (w : World) (r : Option Nat) : RowN w r none := fun k h => by cases h
theorem RowN.trans {w w1 : World} {r r1 r2 : Option Nat} (h : RowN w r r1) (h1 : RowN w1 r1 r2) (hz : w.heap.size ≤ w1.heap.size) : RowN w r r2 := fun k hk => by
  rcases h1 k hk with h2 | h2
  · exact h k h2
  · exact .inr (Nat.le_trans hz h2)
theorem Turn3.trans {w w1 w2 : World} {g b : Nat} {r r1 : Option Nat} (h : Turn3 w w1 g b r) (h1 : Turn3 w1 w2 g b r1) (hr : RowN w r r1) : Turn3 w w2 g b r :=
  ⟨h1.os.trans h.os, h1.tape.trans h.tape, h1.output.trans h.output, Nat.le_trans h.size h1.size, fun k hk hg hb hne => (h1.block k (Nat.lt_of_lt_of_le hk h.size) hg hb (fun e => by
    rcases hr k e.symm with h2 | h2
    · exact hne h2.symm
    · omega)).trans (h.block k hk hg hb hne)⟩
theorem Turn3.below {w w' : World} {g b L : Nat} {r : Option Nat} (h : Turn3 w w' g b r) (hg : L ≤ g) (hb : L ≤ b) (hr : ∀ k, r = some k → L ≤ k) (hL : L ≤ w.heap.size) : Below L w w' :=
  ⟨h.os, h.tape, h.output, h.size, fun k hk => h.block k (by omega) (by omega) (by omega) (fun e => by have := hr k e.symm; omega)⟩
theorem Turn3.sets (w : World) (g b j : Nat) (r : Option Nat) (vs : List Value) (o : Nat) (hj : j = g ∨ j = b) : Turn3 w (w.setCells j o vs) g b r := by
  have hb := below_sets (B := j) (b := j) (Nat.le_refl j) vs o (Below.refl j w)
  refine ⟨hb.os, hb.tape, hb.output, hb.size, fun k hk hg hb' _ => ?_⟩
  have hkj : k ≠ j := by rcases hj with rfl | rfl <;> assumption
  have key : ∀ (vs : List Value) (o : Nat) (w : World), (w.setCells j o vs).heap[k]? = w.heap[k]? := fun vs => by
    induction vs with
    | nil => intro o w; rfl
    | cons v vs ih => intro o w; exact (ih (o + 1) _).trans (Below.heap_setCell w ⟨j, o, none⟩ v k hkj)
  exact key vs o w
theorem Turn3.set (w : World) (g b j o : Nat) (r : Option Nat) (v : Value) (hj : j = g ∨ j = b) : Turn3 w (w.setCell ⟨j, o, none⟩ v) g b r := Turn3.sets w g b j r [v] o hj
theorem Turn3.blk {w w' : World} {g b k : Nat} {r : Option Nat} {cs : List Value} (h : Turn3 w w' g b r) (hb : Blk w k cs) (h1 : k ≠ g) (h2 : k ≠ b) (h3 : r ≠ some k) : Blk w' k cs := by
  have hlt := hb.lt
  obtain ⟨t, hb⟩ := hb
  exact ⟨t, (h.block k hlt h1 h2 (fun e => h3 e.symm)).trans hb⟩

/-- Where a disk lies: its own block is g, its sectors' is b, what waits lies in a row at or above L. -/
structure DkAt (w : World) (L g b : Nat) (r : Option Nat) (D : Dk) : Prop where
  at_ : ∃ A c, Blk w g [.slice (some ⟨b, 0, none⟩) D.s.length D.s.length, .slice A D.w.length c, .int .i64 D.fuse, .bool D.dead] ∧ w.ownsRow L 59 65 (.slice A D.w.length c) D.w.length (wcs D.w) ∧ r = (Value.slice A D.w.length c).ownBlock
  secs : Blk w b (scs D.s)
  gb : g ≠ b
  rg : r ≠ some g
  rb : r ≠ some b
  Lg : L ≤ g
  Lb : L ≤ b
theorem DkAt.row {w : World} {L g b : Nat} {r : Option Nat} {D : Dk} (h : DkAt w L g b r D) : ∀ k, r = some k → L ≤ k ∧ k < w.heap.size := by
  obtain ⟨A, c, _, hr, e⟩ := h.at_
  intro k hk
  exact hr.lt k (by rw [← e]; exact hk)
theorem DkAt.lt {w : World} {L g b : Nat} {r : Option Nat} {D : Dk} (h : DkAt w L g b r D) : g < w.heap.size ∧ b < w.heap.size := by
  obtain ⟨A, c, B, _⟩ := h.at_
  exact ⟨B.lt, h.secs.lt⟩
theorem DkAt.later {w w' : World} {L g b : Nat} {r : Option Nat} {D : Dk} (h : DkAt w L g b r D) (hb : Below w.heap.size w w') : DkAt w' L g b r D := by
  obtain ⟨⟨A, c, B, hr, e⟩, h2, h3, h4, h5, h6, h7⟩ := h
  exact ⟨⟨A, c, B.later hb, row_later hr hb, e⟩, h2.later hb, h3, h4, h5, h6, h7⟩
theorem heap_setsD (b k : Nat) (hk : k ≠ b) : ∀ (vs : List Value) (o : Nat) (w : World), (w.setCells b o vs).heap[k]? = w.heap[k]?
  | [], _, _ => rfl
  | v :: vs, o, w => (heap_setsD b k hk vs (o + 1) _).trans (Below.heap_setCell w ⟨b, o, none⟩ v k hk)
theorem row_apartD {w : World} {base n size : Nat} {e : TypeId} {v : Value} {xs : List Value} (h : w.ownsRow base e size v n xs) {b : Nat} (hb : v.ownBlock ≠ some b) (vs : List Value) (o : Nat) : (w.setCells b o vs).ownsRow base e size v n xs := by
  obtain ⟨h1, h2⟩ := h
  refine ⟨h1, h2.imp id fun ⟨k, cap, cur, e1, e2, e3, e4⟩ => ⟨k, cap, cur, e1, e2, (heap_setsD b k (fun e => ?_) vs o w).trans e3, e4⟩⟩
  subst e
  rw [e1] at hb
  exact hb rfl
/-- The fuse, and whether the power is gone, are written. -/
theorem DkAt.setFuse {w : World} {L g b : Nat} {r : Option Nat} {D : Dk} (h : DkAt w L g b r D) (x : Int) : DkAt (w.setCell ⟨g, 2, none⟩ (.int .i64 x)) L g b r { D with fuse := x } := by
  obtain ⟨⟨A, c, B, hr, e⟩, h2, h3, h4, h5, h6, h7⟩ := h
  refine ⟨⟨A, c, ?_, row_apartD hr (by rw [← e]; exact h4) [.int .i64 x] 2, e⟩, h2.setOther 2 _ h3, h3, h4, h5, h6, h7⟩
  have := B.set 2 (.int .i64 x)
  simpa using this
theorem DkAt.setDead {w : World} {L g b : Nat} {r : Option Nat} {D : Dk} (h : DkAt w L g b r D) (x : Bool) : DkAt (w.setCell ⟨g, 3, none⟩ (.bool x)) L g b r { D with dead := x } := by
  obtain ⟨⟨A, c, B, hr, e⟩, h2, h3, h4, h5, h6, h7⟩ := h
  refine ⟨⟨A, c, ?_, row_apartD hr (by rw [← e]; exact h4) [.bool x] 3, e⟩, h2.setOther 3 _ h3, h3, h4, h5, h6, h7⟩
  have := B.set 3 (.bool x)
  simpa using this
/-- Nothing waits any more. -/
theorem DkAt.setNone {w : World} {L g b : Nat} {r : Option Nat} {D : Dk} (h : DkAt w L g b r D) : DkAt (w.setCell ⟨g, 1, none⟩ (.slice none 0 0)) L g b none { D with w := [] } := by
  obtain ⟨⟨A, c, B, hr, e⟩, h2, h3, h4, h5, h6, h7⟩ := h
  refine ⟨⟨none, 0, ?_, World.ownsRow_nil _ _ _ _, rfl⟩, h2.setOther 1 _ h3, h3, by simp, by simp, h6, h7⟩
  have := B.set 1 (.slice none 0 0)
  simpa using this
/-- A sector is written. -/
theorem DkAt.setSec {w : World} {L g b : Nat} {r : Option Nat} {D : Dk} (h : DkAt w L g b r D) (k : Nat) (hk : k < D.s.length) (x : Sc) : DkAt (w.setCells b (k * 65) (scell x)) L g b r { D with s := D.s.set k x } := by
  obtain ⟨⟨A, c, B, hr, e⟩, h2, h3, h4, h5, h6, h7⟩ := h
  refine ⟨⟨A, c, ?_, row_apartD hr (by rw [← e]; exact h5) _ _, e⟩, ?_, h3, h4, h5, h6, h7⟩
  · have := Blk.setsOther (b := b) (g := g) (fun e => h3 e.symm) (scell x) (k * 65) B
    simpa using this
  · have hle : k * 65 + (scell x).length ≤ (scs D.s).length := by rw [scs_len, scell_len]; have := Nat.mul_le_mul_right 65 (Nat.succ_le_of_lt hk); omega
    have := h2.sets (scell x) (k * 65) hle
    rw [scell_len] at this
    unfold scs at this
    rw [fix_set _ 65 scell_len _ _ _ hk] at this
    exact this
end Go.Proofs.Ytjnfdhjnfginpaa
