/- Disks: what each call does to a disk: mathematics alone. -/
import Derived.Test.YtjnfdhjnfginpaaDkA
namespace Go.Proofs.Ytjnfdhjnfginpaa
set_option linter.unusedVariables false
set_option linter.unusedSimpArgs false
open Go Go.RowKit

def b64 (l : List UInt8) : B64 := if h : l.length = 64 then ⟨l, h⟩ else z64
theorem b64_val {l : List UInt8} (h : l.length = 64) : (b64 l).1 = l := by unfold b64; rw [dif_pos h]
theorem b64_self (b : B64) : b64 b.1 = b := by unfold b64; rw [dif_pos b.2]
/-- A new disk. -/
def dnew (n : Nat) : Dk := ⟨List.replicate n (z64, false), [], -1, false⟩
def dhas (D : Dk) (a : Int) : Bool := decide (0 ≤ a ∧ a < (D.s.length : Int))
/-- The fuse burns. -/
def dstep (D : Dk) : Dk × Int := if D.fuse = 0 then ({ D with dead := true }, 15) else if 0 < D.fuse then ({ D with fuse := D.fuse - 1 }, 0) else (D, 0)
def dwrite (D : Dk) (a : Int) (b : List UInt8) : Dk × Int :=
  if D.dead then (D, 15) else if dhas D a = true ∧ b.length = 64 then dstep { D with w := D.w ++ [(a, b64 b)] } else (D, 1)
/-- A write that waited comes to its outcome. -/
def dsettle (s : List Sc) (x : Wr) (o : Int) : List Sc := if o = 1 then s.set x.1.toNat (x.2, false) else if o = 2 then s.set x.1.toNat ((s.getD x.1.toNat (z64, false)).1, true) else s
def dall (s : List Sc) (l : List Wr) : List Sc := l.foldl (fun s x => dsettle s x 1) s
def dsync (D : Dk) : Dk × Int :=
  if D.dead then (D, 15) else if (dstep D).2 = 0 then ({ (dstep D).1 with s := dall D.s D.w, w := [] }, 0) else dstep D
/-- What becomes of the writes from the k-th on. -/
def outc (keep : List Int) (k : Nat) : Int := match keep[k]? with
  | some x => if 0 < x then x % 3 else 0
  | none => 0
def dkeep (keep : List Int) : Nat → List Sc → List Wr → List Sc
  | _, s, [] => s
  | k, s, x :: l => dkeep keep (k + 1) (dsettle s x (outc keep k)) l
def dcrash (D : Dk) (keep : List Int) : Dk := ⟨dkeep keep 0 D.s D.w, [], -1, false⟩
/-- What lies at a place: what waits last, or what is there. -/
def dlook (D : Dk) (a : Int) : Sc := D.w.foldl (fun c x => if x.1 = a then (x.2, false) else c) (D.s.getD a.toNat (z64, false))
def dread (D : Dk) (a : Int) : List UInt8 × Int :=
  if D.dead then ([], 15) else if dhas D a = true then (if (dlook D a).2 then ([], 16) else ((dlook D a).1.1, 0)) else ([], 1)
/-- What waits is within the sectors. -/
def DIn (D : Dk) : Prop := ∀ x ∈ D.w, dhas D x.1 = true
theorem dsettle_len (s : List Sc) (x : Wr) (o : Int) : (dsettle s x o).length = s.length := by unfold dsettle; by_cases h1 : o = 1 <;> by_cases h2 : o = 2 <;> simp [h1, h2]
theorem dall_len : ∀ (l : List Wr) (s : List Sc), (dall s l).length = s.length
  | [], _ => rfl
  | x :: l, s => (dall_len l (dsettle s x 1)).trans (dsettle_len s x 1)
theorem dkeep_len (keep : List Int) : ∀ (l : List Wr) (k : Nat) (s : List Sc), (dkeep keep k s l).length = s.length
  | [], _, _ => rfl
  | x :: l, k, s => (dkeep_len keep l (k + 1) _).trans (dsettle_len s x _)
theorem dall_snoc (s : List Sc) (l : List Wr) (x : Wr) : dall s (l ++ [x]) = dsettle (dall s l) x 1 := by simp [dall]
theorem dkeep_snoc (keep : List Int) : ∀ (l : List Wr) (k : Nat) (s : List Sc) (x : Wr), dkeep keep k s (l ++ [x]) = dsettle (dkeep keep k s l) x (outc keep (k + l.length))
  | [], k, s, x => by simp [dkeep]
  | y :: l, k, s, x => by
    rw [List.cons_append, dkeep, dkeep_snoc keep l (k + 1), dkeep, List.length_cons, show k + 1 + l.length = k + (l.length + 1) by omega]
theorem dstep_s (D : Dk) : (dstep D).1.s = D.s ∧ (dstep D).1.w = D.w := by unfold dstep; by_cases h1 : D.fuse = 0 <;> by_cases h2 : 0 < D.fuse <;> simp [h1, h2]
theorem DIn.step {D : Dk} (h : DIn D) : DIn (dstep D).1 := by
  intro x hx
  rw [(dstep_s D).2] at hx
  have := h x hx
  unfold dhas at *
  rw [(dstep_s D).1]
  exact this
theorem DIn.write {D : Dk} (h : DIn D) (a : Int) (b : List UInt8) : DIn (dwrite D a b).1 := by
  unfold dwrite
  split
  · exact h
  · split
    · rename_i _ hb
      refine DIn.step (fun x hx => ?_)
      rcases List.mem_append.1 hx with h1 | h1
      · exact h x h1
      · simp only [List.mem_singleton] at h1
        subst h1
        exact hb.1
    · exact h
theorem DIn.none {D : Dk} (h : D.w = []) : DIn D := fun x hx => by rw [h] at hx; cases hx
theorem DIn.sync {D : Dk} (h : DIn D) : DIn (dsync D).1 := by
  unfold dsync
  split
  · exact h
  · split
    · exact DIn.none rfl
    · exact h.step
theorem DIn.crash (D : Dk) (keep : List Int) : DIn (dcrash D keep) := DIn.none rfl
end Go.Proofs.Ytjnfdhjnfginpaa
