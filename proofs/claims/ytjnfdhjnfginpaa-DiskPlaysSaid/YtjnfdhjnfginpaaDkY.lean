/- Disks: both disks, side by side; what an act does. -/
import Derived.Test.YtjnfdhjnfginpaaDkV
namespace Go.Proofs.Ytjnfdhjnfginpaa
set_option linter.unusedVariables false
set_option linter.unusedSimpArgs false
open Go Go.RowKit

theorem row_block {w w' : World} {base n size : Nat} {e : TypeId} {v : Value} {xs : List Value} (h : w.ownsRow base e size v n xs) (hb : ∀ k, v.ownBlock = some k → w'.heap[k]? = w.heap[k]?) : w'.ownsRow base e size v n xs := by
  obtain ⟨h1, h2 | ⟨g, cap, cur, rfl, e2, e3, e4, e5, e6, e7⟩⟩ := h
  · exact ⟨h1, .inl h2⟩
  · exact ⟨h1, .inr ⟨g, cap, cur, rfl, e2, (hb g rfl).trans e3, e4, e5, e6, e7⟩⟩
theorem RfAt.rows {w : World} {L m : Nat} {q p : Option Nat} {D : Dk} (h : RfAt w L m q p D) : (∀ k, q = some k → L ≤ k ∧ k < w.heap.size) ∧ (∀ k, p = some k → L ≤ k ∧ k < w.heap.size) := by
  obtain ⟨A, c, A', c', B, h1, h2, e1, e2⟩ := h.at_
  exact ⟨fun k hk => row_lt h1 k (by rw [← e1]; exact hk), fun k hk => row_lt h2 k (by rw [← e2]; exact hk)⟩
theorem RfAt.turn {w w' : World} {L m g b : Nat} {r q p : Option Nat} {D : Dk} (h : RfAt w L m q p D) (T : Turn3 w w' g b r) (mg : m ≠ g) (mb : m ≠ b) (mr : r ≠ some m)
    (qg : q ≠ some g) (qb : q ≠ some b) (qr : ∀ k, r = some k → q ≠ some k) (pg : p ≠ some g) (pb : p ≠ some b) (pr : ∀ k, r = some k → p ≠ some k) : RfAt w' L m q p D := by
  have hr := h.rows
  obtain ⟨⟨A, c, A', c', B, h1, h2, e1, e2⟩, h3, h4, h5⟩ := h
  refine ⟨⟨A, c, A', c', T.blk B mg mb mr, row_block h1 (fun k hk => ?_), row_block h2 (fun k hk => ?_), e1, e2⟩, h3, h4, h5⟩
  · rw [← e1] at hk
    exact T.block k (hr.1 k hk).2 (fun e => qg (by rw [hk, e])) (fun e => qb (by rw [hk, e])) (fun e => qr k e.symm hk)
  · rw [← e2] at hk
    exact T.block k (hr.2 k hk).2 (fun e => pg (by rw [hk, e])) (fun e => pb (by rw [hk, e])) (fun e => pr k e.symm hk)
theorem DkAt.turn {w w' : World} {L g b m : Nat} {r : Option Nat} {D : Dk} (h : DkAt w L g b r D) (T : Turn3 w w' m m none) (mg : m ≠ g) (mb : m ≠ b) (mr : r ≠ some m) : DkAt w' L g b r D := by
  have hr := h.row
  obtain ⟨⟨A, c, B, h1, e1⟩, h2, h3, h4, h5, h6, h7⟩ := h
  refine ⟨⟨A, c, T.blk B (Ne.symm mg) (Ne.symm mg) (by simp), row_block h1 (fun k hk => ?_), e1⟩, T.blk h2 (Ne.symm mb) (Ne.symm mb) (by simp), h3, h4, h5, h6, h7⟩
  rw [← e1] at hk
  exact T.block k (hr k hk).2 (fun e => mr (by rw [hk, e])) (fun e => mr (by rw [hk, e])) (by simp)
theorem DkAt.lower {w : World} {L L' g b : Nat} {r : Option Nat} {D : Dk} (h : DkAt w L g b r D) (hl : L' ≤ L) : DkAt w L' g b r D := by
  obtain ⟨⟨A, c, B, h1, e1⟩, h2, h3, h4, h5, h6, h7⟩ := h
  exact ⟨⟨A, c, B, row_lower h1 hl, e1⟩, h2, h3, h4, h5, Nat.le_trans hl h6, Nat.le_trans hl h7⟩
/-- The program's disk and the document's, side by side. -/
structure Both (w : World) (L g b : Nat) (r : Option Nat) (m : Nat) (q p : Option Nat) (D : Dk) : Prop where
  dk : DkAt w L g b r D
  rf : RfAt w L m q p D
  mg : m ≠ g
  mb : m ≠ b
  mr : r ≠ some m
  qg : q ≠ some g
  qb : q ≠ some b
  qr : ∀ k, r = some k → q ≠ some k
  pg : p ≠ some g
  pb : p ≠ some b
  pr : ∀ k, r = some k → p ≠ some k
section
variable {w w1 w2 : World} {L g b m : Nat} {r r1 q p q' p' : Option Nat} {D D' : Dk}
theorem Both.later (h : Both w L g b r m q p D) (hb : Below w.heap.size w w1) : Both w1 L g b r m q p D := { h with dk := h.dk.later hb, rf := h.rf.later hb }
theorem Both.mid (h : Both w L g b r m q p D) (T : Turn3 w w1 g b r) : RfAt w1 L m q p D := h.rf.turn T h.mg h.mb h.mr h.qg h.qb h.qr h.pg h.pb h.pr
theorem Both.step (h : Both w L g b r m q p D) (hd : DkAt w1 L g b r1 D') (T : Turn3 w w1 g b r) (R : RowN w r r1) (hr : RfAt w2 L m q' p' D') (T2 : Turn3 w1 w2 m m none) (Rq : RowN w1 q q') (Rp : RowN w1 p p') : Both w2 L g b r1 m q' p' D' := by
  have hm := h.rf.lt
  have hg := h.dk.lt
  have hz := T.size
  have hq := h.rf.rows
  have hr1 := hd.row
  have mr1 : r1 ≠ some m := fun e => by
    rcases R m e with h1 | h1
    · exact h.mr h1
    · omega
  have side : ∀ (x x' : Option Nat) (c : Nat), x ≠ some c → c < w.heap.size → RowN w1 x x' → x' ≠ some c := fun x x' c h1 h2 h3 e => by
    rcases h3 c e with h4 | h4
    · exact h1 h4
    · omega
  have rowed : ∀ (x x' : Option Nat), (∀ k, x = some k → L ≤ k ∧ k < w.heap.size) → (∀ k, r = some k → x ≠ some k) → RowN w1 x x' → ∀ k, r1 = some k → x' ≠ some k := fun x x' h1 h2 h3 k hk e => by
    have k1 := (hr1 k hk).2
    rcases h3 k e with h4 | h4
    · rcases R k hk with h5 | h5
      · exact h2 k h5 h4
      · have := (h1 k h4).2
        omega
    · omega
  exact ⟨hd.turn T2 h.mg h.mb mr1, hr, h.mg, h.mb, mr1, side q q' g h.qg hg.1 Rq, side q q' b h.qb hg.2 Rq, rowed q q' hq.1 h.qr Rq, side p p' g h.pg hg.1 Rp, side p p' b h.pb hg.2 Rp, rowed p p' hq.2 h.pr Rp⟩
theorem Both.below (h : Both w L g b r m q p D) (T : Turn3 w w1 g b r) (T2 : Turn3 w1 w2 m m none) (hL : L ≤ w.heap.size) : Below L w w2 :=
  (T.below h.dk.Lg h.dk.Lb (fun k hk => (h.dk.row k hk).1) hL).trans (T2.below h.rf.Lm h.rf.Lm (fun k hk => by cases hk) (Nat.le_trans hL T.size))
end
/-- What an act does to a disk. -/
def dact (D : Dk) (k a n : Int) (c : UInt8) (keep : List Int) : Dk :=
  if k = 0 then (dwrite D a (fil (if n = 7 then 63 else 64) c)).1 else if k = 1 then (dsync D).1 else if k = 2 then { D with fuse := n } else if k = 3 then dcrash D keep else D
theorem dstep_fuse (D : Dk) (h : -9223372036854775808 ≤ D.fuse ∧ D.fuse ≤ 9223372036854775807) : -9223372036854775808 ≤ (dstep D).1.fuse ∧ (dstep D).1.fuse ≤ 9223372036854775807 := by
  unfold dstep
  split
  · exact h
  · split
    · show -9223372036854775808 ≤ D.fuse - 1 ∧ D.fuse - 1 ≤ 9223372036854775807
      omega
    · exact h
theorem dact_ok (D : Dk) (k a n : Int) (c : UInt8) (keep : List Int) (hin : DIn D) (hf : -9223372036854775808 ≤ D.fuse ∧ D.fuse ≤ 9223372036854775807) (hn : -9223372036854775808 ≤ n ∧ n ≤ 9223372036854775807) :
    DIn (dact D k a n c keep) ∧ (-9223372036854775808 ≤ (dact D k a n c keep).fuse ∧ (dact D k a n c keep).fuse ≤ 9223372036854775807) ∧ (dact D k a n c keep).w.length ≤ D.w.length + 1 ∧ (dact D k a n c keep).s.length = D.s.length := by
  unfold dact
  split
  · refine ⟨hin.write _ _, ?_⟩
    generalize fil (if n = 7 then 63 else 64) c = l
    unfold dwrite
    split
    · exact ⟨hf, Nat.le_succ _, rfl⟩
    · split
      · rename_i h1 h2
        refine ⟨dstep_fuse _ hf, ?_, ?_⟩
        · rw [(dstep_s _).2]; simp
        · rw [(dstep_s _).1]
      · exact ⟨hf, Nat.le_succ _, rfl⟩
  · split
    · refine ⟨hin.sync, ?_⟩
      unfold dsync
      split
      · exact ⟨hf, Nat.le_succ _, rfl⟩
      · split
        · exact ⟨dstep_fuse _ hf, by simp, dall_len _ _⟩
        · refine ⟨dstep_fuse _ hf, ?_, ?_⟩
          · rw [(dstep_s _).2]; omega
          · rw [(dstep_s _).1]
    · split
      · exact ⟨hin, hn, by show D.w.length ≤ _; omega, rfl⟩
      · split
        · exact ⟨DIn.crash _ _, by simp [dcrash], by simp [dcrash], dkeep_len _ _ _ _⟩
        · exact ⟨hin, hf, by omega, rfl⟩
end Go.Proofs.Ytjnfdhjnfginpaa
