/- DiskPlays: how both disks are laid; a disk far from what turns. -/
import Derived.Test.YtjnfdhjnfginpaaDkZ
import Derived.Test.YtjnfdhjnfginpaaDkAb
namespace Go.Proofs.Ytjnfdhjnfginpaa
set_option linter.unusedVariables false
set_option linter.unusedSimpArgs false
open Go Go.RowKit

set_option maxRecDepth 100000 in
theorem new_low (n : Int) (w : World) (h : n < 1) : Calls Try.prog 5 #[.int .i64 n] w fun e w' => e = .returned (.pointer none) ∧ w = w' := by
  have d1 : decide (n < 1) = true := decide_eq_true h
  clear h
  go_enter Try.func5, Try.ntmps5
  go_wp2_with fail
  go_ret
  exact ⟨rfl, rfl⟩
set_option maxRecDepth 100000 in
theorem new_high (n : Int) (w : World) (h : 2048 < n) : Calls Try.prog 5 #[.int .i64 n] w fun e w' => e = .returned (.pointer none) ∧ w = w' := by
  have d1 : decide (n < 1) = false := decide_eq_false (by omega)
  have d2 : decide (2048 < n) = true := decide_eq_true h
  clear h
  go_enter Try.func5, Try.ntmps5
  go_wp2_with fail
  go_ret
  exact ⟨rfl, rfl⟩
theorem DkAt.far {w w' : World} {L g b g' b' : Nat} {r r' : Option Nat} {D : Dk} (h : DkAt w L g' b' r' D) (T : Turn3 w w' g b r) (hg : g < L) (hb : b < L) (hr : ∀ k, r = some k → k < L) : DkAt w' L g' b' r' D := by
  have hrow := h.row
  obtain ⟨⟨A, c, B, h1, e1⟩, h2, h3, h4, h5, h6, h7⟩ := h
  have fr : ∀ k, L ≤ k → r ≠ some k := fun k hk e => by have := hr k e; omega
  refine ⟨⟨A, c, T.blk B (by omega) (by omega) (fr _ h6), row_block h1 (fun k hk => ?_), e1⟩, T.blk h2 (by omega) (by omega) (fr _ h7), h3, h4, h5, h6, h7⟩
  rw [← e1] at hk
  have hl := (hrow k hk).1
  exact T.block k (hrow k hk).2 (by omega) (by omega) (fun e => fr k hl e.symm)
theorem both_new {w w1 w2 : World} {n : Nat} {A : Option Addr} {c : Nat} (h : DkAt w1 w.heap.size (w.heap.size + 1) w.heap.size none (dnew n)) (hr : w2.ownsRow w1.heap.size 9 1 (.slice A n c) n (stc (dnew n).s)) (hb1 : Below w.heap.size w w1) (hb2 : Below w1.heap.size w1 w2) :
    Both ((w2.alloc (.cells #[.slice none 0 0, .slice none 0 0, .int .i64 0, .bool false] 29)).setCells w2.heap.size 0 [.slice A n c, .slice none 0 0, .int .i64 (-1), .bool false]) w.heap.size (w.heap.size + 1) w.heap.size none w2.heap.size (Value.slice A n c).ownBlock none (dnew n) ∧
      Below w.heap.size w ((w2.alloc (.cells #[.slice none 0 0, .slice none 0 0, .int .i64 0, .bool false] 29)).setCells w2.heap.size 0 [.slice A n c, .slice none 0 0, .int .i64 (-1), .bool false]) := by
  have hl := h.lt
  have hz := hb2.size
  have hz0 := hb1.size
  have hrl := row_lt hr
  have B := (Blk.new w2 [.slice none 0 0, .slice none 0 0, .int .i64 0, .bool false] 29).sets [.slice A n c, .slice none 0 0, .int .i64 (-1), .bool false] 0 (by simp)
  have L2 : Below w2.heap.size w2 ((w2.alloc (.cells #[.slice none 0 0, .slice none 0 0, .int .i64 0, .bool false] 29)).setCells w2.heap.size 0 [.slice A n c, .slice none 0 0, .int .i64 (-1), .bool false]) :=
    below_sets (Nat.le_refl _) _ 0 ((Below.refl w2.heap.size w2).alloc (Nat.le_refl _) _)
  have hsl : (dnew n).s.length = n := by simp [dnew]
  refine ⟨⟨(h.later hb2).later L2, ⟨⟨A, c, none, 0, ?_, ?_, World.ownsRow_nil _ _ _ _, by rw [hsl], rfl⟩, ?_, by simp, by omega⟩, by omega, by omega, by simp, ?_, ?_, by simp, by simp, by simp, by simp⟩, (hb1.trans (hb2.mono hz0)).trans (L2.mono (by omega))⟩
  · rw [hsl]
    exact B
  · rw [hsl]
    exact row_lower (row_later hr L2) (by omega)
  · intro e
    have := (hrl _ e).2
    omega
  · intro e
    have := (hrl _ e).1
    omega
  · intro e
    have := (hrl _ e).1
    omega
theorem RfAt.hand {w : World} {L m : Nat} {q p : Option Nat} {D : Dk} (h : RfAt w L m q p D) : ∃ A c A' c', w.rangeAt m 0 [.slice A D.s.length c, .slice A' D.w.length c', .int .i64 D.fuse, .bool D.dead] ∧ Sees w w.heap.size A (stc D.s) ∧ Sees w w.heap.size A' (rws wtl D.w) := by
  obtain ⟨A, c, A', c', B, h1, h2, _⟩ := h.at_
  exact ⟨A, c, A', c', B.range 0 _ rfl, row_sees h1, row_sees h2⟩
theorem both_clone {w4 w5 w6 w8 : World} {L g b m g' b' : Nat} {r q p r' : Option Nat} {D : Dk} (h : Both w4 L g b r m q p D) (he : DkAt w5 w4.heap.size g' b' r' D) (hb5 : Below w4.heap.size w4 w5) (hb6 : Below w5.heap.size w5 w6) (T : Turn3 w6 w8 g b r) (hL : L ≤ w4.heap.size) :
    Both w8 L g' b' r' m q p D ∧ Below L w4 w8 := by
  have hg := h.dk.lt
  have hm := h.rf.lt
  have hr := h.dk.row
  have hqp := h.rf.rows
  have h6 : Both w6 L g b r m q p D := h.later (hb5.trans (hb6.mono hb5.size))
  have he8 := (he.later hb6).far T hg.1 hg.2 (fun k hk => (hr k hk).2)
  have hrow := he.row
  have fr : ∀ (x : Option Nat), (∀ k, x = some k → L ≤ k ∧ k < w4.heap.size) → ∀ j, w4.heap.size ≤ j → x ≠ some j := fun x hx j hj e => by have := (hx j e).2; omega
  refine ⟨⟨he8.lower hL, h6.mid T, ?_, ?_, fun e => ?_, fr q hqp.1 _ he.Lg, fr q hqp.1 _ he.Lb, fun k hk => fr q hqp.1 _ (hrow k hk).1, fr p hqp.2 _ he.Lg, fr p hqp.2 _ he.Lb, fun k hk => fr p hqp.2 _ (hrow k hk).1⟩, ?_⟩
  · have := he.Lg
    omega
  · have := he.Lb
    omega
  · have := (hrow _ e).1
    omega
  · have z6 : w4.heap.size ≤ w6.heap.size := Nat.le_trans hb5.size hb6.size
    exact ((hb5.trans (hb6.mono hb5.size)).mono hL).trans (T.below h6.dk.Lg h6.dk.Lb (fun k hk => (h6.dk.row k hk).1) (by omega))
end Go.Proofs.Ytjnfdhjnfginpaa
