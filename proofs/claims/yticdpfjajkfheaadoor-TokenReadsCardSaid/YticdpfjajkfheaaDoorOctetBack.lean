/- OctetBack: what was put is read, whatever stands behind it: for every input. No condition. -/
import Derived.Test.YticdpfjajkfheaaDoorOctE
import Derived.Test.YticdpfjajkfheaaDoorBase
namespace Go.Proofs.YticdpfjajkfheaaDoor
set_option linter.unusedVariables false
open Go.ChangeShapes Go.WideShapes Go.ChangeAt Go.RowKit OctM
open Go.ChangeMaps (open_string shut_string)

theorem num_put (pre rest : List UInt8) (n : Nat) (most : Int) (hn : n ≤ 1099511627776) (hm : (n : Int) ≤ most) :
    numOut (pre ++ (enc n ++ rest)) pre.length 0 most = (n, pre.length + (enc n).length, 0) := by
  unfold numOut
  rw [List.drop_left, scan_put n hn]
  rw [if_neg (by simp), if_neg (by simp), if_neg (by simp; omega)]
theorem str_put (pre t rest : List UInt8) (most : Int) (hn : t.length ≤ 1099511627776) (hm : (t.length : Int) ≤ most) :
    strOut (pre ++ (enc t.length ++ (t ++ rest))) pre.length 0 most = (t, pre.length + (enc t.length).length + t.length, 0) := by
  unfold strOut
  rw [num_put pre (t ++ rest) t.length most hn hm]
  rw [if_neg (by simp), if_neg (by simp), if_neg (by simp; omega)]
  have e1 : pre ++ (enc t.length ++ (t ++ rest)) = (pre ++ enc t.length) ++ (t ++ rest) := by simp
  have e2 : pre.length + (enc t.length).length = (pre ++ enc t.length).length := by simp
  simp only [e1, e2, List.drop_left, List.take_left]
theorem flag_put (pre rest : List UInt8) (b : Bool) :
    flagOut (pre ++ (enc (truth b) ++ rest)) pre.length 0 = (b, pre.length + (enc (truth b)).length, 0) := by
  unfold flagOut
  rw [num_put pre rest (truth b) 1099511627776 (by cases b <;> simp [truth]) (by cases b <;> simp [truth])]
  rw [if_neg (by simp), if_neg (by cases b <;> simp [truth])]
  cases b <;> simp [truth]

theorem awake_num : numOut [128, 0] 0 0 9 = (0, 0, 3) := by
  simp [numOut, scan]
theorem enc300 : enc (held 300) = [172, 2] := by
  rw [show held 300 = 300 from by simp [held]; rfl, enc_high (by omega), enc_low (by omega)]
  rfl

theorem Rd.below {w w' : World} {base g : Nat} {l : List UInt8} {at_ : Nat} {err : Int} (h : Rd w base g l at_ err) (hb : Below w.heap.size w w') : Rd w' base g l at_ err := by
  have hg := h.block.2
  obtain ⟨A, c, h1, h2, h3, h4⟩ := h
  refine ⟨A, c, h1, h2, ?_, h4.below (hb.mono (Nat.le_of_lt hg))⟩
  refine ⟨h3.1, ?_⟩
  rcases h3.2 with ⟨hv, _⟩ | ⟨g', cap, cur, hv, hb', hh, h5⟩
  · cases hv
  · have e1 : g = g' := by injection hv with hv; injection hv with hv; injection hv
    subst e1
    exact .inr ⟨g, cap, cur, hv, hb', by rw [hb.block g hg]; exact hh, h5⟩

theorem sees_on {w w' : World} {A : Option Addr} {xs : List Value} (h : Sees w w.heap.size A xs) (hb : Below w.heap.size w w') : Sees w' w'.heap.size A xs := (h.below hb).more hb.size
theorem on_below {w w1 w2 : World} (h : Below w.heap.size w w1) (h2 : Below w1.heap.size w1 w2) : Below w.heap.size w w2 := h.trans (h2.mono h.size)
theorem grown_on {w w1 w2 : World} {base g : Nat} {l : List UInt8} {a : Nat} {e : Int} (h : Below w.heap.size w w1) (hr : Rd w1 base g l a e) (hb : w.heap.size ≤ base) (hg : w1.grownBy w2 (some g)) : Below w.heap.size w w2 :=
  h.grown hg h.size (fun k hk => by cases hk; have := hr.block.1; omega)

end Go.Proofs.YticdpfjajkfheaaDoor
