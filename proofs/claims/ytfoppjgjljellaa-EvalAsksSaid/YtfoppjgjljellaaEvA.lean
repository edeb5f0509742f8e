/- What a node says of a field; the functions that a filter is put together of. -/
import Derived.Test.YtfoppjgjljellaaEvV
import Derived.Test.YtfoppjgjljellaaEvM
import Derived.Test.YtfoppjgjljellaaCardC
namespace Go.Proofs.Ytfoppjgjljellaa
set_option linter.unusedVariables false
set_option linter.unusedSimpArgs false
open Go Go.RowKit BitM ValM

/-- What a node that asks a field says of its value. -/
def fieldv (n : Nd) (v : V3) : Bool :=
  if n.1 = 5 then v.1 != 0 else if n.1 = 6 then decide (v = n.2.2) else if n.1 = 7 then vless v n.2.2 else if n.1 = 8 then vless n.2.2 v else vholds v n.2.2
set_option maxRecDepth 100000 in
set_option maxHeartbeats 3200000 in
theorem field_any (n : Nd) (v : V3) (mm : Int) (w : World) (hs : v.2.2.size ≤ 1000) (hs' : n.2.2.2.2.size ≤ 1000) (hmm : MaxV mm w) :
    Calls Try.prog 61 #[.agg (ncells n).toArray, .agg (vcells v).toArray] w fun e w' => e = .returned (.bool (fieldv n v)) ∧ Below w.heap.size w w' := by
  obtain ⟨op, nn, u⟩ := n
  have hu := Try.underlying25
  have B0 := (Blk.new w (ncells (op, nn, u)) 57).alloc (.cells (vcells v).toArray 25)
  have B1 := Blk.new (w.alloc (.cells (ncells (op, nn, u)).toArray 57)) (vcells v) 25
  have hz1 : (w.alloc (.cells (ncells (op, nn, u)).toArray 57)).heap.size = w.heap.size + 1 := by simp
  rw [hz1] at B1
  have hb : Below w.heap.size w ((w.alloc (.cells (ncells (op, nn, u)).toArray 57)).alloc (.cells (vcells v).toArray 25)) := ((Below.refl _ w).alloc (Nat.le_refl _) _).alloc (by simp) _
  have c0 := B0.cell (j := 0) rfl
  have d0 := B1.cell (j := 0) rfl
  have RV := B1.range 0 (vcells v) rfl
  have RU := B0.range 2 (vcells u) rfl
  have HL1 := Lib.hid (fun wx : World => vless_any v u wx)
  have HL2 := Lib.hid (fun wx : World => vless_any u v wx)
  have HH := Lib.hid (fun (wx : World) (h : Below w.heap.size w wx) => vholds_any v u mm wx hs hs' (hmm.later h))
  obtain ⟨R, hR⟩ : ∃ R, R = fieldv (op, nn, u) v := ⟨_, rfl⟩
  rw [← hR]
  unfold fieldv at hR
  dsimp only at hR c0
  obtain ⟨na, hna⟩ : ∃ na, na = (ncells (op, nn, u)).toArray := ⟨_, rfl⟩
  rw [← hna] at c0 d0 RV RU hb ⊢
  obtain ⟨va, hva⟩ : ∃ va, va = (vcells v).toArray := ⟨_, rfl⟩
  rw [← hva] at c0 d0 RV RU hb ⊢
  clear hna hva hz1 hs hs' hmm B0 B1
  by_cases h5 : op = 5
  · rw [if_pos h5] at hR
    have HR := Lib.hid hR
    subst h5
    clear hR
    go_enter Try.func61, Try.ntmps61
    go_wp2_with fail
    go_ret
    exact ⟨by rw [HR.out]; rfl, hb⟩
  · rw [if_neg h5] at hR
    have b5 : (op == 5) = false := by simpa using h5
    by_cases h6 : op = 6
    · rw [if_pos h6] at hR
      have HR := Lib.hid hR
      subst h6
      clear hR h5
      go_enter Try.func61, Try.ntmps61
      go_wp2_with (first
        | (refine wpList_load_mid rfl 25 (.tmp 3) rfl (w.heap.size + 1) 0 rfl (vcells v) _ RV hu rfl info_val ?_)
        | (refine wpList_load_mid rfl 25 (.tmp 15) rfl w.heap.size 2 rfl (vcells u) _ RU hu rfl info_val ?_)
        | (refine wpList_exec (by rfl) (.bool (decide (v = u))) (exec_eql 25 _ (.tmp 14) (.tmp 16) rfl _ _ rfl rfl guard_val (decide (v = u)) (eq_val 9998 v u _)) ?_)
        | fail)
      go_ret
      exact ⟨by rw [HR.out]; rfl, hb⟩
    · rw [if_neg h6] at hR
      have b6 : (op == 6) = false := by simpa using h6
      by_cases h7 : op = 7
      · rw [if_pos h7] at hR
        have HR := Lib.hid hR
        subst h7
        clear hR h5 h6
        rw [← HR.out] at HL1
        go_enter Try.func61, Try.ntmps61
        go_wp2_with (first
          | (refine wpList_load_mid rfl 25 (.tmp 3) rfl (w.heap.size + 1) 0 rfl (vcells v) _ RV hu rfl info_val ?_)
          | (refine wpList_load_mid rfl 25 (.tmp 21) rfl w.heap.size 2 rfl (vcells u) _ RU hu rfl info_val ?_)
          | fail)
        refine (HL1.out _).mono ?_
        rintro e w1 ⟨rfl, hb1⟩
        have hb2 := hb.trans (hb1.mono hb.size)
        clear hb1
        go_wp2_with fail
        go_ret
        exact ⟨rfl, hb2⟩
      · rw [if_neg h7] at hR
        have b7 : (op == 7) = false := by simpa using h7
        by_cases h8 : op = 8
        · rw [if_pos h8] at hR
          have HR := Lib.hid hR
          subst h8
          clear hR h5 h6 h7
          rw [← HR.out] at HL2
          go_enter Try.func61, Try.ntmps61
          go_wp2_with (first
            | (refine wpList_load_mid rfl 25 (.tmp 3) rfl (w.heap.size + 1) 0 rfl (vcells v) _ RV hu rfl info_val ?_)
            | (refine wpList_load_mid rfl 25 (.tmp 26) rfl w.heap.size 2 rfl (vcells u) _ RU hu rfl info_val ?_)
            | fail)
          refine (HL2.out _).mono ?_
          rintro e w1 ⟨rfl, hb1⟩
          have hb2 := hb.trans (hb1.mono hb.size)
          clear hb1
          go_wp2_with fail
          go_ret
          exact ⟨rfl, hb2⟩
        · rw [if_neg h8] at hR
          have b8 : (op == 8) = false := by simpa using h8
          have HR := Lib.hid hR
          clear hR h5 h6 h7 h8
          rw [← HR.out] at HH
          go_enter Try.func61, Try.ntmps61
          go_wp2_with (first
            | (refine wpList_load_mid rfl 25 (.tmp 3) rfl (w.heap.size + 1) 0 rfl (vcells v) _ RV hu rfl info_val ?_)
            | (refine wpList_load_mid rfl 25 (.tmp 31) rfl w.heap.size 2 rfl (vcells u) _ RU hu rfl info_val ?_)
            | fail)
          refine (HH.out _ hb).mono ?_
          rintro e w1 ⟨rfl, hb1⟩
          have hb2 := hb.trans (hb1.mono hb.size)
          clear hb1
          go_wp2_with fail
          go_ret
          exact ⟨rfl, hb2⟩

/-- May a filter's function look into a block that begins so? -/
def foot : Value → Bool
  | .int _ _ => true
  | .func _ _ _ => true
  | _ => false
/-- A function value that says of any card what a filter says, as long as the blocks that it looks into stay. -/
def Says (mm : Int) (w : World) (v : Value) (l : List Nd) : Prop :=
  ∃ f caps, ∃ F : Nat → Prop, v = .func (.func f) #[] caps ∧ (∀ args wx, (callFunc f args).run Try.prog wx = .ok (.enter f args) wx) ∧ Try.prog.inits.idxOf? f = none ∧ (∀ k, F k → ∃ u, w.cell? ⟨k, 0, none⟩ = some u ∧ foot u = true ∧ (k = 0 ∨ w.cell? ⟨k, 5, none⟩ = none)) ∧
    ∀ wx (id ver : Int) (lab g : BitVec 32) (fs : List V3), (∀ k, F k → wx.heap[k]? = w.heap[k]?) → fs.length = 8 → (∀ u ∈ fs, u.2.2.size ≤ 1000) →
      Calls Try.prog f (#[.agg (ccells id ver (lab.toNat : Int) fs).toArray, .int .u32 (g.toNat : Int)] ++ caps) wx fun e w' => e = .returned (.bool (ev lab g fs l)) ∧ Below wx.heap.size wx w'
theorem Blk.out5 {w : World} {g : Nat} {cs : List Value} (h : Blk w g cs) (hl : cs.length ≤ 5) : w.cell? ⟨g, 5, none⟩ = none := by
  obtain ⟨t, ht⟩ := h
  simp [World.cell?, ht]
  omega
theorem Says.keep5 {mm : Int} {w w' : World} {v : Value} {l : List Nd} (h : Says mm w v l) (hk : ∀ k u, w.cell? ⟨k, 0, none⟩ = some u → foot u = true → (k = 0 ∨ w.cell? ⟨k, 5, none⟩ = none) → w'.heap[k]? = w.heap[k]?) : Says mm w' v l := by
  obtain ⟨f, caps, F, e, h1, hi, h2, h3⟩ := h
  have hF : ∀ k, F k → w'.heap[k]? = w.heap[k]? := fun k hF => by
    obtain ⟨u, hu, hn, h5⟩ := h2 k hF
    exact hk k u hu hn h5
  refine ⟨f, caps, F, e, h1, hi, fun k hk' => ?_, fun wx id ver lab g fs hx => h3 wx id ver lab g fs (fun k hk' => (hx k hk').trans (hF k hk'))⟩
  obtain ⟨u, hu, hn, h5⟩ := h2 k hk'
  exact ⟨u, (World.cell?_of_block (a := ⟨k, 0, none⟩) (hF k hk')).trans hu, hn, h5.imp id fun h => (World.cell?_of_block (a := ⟨k, 5, none⟩) (hF k hk')).trans h⟩
theorem Says.keep {mm : Int} {w w' : World} {v : Value} {l : List Nd} (h : Says mm w v l) (hk : ∀ k u, w.cell? ⟨k, 0, none⟩ = some u → foot u = true → w'.heap[k]? = w.heap[k]?) : Says mm w' v l := h.keep5 fun k u a b _ => hk k u a b
theorem Says.later {mm : Int} {w w' : World} {v : Value} {l : List Nd} (h : Says mm w v l) (hb : Below w.heap.size w w') : Says mm w' v l :=
  h.keep fun k u hu _ => hb.block k (World.block_lt_of_cell? _ ⟨k, 0, none⟩ hu)
end Go.Proofs.Ytfoppjgjljellaa
