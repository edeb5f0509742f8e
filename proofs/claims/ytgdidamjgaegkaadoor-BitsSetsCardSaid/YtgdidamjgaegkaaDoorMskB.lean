/- The document's masks: Make, Rest; two lists of numbers held against one another: what each returns. -/
import Derived.Test.YtgdidamjgaegkaaDoorMskA
import Derived.Test.YtgdidamjgaegkaaDoorCardM
import Derived.Test.YtgdidamjgaegkaaDoorSteady
namespace Go.Proofs.YtgdidamjgaegkaaDoor
set_option linter.unusedVariables false
open Go Go.RowKit BitM

/-- What is not in a mask, by the document. -/
def rest (x : BitVec 32) (k : Nat) : BitVec 32 := ofl (((List.range k).filter fun i : Nat => !has x (i : Int)).map fun i : Nat => (i : Int))
theorem rest_succ (x : BitVec 32) (k : Nat) : rest x (k + 1) = if has x (k : Int) then rest x k else put (rest x k) (k : Int) := by
  unfold rest
  rw [List.range_succ, List.filter_append, List.map_append]
  have hf : List.filter (fun i : Nat => !has x (i : Int)) [k] = if has x (k : Int) then [] else [k] := by
    rw [List.filter_cons, List.filter_nil]; cases has x (k : Int) <;> rfl
  rw [hf]
  cases h : has x (k : Int)
  · simp only [Bool.false_eq_true, if_false, List.map_cons, List.map_nil]
    exact ofl_snoc _ _
  · simp
theorem rest_eq (x : BitVec 32) : rest x 9 = 511#32 &&& ~~~x := by
  apply BitM.ext
  intro n
  by_cases hn : 0 ≤ n ∧ n < 32
  · obtain ⟨k, rfl⟩ := Int.eq_ofNat_of_zero_le hn.1
    have hk : k < 32 := by omega
    rw [has_in (511#32 &&& ~~~x) hk, BitVec.getLsbD_and, BitVec.getLsbD_not, bit_511, ← has_in x hk]
    unfold rest
    rw [has_ofl, decide_eq_true hn, Bool.true_and, decide_eq_true hk, Bool.true_and, Bool.eq_iff_iff]
    simp only [decide_eq_true_eq, List.mem_map, List.mem_filter, List.mem_range, Bool.and_eq_true]
    constructor
    · rintro ⟨i, ⟨h1, h2⟩, h3⟩
      obtain rfl : i = k := by omega
      exact ⟨h1, h2⟩
    · rintro ⟨h1, h2⟩
      exact ⟨k, ⟨h1, h2⟩, rfl⟩
  · rw [has_out _ hn, has_out _ hn]

set_option maxRecDepth 100000 in
set_option maxHeartbeats 1600000 in
theorem rrest_any (x : BitVec 32) (w : World) : Calls Tryd.prog 62 #[.int .u32 (x.toNat : Int)] w fun e w' =>
    e = .returned (.int .u32 ((511#32 &&& ~~~x).toNat : Int)) ∧ w = w' := by
  obtain ⟨R, hR⟩ : ∃ R, R = rest x 9 := ⟨_, rfl⟩
  rw [← rest_eq, ← hR]
  have HR := Lib.hid hR
  clear hR
  have HX := Lib.hid (fun (k : Int) (wx : World) => rhas_any x k wx)
  go_enter Tryd.func62, Tryd.ntmps62
  go_wp2_with fail
  go_loopw [4, 3] (fun i m wr => ∃ k : Nat, k ≤ 9 ∧ i = .int .i64 k ∧ (∃ z : BitVec 32, m = .int .u32 (z.toNat : Int) ∧ Hid (z = rest x k)) ∧ wr = w) (fun i _ _ => 9 - (intOf i).toNat)
  case atStart => exact ⟨0, by omega, rfl, ⟨0#32, rfl, Lib.hid rfl⟩, rfl⟩
  case round =>
    obtain ⟨k, hk, rfl, ⟨z, rfl, HZ⟩, rfl⟩ := hrel
    by_cases hlt : k < 9
    · have d8 : (k : Int) ≤ 8 := by omega
      have HS := Lib.hid (rest_succ x k)
      have HW := Lib.hid (fun wx : World => rwith_any z k (by omega) wx)
      cases hx : has x (k : Int) with
      | true =>
        have H1 := Lib.hid (HX.out (k : Int) wr)
        rw [hx] at H1 HS
        clear hx
        go_wp2_with fail
        refine H1.out.mono ?_
        rintro e w' ⟨rfl, rfl⟩
        go_wp2_with fail
        go_roundw
        case rel => exact ⟨k + 1, by omega, by go_num, ⟨z, rfl, Lib.hid (by rw [HS.out, HZ.out]; rfl)⟩, trivial⟩
        case measure => simp [intOf]; omega
      | false =>
        have H1 := Lib.hid (HX.out (k : Int) wr)
        rw [hx] at H1 HS
        clear hx
        go_wp2_with fail
        refine H1.out.mono ?_
        rintro e w' ⟨rfl, rfl⟩
        go_wp2_with fail
        refine (HW.out _).mono ?_
        rintro e w' ⟨rfl, rfl⟩
        go_wp2_with fail
        go_roundw
        case rel => exact ⟨k + 1, by omega, by go_num, ⟨put z k, rfl, Lib.hid (by rw [HS.out, ← HZ.out]; rfl)⟩, trivial⟩
        case measure => simp [intOf]; omega
    · obtain rfl : k = 9 := by omega
      have HRR : Hid (R = z) := Lib.hid (by rw [HR.out, HZ.out])
      go_wp2_with fail
      go_ret
      exact ⟨by rw [HRR.out]; rfl, rfl⟩

/-- The fields of a list, as a set. -/
def fof (l : List Int) : BitVec 32 := ofl (l.filter fun n => decide (0 ≤ n) && decide (n < 8))
theorem fof_snoc (l : List Int) (n : Int) : fof (l ++ [n]) = if decide (0 ≤ n) && decide (n < 8) then put (fof l) n else fof l := by
  unfold fof
  rw [List.filter_append, List.filter_cons, List.filter_nil]
  cases decide (0 ≤ n) && decide (n < 8)
  · simp
  · simp only [if_true]; exact ofl_snoc _ _
theorem fof_eq (l : List Int) : fof l = ofl l &&& 255#32 := by
  apply BitM.ext
  intro n
  rw [has_and_255]
  unfold fof
  rw [has_ofl, has_ofl, Bool.eq_iff_iff]
  simp only [Bool.and_eq_true, decide_eq_true_eq, List.mem_filter]
  constructor
  · rintro ⟨h1, h2, h3, h4⟩; exact ⟨⟨h1, h2⟩, h4⟩
  · rintro ⟨⟨h1, h2⟩, h4⟩; exact ⟨h1, h2, h1.1, h4⟩
theorem fof_lab (l : List Int) : (fof l).getLsbD 8 = false ∧ fof l ||| 256#32 = put (fof l) 8 := by
  refine ⟨?_, rfl⟩
  rw [fof_eq, BitVec.getLsbD_and, bit_255]
  simp
theorem fof_add (l : List Int) : (fof l).toNat + 256 = (fof l ||| 256#32).toNat ∧ (fof l).toNat + 256 < 4294967296 := by
  have h := put_add_nat (x := fof l) (k := 8) (by omega) (fof_lab l).1
  exact h

set_option maxRecDepth 100000 in
set_option maxHeartbeats 1600000 in
theorem rmake_any (b : Bool) (A : Option Addr) (n c : Nat) (l : List Int) (w : World) (B : Nat) (hn : l.length = n) (hs : Sees w B A (ivs l)) (hm : n ≤ 65536) :
    Calls Tryd.prog 55 #[.bool b, .slice A n c] w fun e w' => e = .returned (.int .u32 ((mkm b l).toNat : Int)) ∧ w = w' := by
  have HM : Hid (mkm b l = fof l ||| (if b then 256#32 else 0#32)) := Lib.hid (by unfold mkm; rw [fof_eq])
  have HA := Lib.hid (fof_add l)
  subst hn
  go_enter Tryd.func55, Tryd.ntmps55
  go_wp2_with fail
  go_loopw [6, 5] (fun i m wr => ∃ k : Nat, k ≤ l.length ∧ i = .int .i64 k ∧ (∃ z : BitVec 32, m = .int .u32 (z.toNat : Int) ∧ Hid (z = fof (l.take k))) ∧ wr = w) (fun i _ _ => l.length - (intOf i).toNat)
  case atStart => exact ⟨0, Nat.zero_le _, rfl, ⟨0#32, rfl, Lib.hid rfl⟩, rfl⟩
  case round =>
    obtain ⟨k, hk, rfl, ⟨z, rfl, HZ⟩, rfl⟩ := hrel
    by_cases hlt : k < l.length
    · obtain ⟨b0, o, rfl, hb0, hc⟩ := hs.int k hlt
      obtain ⟨y, hy⟩ : ∃ y, y = l[k] := ⟨_, rfl⟩
      rw [← hy] at hc
      have HS : Hid (fof (l.take (k + 1)) = if decide (0 ≤ y) && decide (y < 8) then put (fof (l.take k)) y else fof (l.take k)) := Lib.hid (by rw [List.take_succ_eq_append_getElem hlt, fof_snoc, hy])
      clear hy
      by_cases h0 : 0 ≤ y
      · by_cases h8 : y < 8
        · have HW := Lib.hid (fun wx : World => rwith_any z y.toNat (by omega) wx)
          rw [Int.toNat_of_nonneg h0] at HW
          rw [decide_eq_true h0, decide_eq_true h8] at HS
          go_wp2_with fail
          refine (HW.out _).mono ?_
          rintro e w' ⟨rfl, rfl⟩
          go_wp2_with fail
          go_roundw
          case rel => exact ⟨k + 1, by omega, by go_num, ⟨put z y, rfl, Lib.hid (by rw [HS.out, ← HZ.out]; rfl)⟩, trivial⟩
          case measure => simp [intOf]; omega
        · rw [decide_eq_true h0, decide_eq_false h8] at HS
          go_wp2_with fail
          go_roundw
          case rel => exact ⟨k + 1, by omega, by go_num, ⟨z, rfl, Lib.hid (by rw [HS.out, HZ.out]; rfl)⟩, trivial⟩
          case measure => simp [intOf]; omega
      · rw [decide_eq_false h0] at HS
        go_wp2_with fail
        go_roundw
        case rel => exact ⟨k + 1, by omega, by go_num, ⟨z, rfl, Lib.hid (by rw [HS.out, HZ.out]; rfl)⟩, trivial⟩
        case measure => simp [intOf]; omega
    · obtain rfl : k = l.length := by omega
      have hz := HZ.out
      rw [List.take_length] at hz
      rw [← hz] at HM HA
      have ha := HA.out
      obtain ⟨h1, h2⟩ := ha
      obtain ⟨Z, hZ⟩ : ∃ Z, Z = z.toNat := ⟨_, rfl⟩
      cases b with
      | true =>
        have HM2 : Hid ((mkm true l).toNat = Z + 256) := Lib.hid (by rw [HM.out, hZ]; exact h1.symm)
        rw [← hZ] at h2 ⊢
        clear h1 hZ hz HA HZ HM
        go_wp2_with fail
        go_ret
        exact ⟨by rw [HM2.out]; go_num, rfl⟩
      | false =>
        have HM2 : Hid ((mkm false l).toNat = Z) := Lib.hid (by rw [HM.out, hZ]; simp)
        rw [← hZ]
        clear h1 h2 hZ hz HA HZ HM
        go_wp2_with fail
        go_ret
        exact ⟨by rw [HM2.out]; rfl, rfl⟩

set_option maxRecDepth 100000 in
set_option maxHeartbeats 1600000 in
theorem ints_any (A A' : Option Addr) (n c c' : Nat) (l : List Int) (w : World) (B : Nat) (hn : l.length = n) (hs : Sees w B A (ivs l)) (hs' : Sees w B A' (ivs l)) (hB : B ≤ w.heap.size) (hm : n ≤ 65536) :
    Calls Tryd.prog 56 #[.slice A n c, .slice A' n c'] w fun e w' => e = .returned (.bool true) ∧ Below w.heap.size w w' := by
  subst hn
  go_enter Tryd.func56, Tryd.ntmps56
  go_wp2_with fail
  go_loopw [5] (fun i wr => ∃ k : Nat, k ≤ l.length ∧ i = .int .i64 k ∧ Below w.heap.size w wr) (fun i _ => l.length - (intOf i).toNat)
  case atStart => exact ⟨0, Nat.zero_le _, rfl, Below.refl _ _⟩
  case round =>
    obtain ⟨k, hk, rfl, hbr⟩ := hrel
    by_cases hlt : k < l.length
    · obtain ⟨b0, o0, rfl, hb0, hc0⟩ := (hs.below (hbr.mono hB)).int k hlt
      obtain ⟨b1, o1, rfl, hb1, hc1⟩ := (hs'.below (hbr.mono hB)).int k hlt
      obtain ⟨y, hy⟩ : ∃ y, y = l[k] := ⟨_, rfl⟩
      rw [← hy] at hc0 hc1
      clear hy hs hs'
      have p0 : ∀ kk : LW wr, kk.val.cell? ⟨b0, o0 + k, none⟩ = some (.int .i64 y) := fun kk => (kk.le.cell (p := ⟨b0, o0 + k, none⟩) (by have := hbr.size; show b0 < _; omega)).trans hc0
      have p1 : ∀ kk : LW wr, kk.val.cell? ⟨b1, o1 + k, none⟩ = some (.int .i64 y) := fun kk => (kk.le.cell (p := ⟨b1, o1 + k, none⟩) (by have := hbr.size; show b1 < _; omega)).trans hc1
      clear hc0 hc1
      go_wp2_with fail
      refine wp_region_steady [] 26 (by kernel_rfl) (by kernel_rfl) (by kernel_rfl) (by rfl) ?_
      iterate 8 (refine wpG_quiet (by rfl) (by rfl) (by rfl) (fun K hK => ?_); go_big_quiet_op; refine hK _ ?_; clear hK K)
      refine wpG_run (by rfl) (by rfl) (.bool false) (fun w1 hl => by simp [go_sem]) ?_
      simp only [Act.put, List.setIfInBounds_toArray, List.set_cons_zero, List.set_cons_succ]
      refine wpG_nil fun w1 hl _ => ?_
      have hb2 := hbr.trans (hl.mono hbr.size)
      clear p0 p1 hbr
      go_wp2_with fail
      go_roundw
      case rel => exact ⟨k + 1, by omega, by go_num, hb2⟩
      case measure => simp [intOf]; omega
    · obtain rfl : k = l.length := by omega
      go_wp2_with fail
      go_ret
      exact ⟨rfl, hbr⟩
end Go.Proofs.YtgdidamjgaegkaaDoor
