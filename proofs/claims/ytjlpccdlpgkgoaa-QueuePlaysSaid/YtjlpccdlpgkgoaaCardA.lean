/- Values and fields of cards: which may be, which are too long: what each returns. -/
import Derived.Test.YtjlpccdlpgkgoaaBlk
import Derived.Test.YtjlpccdlpgkgoaaBitA
namespace Go.Proofs.Ytjlpccdlpgkgoaa
set_option linter.unusedVariables false
open Go Go.RowKit BitM

def empty : ByteArray := ⟨#[]⟩
/-- May a value be? -/
def vchk (v : V3) : Bool :=
  if v.1 = 0 then decide (v.2.1 = 0 ∧ v.2.2 = empty)
  else if v.1 = 1 then decide (0 ≤ v.2.1 ∧ v.2.1 ≤ 1099511627776 ∧ v.2.2 = empty)
  else if v.1 = 2 then decide (v.2.1 = 0 ∧ v.2.2.size ≤ 24)
  else false

theorem nil_str_iff (s : ByteArray) : s.toList = [] ↔ s = empty := by
  rw [ByteArray.toList_eq]
  constructor
  · intro h
    apply ByteArray.ext
    apply Array.ext'
    simpa [empty] using h
  · rintro rfl; rfl
theorem vchk_0 (n : Int) (s : ByteArray) : vchk (0, n, s) = decide (n = 0 ∧ s.toList = []) := by
  unfold vchk
  simp only [if_true, nil_str_iff]
theorem vchk_1 (n : Int) (s : ByteArray) : vchk (1, n, s) = decide (0 ≤ n ∧ n ≤ 1099511627776 ∧ s.toList = []) := by
  unfold vchk
  simp only [nil_str_iff]
  rfl
theorem vchk_2 (n : Int) (s : ByteArray) : vchk (2, n, s) = decide (n = 0 ∧ s.size ≤ 24) := rfl
theorem vchk_3 {k : Int} (n : Int) (s : ByteArray) (h0 : k ≠ 0) (h1 : k ≠ 1) (h2 : k ≠ 2) : vchk (k, n, s) = false := by
  unfold vchk
  simp only [h0, h1, h2, if_false]

set_option maxHeartbeats 800000 in
theorem vcheck_any (k n : Int) (s : ByteArray) (w : World) :
    Calls Try.prog 38 #[.agg #[.int .i64 k, .int .i64 n, .string s]] w fun e w' => e = .returned (.bool (vchk (k, n, s))) ∧ Below w.heap.size w w' := by
  by_cases h0 : k = 0
  · subst h0
    rw [vchk_0]
    go_enter Try.func38, Try.ntmps38
    go_wp2
    all_goals
      go_ret
      refine ⟨congrArg (fun b => Ending.returned (.bool b)) ?_, (Below.refl _ _).alloc (Nat.le_refl _) _⟩
      first | (simp_all; done) | (cases hs : s.toList <;> simp_all; done) | (simp_all; omega) | (cases hs : s.toList <;> simp_all <;> omega)
  by_cases h1 : k = 1
  · subst h1
    rw [vchk_1]
    go_enter Try.func38, Try.ntmps38
    go_wp2
    all_goals
      go_ret
      refine ⟨congrArg (fun b => Ending.returned (.bool b)) ?_, (Below.refl _ _).alloc (Nat.le_refl _) _⟩
      first | (simp_all; done) | (cases hs : s.toList <;> simp_all; done) | (simp_all; omega) | (cases hs : s.toList <;> simp_all <;> omega)
  by_cases h2 : k = 2
  · subst h2
    rw [vchk_2]
    go_enter Try.func38, Try.ntmps38
    go_wp2
    all_goals
      go_ret
      refine ⟨congrArg (fun b => Ending.returned (.bool b)) ?_, (Below.refl _ _).alloc (Nat.le_refl _) _⟩
      first | (simp_all; done) | (cases hs : s.toList <;> simp_all; done) | (simp_all; omega) | (cases hs : s.toList <;> simp_all <;> omega)
  · rw [vchk_3 n s h0 h1 h2]
    have b0 : (k == 0) = false := by simpa using h0
    have b1 : (k == 1) = false := by simpa using h1
    have b2 : (k == 2) = false := by simpa using h2
    clear h0 h1 h2
    go_enter Try.func38, Try.ntmps38
    go_wp2
    go_ret
    exact ⟨rfl, (Below.refl _ _).alloc (Nat.le_refl _) _⟩

set_option maxHeartbeats 800000 in
theorem rvcheck_any (k n : Int) (s : ByteArray) (w : World) :
    Calls Try.prog 33 #[.agg #[.int .i64 k, .int .i64 n, .string s]] w fun e w' => e = .returned (.bool (vchk (k, n, s))) ∧ Below w.heap.size w w' := by
  by_cases h0 : k = 0
  · subst h0
    rw [vchk_0]
    go_enter Try.func33, Try.ntmps33
    go_wp2
    all_goals
      go_ret
      refine ⟨congrArg (fun b => Ending.returned (.bool b)) ?_, (Below.refl _ _).alloc (Nat.le_refl _) _⟩
      first | (simp_all; done) | (cases hs : s.toList <;> simp_all; done) | (simp_all; omega) | (cases hs : s.toList <;> simp_all <;> omega)
  by_cases h1 : k = 1
  · subst h1
    rw [vchk_1]
    go_enter Try.func33, Try.ntmps33
    go_wp2
    all_goals
      go_ret
      refine ⟨congrArg (fun b => Ending.returned (.bool b)) ?_, (Below.refl _ _).alloc (Nat.le_refl _) _⟩
      first | (simp_all; done) | (cases hs : s.toList <;> simp_all; done) | (simp_all; omega) | (cases hs : s.toList <;> simp_all <;> omega)
  by_cases h2 : k = 2
  · subst h2
    rw [vchk_2]
    go_enter Try.func33, Try.ntmps33
    go_wp2
    all_goals
      go_ret
      refine ⟨congrArg (fun b => Ending.returned (.bool b)) ?_, (Below.refl _ _).alloc (Nat.le_refl _) _⟩
      first | (simp_all; done) | (cases hs : s.toList <;> simp_all; done) | (simp_all; omega) | (cases hs : s.toList <;> simp_all <;> omega)
  · rw [vchk_3 n s h0 h1 h2]
    have b0 : (k == 0) = false := by simpa using h0
    have b1 : (k == 1) = false := by simpa using h1
    have b2 : (k == 2) = false := by simpa using h2
    clear h0 h1 h2
    go_enter Try.func33, Try.ntmps33
    go_wp2
    go_ret
    exact ⟨rfl, (Below.refl _ _).alloc (Nat.le_refl _) _⟩

/-- The values of fields. -/
def vals (f : List V3) : Bool := f.all vchk
def tooLong (f : List V3) : Bool := f.any fun v => decide (200 < v.2.2.size)

theorem box_cells (w : World) (f : List V3) (T : TypeId) (k : Nat) (hk : k < f.length) :
    (w.alloc (.cells (fcells f).toArray T)).cell? ⟨w.heap.size, k * 3, none⟩ = some (.int .i64 f[k].1) ∧ (w.alloc (.cells (fcells f).toArray T)).cell? ⟨w.heap.size, k * 3 + 1, none⟩ = some (.int .i64 f[k].2.1) ∧
      (w.alloc (.cells (fcells f).toArray T)).cell? ⟨w.heap.size, k * 3 + 2, none⟩ = some (.string f[k].2.2) := by
  have h := Blk.new w (fcells f) T
  have h2 := fcells_get f k hk
  rw [Nat.mul_comm k 3]
  exact ⟨h.cell h2.1, h.cell h2.2.1, h.cell h2.2.2⟩

set_option maxHeartbeats 800000 in
theorem large_any (f : List V3) (w : World) (hf : f.length = 8) :
    Calls Try.prog 19 #[.agg (fcells f).toArray] w fun e w' => e = .returned (.bool (tooLong f)) ∧ Below w.heap.size w w' := by
  have HB := Lib.hid (box_cells w f 30)
  obtain ⟨arr, harr⟩ : ∃ arr, arr = (fcells f).toArray := ⟨_, rfl⟩
  rw [← harr] at HB ⊢
  clear harr
  have HF := Lib.hid hf
  clear hf
  go_enter Try.func19, Try.ntmps19
  go_wp2_with fail
  go_loop [3] (fun i => ∃ k : Nat, k ≤ 8 ∧ i = .int .i64 k ∧ Hid (tooLong (f.take k) = false)) (fun i => 8 - (intOf i).toNat)
  case atStart => exact ⟨0, by omega, rfl, Lib.hid rfl⟩
  case round =>
    obtain ⟨k, hk, rfl, HT⟩ := hrel
    by_cases hlt : k < 8
    · have hkl : k < f.length := by rw [HF.out]; exact hlt
      obtain ⟨_, _, hc⟩ := HB.out k hkl
      obtain ⟨s, hs⟩ : ∃ s, s = f[k].2.2 := ⟨_, rfl⟩
      rw [← hs] at hc
      have HS := Lib.hid hs
      clear hs
      have d1 : decide ((k : Int) < 8) = true := by simp; omega
      have HN : Hid (tooLong (f.take (k + 1)) = decide (200 < s.size)) := by
        show _ = _
        rw [List.take_succ_eq_append_getElem hkl, HS.out]
        have := HT.out
        unfold tooLong at this ⊢
        rw [List.any_append, this]
        simp
      by_cases hgt : 200 < s.size
      · have d2 : decide ((200 : Int) < (s.size : Int)) = true := by simp; omega
        go_wp2_with fail
        go_ret
        refine ⟨?_, (Below.refl _ _).alloc (Nat.le_refl _) _⟩
        have h2 : tooLong f = true := by
          have h3 := HN.out
          rw [decide_eq_true hgt] at h3
          unfold tooLong at h3 ⊢
          rw [← List.take_append_drop (k + 1) f, List.any_append, h3]
          rfl
        rw [h2]
        rfl
      · have d2 : decide ((200 : Int) < (s.size : Int)) = false := by simp; omega
        go_wp2_with fail
        go_round
        case rel => exact ⟨k + 1, by omega, by go_num, Lib.hid (by rw [HN.out, decide_eq_false hgt])⟩
        case measure => simp [intOf]; omega
    · obtain rfl : k = 8 := by omega
      go_wp2
      go_ret
      have := HT.out
      rw [List.take_of_length_le (by rw [HF.out]; exact Nat.le_refl 8)] at this
      exact ⟨by rw [this]; rfl, (Below.refl _ _).alloc (Nat.le_refl _) _⟩
end Go.Proofs.Ytjlpccdlpgkgoaa
