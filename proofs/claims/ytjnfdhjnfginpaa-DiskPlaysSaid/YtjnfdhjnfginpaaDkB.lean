/- Disks: whether the power is there, what is there, the fuse: what each returns. -/
import Derived.Test.YtjnfdhjnfginpaaDkM
import Derived.Test.YtjnfdhjnfginpaaCardI
namespace Go.Proofs.Ytjnfdhjnfginpaa
set_option linter.unusedVariables false
set_option linter.unusedSimpArgs false
open Go Go.RowKit

theorem DkAt.cells {w : World} {L g b : Nat} {r : Option Nat} {D : Dk} (h : DkAt w L g b r D) : ∃ A c, w.cell? ⟨g, 0, none⟩ = some (.slice (some ⟨b, 0, none⟩) D.s.length D.s.length) ∧ w.cell? ⟨g, 1, none⟩ = some (.slice A D.w.length c) ∧
    w.cell? ⟨g, 2, none⟩ = some (.int .i64 D.fuse) ∧ w.cell? ⟨g, 3, none⟩ = some (.bool D.dead) ∧ w.ownsRow L 59 65 (.slice A D.w.length c) D.w.length (wcs D.w) ∧ r = (Value.slice A D.w.length c).ownBlock ∧ ∀ j, w.frozen? ⟨g, j, none⟩ = false := by
  obtain ⟨A, c, B, hr, e⟩ := h.at_
  exact ⟨A, c, B.cell rfl, B.cell rfl, B.cell rfl, B.cell rfl, hr, e, B.frozen⟩

set_option maxRecDepth 100000 in
set_option maxHeartbeats 1600000 in
theorem ready_any (L g b : Nat) (r : Option Nat) (D : Dk) (w : World) (h : DkAt w L g b r D) :
    Calls Try.prog 25 #[.pointer (some ⟨g, 0, none⟩)] w fun e w' => e = .returned (.int .i64 (if D.dead then 15 else 0)) ∧ w = w' := by
  obtain ⟨A, c, h0, h1, h2, h3, hrow, hre, hz⟩ := h.cells
  clear hrow hre hz
  cases hd : D.dead with
  | true =>
    rw [hd] at h3
    go_enter Try.func25, Try.ntmps25
    go_wp2_with fail
    go_ret
    exact ⟨rfl, rfl⟩
  | false =>
    rw [hd] at h3
    go_enter Try.func25, Try.ntmps25
    go_wp2_with fail
    go_ret
    exact ⟨rfl, rfl⟩
theorem ready_nil (w : World) : Calls Try.prog 25 #[.pointer none] w fun e w' => e = .returned (.int .i64 14) ∧ w = w' := by
  go_enter Try.func25, Try.ntmps25
  go_wp2_with fail
  go_ret
  exact ⟨rfl, rfl⟩
set_option maxRecDepth 100000 in
theorem has_any (L g b : Nat) (r : Option Nat) (D : Dk) (a : Int) (w : World) (h : DkAt w L g b r D) :
    Calls Try.prog 26 #[.pointer (some ⟨g, 0, none⟩), .int .i64 a] w fun e w' => e = .returned (.bool (dhas D a)) ∧ w = w' := by
  obtain ⟨A, c, h0, h1, h2, h3, hrow, hre, hz⟩ := h.cells
  clear hrow hre hz
  obtain ⟨n, hn⟩ : ∃ n, n = D.s.length := ⟨_, rfl⟩
  have HR : Hid (dhas D a = decide (0 ≤ a ∧ a < (n : Int))) := Lib.hid (by rw [hn]; rfl)
  rw [← hn] at h0
  clear hn
  by_cases a0 : 0 ≤ a
  · have d0 : decide (0 ≤ a) = true := decide_eq_true a0
    by_cases a1 : a < (n : Int)
    · have d1 : decide (a < (n : Int)) = true := decide_eq_true a1
      rw [decide_eq_true ⟨a0, a1⟩] at HR
      go_enter Try.func26, Try.ntmps26
      go_wp2_with fail
      go_ret
      exact ⟨by rw [HR.out]; rfl, rfl⟩
    · have d1 : decide (a < (n : Int)) = false := decide_eq_false a1
      rw [decide_eq_false (fun h => a1 h.2)] at HR
      go_enter Try.func26, Try.ntmps26
      go_wp2_with fail
      go_ret
      exact ⟨by rw [HR.out]; rfl, rfl⟩
  · have d0 : decide (0 ≤ a) = false := decide_eq_false a0
    rw [decide_eq_false (fun h => a0 h.1)] at HR
    go_enter Try.func26, Try.ntmps26
    go_wp2_with fail
    go_ret
    exact ⟨by rw [HR.out]; rfl, rfl⟩
set_option maxRecDepth 100000 in
set_option maxHeartbeats 1600000 in
theorem step_any (L g b : Nat) (r : Option Nat) (D : Dk) (w : World) (h : DkAt w L g b r D) (hf : -9223372036854775808 ≤ D.fuse ∧ D.fuse ≤ 9223372036854775807) :
    Calls Try.prog 27 #[.pointer (some ⟨g, 0, none⟩)] w fun e w' => e = .returned (.int .i64 (dstep D).2) ∧ DkAt w' L g b r (dstep D).1 ∧ Turn3 w w' g b r := by
  obtain ⟨A, c, h0, h1, h2, h3, hrow, hre, hz⟩ := h.cells
  clear hrow hre
  have z2 := hz 2
  have z3 := hz 3
  have HD := Lib.hid h.setDead
  have HF := Lib.hid h.setFuse
  have HH := Lib.hid h
  clear hz h
  by_cases f0 : D.fuse = 0
  · have HR : Hid (dstep D = ({ D with dead := true }, 15)) := Lib.hid (by unfold dstep; rw [if_pos f0])
    rw [f0] at h2
    clear f0
    go_enter Try.func27, Try.ntmps27
    go_wp2_with fail
    go_ret
    refine ⟨by rw [HR.out]; rfl, by rw [HR.out]; exact HD.out true, Turn3.set w g b g 3 r (.bool true) (.inl rfl)⟩
  · obtain ⟨x, hx⟩ : ∃ x, x = D.fuse := ⟨_, rfl⟩
    rw [← hx] at f0 h2 hf
    have n0 : (x == 0) = false := by rw [beq_eq_false_iff_ne]; exact f0
    by_cases f1 : 0 < x
    · have HR : Hid (dstep D = ({ D with fuse := x - 1 }, 0)) := Lib.hid (by unfold dstep; rw [← hx, if_neg f0, if_pos f1])
      have d1 : decide (0 < x) = true := decide_eq_true f1
      clear hx f0
      go_enter Try.func27, Try.ntmps27
      go_wp2_with fail
      go_ret
      refine ⟨by rw [HR.out]; rfl, by rw [HR.out]; exact HF.out (x - 1), Turn3.set w g b g 2 r (.int .i64 (x - 1)) (.inl rfl)⟩
    · have HR : Hid (dstep D = (D, 0)) := Lib.hid (by unfold dstep; rw [← hx, if_neg f0, if_neg f1])
      have d1 : decide (0 < x) = false := decide_eq_false f1
      clear hx f0
      go_enter Try.func27, Try.ntmps27
      go_wp2_with fail
      go_ret
      exact ⟨by rw [HR.out]; rfl, by rw [HR.out]; exact HH.out, Turn3.refl w g b r⟩
set_option maxRecDepth 100000 in
theorem fuse_any (L g b : Nat) (r : Option Nat) (D : Dk) (n : Int) (w : World) (h : DkAt w L g b r D) :
    Calls Try.prog 14 #[.pointer (some ⟨g, 0, none⟩), .int .i64 n] w fun e w' => e = .returned (.tuple #[]) ∧ DkAt w' L g b r { D with fuse := n } ∧ Turn3 w w' g b r := by
  obtain ⟨A, c, h0, h1, h2, h3, hrow, hre, hz⟩ := h.cells
  clear hrow hre
  have z2 := hz 2
  have HF := Lib.hid h.setFuse
  clear hz h
  go_enter Try.func14, Try.ntmps14
  go_wp2_with fail
  go_end0
  exact ⟨rfl, HF.out n, Turn3.set w g b g 2 r (.int .i64 n) (.inl rfl)⟩
theorem fuse_nil (n : Int) (w : World) : Calls Try.prog 14 #[.pointer none, .int .i64 n] w fun e w' => e = .returned (.tuple #[]) ∧ w = w' := by
  go_enter Try.func14, Try.ntmps14
  go_wp2_with fail
  go_end0
  exact ⟨rfl, rfl⟩
set_option maxRecDepth 100000 in
theorem size_any (L g b : Nat) (r : Option Nat) (D : Dk) (w : World) (h : DkAt w L g b r D) :
    Calls Try.prog 17 #[.pointer (some ⟨g, 0, none⟩)] w fun e w' => e = .returned (.int .i64 (D.s.length : Int)) ∧ w = w' := by
  obtain ⟨A, c, h0, h1, h2, h3, hrow, hre, hz⟩ := h.cells
  clear hrow hre hz
  go_enter Try.func17, Try.ntmps17
  go_wp2_with fail
  go_ret
  exact ⟨rfl, rfl⟩
theorem size_nil (w : World) : Calls Try.prog 17 #[.pointer none] w fun e w' => e = .returned (.int .i64 0) ∧ w = w' := by
  go_enter Try.func17, Try.ntmps17
  go_wp2_with fail
  go_ret
  exact ⟨rfl, rfl⟩
set_option maxRecDepth 100000 in
theorem dead_any (L g b : Nat) (r : Option Nat) (D : Dk) (w : World) (h : DkAt w L g b r D) :
    Calls Try.prog 18 #[.pointer (some ⟨g, 0, none⟩)] w fun e w' => e = .returned (.bool D.dead) ∧ w = w' := by
  obtain ⟨A, c, h0, h1, h2, h3, hrow, hre, hz⟩ := h.cells
  clear hrow hre hz
  go_enter Try.func18, Try.ntmps18
  go_wp2_with fail
  go_ret
  exact ⟨rfl, rfl⟩
theorem dead_nil (w : World) : Calls Try.prog 18 #[.pointer none] w fun e w' => e = .returned (.bool true) ∧ w = w' := by
  go_enter Try.func18, Try.ntmps18
  go_wp2_with fail
  go_ret
  exact ⟨rfl, rfl⟩
set_option maxRecDepth 100000 in
theorem waiting_any (L g b : Nat) (r : Option Nat) (D : Dk) (w : World) (h : DkAt w L g b r D) :
    Calls Try.prog 19 #[.pointer (some ⟨g, 0, none⟩)] w fun e w' => e = .returned (.int .i64 (D.w.length : Int)) ∧ w = w' := by
  obtain ⟨A, c, h0, h1, h2, h3, hrow, hre, hz⟩ := h.cells
  clear hrow hre hz
  go_enter Try.func19, Try.ntmps19
  go_wp2_with fail
  go_ret
  exact ⟨rfl, rfl⟩
theorem waiting_nil (w : World) : Calls Try.prog 19 #[.pointer none] w fun e w' => e = .returned (.int .i64 0) ∧ w = w' := by
  go_enter Try.func19, Try.ntmps19
  go_wp2_with fail
  go_ret
  exact ⟨rfl, rfl⟩
end Go.Proofs.Ytjnfdhjnfginpaa
