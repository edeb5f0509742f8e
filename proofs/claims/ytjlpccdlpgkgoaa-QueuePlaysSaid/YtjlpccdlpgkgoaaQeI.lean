/- Equal queues, by both; how many writes of a card wait, by both. -/
import Derived.Test.YtjlpccdlpgkgoaaQeG
import Derived.Test.YtjlpccdlpgkgoaaCardI
namespace Go.Proofs.Ytjlpccdlpgkgoaa
set_option linter.unusedVariables false
set_option linter.unusedSimpArgs false
open Go Go.RowKit Go.Shelf BitM
attribute [local go_sem] Oper.semAt_some

theorem range_sees {w : World} {B b o k : Nat} {cs : List Value} (h : w.rangeAt b (o + k) cs) {w' : World} (hl : Below B w w') (hb : b < B) : w'.rangeAt b (o + k) cs := fun j v hj => (hl.cell (p := ⟨b, o + k + j, none⟩) hb).trans (h j v hj)
set_option maxRecDepth 100000 in
set_option maxHeartbeats 3200000 in
theorem rsame_wr (A : Option Addr) (n c : Nat) (l : List Wr) (A' : Option Addr) (c' : Nat) (w : World) (hn : l.length = n) (hw : Whole l) (hs : Sees w w.heap.size A (wrs l)) (hs' : Sees w w.heap.size A' (wrs l)) (hm : n ≤ 65536) :
    Calls Try.prog 9 #[.slice A n c, .slice A' n c'] w fun e w' => e = .returned (.bool true) ∧ Below w.heap.size w w' := by
  have HN := Lib.hid hn
  have HW := Lib.hid hw
  have hu := Try.underlying63
  have HS := Lib.hid (fun wx (h : Below w.heap.size w wx) => hs.below h)
  have HS' := Lib.hid (fun wx (h : Below w.heap.size w wx) => hs'.below h)
  have hbe : ((n : Int) != (n : Int)) = false := by simp
  clear hn hw hs hs'
  go_enter Try.func9, Try.ntmps9
  go_wp2_with fail
  go_loopw [5] (fun i wr => ∃ k : Nat, k ≤ n ∧ i = .int .i64 k ∧ Hid (Below w.heap.size w wr)) (fun i _ => n - (intOf i).toNat)
  case atStart => exact ⟨0, Nat.zero_le _, rfl, Lib.hid (Below.refl _ _)⟩
  case round =>
    obtain ⟨k, hk, rfl, HB⟩ := hrel
    by_cases hlt : k < n
    · have d1 : decide ((k : Int) < (n : Int)) = true := by simp; omega
      have hki : (k : Int) < (n : Int) := by omega
      have hkl : k < l.length := by rw [HN.out]; exact hlt
      obtain ⟨b, o, rfl, hb, hrg, y1, y2⟩ := sees_wr (HS.out wr HB.out) HW.out k hkl
      obtain ⟨b', o', rfl, hb', hrg', z1, z2⟩ := sees_wr (HS'.out wr HB.out) HW.out k hkl
      have HA := Lib.hid (fun (w1 : World) (hl : Le wr w1) => range_sees hrg (show Below w.heap.size wr w1 from Below.mono hl HB.out.size) hb)
      have HA' := Lib.hid (fun (w1 : World) (hl : Le wr w1) => range_sees hrg' (show Below w.heap.size wr w1 from Below.mono hl HB.out.size) hb')
      have HX := Lib.hid (HW.out _ (List.getElem_mem hkl))
      obtain ⟨x, hx⟩ : ∃ x, x = l[k] := ⟨_, rfl⟩
      rw [← hx] at HA HA' HX
      have HQ := Lib.hid (fun w1 : World => eq_rw 9995 x x HX.out HX.out w1)
      rw [weq_self] at HQ
      have HSZ := Lib.hid (wrc_len HX.out)
      clear hx hrg hrg' y1 y2 z1 z2
      go_wp2_with fail
      refine wp_region_steady [] 26 (by kernel_rfl) (by kernel_rfl) (by kernel_rfl) (by rfl) ?_
      iterate 3 (refine wpG_quiet (by rfl) (by rfl) (by rfl) (fun K hK => ?_); go_big_quiet_op; refine hK _ ?_; clear hK K)
      refine wpG_run (by rfl) (by rfl) (.agg (wrc x).toArray) (fun w1 hl => exec_load 63 (.tmp 19) rfl b (o + k * 28) rfl (wrc x) _ (HA.out w1 hl.1) hu rfl (by rw [HSZ.out]; exact info_rw)) ?_
      simp only [Act.put, List.setIfInBounds_toArray, List.set_cons_zero, List.set_cons_succ]
      iterate 3 (refine wpG_quiet (by rfl) (by rfl) (by rfl) (fun K hK => ?_); go_big_quiet_op; refine hK _ ?_; clear hK K)
      refine wpG_run (by rfl) (by rfl) (.agg (wrc x).toArray) (fun w1 hl => exec_load 63 (.tmp 23) rfl b' (o' + k * 28) rfl (wrc x) _ (HA'.out w1 hl.1) hu rfl (by rw [HSZ.out]; exact info_rw)) ?_
      simp only [Act.put, List.setIfInBounds_toArray, List.set_cons_zero, List.set_cons_succ]
      refine wpG_run (by rfl) (by rfl) (.bool (!true)) (fun w1 hl => exec_neq 63 _ (.tmp 20) (.tmp 24) rfl _ _ rfl rfl guard_rw true (HQ.out w1)) ?_
      simp only [Act.put, List.setIfInBounds_toArray, List.set_cons_zero, List.set_cons_succ]
      refine wpG_nil fun w1 hl _ => ?_
      have HB1 := Lib.hid (HB.out.trans (hl.mono HB.out.size))
      clear hl
      go_wp2_with fail
      go_roundw
      case rel => exact ⟨k + 1, by omega, by go_num, HB1⟩
      case measure => simp [intOf]; omega
    · obtain rfl : k = n := by omega
      have d1 : decide ((k : Int) < (k : Int)) = false := by simp
      go_wp2_with fail
      go_ret
      exact ⟨rfl, HB.out⟩
set_option maxRecDepth 100000 in
set_option maxHeartbeats 3200000 in
theorem equal_wr (A : Option Addr) (n c : Nat) (l : List Wr) (A' : Option Addr) (c' : Nat) (w : World) (hn : l.length = n) (hw : Whole l) (hs : Sees w w.heap.size A (wrs l)) (hs' : Sees w w.heap.size A' (wrs l)) (hm : n ≤ 65536) :
    Calls Try.prog 26 #[.slice A n c, .slice A' n c'] w fun e w' => e = .returned (.bool true) ∧ Below w.heap.size w w' := by
  have HN := Lib.hid hn
  have HW := Lib.hid hw
  have hu := Try.underlying55
  have HS := Lib.hid (fun wx (h : Below w.heap.size w wx) => hs.below h)
  have HS' := Lib.hid (fun wx (h : Below w.heap.size w wx) => hs'.below h)
  have hbe : ((n : Int) != (n : Int)) = false := by simp
  clear hn hw hs hs'
  go_enter Try.func26, Try.ntmps26
  go_wp2_with fail
  go_loopw [13] (fun i wr => ∃ k : Nat, k ≤ n ∧ i = .int .i64 k ∧ Hid (Below w.heap.size w wr)) (fun i _ => n - (intOf i).toNat)
  case atStart => exact ⟨0, Nat.zero_le _, rfl, Lib.hid (Below.refl _ _)⟩
  case round =>
    obtain ⟨k, hk, rfl, HB⟩ := hrel
    by_cases hlt : k < n
    · have d1 : decide ((k : Int) < (n : Int)) = true := by simp; omega
      have hki : (k : Int) < (n : Int) := by omega
      have hkl : k < l.length := by rw [HN.out]; exact hlt
      obtain ⟨b, o, rfl, hb, hrg, y1, y2⟩ := sees_wr (HS.out wr HB.out) HW.out k hkl
      obtain ⟨b', o', rfl, hb', hrg', z1, z2⟩ := sees_wr (HS'.out wr HB.out) HW.out k hkl
      have HA := Lib.hid (fun (w1 : World) (hl : Le wr w1) => range_sees hrg (show Below w.heap.size wr w1 from Below.mono hl HB.out.size) hb)
      have HA' := Lib.hid (fun (w1 : World) (hl : Le wr w1) => range_sees hrg' (show Below w.heap.size wr w1 from Below.mono hl HB.out.size) hb')
      have HX := Lib.hid (HW.out _ (List.getElem_mem hkl))
      obtain ⟨x, hx⟩ : ∃ x, x = l[k] := ⟨_, rfl⟩
      rw [← hx] at HA HA' HX
      have HQ := Lib.hid (fun w1 : World => eq_qw 9995 x x HX.out HX.out w1)
      rw [weq_self] at HQ
      have HSZ := Lib.hid (wrc_len HX.out)
      clear hx hrg hrg' y1 y2 z1 z2
      go_wp2_with fail
      refine wp_region_steady [] 26 (by kernel_rfl) (by kernel_rfl) (by kernel_rfl) (by rfl) ?_
      iterate 3 (refine wpG_quiet (by rfl) (by rfl) (by rfl) (fun K hK => ?_); go_big_quiet_op; refine hK _ ?_; clear hK K)
      refine wpG_run (by rfl) (by rfl) (.agg (wrc x).toArray) (fun w1 hl => exec_load 55 (.tmp 18) rfl b (o + k * 28) rfl (wrc x) _ (HA.out w1 hl.1) hu rfl (by rw [HSZ.out]; exact info_qw)) ?_
      simp only [Act.put, List.setIfInBounds_toArray, List.set_cons_zero, List.set_cons_succ]
      iterate 3 (refine wpG_quiet (by rfl) (by rfl) (by rfl) (fun K hK => ?_); go_big_quiet_op; refine hK _ ?_; clear hK K)
      refine wpG_run (by rfl) (by rfl) (.agg (wrc x).toArray) (fun w1 hl => exec_load 55 (.tmp 22) rfl b' (o' + k * 28) rfl (wrc x) _ (HA'.out w1 hl.1) hu rfl (by rw [HSZ.out]; exact info_qw)) ?_
      simp only [Act.put, List.setIfInBounds_toArray, List.set_cons_zero, List.set_cons_succ]
      refine wpG_run (by rfl) (by rfl) (.bool (!true)) (fun w1 hl => exec_neq 55 _ (.tmp 19) (.tmp 23) rfl _ _ rfl rfl guard_qw true (HQ.out w1)) ?_
      simp only [Act.put, List.setIfInBounds_toArray, List.set_cons_zero, List.set_cons_succ]
      refine wpG_nil fun w1 hl _ => ?_
      have HB1 := Lib.hid (HB.out.trans (hl.mono HB.out.size))
      clear hl
      go_wp2_with fail
      go_roundw
      case rel => exact ⟨k + 1, by omega, by go_num, HB1⟩
      case measure => simp [intOf]; omega
    · obtain rfl : k = n := by omega
      have d1 : decide ((k : Int) < (k : Int)) = false := by simp
      go_wp2_with fail
      go_ret
      exact ⟨rfl, HB.out⟩
theorem qsame_wr (A : Option Addr) (n c : Nat) (l : List Wr) (A' : Option Addr) (c' : Nat) (w : World) (hn : l.length = n) (hw : Whole l) (hs : Sees w w.heap.size A (wrs l)) (hs' : Sees w w.heap.size A' (wrs l)) (hm : n ≤ 65536) :
    Calls Try.prog 17 #[.slice A n c, .slice A' n c'] w fun e w' => e = .returned (.bool true) ∧ Below w.heap.size w w' := by
  have HE := Lib.hid (fun wx (h : wx = w) => equal_wr A n c l A' c' wx hn hw (h ▸ hs) (h ▸ hs') hm)
  clear hs hs' hn hw
  go_enter Try.func17, Try.ntmps17
  go_wp2_with fail
  refine (HE.out _ rfl).mono ?_
  rintro e w1 ⟨rfl, hb⟩
  go_wp2_with fail
  go_ret
  exact ⟨rfl, hb⟩
theorem qsame_len (A : Option Addr) (n c : Nat) (A' : Option Addr) (n' c' : Nat) (w : World) (hne : n ≠ n') :
    Calls Try.prog 17 #[.slice A n c, .slice A' n' c'] w fun e w' => e = .returned (.bool false) ∧ Below w.heap.size w w' := by
  have HE : Hid (∀ wx, Calls Try.prog 26 #[.slice A n c, .slice A' n' c'] wx fun e w' => e = .returned (.bool false) ∧ Below wx.heap.size wx w') := Lib.hid (fun wx => by
    have hbe : ((n : Int) != (n' : Int)) = true := by rw [bne_iff_ne]; omega
    clear hne
    go_enter Try.func26, Try.ntmps26
    go_wp2_with fail
    go_ret
    exact ⟨rfl, Below.refl _ _⟩)
  clear hne
  go_enter Try.func17, Try.ntmps17
  go_wp2_with fail
  refine (HE.out _).mono ?_
  rintro e w1 ⟨rfl, hb⟩
  go_wp2_with fail
  go_ret
  exact ⟨rfl, hb⟩
set_option maxRecDepth 100000 in
set_option maxHeartbeats 3200000 in
theorem rwaits_any (A : Option Addr) (n c : Nat) (l : List Wr) (id : Int) (w : World) (hn : l.length = n) (hw : Whole l) (hs : Sees w w.heap.size A (wrs l)) (hm : n ≤ 65536) :
    Calls Try.prog 14 #[.slice A n c, .int .i64 id] w fun e w' => e = .returned (.int .i64 ((mine id l).length : Int)) ∧ Below w.heap.size w w' := by
  have HN := Lib.hid hn
  have HW := Lib.hid hw
  have HS := Lib.hid hs
  clear hn hw hs
  go_enter Try.func14, Try.ntmps14
  go_wp2_with fail
  go_loopw [5, 6] (fun v i wr => ∃ k m : Nat, k ≤ n ∧ i = .int .i64 k ∧ v = .int .i64 m ∧ Hid (m = (mine id (l.take k)).length) ∧ m ≤ k ∧ wr = w) (fun _ i _ => n - (intOf i).toNat)
  case atStart => exact ⟨0, 0, Nat.zero_le _, rfl, rfl, Lib.hid rfl, Nat.le_refl _, rfl⟩
  case round =>
    obtain ⟨k, m, hk, rfl, rfl, HM, hmk, rfl⟩ := hrel
    by_cases hlt : k < n
    · have d1 : decide ((k : Int) < (n : Int)) = true := by simp; omega
      have hki : (k : Int) < (n : Int) := by omega
      have hkl : k < l.length := by rw [HN.out]; exact hlt
      obtain ⟨b, o, rfl, hb, _, h0, _⟩ := sees_wr HS.out HW.out k hkl
      have HMS := Lib.hid (mine_succ id l k hkl)
      obtain ⟨y, hy⟩ : ∃ y, y = l[k] := ⟨_, rfl⟩
      rw [← hy] at h0 HMS
      have hm1 : (m : Int) + 1 ≤ 9223372036854775807 := by omega
      have hm0 : (0 : Int) ≤ (m : Int) := by omega
      clear hy
      by_cases hid : y.1 = id
      · have bid : (y.1 == id) = true := by simpa using hid
        rw [if_pos hid] at HMS
        go_wp2_with fail
        go_roundw
        case rel => exact ⟨k + 1, m + 1, by omega, by go_num, by go_num, Lib.hid (by rw [HMS.out, List.length_append, ← HM.out]; rfl), by omega, trivial⟩
        case measure => simp [intOf]; omega
      · have bid : (y.1 == id) = false := by simpa using hid
        rw [if_neg hid] at HMS
        go_wp2_with fail
        go_roundw
        case rel => exact ⟨k + 1, m, by omega, by go_num, rfl, Lib.hid (by rw [HMS.out]; exact HM.out), by omega, trivial⟩
        case measure => simp [intOf]; omega
    · obtain rfl : k = n := by omega
      have d1 : decide ((k : Int) < (k : Int)) = false := by simp
      have HE : Hid (m = (mine id l).length) := Lib.hid (by
        have := HM.out
        rwa [List.take_of_length_le (by rw [HN.out]; exact Nat.le_refl _)] at this)
      clear HM hmk
      go_wp2_with fail
      go_ret
      exact ⟨by rw [← HE.out]; rfl, Below.refl _ _⟩
end Go.Proofs.Ytjlpccdlpgkgoaa
