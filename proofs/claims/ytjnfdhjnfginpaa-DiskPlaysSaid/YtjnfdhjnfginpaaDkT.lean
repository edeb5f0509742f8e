/- Disks: is a disk the document's? -/
import Derived.Test.YtjnfdhjnfginpaaDkS
namespace Go.Proofs.Ytjnfdhjnfginpaa
set_option linter.unusedVariables false
set_option linter.unusedSimpArgs false
open Go Go.RowKit

theorem info_rd : (Try.prog.info? 29).map (·.size) = some 4 := by kernel_rfl
set_option maxRecDepth 100000 in
set_option maxHeartbeats 3200000 in
theorem same_any (L g b : Nat) (r : Option Nat) (D : Dk) (A A' : Option Addr) (c c' : Nat) (w : World) (h : DkAt w L g b r D) (h1 : Sees w w.heap.size A (stc D.s)) (h2 : Sees w w.heap.size A' (rws wtl D.w)) (hs : D.s.length ≤ 65536) (hw : D.w.length ≤ 65536) :
    Calls Try.prog 9 #[.pointer (some ⟨g, 0, none⟩), .agg #[.slice A D.s.length c, .slice A' D.w.length c', .int .i64 D.fuse, .bool D.dead]] w fun e w' => e = .returned (.bool true) ∧ Below w.heap.size w w' := by
  have hu := Try.underlying29
  have HSZ : Hid (∀ wx, Below w.heap.size w wx → Calls Try.prog 17 #[.pointer (some ⟨g, 0, none⟩)] wx fun e w' => e = .returned (.int .i64 (D.s.length : Int)) ∧ wx = w') := Lib.hid (fun wx hb => size_any L g b r D wx (h.later hb))
  have HDE : Hid (∀ wx, Below w.heap.size w wx → Calls Try.prog 18 #[.pointer (some ⟨g, 0, none⟩)] wx fun e w' => e = .returned (.bool D.dead) ∧ wx = w') := Lib.hid (fun wx hb => dead_any L g b r D wx (h.later hb))
  have HWT : Hid (∀ wx, Below w.heap.size w wx → Calls Try.prog 19 #[.pointer (some ⟨g, 0, none⟩)] wx fun e w' => e = .returned (.int .i64 (D.w.length : Int)) ∧ wx = w') := Lib.hid (fun wx hb => waiting_any L g b r D wx (h.later hb))
  have HRD : Hid (∀ wx (a : Int), Below w.heap.size w wx → Calls Try.prog 16 #[.pointer (some ⟨g, 0, none⟩), .int .i64 a] wx fun e w' => e = .returned (.tuple #[.string (str (dread D a).1), .int .i64 (dread D a).2]) ∧ Below wx.heap.size wx w') := Lib.hid (fun wx a hb => read_any L g b r D a wx (h.later hb) hw)
  have HRR : Hid (∀ wx (a : Int), Below w.heap.size w wx → Calls Try.prog 24 #[.agg #[.slice A D.s.length c, .slice A' D.w.length c', .int .i64 D.fuse, .bool D.dead], .int .i64 a] wx fun e w' => e = .returned (.tuple #[.string (str (dread D a).1), .int .i64 (dread D a).2]) ∧ Below wx.heap.size wx w') := Lib.hid (fun wx a hb => rread_any A A' c c' D a wx ((h1.below hb).more hb.size) ((h2.below hb).more hb.size) hs hw)
  obtain ⟨rd, hrd⟩ : ∃ rd, rd = dread D := ⟨_, rfl⟩
  obtain ⟨ns, hns⟩ : ∃ ns, ns = D.s.length := ⟨_, rfl⟩
  obtain ⟨nw, hnw⟩ : ∃ nw, nw = D.w.length := ⟨_, rfl⟩
  obtain ⟨fu, hfu⟩ : ∃ fu, fu = D.fuse := ⟨_, rfl⟩
  obtain ⟨dd, hdd⟩ : ∃ dd, dd = D.dead := ⟨_, rfl⟩
  rw [← hns] at HSZ
  rw [← hdd] at HDE
  rw [← hnw] at HWT
  rw [← hrd] at HRD
  rw [← hrd, ← hns, ← hnw, ← hfu, ← hdd] at HRR
  rw [← hns] at hs
  rw [← hns, ← hnw, ← hfu, ← hdd]
  have B1 := Lib.hid (Blk.new w [.slice A ns c, .slice A' nw c', .int .i64 fu, .bool dd] 29)
  have L1 := Lib.hid ((Below.refl w.heap.size w).alloc (Nat.le_refl _) (.cells #[.slice A ns c, .slice A' nw c', .int .i64 fu, .bool dd] 29))
  clear h h1 h2 hw hrd hns hnw hfu hdd
  go_enter Try.func9, Try.ntmps9
  go_wp2_with fail
  go_loopw [5] (fun i wr => ∃ k : Nat, k ≤ ns + 2 ∧ i = .int .i64 ((k : Int) - 1) ∧ Hid (Blk wr w.heap.size [.slice A ns c, .slice A' nw c', .int .i64 fu, .bool dd]) ∧ Hid (Below w.heap.size w wr)) (fun i _ => (ns + 1 - intOf i).toNat)
  case atStart => exact ⟨0, by omega, rfl, B1, L1⟩
  case round =>
    clear B1 L1
    obtain ⟨k, hk, rfl, HB, HL⟩ := hrel
    have k0 : wr.cell? ⟨w.heap.size, 0, none⟩ = some (.slice A ns c) := HB.out.cell (j := 0) rfl
    by_cases hlt : k ≤ ns + 1
    · obtain ⟨a, ha⟩ : ∃ a : Int, a = (k : Int) - 1 := ⟨_, rfl⟩
      have ha1 : a + 1 = (k : Int) := by omega
      have hab : -1 ≤ a ∧ a ≤ 65536 := by omega
      rw [← ha]
      have d1 : decide (a ≤ (ns : Int)) = true := decide_eq_true (by omega)
      have HA := Lib.hid ha1
      have HR1 := Lib.hid (HRD.out wr a HL.out)
      have HR2 := Lib.hid (fun wx hb => HRR.out wx a hb)
      generalize rd a = o at HR1 HR2
      obtain ⟨so, eo⟩ := o
      dsimp only at HR1 HR2
      obtain ⟨sv, hsv⟩ : ∃ sv, sv = str so := ⟨_, rfl⟩
      rw [← hsv] at HR1 HR2
      clear hsv ha ha1
      go_wp2_with fail
      refine HR1.out.mono ?_
      rintro e w3 ⟨rfl, hb3⟩
      have HL3 := Lib.hid (HL.out.trans (hb3.mono HL.out.size))
      have HB3 := Lib.hid (HB.out.later hb3)
      have RB := HB3.out.range 0 [.slice A ns c, .slice A' nw c', .int .i64 fu, .bool dd] rfl
      clear hb3 HR1 HB HL k0
      go_wp2_with (first
        | (refine wpList_load_mid rfl 29 (.tmp 3) rfl w.heap.size 0 rfl [.slice A ns c, .slice A' nw c', .int .i64 fu, .bool dd] _ RB hu rfl info_rd ?_)
        | fail)
      refine (HR2.out w3 HL3.out).mono ?_
      rintro e w4 ⟨rfl, hb4⟩
      have HL4 := Lib.hid (HL3.out.trans (hb4.mono HL3.out.size))
      have HB4 := Lib.hid (HB3.out.later hb4)
      clear hb4 HR2 RB HL3 HB3
      go_wp2_with fail
      go_roundw
      case rel =>
        have hA := HA.out
        exact ⟨k + 1, by omega, by go_num, HB4, HL4⟩
      case measure =>
        have hA := HA.out
        simp [intOf]
        omega
    · have ek : (k : Int) - 1 = (ns : Int) + 1 := by omega
      have d1 : decide ((ns : Int) + 1 ≤ (ns : Int)) = false := decide_eq_false (by omega)
      rw [ek]
      have k1 : wr.cell? ⟨w.heap.size, 1, none⟩ = some (.slice A' nw c') := HB.out.cell (j := 1) rfl
      have k3 : wr.cell? ⟨w.heap.size, 3, none⟩ = some (.bool dd) := HB.out.cell (j := 3) rfl
      clear hlt hk ek
      go_wp2_with fail
      have hS : wr.drew.cell? ⟨w.heap.size, 0, none⟩ = some (.slice A ns c) ∧ wr.drew.cell? ⟨w.heap.size, 1, none⟩ = some (.slice A' nw c') ∧ wr.drew.cell? ⟨w.heap.size, 3, none⟩ = some (.bool dd) := ⟨k0, k1, k3⟩
      have HL2 := Lib.hid HL.out.drew
      refine wp_region_held (S := fun wx => wx.cell? ⟨w.heap.size, 0, none⟩ = some (.slice A ns c) ∧ wx.cell? ⟨w.heap.size, 1, none⟩ = some (.slice A' nw c') ∧ wx.cell? ⟨w.heap.size, 3, none⟩ = some (.bool dd)) (by kernel_rfl) ?_
      show Go.wpAnyH Try.prog Region.Mode.any _ _ _ _ _ _ wr.drew
      generalize wr.drew = wd at hS HL2 ⊢
      clear k0 k1 k3
      refine takeH (i := 0) (oi := _) (v := (.pointer (some ⟨g, 0, none⟩))) (fuel := 21) (some 37) rfl rfl (by kernel_rfl) (by kernel_rfl) (by kernel_rfl) (fun _ _ _ h => h) (.inl ⟨by rfl, fun wx hS => by simp [go_sem]⟩) hS ?_
      simp only [Act.put, List.setIfInBounds_toArray, List.set_cons_zero, List.set_cons_succ]
      refine takeH (i := 2) (oi := _) (v := (.pointer (some ⟨w.heap.size, 0, none⟩))) (fuel := 20) (some 39) rfl rfl (by kernel_rfl) (by kernel_rfl) (by kernel_rfl) (fun _ _ _ h => h) (.inl ⟨by rfl, fun wx hS => by simp [go_sem]⟩) hS ?_
      simp only [Act.put, List.setIfInBounds_toArray, List.set_cons_zero, List.set_cons_succ]
      refine takeH (i := 3) (oi := _) (v := (.slice A ns c)) (fuel := 19) (some 40) rfl rfl (by kernel_rfl) (by kernel_rfl) (by kernel_rfl) (fun _ _ _ h => h) (.inl ⟨by rfl, fun wx hS => by simp [go_sem, hS.1]⟩) hS ?_
      simp only [Act.put, List.setIfInBounds_toArray, List.set_cons_zero, List.set_cons_succ]
      refine takeH (i := 4) (oi := _) (v := (.int .i64 (ns : Int))) (fuel := 18) (some 41) rfl rfl (by kernel_rfl) (by kernel_rfl) (by kernel_rfl) (fun _ _ _ h => h) (.inl ⟨by rfl, fun wx hS => by simp [go_sem]⟩) hS ?_
      simp only [Act.put, List.setIfInBounds_toArray, List.set_cons_zero, List.set_cons_succ]
      refine allH [1] 1 (fuel := 17) (by kernel_rfl) ?_
      refine callH (some 38) _ rfl rfl 17 #[.pointer (some ⟨g, 0, none⟩)] (by simp [go_sem]) (by rfl) ?_
      refine (HSZ.out wd HL2.out).mono ?_
      rintro e w5 ⟨rfl, rfl⟩
      refine ⟨_, rfl, hS, ?_⟩
      simp only [Act.put, List.setIfInBounds_toArray, List.set_cons_zero, List.set_cons_succ]
      refine takeH (i := 5) (oi := _) (v := (.bool true)) (fuel := 16) (some 42) rfl rfl (by kernel_rfl) (by kernel_rfl) (by kernel_rfl) (fun _ _ _ h => h) (.inl ⟨by rfl, fun wx hS => by simp [go_sem]⟩) hS ?_
      simp only [Act.put, List.setIfInBounds_toArray, List.set_cons_zero, List.set_cons_succ]
      refine takeH (i := 6) (oi := _) (v := (.bool true)) (fuel := 15) (some 43) rfl rfl (by kernel_rfl) (by kernel_rfl) (by kernel_rfl) (fun _ _ _ h => h) (.inl ⟨by rfl, fun wx hS => by simp [go_sem]⟩) hS ?_
      simp only [Act.put, List.setIfInBounds_toArray, List.set_cons_zero, List.set_cons_succ]
      refine takeH (i := 7) (oi := _) (v := (.pointer (some ⟨g, 0, none⟩))) (fuel := 14) (some 44) rfl rfl (by kernel_rfl) (by kernel_rfl) (by kernel_rfl) (fun _ _ _ h => h) (.inl ⟨by rfl, fun wx hS => by simp [go_sem]⟩) hS ?_
      simp only [Act.put, List.setIfInBounds_toArray, List.set_cons_zero, List.set_cons_succ]
      refine takeH (i := 9) (oi := _) (v := (.pointer (some ⟨w.heap.size, 3, none⟩))) (fuel := 13) (some 46) rfl rfl (by kernel_rfl) (by kernel_rfl) (by kernel_rfl) (fun _ _ _ h => h) (.inl ⟨by rfl, fun wx hS => by simp [go_sem]⟩) hS ?_
      simp only [Act.put, List.setIfInBounds_toArray, List.set_cons_zero, List.set_cons_succ]
      refine takeH (i := 10) (oi := _) (v := (.bool dd)) (fuel := 12) (some 47) rfl rfl (by kernel_rfl) (by kernel_rfl) (by kernel_rfl) (fun _ _ _ h => h) (.inl ⟨by rfl, fun wx hS => by simp [go_sem, hS.2.2]⟩) hS ?_
      simp only [Act.put, List.setIfInBounds_toArray, List.set_cons_zero, List.set_cons_succ]
      refine allH [8] 8 (fuel := 11) (by kernel_rfl) ?_
      refine callH (some 45) _ rfl rfl 18 #[.pointer (some ⟨g, 0, none⟩)] (by simp [go_sem]) (by rfl) ?_
      refine (HDE.out wd HL2.out).mono ?_
      rintro e w5 ⟨rfl, rfl⟩
      refine ⟨_, rfl, hS, ?_⟩
      simp only [Act.put, List.setIfInBounds_toArray, List.set_cons_zero, List.set_cons_succ]
      refine takeH (i := 11) (oi := _) (v := (.bool true)) (fuel := 10) (some 48) rfl rfl (by kernel_rfl) (by kernel_rfl) (by kernel_rfl) (fun _ _ _ h => h) (.inl ⟨by rfl, fun wx hS => by simp [go_sem]⟩) hS ?_
      simp only [Act.put, List.setIfInBounds_toArray, List.set_cons_zero, List.set_cons_succ]
      refine takeH (i := 12) (oi := _) (v := (.bool true)) (fuel := 9) (some 49) rfl rfl (by kernel_rfl) (by kernel_rfl) (by kernel_rfl) (fun _ _ _ h => h) (.inl ⟨by rfl, fun wx hS => by simp [go_sem]⟩) hS ?_
      simp only [Act.put, List.setIfInBounds_toArray, List.set_cons_zero, List.set_cons_succ]
      refine takeH (i := 13) (oi := _) (v := (.bool true)) (fuel := 8) (some 50) rfl rfl (by kernel_rfl) (by kernel_rfl) (by kernel_rfl) (fun _ _ _ h => h) (.inl ⟨by rfl, fun wx hS => by simp [go_sem]⟩) hS ?_
      simp only [Act.put, List.setIfInBounds_toArray, List.set_cons_zero, List.set_cons_succ]
      refine takeH (i := 14) (oi := _) (v := (.pointer (some ⟨g, 0, none⟩))) (fuel := 7) (some 51) rfl rfl (by kernel_rfl) (by kernel_rfl) (by kernel_rfl) (fun _ _ _ h => h) (.inl ⟨by rfl, fun wx hS => by simp [go_sem]⟩) hS ?_
      simp only [Act.put, List.setIfInBounds_toArray, List.set_cons_zero, List.set_cons_succ]
      refine takeH (i := 16) (oi := _) (v := (.pointer (some ⟨w.heap.size, 1, none⟩))) (fuel := 6) (some 53) rfl rfl (by kernel_rfl) (by kernel_rfl) (by kernel_rfl) (fun _ _ _ h => h) (.inl ⟨by rfl, fun wx hS => by simp [go_sem]⟩) hS ?_
      simp only [Act.put, List.setIfInBounds_toArray, List.set_cons_zero, List.set_cons_succ]
      refine takeH (i := 17) (oi := _) (v := (.slice A' nw c')) (fuel := 5) (some 54) rfl rfl (by kernel_rfl) (by kernel_rfl) (by kernel_rfl) (fun _ _ _ h => h) (.inl ⟨by rfl, fun wx hS => by simp [go_sem, hS.2.1]⟩) hS ?_
      simp only [Act.put, List.setIfInBounds_toArray, List.set_cons_zero, List.set_cons_succ]
      refine takeH (i := 18) (oi := _) (v := (.int .i64 (nw : Int))) (fuel := 4) (some 55) rfl rfl (by kernel_rfl) (by kernel_rfl) (by kernel_rfl) (fun _ _ _ h => h) (.inl ⟨by rfl, fun wx hS => by simp [go_sem]⟩) hS ?_
      simp only [Act.put, List.setIfInBounds_toArray, List.set_cons_zero, List.set_cons_succ]
      refine allH [15] 15 (fuel := 3) (by kernel_rfl) ?_
      refine callH (some 52) _ rfl rfl 19 #[.pointer (some ⟨g, 0, none⟩)] (by simp [go_sem]) (by rfl) ?_
      refine (HWT.out wd HL2.out).mono ?_
      rintro e w5 ⟨rfl, rfl⟩
      refine ⟨_, rfl, hS, ?_⟩
      simp only [Act.put, List.setIfInBounds_toArray, List.set_cons_zero, List.set_cons_succ]
      refine takeH (i := 19) (oi := _) (v := (.bool true)) (fuel := 2) (some 56) rfl rfl (by kernel_rfl) (by kernel_rfl) (by kernel_rfl) (fun _ _ _ h => h) (.inl ⟨by rfl, fun wx hS => by simp [go_sem]⟩) hS ?_
      simp only [Act.put, List.setIfInBounds_toArray, List.set_cons_zero, List.set_cons_succ]
      refine takeH (i := 20) (oi := _) (v := (.bool true)) (fuel := 1) (some 57) rfl rfl (by kernel_rfl) (by kernel_rfl) (by kernel_rfl) (fun _ _ _ h => h) (.inl ⟨by rfl, fun wx hS => by simp [go_sem]⟩) hS ?_
      simp only [Act.put, List.setIfInBounds_toArray, List.set_cons_zero, List.set_cons_succ]
      refine takeH (i := 21) (oi := _) (v := (.bool true)) (fuel := 0) (some 4) rfl rfl (by kernel_rfl) (by kernel_rfl) (by kernel_rfl) (fun _ _ _ h => h) (.inl ⟨by rfl, fun wx hS => by simp [go_sem]⟩) hS ?_
      simp only [Act.put, List.setIfInBounds_toArray, List.set_cons_zero, List.set_cons_succ]
      refine wpAnyH_done (by kernel_rfl) ?_ 0
      go_wp2_with fail
      go_ret
      exact ⟨rfl, HL2.out⟩
end Go.Proofs.Ytjnfdhjnfginpaa
