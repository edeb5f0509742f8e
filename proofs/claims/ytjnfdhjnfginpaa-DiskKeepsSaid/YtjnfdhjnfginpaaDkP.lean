/- DiskKeeps: the law's walk. -/
import Derived.Test.YtjnfdhjnfginpaaDkL
namespace Go.Proofs.Ytjnfdhjnfginpaa
set_option linter.unusedVariables false
set_option linter.unusedSimpArgs false
open Go Go.RowKit

theorem DkAt.setFar {w : World} {L g b : Nat} {r : Option Nat} {D : Dk} (h : DkAt w L g b r D) (q j : Nat) (v : Value) (h1 : q ≠ g) (h2 : q ≠ b) (h3 : r ≠ some q) : DkAt (w.setCell ⟨q, j, none⟩ v) L g b r D := by
  obtain ⟨⟨A, c, B, hr, e⟩, k2, k3, k4, k5, k6, k7⟩ := h
  exact ⟨⟨A, c, B.setOther j v h1, row_apartD hr (by rw [← e]; exact h3) [v] j, e⟩, k2.setOther j v h2, k3, k4, k5, k6, k7⟩
def sts (l : List (List UInt8)) : List Value := l.map fun x => .string (str x)
theorem sts_len (l : List (List UInt8)) : (sts l).length = l.length := by simp [sts]
theorem sts_set (l : List (List UInt8)) (k : Nat) (x : List UInt8) : (sts l).set k (.string (str x)) = sts (l.set k x) := by
  unfold sts
  rw [List.map_set]
theorem sts_get (l : List (List UInt8)) (k : Nat) (hk : k < l.length) : (sts l)[k]? = some (.string (str (l.getD k []))) := by
  unfold sts
  rw [List.getElem?_map, List.getElem?_eq_getElem hk, List.getD_eq_getElem?_getD, List.getElem?_eq_getElem hk]
  rfl
def wask (k : Nat) : List (List UInt8) := List.replicate k (fil 64 0) ++ List.replicate (8 - k) []
theorem wask_set (k : Nat) (h : k < 8) : (wask k).set k (fil 64 0) = wask (k + 1) := by
  unfold wask
  rw [List.set_append_right _ _ (by simp), List.length_replicate, Nat.sub_self]
  rw [show 8 - k = (8 - (k + 1)) + 1 by omega, List.replicate_succ, List.set_cons_zero, List.replicate_succ' (n := k), List.append_assoc]
  rfl
theorem wask_len (k : Nat) (h : k ≤ 8) : (wask k).length = 8 := by unfold wask; simp; omega
theorem wask_8 : wask 8 = was0 := by unfold wask was0; rw [Nat.sub_self, List.replicate_zero, List.append_nil]

theorem write_kd (L g b : Nat) (r : Option Nat) (S : List Sc) (hS : S.length = 8) (ws : List Wr) (hw : ws.length ≤ 65536) (x : Ax) (w : World) (h : DkAt w L g b r (kd S ws)) (hL : L ≤ w.heap.size) :
    Calls Try.prog 11 #[.pointer (some ⟨g, 0, none⟩), .int .i64 x.2.1, .string (str (fil 64 x.2.2.2.1))] w fun e w' => e = .returned (.int .i64 (if inr x then 0 else 1)) ∧ ∃ r', DkAt w' L g b r' (kd S (if inr x then ws ++ [wr1 x] else ws)) ∧ Turn3 w w' g b r ∧ RowN w r r' := by
  have := write_any L g b r _ x.2.1 (fil 64 x.2.2.2.1) w h (by unfold kd; simp) (by rw [fil_len]; simp [maxLen]) hw hL
  rw [kd_write hS ws x] at this
  by_cases hi : inr x
  · rw [if_pos hi] at this ⊢
    rw [if_pos hi]
    exact this
  · rw [if_neg hi] at this ⊢
    rw [if_neg hi]
    exact this
theorem DkAt.drew {w : World} {L g b : Nat} {r : Option Nat} {D : Dk} (h : DkAt w L g b r D) : DkAt w.drew L g b r D := h.later ((Below.refl w.heap.size w).drew)

set_option maxRecDepth 100000 in
set_option maxHeartbeats 12800000 in
theorem walk_keeps (A0 A1 A2 : Option Addr) (n0 c0 n1 c1 n2 c2 : Nat) (sure rest : List Ax) (keep : List Int) (w : World) (h0 : sure.length = n0) (h1 : rest.length = n1) (h2 : keep.length = n2)
    (hn0 : n0 ≤ c0) (hm0 : c0 ≤ maxLen) (hn1 : n1 ≤ c1) (hm1 : c1 ≤ maxLen) (hn2 : n2 ≤ c2) (hm2 : c2 ≤ maxLen) (s0 : Sees w w.heap.size A0 (rws axc sure)) (s1 : Sees w w.heap.size A1 (rws axc rest)) (s2 : Sees w w.heap.size A2 (ivs keep))
    (wa : ∀ x ∈ sure, -9223372036854775808 ≤ x.2.1 ∧ x.2.1 ≤ 9223372036854775807) (wb : ∀ x ∈ rest, -9223372036854775808 ≤ x.2.1 ∧ x.2.1 ≤ 9223372036854775807) :
    Calls Try.prog 4 #[.slice A0 n0 c0, .slice A1 n1 c1, .slice A2 n2 c2] w fun e w' => e = .returned (.bool true) ∧ Below w.heap.size w w' := by
  have HNW := Lib.hid (new_any 8 w (by omega) (by omega))
  obtain ⟨g, hg⟩ : ∃ g, g = w.heap.size + 1 := ⟨_, rfl⟩
  obtain ⟨b, hb⟩ : ∃ b, b = w.heap.size := ⟨_, rfl⟩
  obtain ⟨L, hL⟩ : ∃ L, L = w.heap.size := ⟨_, rfl⟩
  have HNW2 : Hid (Calls Try.prog 5 #[.int .i64 8] w fun e w' => e = .returned (.pointer (some ⟨g, 0, none⟩)) ∧ DkAt w' L g b none (kd (was0.map scf) []) ∧ Below L w w' ∧ L ≤ w'.heap.size) := Lib.hid (by
    rw [hg, hb, hL, ← kd_new]
    exact HNW.out.mono fun e w' h => ⟨h.1, h.2.1, h.2.2, h.2.2.size⟩)
  have HLL : Hid (L = w.heap.size) := Lib.hid hL
  have HGB : Hid (L ≤ g ∧ L ≤ b ∧ g = b + 1) := Lib.hid (by omega)
  rw [← hL] at s0 s1 s2
  unfold maxLen at hm0 hm1 hm2
  have HS0 := Lib.hid s0
  have HS1 := Lib.hid s1
  have HS2 := Lib.hid s2
  have HN0 := Lib.hid h0
  have HN1 := Lib.hid h1
  have HN2 := Lib.hid h2
  have HWA := Lib.hid wa
  have HWB := Lib.hid wb
  clear hg hb hL HNW s0 s1 s2 h0 h1 h2 wa wb
  by_cases hc0 : n0 ≤ 40
  · have e0 : decide ((40 : Int) < (n0 : Int)) = false := decide_eq_false (by omega)
    by_cases hc1 : n1 ≤ 40
    · have e1 : decide ((40 : Int) < (n1 : Int)) = false := decide_eq_false (by omega)
      go_enter Try.func4, Try.ntmps4
      go_wp2_with fail
      refine HNW2.out.mono ?_
      rintro e w1 ⟨rfl, H1, L1, z1⟩
      have HD1 := Lib.hid H1
      have HB1 := Lib.hid L1
      have HZ1 := Lib.hid z1
      clear H1 L1 z1 HNW2
      go_wp2_with fail
      have BS0 : Blk (w1.alloc (.cells #[.string ⟨#[]⟩, .string ⟨#[]⟩, .string ⟨#[]⟩, .string ⟨#[]⟩, .string ⟨#[]⟩, .string ⟨#[]⟩, .string ⟨#[]⟩, .string ⟨#[]⟩] 48)) w1.heap.size (sts (wask 0)) := Blk.new w1 (sts (wask 0)) _
      have hb0 := (Below.refl w1.heap.size w1).alloc (Nat.le_refl _) (.cells #[.string ⟨#[]⟩, .string ⟨#[]⟩, .string ⟨#[]⟩, .string ⟨#[]⟩, .string ⟨#[]⟩, .string ⟨#[]⟩, .string ⟨#[]⟩, .string ⟨#[]⟩] 48)
      have HD2 := Lib.hid (HD1.out.later hb0)
      have HB2 := Lib.hid (HB1.out.trans (hb0.mono HZ1.out))
      have HGS : Hid (L ≤ w1.heap.size ∧ w1.heap.size ≠ g ∧ w1.heap.size ≠ b) := Lib.hid ⟨HZ1.out, fun e => by have := HD1.out.lt.1; omega, fun e => by have := HD1.out.lt.2; omega⟩
      have BS0 := Lib.hid BS0
      clear hb0 HD1 HB1 HZ1
      generalize w1.heap.size = gS at BS0 HGS ⊢
      obtain ⟨ss, hss⟩ : ∃ ss, ss = str (fil 64 0) := ⟨_, rfl⟩
      have HSE : Hid (∀ wx, Calls Try.prog 12 #[.int .u8 0, .int .i64 0] wx fun e w' => e = .returned (.string ss) ∧ Below wx.heap.size wx w') := Lib.hid (fun wx => by
        rw [hss]
        exact sect_any 0 0 wx)
      have HSS := Lib.hid hss
      clear hss
      go_loopw [9] (fun i wr => ∃ k : Nat, k ≤ 8 ∧ i = .int .i64 (k : Int) ∧ Hid (Blk wr gS (sts (wask k))) ∧ Hid (DkAt wr L g b none (kd (was0.map scf) [])) ∧ Hid (Below L w wr)) (fun i _ => 8 - (intOf i).toNat)
      case atStart => exact ⟨0, by omega, rfl, BS0, HD2, HB2⟩
      case round =>
        clear BS0 HD2 HB2
        obtain ⟨k, hk, rfl, BS, HD, HB⟩ := hrel
        by_cases hlt : k < 8
        · have d1 : decide ((k : Int) < 8) = true := decide_eq_true (by omega)
          go_wp2_with fail
          refine (HSE.out wr).mono ?_
          rintro e w3 ⟨rfl, hb3⟩
          have BS3 := BS.out.later hb3
          have HD3 := Lib.hid (HD.out.later hb3)
          have HB3 := Lib.hid (HB.out.trans (hb3.mono (Nat.le_trans (Nat.le_of_eq HLL.out) HB.out.size)))
          have c0 := BS3.cell (sts_get (wask k) k (by rw [wask_len k hk]; exact hlt))
          have f0 := BS3.frozen k
          have BS3 := Lib.hid BS3
          clear BS HD HB hb3
          go_wp2_with fail
          go_roundw
          case rel => exact ⟨k + 1, by omega, by go_num, Lib.hid (by rw [HSS.out, ← wask_set k hlt, ← sts_set]; exact BS3.out.set k _), Lib.hid (HD3.out.setFar gS k _ HGS.out.2.1 HGS.out.2.2 (by simp)), Lib.hid (below_sets HGS.out.1 [_] k HB3.out)⟩
          case measure => simp [intOf]; omega
        · have hk8 : k = 8 := by omega
          have d1 : decide ((k : Int) < 8) = false := decide_eq_false (by omega)
          rw [hk8, wask_8] at BS
          clear hlt hk HSE HSS hk8
          go_wp2_with fail
          go_loopw [10] (fun i wr => ∃ k : Nat, k ≤ n0 ∧ i = .int .i64 (k : Int) ∧ ∃ r, r ≠ some gS ∧ Hid (Blk wr gS (sts (wasg was0 (sure.take k)))) ∧ Hid (DkAt wr L g b r (kd (was0.map scf) (wl (sure.take k)))) ∧ Hid (Below L w wr)) (fun i _ => n0 - (intOf i).toNat)
          case atStart => exact ⟨0, by omega, rfl, none, by simp, BS, HD, HB⟩
          case round =>
            clear BS HD HB
            obtain ⟨k, hk, rfl, r, hrS, BS, HD, HB⟩ := hrel
            by_cases hlt : k < n0
            · have d1 : decide ((k : Int) < (n0 : Int)) = true := decide_eq_true (by omega)
              have hkl : k < sure.length := by rw [HN0.out]; exact hlt
              have hnl : ¬ n0 ≤ k := Nat.not_le.2 hlt
              obtain ⟨b1, o1, e1, hb1, hr1⟩ := sees_rw (ax_len _) (HS0.out.below HB.out) (by decide : 0 < 5) k hkl
              subst e1
              obtain ⟨x, hx⟩ : ∃ x, x = sure[k] := ⟨_, rfl⟩
              rw [← hx] at hr1
              have wax := HWA.out x (by rw [hx]; exact List.getElem_mem _)
              have HX := Lib.hid hx
              clear hx
              have HTW := Lib.hid (wl_take sure k hkl)
              have HTS := Lib.hid (wasg_take was0 sure k hkl)
              rw [← HX.out] at HTW HTS
              obtain ⟨xk, xa, xn, xc, xv⟩ := x
              have p1 : wr.cell? ⟨b1, o1 + k * 5 + 1, none⟩ = some (.int .i64 xa) := hr1 1 _ rfl
              have p3 : wr.cell? ⟨b1, o1 + k * 5 + 3, none⟩ = some (.int .u8 (xc.toNat : Int)) := hr1 3 _ rfl
              obtain ⟨s1, hs1⟩ : ∃ s1, s1 = str (fil 64 xc) := ⟨_, rfl⟩
              have HSE : Hid (∀ wx, Calls Try.prog 12 #[.int .u8 (xc.toNat : Int), .int .i64 0] wx fun e w' => e = .returned (.string s1) ∧ Below wx.heap.size wx w') := Lib.hid (fun wx => by
                rw [hs1]
                exact sect_any xc 0 wx)
              have HS1' := Lib.hid hs1
              clear hs1 hr1
              dsimp only at wax HTW HTS
              by_cases a0 : 0 ≤ xa
              · have d2 : decide (0 ≤ xa) = true := decide_eq_true a0
                by_cases a1 : xa < 8
                · have d3 : decide (xa < 8) = true := decide_eq_true a1
                  obtain ⟨m, rfl⟩ : ∃ m : Nat, xa = (m : Int) := ⟨xa.toNat, by omega⟩
                  have hm8 : m < 8 := by omega
                  have hin : inr (xk, (m : Int), xn, xc, xv) := ⟨a0, a1⟩
                  rw [if_pos hin] at HTW HTS
                  have hzr : L ≤ wr.heap.size := Nat.le_trans (Nat.le_of_eq HLL.out) HB.out.size
                  have hgr : gS < wr.heap.size := BS.out.lt
                  have hlen : (wl (sure.take k)).length ≤ 65536 := Nat.le_trans (wl_len _) (by rw [List.length_take]; omega)
                  have HWR : Hid (∀ wx, DkAt wx L g b r (kd (was0.map scf) (wl (sure.take k))) → L ≤ wx.heap.size → Calls Try.prog 11 #[.pointer (some ⟨g, 0, none⟩), .int .i64 (m : Int), .string s1] wx fun e w' => e = .returned (.int .i64 0) ∧ ∃ r', DkAt w' L g b r' (kd (was0.map scf) (wl (sure.take (k + 1)))) ∧ Turn3 wx w' g b r ∧ RowN wx r r') := Lib.hid (fun wx h hl => by
                    have := write_kd L g b r (was0.map scf) (by simp [was0]) _ hlen (xk, (m : Int), xn, xc, xv) wx h hl
                    rw [if_pos hin, if_pos hin] at this
                    rw [HTW.out, HS1'.out]
                    exact this)
                  have HM := Lib.hid (And.intro hm8 hin)
                  clear hlen hin HTW
                  have hS : wr.drew.cell? ⟨b1, o1 + k * 5 + 1, none⟩ = some (.int .i64 (m : Int)) ∧ wr.drew.cell? ⟨b1, o1 + k * 5 + 3, none⟩ = some (.int .u8 (xc.toNat : Int)) := ⟨p1, p3⟩
                  have HD0 := Lib.hid HD.out.drew
                  have BS0 := Lib.hid BS.out.drew
                  have HB0 := Lib.hid HB.out.drew
                  have hz0 : L ≤ wr.drew.heap.size := hzr
                  have hg0 : gS < wr.drew.heap.size := hgr
                  have HP := Lib.hid (And.intro p1 p3)
                  go_wp2_with fail
                  clear p1 p3
                  refine wp_region_held (S := fun wx => wx.cell? ⟨b1, o1 + k * 5 + 1, none⟩ = some (.int .i64 (m : Int)) ∧ wx.cell? ⟨b1, o1 + k * 5 + 3, none⟩ = some (.int .u8 (xc.toNat : Int))) (by kernel_rfl) ?_
                  show Go.wpAnyH Try.prog Region.Mode.any _ _ _ _ _ _ wr.drew
                  generalize wr.drew = wd at hS HD0 BS0 HB0 hz0 hg0 ⊢
                  refine takeH (i := 0) (oi := _) (v := (.slice (some ⟨b1, o1, none⟩) n0 c0)) (fuel := 29) (some 42) rfl rfl (by kernel_rfl) (by kernel_rfl) (by kernel_rfl) (fun _ _ _ h => h) (.inl ⟨by rfl, fun wx hS => by simp [go_sem]⟩) hS ?_
                  simp only [Act.put, List.setIfInBounds_toArray, List.set_cons_zero, List.set_cons_succ]
                  refine takeH (i := 1) (oi := _) (v := (.int .i64 (k : Int))) (fuel := 28) (some 43) rfl rfl (by kernel_rfl) (by kernel_rfl) (by kernel_rfl) (fun _ _ _ h => h) (.inl ⟨by rfl, fun wx hS => by simp [go_sem]⟩) hS ?_
                  simp only [Act.put, List.setIfInBounds_toArray, List.set_cons_zero, List.set_cons_succ]
                  refine takeH (i := 2) (oi := _) (v := (.pointer (some ⟨b1, o1 + k * 5, none⟩))) (fuel := 27) (some 44) rfl rfl (by kernel_rfl) (by kernel_rfl) (by kernel_rfl) (fun _ _ _ h => h) (.inl ⟨by rfl, fun wx hS => by simp [go_sem, hnl]⟩) hS ?_
                  simp only [Act.put, List.setIfInBounds_toArray, List.set_cons_zero, List.set_cons_succ]
                  refine takeH (i := 3) (oi := _) (v := (.pointer (some ⟨b1, o1 + k * 5 + 1, none⟩))) (fuel := 26) (some 45) rfl rfl (by kernel_rfl) (by kernel_rfl) (by kernel_rfl) (fun _ _ _ h => h) (.inl ⟨by rfl, fun wx hS => by simp [go_sem]⟩) hS ?_
                  simp only [Act.put, List.setIfInBounds_toArray, List.set_cons_zero, List.set_cons_succ]
                  refine takeH (i := 4) (oi := _) (v := (.int .i64 (m : Int))) (fuel := 25) (some 46) rfl rfl (by kernel_rfl) (by kernel_rfl) (by kernel_rfl) (fun _ _ _ h => h) (.inl ⟨by rfl, fun wx hS => by simp [go_sem, hS.1]⟩) hS ?_
                  simp only [Act.put, List.setIfInBounds_toArray, List.set_cons_zero, List.set_cons_succ]
                  refine takeH (i := 5) (oi := _) (v := (.bool true)) (fuel := 24) (some 47) rfl rfl (by kernel_rfl) (by kernel_rfl) (by kernel_rfl) (fun _ _ _ h => h) (.inl ⟨by rfl, fun wx hS => by simp [go_sem, d2]⟩) hS ?_
                  simp only [Act.put, List.setIfInBounds_toArray, List.set_cons_zero, List.set_cons_succ]
                  refine takeH (i := 6) (oi := _) (v := (.bool true)) (fuel := 23) (some 48) rfl rfl (by kernel_rfl) (by kernel_rfl) (by kernel_rfl) (fun _ _ _ h => h) (.inl ⟨by rfl, fun wx hS => by simp [go_sem]⟩) hS ?_
                  simp only [Act.put, List.setIfInBounds_toArray, List.set_cons_zero, List.set_cons_succ]
                  refine takeH (i := 7) (oi := _) (v := (.slice (some ⟨b1, o1, none⟩) n0 c0)) (fuel := 22) (some 49) rfl rfl (by kernel_rfl) (by kernel_rfl) (by kernel_rfl) (fun _ _ _ h => h) (.inl ⟨by rfl, fun wx hS => by simp [go_sem]⟩) hS ?_
                  simp only [Act.put, List.setIfInBounds_toArray, List.set_cons_zero, List.set_cons_succ]
                  refine takeH (i := 8) (oi := _) (v := (.int .i64 (k : Int))) (fuel := 21) (some 50) rfl rfl (by kernel_rfl) (by kernel_rfl) (by kernel_rfl) (fun _ _ _ h => h) (.inl ⟨by rfl, fun wx hS => by simp [go_sem]⟩) hS ?_
                  simp only [Act.put, List.setIfInBounds_toArray, List.set_cons_zero, List.set_cons_succ]
                  refine takeH (i := 9) (oi := _) (v := (.pointer (some ⟨b1, o1 + k * 5, none⟩))) (fuel := 20) (some 51) rfl rfl (by kernel_rfl) (by kernel_rfl) (by kernel_rfl) (fun _ _ _ h => h) (.inl ⟨by rfl, fun wx hS => by simp [go_sem, hnl]⟩) hS ?_
                  simp only [Act.put, List.setIfInBounds_toArray, List.set_cons_zero, List.set_cons_succ]
                  refine takeH (i := 10) (oi := _) (v := (.pointer (some ⟨b1, o1 + k * 5 + 1, none⟩))) (fuel := 19) (some 52) rfl rfl (by kernel_rfl) (by kernel_rfl) (by kernel_rfl) (fun _ _ _ h => h) (.inl ⟨by rfl, fun wx hS => by simp [go_sem]⟩) hS ?_
                  simp only [Act.put, List.setIfInBounds_toArray, List.set_cons_zero, List.set_cons_succ]
                  refine takeH (i := 11) (oi := _) (v := (.int .i64 (m : Int))) (fuel := 18) (some 53) rfl rfl (by kernel_rfl) (by kernel_rfl) (by kernel_rfl) (fun _ _ _ h => h) (.inl ⟨by rfl, fun wx hS => by simp [go_sem, hS.1]⟩) hS ?_
                  simp only [Act.put, List.setIfInBounds_toArray, List.set_cons_zero, List.set_cons_succ]
                  refine takeH (i := 12) (oi := _) (v := (.bool true)) (fuel := 17) (some 54) rfl rfl (by kernel_rfl) (by kernel_rfl) (by kernel_rfl) (fun _ _ _ h => h) (.inl ⟨by rfl, fun wx hS => by simp [go_sem, d3]⟩) hS ?_
                  simp only [Act.put, List.setIfInBounds_toArray, List.set_cons_zero, List.set_cons_succ]
                  refine takeH (i := 13) (oi := _) (v := (.bool true)) (fuel := 16) (some 55) rfl rfl (by kernel_rfl) (by kernel_rfl) (by kernel_rfl) (fun _ _ _ h => h) (.inl ⟨by rfl, fun wx hS => by simp [go_sem]⟩) hS ?_
                  simp only [Act.put, List.setIfInBounds_toArray, List.set_cons_zero, List.set_cons_succ]
                  refine takeH (i := 14) (oi := _) (v := (.bool true)) (fuel := 15) (some 56) rfl rfl (by kernel_rfl) (by kernel_rfl) (by kernel_rfl) (fun _ _ _ h => h) (.inl ⟨by rfl, fun wx hS => by simp [go_sem]⟩) hS ?_
                  simp only [Act.put, List.setIfInBounds_toArray, List.set_cons_zero, List.set_cons_succ]
                  refine takeH (i := 15) (oi := _) (v := (.pointer (some ⟨g, 0, none⟩))) (fuel := 14) (some 57) rfl rfl (by kernel_rfl) (by kernel_rfl) (by kernel_rfl) (fun _ _ _ h => h) (.inl ⟨by rfl, fun wx hS => by simp [go_sem]⟩) hS ?_
                  simp only [Act.put, List.setIfInBounds_toArray, List.set_cons_zero, List.set_cons_succ]
                  refine takeH (i := 16) (oi := _) (v := (.slice (some ⟨b1, o1, none⟩) n0 c0)) (fuel := 13) (some 58) rfl rfl (by kernel_rfl) (by kernel_rfl) (by kernel_rfl) (fun _ _ _ h => h) (.inl ⟨by rfl, fun wx hS => by simp [go_sem]⟩) hS ?_
                  simp only [Act.put, List.setIfInBounds_toArray, List.set_cons_zero, List.set_cons_succ]
                  refine takeH (i := 17) (oi := _) (v := (.int .i64 (k : Int))) (fuel := 12) (some 59) rfl rfl (by kernel_rfl) (by kernel_rfl) (by kernel_rfl) (fun _ _ _ h => h) (.inl ⟨by rfl, fun wx hS => by simp [go_sem]⟩) hS ?_
                  simp only [Act.put, List.setIfInBounds_toArray, List.set_cons_zero, List.set_cons_succ]
                  refine takeH (i := 18) (oi := _) (v := (.pointer (some ⟨b1, o1 + k * 5, none⟩))) (fuel := 11) (some 60) rfl rfl (by kernel_rfl) (by kernel_rfl) (by kernel_rfl) (fun _ _ _ h => h) (.inl ⟨by rfl, fun wx hS => by simp [go_sem, hnl]⟩) hS ?_
                  simp only [Act.put, List.setIfInBounds_toArray, List.set_cons_zero, List.set_cons_succ]
                  refine takeH (i := 19) (oi := _) (v := (.pointer (some ⟨b1, o1 + k * 5 + 1, none⟩))) (fuel := 10) (some 61) rfl rfl (by kernel_rfl) (by kernel_rfl) (by kernel_rfl) (fun _ _ _ h => h) (.inl ⟨by rfl, fun wx hS => by simp [go_sem]⟩) hS ?_
                  simp only [Act.put, List.setIfInBounds_toArray, List.set_cons_zero, List.set_cons_succ]
                  refine takeH (i := 20) (oi := _) (v := (.int .i64 (m : Int))) (fuel := 9) (some 62) rfl rfl (by kernel_rfl) (by kernel_rfl) (by kernel_rfl) (fun _ _ _ h => h) (.inl ⟨by rfl, fun wx hS => by simp [go_sem, hS.1]⟩) hS ?_
                  simp only [Act.put, List.setIfInBounds_toArray, List.set_cons_zero, List.set_cons_succ]
                  refine takeH (i := 21) (oi := _) (v := (.slice (some ⟨b1, o1, none⟩) n0 c0)) (fuel := 8) (some 63) rfl rfl (by kernel_rfl) (by kernel_rfl) (by kernel_rfl) (fun _ _ _ h => h) (.inl ⟨by rfl, fun wx hS => by simp [go_sem]⟩) hS ?_
                  simp only [Act.put, List.setIfInBounds_toArray, List.set_cons_zero, List.set_cons_succ]
                  refine takeH (i := 22) (oi := _) (v := (.int .i64 (k : Int))) (fuel := 7) (some 64) rfl rfl (by kernel_rfl) (by kernel_rfl) (by kernel_rfl) (fun _ _ _ h => h) (.inl ⟨by rfl, fun wx hS => by simp [go_sem]⟩) hS ?_
                  simp only [Act.put, List.setIfInBounds_toArray, List.set_cons_zero, List.set_cons_succ]
                  refine takeH (i := 23) (oi := _) (v := (.pointer (some ⟨b1, o1 + k * 5, none⟩))) (fuel := 6) (some 65) rfl rfl (by kernel_rfl) (by kernel_rfl) (by kernel_rfl) (fun _ _ _ h => h) (.inl ⟨by rfl, fun wx hS => by simp [go_sem, hnl]⟩) hS ?_
                  simp only [Act.put, List.setIfInBounds_toArray, List.set_cons_zero, List.set_cons_succ]
                  refine takeH (i := 24) (oi := _) (v := (.pointer (some ⟨b1, o1 + k * 5 + 3, none⟩))) (fuel := 5) (some 66) rfl rfl (by kernel_rfl) (by kernel_rfl) (by kernel_rfl) (fun _ _ _ h => h) (.inl ⟨by rfl, fun wx hS => by simp [go_sem]⟩) hS ?_
                  simp only [Act.put, List.setIfInBounds_toArray, List.set_cons_zero, List.set_cons_succ]
                  refine takeH (i := 25) (oi := _) (v := (.int .u8 (xc.toNat : Int))) (fuel := 4) (some 67) rfl rfl (by kernel_rfl) (by kernel_rfl) (by kernel_rfl) (fun _ _ _ h => h) (.inl ⟨by rfl, fun wx hS => by simp [go_sem, hS.2]⟩) hS ?_
                  simp only [Act.put, List.setIfInBounds_toArray, List.set_cons_zero, List.set_cons_succ]
                  refine allH [26] 26 (fuel := 3) (by kernel_rfl) ?_
                  refine callH (some 68) _ rfl rfl 12 #[.int .u8 (xc.toNat : Int), .int .i64 0] (by simp [go_sem]) (by rfl) ?_
                  refine (HSE.out wd).mono ?_
                  rintro e w3 ⟨rfl, hb3⟩
                  have hS3 : w3.cell? ⟨b1, o1 + k * 5 + 1, none⟩ = some (.int .i64 (m : Int)) ∧ w3.cell? ⟨b1, o1 + k * 5 + 3, none⟩ = some (.int .u8 (xc.toNat : Int)) :=
                    ⟨(hb3.cell (p := ⟨b1, o1 + k * 5 + 1, none⟩) (Nat.lt_of_lt_of_le hb1 hz0)).trans hS.1, (hb3.cell (p := ⟨b1, o1 + k * 5 + 3, none⟩) (Nat.lt_of_lt_of_le hb1 hz0)).trans hS.2⟩
                  refine ⟨_, rfl, hS3, ?_⟩
                  have HD3 := Lib.hid (HD0.out.later hb3)
                  have BS3 := Lib.hid (BS0.out.later hb3)
                  have HB3 := Lib.hid (HB0.out.trans (hb3.mono hz0))
                  have hz3 : L ≤ w3.heap.size := Nat.le_trans hz0 hb3.size
                  have hg3 : gS < w3.heap.size := Nat.lt_of_lt_of_le hg0 hb3.size
                  clear hS HD0 BS0 HB0 hz0 hg0 hb3
                  have hS := hS3
                  clear hS3
                  simp only [Act.put, List.setIfInBounds_toArray, List.set_cons_zero, List.set_cons_succ]
                  refine allH [27] 27 (fuel := 2) (by kernel_rfl) ?_
                  refine callH (some 69) _ rfl rfl 11 #[.pointer (some ⟨g, 0, none⟩), .int .i64 (m : Int), .string s1] (by simp [go_sem]) (by rfl) ?_
                  refine (HWR.out w3 HD3.out hz3).mono ?_
                  rintro e w4 ⟨rfl, r4, H4, T4, R4⟩
                  have hb4 : Below L w3 w4 := T4.below HGB.out.1 HGB.out.2.1 (fun q e => (HD3.out.row q e).1) hz3
                  have hS4 : w4.cell? ⟨b1, o1 + k * 5 + 1, none⟩ = some (.int .i64 (m : Int)) ∧ w4.cell? ⟨b1, o1 + k * 5 + 3, none⟩ = some (.int .u8 (xc.toNat : Int)) :=
                    ⟨(hb4.cell (p := ⟨b1, o1 + k * 5 + 1, none⟩) hb1).trans hS.1, (hb4.cell (p := ⟨b1, o1 + k * 5 + 3, none⟩) hb1).trans hS.2⟩
                  refine ⟨_, rfl, hS4, ?_⟩
                  have HD4 := Lib.hid H4
                  have BS4 := Lib.hid (T4.blk BS3.out HGS.out.2.1 HGS.out.2.2 hrS)
                  have HB4 := Lib.hid (HB3.out.trans hb4)
                  have hr4 : r4 ≠ some gS := fun e => by
                    rcases R4 gS e with h2 | h2
                    · exact hrS h2
                    · omega
                  have hz4 : L ≤ w4.heap.size := Nat.le_trans hz3 hb4.size
                  clear hS HD3 BS3 HB3 hz3 hg3 hb4 T4 R4 H4 HWR
                  have hS := hS4
                  clear hS4
                  simp only [Act.put, List.setIfInBounds_toArray, List.set_cons_zero, List.set_cons_succ]
                  refine takeH (i := 28) (oi := _) (v := (.bool true)) (fuel := 1) (some 70) rfl rfl (by kernel_rfl) (by kernel_rfl) (by kernel_rfl) (fun _ _ _ h => h) (.inl ⟨by rfl, fun wx hS => by simp [go_sem]⟩) hS ?_
                  simp only [Act.put, List.setIfInBounds_toArray, List.set_cons_zero, List.set_cons_succ]
                  refine takeH (i := 29) (oi := _) (v := (.bool true)) (fuel := 0) (some 71) rfl rfl (by kernel_rfl) (by kernel_rfl) (by kernel_rfl) (fun _ _ _ h => h) (.inl ⟨by rfl, fun wx hS => by simp [go_sem]⟩) hS ?_
                  simp only [Act.put, List.setIfInBounds_toArray, List.set_cons_zero, List.set_cons_succ]
                  refine wpAnyH_done (by kernel_rfl) ?_ 0
                  have hS0 : w4.drew.cell? ⟨b1, o1 + k * 5 + 1, none⟩ = some (.int .i64 (m : Int)) ∧ w4.drew.cell? ⟨b1, o1 + k * 5 + 3, none⟩ = some (.int .u8 (xc.toNat : Int)) := hS
                  have HD5 := Lib.hid HD4.out.drew
                  have BS5 := Lib.hid BS4.out.drew
                  have HB5 := Lib.hid HB4.out.drew
                  have hz5 : L ≤ w4.drew.heap.size := hz4
                  clear HD4 BS4 HB4 hz4 hS
                  go_wp2_with fail
                  refine wp_region_held (S := fun wx => wx.cell? ⟨b1, o1 + k * 5 + 1, none⟩ = some (.int .i64 (m : Int)) ∧ wx.cell? ⟨b1, o1 + k * 5 + 3, none⟩ = some (.int .u8 (xc.toNat : Int))) (by kernel_rfl) ?_
                  show Go.wpAnyH Try.prog Region.Mode.any _ _ _ _ _ _ w4.drew
                  generalize w4.drew = wd at hS0 HD5 BS5 HB5 hz5 ⊢
                  have hS := hS0
                  clear hS0
                  refine takeH (i := 0) (oi := _) (v := (.slice (some ⟨b1, o1, none⟩) n0 c0)) (fuel := 12) (some 72) rfl rfl (by kernel_rfl) (by kernel_rfl) (by kernel_rfl) (fun _ _ _ h => h) (.inl ⟨by rfl, fun wx hS => by simp [go_sem]⟩) hS ?_
                  simp only [Act.put, List.setIfInBounds_toArray, List.set_cons_zero, List.set_cons_succ]
                  refine takeH (i := 1) (oi := _) (v := (.int .i64 (k : Int))) (fuel := 11) (some 73) rfl rfl (by kernel_rfl) (by kernel_rfl) (by kernel_rfl) (fun _ _ _ h => h) (.inl ⟨by rfl, fun wx hS => by simp [go_sem]⟩) hS ?_
                  simp only [Act.put, List.setIfInBounds_toArray, List.set_cons_zero, List.set_cons_succ]
                  refine takeH (i := 2) (oi := _) (v := (.pointer (some ⟨b1, o1 + k * 5, none⟩))) (fuel := 10) (some 74) rfl rfl (by kernel_rfl) (by kernel_rfl) (by kernel_rfl) (fun _ _ _ h => h) (.inl ⟨by rfl, fun wx hS => by simp [go_sem, hnl]⟩) hS ?_
                  simp only [Act.put, List.setIfInBounds_toArray, List.set_cons_zero, List.set_cons_succ]
                  refine takeH (i := 3) (oi := _) (v := (.pointer (some ⟨b1, o1 + k * 5 + 1, none⟩))) (fuel := 9) (some 75) rfl rfl (by kernel_rfl) (by kernel_rfl) (by kernel_rfl) (fun _ _ _ h => h) (.inl ⟨by rfl, fun wx hS => by simp [go_sem]⟩) hS ?_
                  simp only [Act.put, List.setIfInBounds_toArray, List.set_cons_zero, List.set_cons_succ]
                  refine takeH (i := 4) (oi := _) (v := (.int .i64 (m : Int))) (fuel := 8) (some 76) rfl rfl (by kernel_rfl) (by kernel_rfl) (by kernel_rfl) (fun _ _ _ h => h) (.inl ⟨by rfl, fun wx hS => by simp [go_sem, hS.1]⟩) hS ?_
                  simp only [Act.put, List.setIfInBounds_toArray, List.set_cons_zero, List.set_cons_succ]
                  refine takeH (i := 5) (oi := _) (v := (.slice (some ⟨b1, o1, none⟩) n0 c0)) (fuel := 7) (some 77) rfl rfl (by kernel_rfl) (by kernel_rfl) (by kernel_rfl) (fun _ _ _ h => h) (.inl ⟨by rfl, fun wx hS => by simp [go_sem]⟩) hS ?_
                  simp only [Act.put, List.setIfInBounds_toArray, List.set_cons_zero, List.set_cons_succ]
                  refine takeH (i := 6) (oi := _) (v := (.int .i64 (k : Int))) (fuel := 6) (some 78) rfl rfl (by kernel_rfl) (by kernel_rfl) (by kernel_rfl) (fun _ _ _ h => h) (.inl ⟨by rfl, fun wx hS => by simp [go_sem]⟩) hS ?_
                  simp only [Act.put, List.setIfInBounds_toArray, List.set_cons_zero, List.set_cons_succ]
                  refine takeH (i := 7) (oi := _) (v := (.pointer (some ⟨b1, o1 + k * 5, none⟩))) (fuel := 5) (some 79) rfl rfl (by kernel_rfl) (by kernel_rfl) (by kernel_rfl) (fun _ _ _ h => h) (.inl ⟨by rfl, fun wx hS => by simp [go_sem, hnl]⟩) hS ?_
                  simp only [Act.put, List.setIfInBounds_toArray, List.set_cons_zero, List.set_cons_succ]
                  refine takeH (i := 8) (oi := _) (v := (.pointer (some ⟨b1, o1 + k * 5 + 3, none⟩))) (fuel := 4) (some 80) rfl rfl (by kernel_rfl) (by kernel_rfl) (by kernel_rfl) (fun _ _ _ h => h) (.inl ⟨by rfl, fun wx hS => by simp [go_sem]⟩) hS ?_
                  simp only [Act.put, List.setIfInBounds_toArray, List.set_cons_zero, List.set_cons_succ]
                  refine takeH (i := 9) (oi := _) (v := (.int .u8 (xc.toNat : Int))) (fuel := 3) (some 81) rfl rfl (by kernel_rfl) (by kernel_rfl) (by kernel_rfl) (fun _ _ _ h => h) (.inl ⟨by rfl, fun wx hS => by simp [go_sem, hS.2]⟩) hS ?_
                  simp only [Act.put, List.setIfInBounds_toArray, List.set_cons_zero, List.set_cons_succ]
                  refine allH [10] 10 (fuel := 2) (by kernel_rfl) ?_
                  refine callH (some 82) _ rfl rfl 12 #[.int .u8 (xc.toNat : Int), .int .i64 0] (by simp [go_sem]) (by rfl) ?_
                  refine (HSE.out wd).mono ?_
                  rintro e w6 ⟨rfl, hb6⟩
                  have hS6 : w6.cell? ⟨b1, o1 + k * 5 + 1, none⟩ = some (.int .i64 (m : Int)) ∧ w6.cell? ⟨b1, o1 + k * 5 + 3, none⟩ = some (.int .u8 (xc.toNat : Int)) :=
                    ⟨(hb6.cell (p := ⟨b1, o1 + k * 5 + 1, none⟩) (Nat.lt_of_lt_of_le hb1 hz5)).trans hS.1, (hb6.cell (p := ⟨b1, o1 + k * 5 + 3, none⟩) (Nat.lt_of_lt_of_le hb1 hz5)).trans hS.2⟩
                  refine ⟨_, rfl, hS6, ?_⟩
                  have HD6 := Lib.hid (HD5.out.later hb6)
                  have BS6 := Lib.hid (BS5.out.later hb6)
                  have HB6 := Lib.hid (HB5.out.trans (hb6.mono hz5))
                  have hl8 : (wasg was0 (sure.take k)).length = 8 := by rw [wasg_len]; simp [was0]
                  have cz := BS6.out.cell (sts_get (wasg was0 (sure.take k)) m (by rw [hl8]; exact hm8))
                  have fz := BS6.out.frozen m
                  clear hl8 hS HD5 BS5 HB5 hz5 hb6
                  have hbg : b1 ≠ gS := fun e => by have := HGS.out.1; omega
                  have hS7 : (w6.setCell ⟨gS, m, none⟩ (.string s1)).cell? ⟨b1, o1 + k * 5 + 1, none⟩ = some (.int .i64 (m : Int)) ∧ (w6.setCell ⟨gS, m, none⟩ (.string s1)).cell? ⟨b1, o1 + k * 5 + 3, none⟩ = some (.int .u8 (xc.toNat : Int)) :=
                    ⟨((below_sets (B := L) HGS.out.1 [.string s1] m (Below.refl L w6)).cell (p := ⟨b1, o1 + k * 5 + 1, none⟩) hb1).trans hS6.1, ((below_sets (B := L) HGS.out.1 [.string s1] m (Below.refl L w6)).cell (p := ⟨b1, o1 + k * 5 + 3, none⟩) hb1).trans hS6.2⟩
                  have hmi : ¬ (8 : Int) ≤ (m : Int) := by omega
                  have hS := hS6
                  simp only [Act.put, List.setIfInBounds_toArray, List.set_cons_zero, List.set_cons_succ]
                  refine takeH (i := 11) (oi := _) (v := (.pointer (some ⟨gS, m, none⟩))) (fuel := 1) (some 83) rfl rfl (by kernel_rfl) (by kernel_rfl) (by kernel_rfl) (fun _ _ _ h => h) (.inl ⟨by rfl, fun wx hS => by simp [go_sem, hmi]⟩) hS ?_
                  simp only [Act.put, List.setIfInBounds_toArray, List.set_cons_zero, List.set_cons_succ]
                  refine allH [12] 12 (fuel := 0) (by kernel_rfl) ?_
                  refine store1H _ rfl rfl (by rfl) 9 (.tmp 83) (.tmp 82) rfl gS m _ (.string s1) rfl rfl (fun w => by kernel_rfl) (fun cs => by simp) rfl cz fz ⟨hS7, ?_⟩
                  refine wpAnyH_done (by kernel_rfl) ?_ 0
                  clear hS6 hS7 cz fz
                  go_wp2_with fail
                  go_roundw
                  case rel => exact ⟨k + 1, by omega, by go_num, r4, hr4, Lib.hid (by rw [HTS.out, ← sts_set, ← HS1'.out]; exact BS6.out.set m _), Lib.hid (HD6.out.setFar gS m _ HGS.out.2.1 HGS.out.2.2 hr4), Lib.hid (below_sets HGS.out.1 [_] m HB6.out)⟩
                  case measure => simp [intOf]; omega
                · have d3 : decide (xa < 8) = false := decide_eq_false a1
                  rw [if_neg (show ¬ inr (xk, xa, xn, xc, xv) from fun h => a1 h.2)] at HTW HTS
                  have hS : wr.cell? ⟨b1, o1 + k * 5 + 1, none⟩ = some (.int .i64 xa) ∧ wr.cell? ⟨b1, o1 + k * 5 + 3, none⟩ = some (.int .u8 (xc.toNat : Int)) := ⟨p1, p3⟩
                  go_wp2_with fail
                  refine wp_region_held (S := fun wx => wx.cell? ⟨b1, o1 + k * 5 + 1, none⟩ = some (.int .i64 xa) ∧ wx.cell? ⟨b1, o1 + k * 5 + 3, none⟩ = some (.int .u8 (xc.toNat : Int))) (by kernel_rfl) ?_
                  show Go.wpAnyH Try.prog Region.Mode.any _ _ _ _ _ _ wr.drew
                  have hS : wr.drew.cell? ⟨b1, o1 + k * 5 + 1, none⟩ = some (.int .i64 xa) ∧ wr.drew.cell? ⟨b1, o1 + k * 5 + 3, none⟩ = some (.int .u8 (xc.toNat : Int)) := hS
                  refine takeH (i := 0) (oi := _) (v := (.slice (some ⟨b1, o1, none⟩) n0 c0)) (fuel := 29) (some 42) rfl rfl (by kernel_rfl) (by kernel_rfl) (by kernel_rfl) (fun _ _ _ h => h) (.inl ⟨by rfl, fun wx hS => by simp [go_sem]⟩) hS ?_
                  simp only [Act.put, List.setIfInBounds_toArray, List.set_cons_zero, List.set_cons_succ]
                  refine takeH (i := 1) (oi := _) (v := (.int .i64 (k : Int))) (fuel := 28) (some 43) rfl rfl (by kernel_rfl) (by kernel_rfl) (by kernel_rfl) (fun _ _ _ h => h) (.inl ⟨by rfl, fun wx hS => by simp [go_sem]⟩) hS ?_
                  simp only [Act.put, List.setIfInBounds_toArray, List.set_cons_zero, List.set_cons_succ]
                  refine takeH (i := 2) (oi := _) (v := (.pointer (some ⟨b1, o1 + k * 5, none⟩))) (fuel := 27) (some 44) rfl rfl (by kernel_rfl) (by kernel_rfl) (by kernel_rfl) (fun _ _ _ h => h) (.inl ⟨by rfl, fun wx hS => by simp [go_sem, hnl]⟩) hS ?_
                  simp only [Act.put, List.setIfInBounds_toArray, List.set_cons_zero, List.set_cons_succ]
                  refine takeH (i := 3) (oi := _) (v := (.pointer (some ⟨b1, o1 + k * 5 + 1, none⟩))) (fuel := 26) (some 45) rfl rfl (by kernel_rfl) (by kernel_rfl) (by kernel_rfl) (fun _ _ _ h => h) (.inl ⟨by rfl, fun wx hS => by simp [go_sem]⟩) hS ?_
                  simp only [Act.put, List.setIfInBounds_toArray, List.set_cons_zero, List.set_cons_succ]
                  refine takeH (i := 4) (oi := _) (v := (.int .i64 xa)) (fuel := 25) (some 46) rfl rfl (by kernel_rfl) (by kernel_rfl) (by kernel_rfl) (fun _ _ _ h => h) (.inl ⟨by rfl, fun wx hS => by simp [go_sem, hS.1]⟩) hS ?_
                  simp only [Act.put, List.setIfInBounds_toArray, List.set_cons_zero, List.set_cons_succ]
                  refine takeH (i := 5) (oi := _) (v := (.bool true)) (fuel := 24) (some 47) rfl rfl (by kernel_rfl) (by kernel_rfl) (by kernel_rfl) (fun _ _ _ h => h) (.inl ⟨by rfl, fun wx hS => by simp [go_sem, d2]⟩) hS ?_
                  simp only [Act.put, List.setIfInBounds_toArray, List.set_cons_zero, List.set_cons_succ]
                  refine takeH (i := 6) (oi := _) (v := (.bool true)) (fuel := 23) (some 48) rfl rfl (by kernel_rfl) (by kernel_rfl) (by kernel_rfl) (fun _ _ _ h => h) (.inl ⟨by rfl, fun wx hS => by simp [go_sem]⟩) hS ?_
                  simp only [Act.put, List.setIfInBounds_toArray, List.set_cons_zero, List.set_cons_succ]
                  refine takeH (i := 7) (oi := _) (v := (.slice (some ⟨b1, o1, none⟩) n0 c0)) (fuel := 22) (some 49) rfl rfl (by kernel_rfl) (by kernel_rfl) (by kernel_rfl) (fun _ _ _ h => h) (.inl ⟨by rfl, fun wx hS => by simp [go_sem]⟩) hS ?_
                  simp only [Act.put, List.setIfInBounds_toArray, List.set_cons_zero, List.set_cons_succ]
                  refine takeH (i := 8) (oi := _) (v := (.int .i64 (k : Int))) (fuel := 21) (some 50) rfl rfl (by kernel_rfl) (by kernel_rfl) (by kernel_rfl) (fun _ _ _ h => h) (.inl ⟨by rfl, fun wx hS => by simp [go_sem]⟩) hS ?_
                  simp only [Act.put, List.setIfInBounds_toArray, List.set_cons_zero, List.set_cons_succ]
                  refine takeH (i := 9) (oi := _) (v := (.pointer (some ⟨b1, o1 + k * 5, none⟩))) (fuel := 20) (some 51) rfl rfl (by kernel_rfl) (by kernel_rfl) (by kernel_rfl) (fun _ _ _ h => h) (.inl ⟨by rfl, fun wx hS => by simp [go_sem, hnl]⟩) hS ?_
                  simp only [Act.put, List.setIfInBounds_toArray, List.set_cons_zero, List.set_cons_succ]
                  refine takeH (i := 10) (oi := _) (v := (.pointer (some ⟨b1, o1 + k * 5 + 1, none⟩))) (fuel := 19) (some 52) rfl rfl (by kernel_rfl) (by kernel_rfl) (by kernel_rfl) (fun _ _ _ h => h) (.inl ⟨by rfl, fun wx hS => by simp [go_sem]⟩) hS ?_
                  simp only [Act.put, List.setIfInBounds_toArray, List.set_cons_zero, List.set_cons_succ]
                  refine takeH (i := 11) (oi := _) (v := (.int .i64 xa)) (fuel := 18) (some 53) rfl rfl (by kernel_rfl) (by kernel_rfl) (by kernel_rfl) (fun _ _ _ h => h) (.inl ⟨by rfl, fun wx hS => by simp [go_sem, hS.1]⟩) hS ?_
                  simp only [Act.put, List.setIfInBounds_toArray, List.set_cons_zero, List.set_cons_succ]
                  refine takeH (i := 12) (oi := _) (v := (.bool false)) (fuel := 17) (some 54) rfl rfl (by kernel_rfl) (by kernel_rfl) (by kernel_rfl) (fun _ _ _ h => h) (.inl ⟨by rfl, fun wx hS => by simp [go_sem, d3]⟩) hS ?_
                  simp only [Act.put, List.setIfInBounds_toArray, List.set_cons_zero, List.set_cons_succ]
                  refine takeH (i := 13) (oi := _) (v := (.bool false)) (fuel := 16) (some 55) rfl rfl (by kernel_rfl) (by kernel_rfl) (by kernel_rfl) (fun _ _ _ h => h) (.inl ⟨by rfl, fun wx hS => by simp [go_sem]⟩) hS ?_
                  simp only [Act.put, List.setIfInBounds_toArray, List.set_cons_zero, List.set_cons_succ]
                  refine takeH (i := 14) (oi := _) (v := (.bool false)) (fuel := 15) (some 56) rfl rfl (by kernel_rfl) (by kernel_rfl) (by kernel_rfl) (fun _ _ _ h => h) (.inl ⟨by rfl, fun wx hS => by simp [go_sem]⟩) hS ?_
                  simp only [Act.put, List.setIfInBounds_toArray, List.set_cons_zero, List.set_cons_succ]
                  refine takeH (i := 15) (oi := _) (v := undef) (fuel := 14) (some 57) rfl rfl (by kernel_rfl) (by kernel_rfl) (by kernel_rfl) (fun _ _ _ h => h) (.inr ⟨by rfl, rfl⟩) hS ?_
                  simp only [Act.put, List.setIfInBounds_toArray, List.set_cons_zero, List.set_cons_succ]
                  refine takeH (i := 16) (oi := _) (v := undef) (fuel := 13) (some 58) rfl rfl (by kernel_rfl) (by kernel_rfl) (by kernel_rfl) (fun _ _ _ h => h) (.inr ⟨by rfl, rfl⟩) hS ?_
                  simp only [Act.put, List.setIfInBounds_toArray, List.set_cons_zero, List.set_cons_succ]
                  refine takeH (i := 17) (oi := _) (v := undef) (fuel := 12) (some 59) rfl rfl (by kernel_rfl) (by kernel_rfl) (by kernel_rfl) (fun _ _ _ h => h) (.inr ⟨by rfl, rfl⟩) hS ?_
                  simp only [Act.put, List.setIfInBounds_toArray, List.set_cons_zero, List.set_cons_succ]
                  refine takeH (i := 18) (oi := _) (v := undef) (fuel := 11) (some 60) rfl rfl (by kernel_rfl) (by kernel_rfl) (by kernel_rfl) (fun _ _ _ h => h) (.inr ⟨by rfl, rfl⟩) hS ?_
                  simp only [Act.put, List.setIfInBounds_toArray, List.set_cons_zero, List.set_cons_succ]
                  refine takeH (i := 19) (oi := _) (v := undef) (fuel := 10) (some 61) rfl rfl (by kernel_rfl) (by kernel_rfl) (by kernel_rfl) (fun _ _ _ h => h) (.inr ⟨by rfl, rfl⟩) hS ?_
                  simp only [Act.put, List.setIfInBounds_toArray, List.set_cons_zero, List.set_cons_succ]
                  refine takeH (i := 20) (oi := _) (v := undef) (fuel := 9) (some 62) rfl rfl (by kernel_rfl) (by kernel_rfl) (by kernel_rfl) (fun _ _ _ h => h) (.inr ⟨by rfl, rfl⟩) hS ?_
                  simp only [Act.put, List.setIfInBounds_toArray, List.set_cons_zero, List.set_cons_succ]
                  refine takeH (i := 21) (oi := _) (v := undef) (fuel := 8) (some 63) rfl rfl (by kernel_rfl) (by kernel_rfl) (by kernel_rfl) (fun _ _ _ h => h) (.inr ⟨by rfl, rfl⟩) hS ?_
                  simp only [Act.put, List.setIfInBounds_toArray, List.set_cons_zero, List.set_cons_succ]
                  refine takeH (i := 22) (oi := _) (v := undef) (fuel := 7) (some 64) rfl rfl (by kernel_rfl) (by kernel_rfl) (by kernel_rfl) (fun _ _ _ h => h) (.inr ⟨by rfl, rfl⟩) hS ?_
                  simp only [Act.put, List.setIfInBounds_toArray, List.set_cons_zero, List.set_cons_succ]
                  refine takeH (i := 23) (oi := _) (v := undef) (fuel := 6) (some 65) rfl rfl (by kernel_rfl) (by kernel_rfl) (by kernel_rfl) (fun _ _ _ h => h) (.inr ⟨by rfl, rfl⟩) hS ?_
                  simp only [Act.put, List.setIfInBounds_toArray, List.set_cons_zero, List.set_cons_succ]
                  refine takeH (i := 24) (oi := _) (v := undef) (fuel := 5) (some 66) rfl rfl (by kernel_rfl) (by kernel_rfl) (by kernel_rfl) (fun _ _ _ h => h) (.inr ⟨by rfl, rfl⟩) hS ?_
                  simp only [Act.put, List.setIfInBounds_toArray, List.set_cons_zero, List.set_cons_succ]
                  refine takeH (i := 25) (oi := _) (v := undef) (fuel := 4) (some 67) rfl rfl (by kernel_rfl) (by kernel_rfl) (by kernel_rfl) (fun _ _ _ h => h) (.inr ⟨by rfl, rfl⟩) hS ?_
                  simp only [Act.put, List.setIfInBounds_toArray, List.set_cons_zero, List.set_cons_succ]
                  refine takeH (i := 26) (oi := _) (v := undef) (fuel := 3) (some 68) rfl rfl (by kernel_rfl) (by kernel_rfl) (by kernel_rfl) (fun _ _ _ h => h) (.inr ⟨by rfl, rfl⟩) hS ?_
                  simp only [Act.put, List.setIfInBounds_toArray, List.set_cons_zero, List.set_cons_succ]
                  refine takeH (i := 27) (oi := _) (v := undef) (fuel := 2) (some 69) rfl rfl (by kernel_rfl) (by kernel_rfl) (by kernel_rfl) (fun _ _ _ h => h) (.inr ⟨by rfl, rfl⟩) hS ?_
                  simp only [Act.put, List.setIfInBounds_toArray, List.set_cons_zero, List.set_cons_succ]
                  refine takeH (i := 28) (oi := _) (v := undef) (fuel := 1) (some 70) rfl rfl (by kernel_rfl) (by kernel_rfl) (by kernel_rfl) (fun _ _ _ h => h) (.inr ⟨by rfl, rfl⟩) hS ?_
                  simp only [Act.put, List.setIfInBounds_toArray, List.set_cons_zero, List.set_cons_succ]
                  refine takeH (i := 29) (oi := _) (v := (.bool false)) (fuel := 0) (some 71) rfl rfl (by kernel_rfl) (by kernel_rfl) (by kernel_rfl) (fun _ _ _ h => h) (.inl ⟨by rfl, fun wx hS => by simp [go_sem]⟩) hS ?_
                  simp only [Act.put, List.setIfInBounds_toArray, List.set_cons_zero, List.set_cons_succ]
                  refine wpAnyH_done (by kernel_rfl) ?_ 0
                  go_wp2_with fail
                  go_roundw
                  case rel => exact ⟨k + 1, by omega, by go_num, r, hrS, Lib.hid (by rw [HTS.out]; exact BS.out), Lib.hid (by rw [HTW.out]; exact HD.out.drew), Lib.hid HB.out.drew⟩
                  case measure => simp [intOf]; omega
              · have d2 : decide (0 ≤ xa) = false := decide_eq_false a0
                rw [if_neg (show ¬ inr (xk, xa, xn, xc, xv) from fun h => a0 h.1)] at HTW HTS
                have hS : wr.cell? ⟨b1, o1 + k * 5 + 1, none⟩ = some (.int .i64 xa) ∧ wr.cell? ⟨b1, o1 + k * 5 + 3, none⟩ = some (.int .u8 (xc.toNat : Int)) := ⟨p1, p3⟩
                go_wp2_with fail
                refine wp_region_held (S := fun wx => wx.cell? ⟨b1, o1 + k * 5 + 1, none⟩ = some (.int .i64 xa) ∧ wx.cell? ⟨b1, o1 + k * 5 + 3, none⟩ = some (.int .u8 (xc.toNat : Int))) (by kernel_rfl) ?_
                show Go.wpAnyH Try.prog Region.Mode.any _ _ _ _ _ _ wr.drew
                have hS : wr.drew.cell? ⟨b1, o1 + k * 5 + 1, none⟩ = some (.int .i64 xa) ∧ wr.drew.cell? ⟨b1, o1 + k * 5 + 3, none⟩ = some (.int .u8 (xc.toNat : Int)) := hS
                refine takeH (i := 0) (oi := _) (v := (.slice (some ⟨b1, o1, none⟩) n0 c0)) (fuel := 29) (some 42) rfl rfl (by kernel_rfl) (by kernel_rfl) (by kernel_rfl) (fun _ _ _ h => h) (.inl ⟨by rfl, fun wx hS => by simp [go_sem]⟩) hS ?_
                simp only [Act.put, List.setIfInBounds_toArray, List.set_cons_zero, List.set_cons_succ]
                refine takeH (i := 1) (oi := _) (v := (.int .i64 (k : Int))) (fuel := 28) (some 43) rfl rfl (by kernel_rfl) (by kernel_rfl) (by kernel_rfl) (fun _ _ _ h => h) (.inl ⟨by rfl, fun wx hS => by simp [go_sem]⟩) hS ?_
                simp only [Act.put, List.setIfInBounds_toArray, List.set_cons_zero, List.set_cons_succ]
                refine takeH (i := 2) (oi := _) (v := (.pointer (some ⟨b1, o1 + k * 5, none⟩))) (fuel := 27) (some 44) rfl rfl (by kernel_rfl) (by kernel_rfl) (by kernel_rfl) (fun _ _ _ h => h) (.inl ⟨by rfl, fun wx hS => by simp [go_sem, hnl]⟩) hS ?_
                simp only [Act.put, List.setIfInBounds_toArray, List.set_cons_zero, List.set_cons_succ]
                refine takeH (i := 3) (oi := _) (v := (.pointer (some ⟨b1, o1 + k * 5 + 1, none⟩))) (fuel := 26) (some 45) rfl rfl (by kernel_rfl) (by kernel_rfl) (by kernel_rfl) (fun _ _ _ h => h) (.inl ⟨by rfl, fun wx hS => by simp [go_sem]⟩) hS ?_
                simp only [Act.put, List.setIfInBounds_toArray, List.set_cons_zero, List.set_cons_succ]
                refine takeH (i := 4) (oi := _) (v := (.int .i64 xa)) (fuel := 25) (some 46) rfl rfl (by kernel_rfl) (by kernel_rfl) (by kernel_rfl) (fun _ _ _ h => h) (.inl ⟨by rfl, fun wx hS => by simp [go_sem, hS.1]⟩) hS ?_
                simp only [Act.put, List.setIfInBounds_toArray, List.set_cons_zero, List.set_cons_succ]
                refine takeH (i := 5) (oi := _) (v := (.bool false)) (fuel := 24) (some 47) rfl rfl (by kernel_rfl) (by kernel_rfl) (by kernel_rfl) (fun _ _ _ h => h) (.inl ⟨by rfl, fun wx hS => by simp [go_sem, d2]⟩) hS ?_
                simp only [Act.put, List.setIfInBounds_toArray, List.set_cons_zero, List.set_cons_succ]
                refine takeH (i := 6) (oi := _) (v := (.bool false)) (fuel := 23) (some 48) rfl rfl (by kernel_rfl) (by kernel_rfl) (by kernel_rfl) (fun _ _ _ h => h) (.inl ⟨by rfl, fun wx hS => by simp [go_sem]⟩) hS ?_
                simp only [Act.put, List.setIfInBounds_toArray, List.set_cons_zero, List.set_cons_succ]
                refine takeH (i := 7) (oi := _) (v := undef) (fuel := 22) (some 49) rfl rfl (by kernel_rfl) (by kernel_rfl) (by kernel_rfl) (fun _ _ _ h => h) (.inr ⟨by rfl, rfl⟩) hS ?_
                simp only [Act.put, List.setIfInBounds_toArray, List.set_cons_zero, List.set_cons_succ]
                refine takeH (i := 8) (oi := _) (v := undef) (fuel := 21) (some 50) rfl rfl (by kernel_rfl) (by kernel_rfl) (by kernel_rfl) (fun _ _ _ h => h) (.inr ⟨by rfl, rfl⟩) hS ?_
                simp only [Act.put, List.setIfInBounds_toArray, List.set_cons_zero, List.set_cons_succ]
                refine takeH (i := 9) (oi := _) (v := undef) (fuel := 20) (some 51) rfl rfl (by kernel_rfl) (by kernel_rfl) (by kernel_rfl) (fun _ _ _ h => h) (.inr ⟨by rfl, rfl⟩) hS ?_
                simp only [Act.put, List.setIfInBounds_toArray, List.set_cons_zero, List.set_cons_succ]
                refine takeH (i := 10) (oi := _) (v := undef) (fuel := 19) (some 52) rfl rfl (by kernel_rfl) (by kernel_rfl) (by kernel_rfl) (fun _ _ _ h => h) (.inr ⟨by rfl, rfl⟩) hS ?_
                simp only [Act.put, List.setIfInBounds_toArray, List.set_cons_zero, List.set_cons_succ]
                refine takeH (i := 11) (oi := _) (v := undef) (fuel := 18) (some 53) rfl rfl (by kernel_rfl) (by kernel_rfl) (by kernel_rfl) (fun _ _ _ h => h) (.inr ⟨by rfl, rfl⟩) hS ?_
                simp only [Act.put, List.setIfInBounds_toArray, List.set_cons_zero, List.set_cons_succ]
                refine takeH (i := 12) (oi := _) (v := undef) (fuel := 17) (some 54) rfl rfl (by kernel_rfl) (by kernel_rfl) (by kernel_rfl) (fun _ _ _ h => h) (.inr ⟨by rfl, rfl⟩) hS ?_
                simp only [Act.put, List.setIfInBounds_toArray, List.set_cons_zero, List.set_cons_succ]
                refine takeH (i := 13) (oi := _) (v := (.bool false)) (fuel := 16) (some 55) rfl rfl (by kernel_rfl) (by kernel_rfl) (by kernel_rfl) (fun _ _ _ h => h) (.inl ⟨by rfl, fun wx hS => by simp [go_sem]⟩) hS ?_
                simp only [Act.put, List.setIfInBounds_toArray, List.set_cons_zero, List.set_cons_succ]
                refine takeH (i := 14) (oi := _) (v := (.bool false)) (fuel := 15) (some 56) rfl rfl (by kernel_rfl) (by kernel_rfl) (by kernel_rfl) (fun _ _ _ h => h) (.inl ⟨by rfl, fun wx hS => by simp [go_sem]⟩) hS ?_
                simp only [Act.put, List.setIfInBounds_toArray, List.set_cons_zero, List.set_cons_succ]
                refine takeH (i := 15) (oi := _) (v := undef) (fuel := 14) (some 57) rfl rfl (by kernel_rfl) (by kernel_rfl) (by kernel_rfl) (fun _ _ _ h => h) (.inr ⟨by rfl, rfl⟩) hS ?_
                simp only [Act.put, List.setIfInBounds_toArray, List.set_cons_zero, List.set_cons_succ]
                refine takeH (i := 16) (oi := _) (v := undef) (fuel := 13) (some 58) rfl rfl (by kernel_rfl) (by kernel_rfl) (by kernel_rfl) (fun _ _ _ h => h) (.inr ⟨by rfl, rfl⟩) hS ?_
                simp only [Act.put, List.setIfInBounds_toArray, List.set_cons_zero, List.set_cons_succ]
                refine takeH (i := 17) (oi := _) (v := undef) (fuel := 12) (some 59) rfl rfl (by kernel_rfl) (by kernel_rfl) (by kernel_rfl) (fun _ _ _ h => h) (.inr ⟨by rfl, rfl⟩) hS ?_
                simp only [Act.put, List.setIfInBounds_toArray, List.set_cons_zero, List.set_cons_succ]
                refine takeH (i := 18) (oi := _) (v := undef) (fuel := 11) (some 60) rfl rfl (by kernel_rfl) (by kernel_rfl) (by kernel_rfl) (fun _ _ _ h => h) (.inr ⟨by rfl, rfl⟩) hS ?_
                simp only [Act.put, List.setIfInBounds_toArray, List.set_cons_zero, List.set_cons_succ]
                refine takeH (i := 19) (oi := _) (v := undef) (fuel := 10) (some 61) rfl rfl (by kernel_rfl) (by kernel_rfl) (by kernel_rfl) (fun _ _ _ h => h) (.inr ⟨by rfl, rfl⟩) hS ?_
                simp only [Act.put, List.setIfInBounds_toArray, List.set_cons_zero, List.set_cons_succ]
                refine takeH (i := 20) (oi := _) (v := undef) (fuel := 9) (some 62) rfl rfl (by kernel_rfl) (by kernel_rfl) (by kernel_rfl) (fun _ _ _ h => h) (.inr ⟨by rfl, rfl⟩) hS ?_
                simp only [Act.put, List.setIfInBounds_toArray, List.set_cons_zero, List.set_cons_succ]
                refine takeH (i := 21) (oi := _) (v := undef) (fuel := 8) (some 63) rfl rfl (by kernel_rfl) (by kernel_rfl) (by kernel_rfl) (fun _ _ _ h => h) (.inr ⟨by rfl, rfl⟩) hS ?_
                simp only [Act.put, List.setIfInBounds_toArray, List.set_cons_zero, List.set_cons_succ]
                refine takeH (i := 22) (oi := _) (v := undef) (fuel := 7) (some 64) rfl rfl (by kernel_rfl) (by kernel_rfl) (by kernel_rfl) (fun _ _ _ h => h) (.inr ⟨by rfl, rfl⟩) hS ?_
                simp only [Act.put, List.setIfInBounds_toArray, List.set_cons_zero, List.set_cons_succ]
                refine takeH (i := 23) (oi := _) (v := undef) (fuel := 6) (some 65) rfl rfl (by kernel_rfl) (by kernel_rfl) (by kernel_rfl) (fun _ _ _ h => h) (.inr ⟨by rfl, rfl⟩) hS ?_
                simp only [Act.put, List.setIfInBounds_toArray, List.set_cons_zero, List.set_cons_succ]
                refine takeH (i := 24) (oi := _) (v := undef) (fuel := 5) (some 66) rfl rfl (by kernel_rfl) (by kernel_rfl) (by kernel_rfl) (fun _ _ _ h => h) (.inr ⟨by rfl, rfl⟩) hS ?_
                simp only [Act.put, List.setIfInBounds_toArray, List.set_cons_zero, List.set_cons_succ]
                refine takeH (i := 25) (oi := _) (v := undef) (fuel := 4) (some 67) rfl rfl (by kernel_rfl) (by kernel_rfl) (by kernel_rfl) (fun _ _ _ h => h) (.inr ⟨by rfl, rfl⟩) hS ?_
                simp only [Act.put, List.setIfInBounds_toArray, List.set_cons_zero, List.set_cons_succ]
                refine takeH (i := 26) (oi := _) (v := undef) (fuel := 3) (some 68) rfl rfl (by kernel_rfl) (by kernel_rfl) (by kernel_rfl) (fun _ _ _ h => h) (.inr ⟨by rfl, rfl⟩) hS ?_
                simp only [Act.put, List.setIfInBounds_toArray, List.set_cons_zero, List.set_cons_succ]
                refine takeH (i := 27) (oi := _) (v := undef) (fuel := 2) (some 69) rfl rfl (by kernel_rfl) (by kernel_rfl) (by kernel_rfl) (fun _ _ _ h => h) (.inr ⟨by rfl, rfl⟩) hS ?_
                simp only [Act.put, List.setIfInBounds_toArray, List.set_cons_zero, List.set_cons_succ]
                refine takeH (i := 28) (oi := _) (v := undef) (fuel := 1) (some 70) rfl rfl (by kernel_rfl) (by kernel_rfl) (by kernel_rfl) (fun _ _ _ h => h) (.inr ⟨by rfl, rfl⟩) hS ?_
                simp only [Act.put, List.setIfInBounds_toArray, List.set_cons_zero, List.set_cons_succ]
                refine takeH (i := 29) (oi := _) (v := (.bool false)) (fuel := 0) (some 71) rfl rfl (by kernel_rfl) (by kernel_rfl) (by kernel_rfl) (fun _ _ _ h => h) (.inl ⟨by rfl, fun wx hS => by simp [go_sem]⟩) hS ?_
                simp only [Act.put, List.setIfInBounds_toArray, List.set_cons_zero, List.set_cons_succ]
                refine wpAnyH_done (by kernel_rfl) ?_ 0
                go_wp2_with fail
                go_roundw
                case rel => exact ⟨k + 1, by omega, by go_num, r, hrS, Lib.hid (by rw [HTS.out]; exact BS.out), Lib.hid (by rw [HTW.out]; exact HD.out.drew), Lib.hid HB.out.drew⟩
                case measure => simp [intOf]; omega
            · obtain rfl : k = n0 := by omega
              have d1 : decide ((k : Int) < (k : Int)) = false := by simp
              rw [← HN0.out, List.take_length] at BS HD
              obtain ⟨Wf, hWf⟩ : ∃ Wf, Wf = wasg was0 sure := ⟨_, rfl⟩
              have HW8 : Hid (Wf.length = 8) := Lib.hid (by rw [hWf, wasg_len]; simp [was0])
              obtain ⟨Sf, hSf⟩ : ∃ Sf, Sf = dkeep keep 0 (Wf.map scf) (wl rest) := ⟨_, rfl⟩
              have HKO : Hid (∀ (j : Nat) (_ : j < 8) (s : List UInt8) (e : Int), dread (kd Sf []) (j : Int) = (s, e) → okf (decide (s = Wf.getD j [])) s e rest j = true ∧ (tch rest j = false → e = 0)) := Lib.hid (fun j hj s e h => by
                rw [hSf, hWf] at h
                rw [hWf]
                exact keeps_ok sure rest keep j hj s e h)
              rw [← hWf] at BS
              have HWF := Lib.hid hWf
              have HSF := Lib.hid hSf
              clear hWf hSf hk hlt
              have HSY : Hid (Calls Try.prog 13 #[.pointer (some ⟨g, 0, none⟩)] wr fun e w' => e = .returned (.int .i64 0) ∧ ∃ r', DkAt w' L g b r' (kd (Wf.map scf) []) ∧ Turn3 wr w' g b r ∧ RowN wr r r') := Lib.hid (by
                have := sync_any L g b r (kd (was0.map scf) (wl sure)) wr HD.out (kd_in (by simp [was0]) sure) (by unfold kd; simp) (Nat.le_trans (wl_len _) (by have := HN0.out; omega)) (Nat.le_trans (Nat.le_of_eq HLL.out) HB.out.size)
                rw [kd_sync, dall_was, ← HWF.out] at this
                exact this)
              go_wp2_with fail
              refine HSY.out.mono ?_
              rintro e w5 ⟨rfl, r5, H5, T5, R5⟩
              have hzr : L ≤ wr.heap.size := Nat.le_trans (Nat.le_of_eq HLL.out) HB.out.size
              have hb5 : Below L wr w5 := T5.below HGB.out.1 HGB.out.2.1 (fun q e => (HD.out.row q e).1) hzr
              have hr5 : r5 ≠ some gS := fun e => by
                rcases R5 gS e with h2 | h2
                · exact hrS h2
                · have := BS.out.lt; omega
              have HB5 := Lib.hid (HB.out.trans hb5)
              have BS5 := Lib.hid (T5.blk BS.out HGS.out.2.1 HGS.out.2.2 hrS)
              have HD5 := Lib.hid H5
              clear HSY BS HD HB hb5 T5 R5 H5 hzr HS0
              go_wp2_with fail
              go_loopw [11] (fun i wr => ∃ k : Nat, k ≤ n1 ∧ i = .int .i64 (k : Int) ∧ ∃ r, r ≠ some gS ∧ Hid (Blk wr gS (sts Wf)) ∧ Hid (DkAt wr L g b r (kd (Wf.map scf) (wl (rest.take k)))) ∧ Hid (Below L w wr)) (fun i _ => n1 - (intOf i).toNat)
              case atStart => exact ⟨0, by omega, rfl, r5, hr5, BS5, HD5, HB5⟩
              case round =>
                clear BS5 HD5 HB5 hr5 r5 hrS r
                obtain ⟨k, hk, rfl, r, hrS, BS, HD, HB⟩ := hrel
                by_cases hlt : k < n1
                · have d1 : decide ((k : Int) < (n1 : Int)) = true := decide_eq_true (by omega)
                  have hkl : k < rest.length := by rw [HN1.out]; exact hlt
                  have hnl : ¬ n1 ≤ k := Nat.not_le.2 hlt
                  obtain ⟨b1, o1, e1, hb1, hr1⟩ := sees_rw (ax_len _) (HS1.out.below HB.out) (by decide : 0 < 5) k hkl
                  subst e1
                  obtain ⟨x, hx⟩ : ∃ x, x = rest[k] := ⟨_, rfl⟩
                  rw [← hx] at hr1
                  have HX := Lib.hid hx
                  clear hx
                  have HTW := Lib.hid (wl_take rest k hkl)
                  rw [← HX.out] at HTW
                  obtain ⟨xk, xa, xn, xc, xv⟩ := x
                  have hS : wr.drew.cell? ⟨b1, o1 + k * 5 + 1, none⟩ = some (.int .i64 xa) ∧ wr.drew.cell? ⟨b1, o1 + k * 5 + 3, none⟩ = some (.int .u8 (xc.toNat : Int)) := ⟨hr1 1 _ rfl, hr1 3 _ rfl⟩
                  obtain ⟨s1, hs1⟩ : ∃ s1, s1 = str (fil 64 xc) := ⟨_, rfl⟩
                  have HSE : Hid (∀ wx, Calls Try.prog 12 #[.int .u8 (xc.toNat : Int), .int .i64 0] wx fun e w' => e = .returned (.string s1) ∧ Below wx.heap.size wx w') := Lib.hid (fun wx => by
                    rw [hs1]
                    exact sect_any xc 0 wx)
                  have hlen : (wl (rest.take k)).length ≤ 65536 := Nat.le_trans (wl_len _) (by rw [List.length_take]; omega)
                  obtain ⟨ez, hez⟩ : ∃ ez : Int, ez = if inr (xk, xa, xn, xc, xv) then 0 else 1 := ⟨_, rfl⟩
                  have HWR : Hid (∀ wx, DkAt wx L g b r (kd (Wf.map scf) (wl (rest.take k))) → L ≤ wx.heap.size → Calls Try.prog 11 #[.pointer (some ⟨g, 0, none⟩), .int .i64 xa, .string s1] wx fun e w' => e = .returned (.int .i64 ez) ∧ ∃ r', DkAt w' L g b r' (kd (Wf.map scf) (wl (rest.take (k + 1)))) ∧ Turn3 wx w' g b r ∧ RowN wx r r') := Lib.hid (fun wx h hl => by
                    have := write_kd L g b r (Wf.map scf) (by rw [List.length_map]; exact HW8.out) _ hlen (xk, xa, xn, xc, xv) wx h hl
                    rw [← HTW.out, ← hez] at this
                    rw [hs1]
                    exact this)
                  clear hs1 hr1 hez hlen HTW
                  have hzr : L ≤ wr.heap.size := Nat.le_trans (Nat.le_of_eq HLL.out) HB.out.size
                  have hgr : gS < wr.heap.size := BS.out.lt
                  have HD0 := Lib.hid HD.out.drew
                  have BS0 := Lib.hid BS.out.drew
                  have HB0 := Lib.hid HB.out.drew
                  have hz0 : L ≤ wr.drew.heap.size := hzr
                  have hg0 : gS < wr.drew.heap.size := hgr
                  go_wp2_with fail
                  refine wp_region_held (S := fun wx => wx.cell? ⟨b1, o1 + k * 5 + 1, none⟩ = some (.int .i64 xa) ∧ wx.cell? ⟨b1, o1 + k * 5 + 3, none⟩ = some (.int .u8 (xc.toNat : Int))) (by kernel_rfl) ?_
                  show Go.wpAnyH Try.prog Region.Mode.any _ _ _ _ _ _ wr.drew
                  generalize wr.drew = wd at hS HD0 BS0 HB0 hz0 hg0 ⊢
                  refine takeH (i := 0) (oi := _) (v := (.pointer (some ⟨g, 0, none⟩))) (fuel := 12) (some 93) rfl rfl (by kernel_rfl) (by kernel_rfl) (by kernel_rfl) (fun _ _ _ h => h) (.inl ⟨by rfl, fun wx hS => by simp [go_sem]⟩) hS ?_
                  simp only [Act.put, List.setIfInBounds_toArray, List.set_cons_zero, List.set_cons_succ]
                  refine takeH (i := 1) (oi := _) (v := (.slice (some ⟨b1, o1, none⟩) n1 c1)) (fuel := 11) (some 94) rfl rfl (by kernel_rfl) (by kernel_rfl) (by kernel_rfl) (fun _ _ _ h => h) (.inl ⟨by rfl, fun wx hS => by simp [go_sem]⟩) hS ?_
                  simp only [Act.put, List.setIfInBounds_toArray, List.set_cons_zero, List.set_cons_succ]
                  refine takeH (i := 2) (oi := _) (v := (.int .i64 (k : Int))) (fuel := 10) (some 95) rfl rfl (by kernel_rfl) (by kernel_rfl) (by kernel_rfl) (fun _ _ _ h => h) (.inl ⟨by rfl, fun wx hS => by simp [go_sem]⟩) hS ?_
                  simp only [Act.put, List.setIfInBounds_toArray, List.set_cons_zero, List.set_cons_succ]
                  refine takeH (i := 3) (oi := _) (v := (.pointer (some ⟨b1, o1 + k * 5, none⟩))) (fuel := 9) (some 96) rfl rfl (by kernel_rfl) (by kernel_rfl) (by kernel_rfl) (fun _ _ _ h => h) (.inl ⟨by rfl, fun wx hS => by simp [go_sem, hnl]⟩) hS ?_
                  simp only [Act.put, List.setIfInBounds_toArray, List.set_cons_zero, List.set_cons_succ]
                  refine takeH (i := 4) (oi := _) (v := (.pointer (some ⟨b1, o1 + k * 5 + 1, none⟩))) (fuel := 8) (some 97) rfl rfl (by kernel_rfl) (by kernel_rfl) (by kernel_rfl) (fun _ _ _ h => h) (.inl ⟨by rfl, fun wx hS => by simp [go_sem]⟩) hS ?_
                  simp only [Act.put, List.setIfInBounds_toArray, List.set_cons_zero, List.set_cons_succ]
                  refine takeH (i := 5) (oi := _) (v := (.int .i64 xa)) (fuel := 7) (some 98) rfl rfl (by kernel_rfl) (by kernel_rfl) (by kernel_rfl) (fun _ _ _ h => h) (.inl ⟨by rfl, fun wx hS => by simp [go_sem, hS.1]⟩) hS ?_
                  simp only [Act.put, List.setIfInBounds_toArray, List.set_cons_zero, List.set_cons_succ]
                  refine takeH (i := 6) (oi := _) (v := (.slice (some ⟨b1, o1, none⟩) n1 c1)) (fuel := 6) (some 99) rfl rfl (by kernel_rfl) (by kernel_rfl) (by kernel_rfl) (fun _ _ _ h => h) (.inl ⟨by rfl, fun wx hS => by simp [go_sem]⟩) hS ?_
                  simp only [Act.put, List.setIfInBounds_toArray, List.set_cons_zero, List.set_cons_succ]
                  refine takeH (i := 7) (oi := _) (v := (.int .i64 (k : Int))) (fuel := 5) (some 100) rfl rfl (by kernel_rfl) (by kernel_rfl) (by kernel_rfl) (fun _ _ _ h => h) (.inl ⟨by rfl, fun wx hS => by simp [go_sem]⟩) hS ?_
                  simp only [Act.put, List.setIfInBounds_toArray, List.set_cons_zero, List.set_cons_succ]
                  refine takeH (i := 8) (oi := _) (v := (.pointer (some ⟨b1, o1 + k * 5, none⟩))) (fuel := 4) (some 101) rfl rfl (by kernel_rfl) (by kernel_rfl) (by kernel_rfl) (fun _ _ _ h => h) (.inl ⟨by rfl, fun wx hS => by simp [go_sem, hnl]⟩) hS ?_
                  simp only [Act.put, List.setIfInBounds_toArray, List.set_cons_zero, List.set_cons_succ]
                  refine takeH (i := 9) (oi := _) (v := (.pointer (some ⟨b1, o1 + k * 5 + 3, none⟩))) (fuel := 3) (some 102) rfl rfl (by kernel_rfl) (by kernel_rfl) (by kernel_rfl) (fun _ _ _ h => h) (.inl ⟨by rfl, fun wx hS => by simp [go_sem]⟩) hS ?_
                  simp only [Act.put, List.setIfInBounds_toArray, List.set_cons_zero, List.set_cons_succ]
                  refine takeH (i := 10) (oi := _) (v := (.int .u8 (xc.toNat : Int))) (fuel := 2) (some 103) rfl rfl (by kernel_rfl) (by kernel_rfl) (by kernel_rfl) (fun _ _ _ h => h) (.inl ⟨by rfl, fun wx hS => by simp [go_sem, hS.2]⟩) hS ?_
                  simp only [Act.put, List.setIfInBounds_toArray, List.set_cons_zero, List.set_cons_succ]
                  refine allH [11] 11 (fuel := 1) (by kernel_rfl) ?_
                  refine callH (some 104) _ rfl rfl 12 #[.int .u8 (xc.toNat : Int), .int .i64 0] (by simp [go_sem]) (by rfl) ?_
                  refine (HSE.out wd).mono ?_
                  rintro e w3 ⟨rfl, hb3⟩
                  have hS3 : w3.cell? ⟨b1, o1 + k * 5 + 1, none⟩ = some (.int .i64 xa) ∧ w3.cell? ⟨b1, o1 + k * 5 + 3, none⟩ = some (.int .u8 (xc.toNat : Int)) :=
                    ⟨(hb3.cell (p := ⟨b1, o1 + k * 5 + 1, none⟩) (Nat.lt_of_lt_of_le hb1 hz0)).trans hS.1, (hb3.cell (p := ⟨b1, o1 + k * 5 + 3, none⟩) (Nat.lt_of_lt_of_le hb1 hz0)).trans hS.2⟩
                  refine ⟨_, rfl, hS3, ?_⟩
                  have HD3 := Lib.hid (HD0.out.later hb3)
                  have BS3 := Lib.hid (BS0.out.later hb3)
                  have HB3 := Lib.hid (HB0.out.trans (hb3.mono hz0))
                  have hz3 : L ≤ w3.heap.size := Nat.le_trans hz0 hb3.size
                  have hg3 : gS < w3.heap.size := Nat.lt_of_lt_of_le hg0 hb3.size
                  clear hS HD0 BS0 HB0 hz0 hg0 hb3
                  have hS := hS3
                  clear hS3
                  simp only [Act.put, List.setIfInBounds_toArray, List.set_cons_zero, List.set_cons_succ]
                  refine allH [12] 12 (fuel := 0) (by kernel_rfl) ?_
                  refine callH (some 105) _ rfl rfl 11 #[.pointer (some ⟨g, 0, none⟩), .int .i64 xa, .string s1] (by simp [go_sem]) (by rfl) ?_
                  refine (HWR.out w3 HD3.out hz3).mono ?_
                  rintro e w4 ⟨rfl, r4, H4, T4, R4⟩
                  have hb4 : Below L w3 w4 := T4.below HGB.out.1 HGB.out.2.1 (fun q e => (HD3.out.row q e).1) hz3
                  have hS4 : w4.cell? ⟨b1, o1 + k * 5 + 1, none⟩ = some (.int .i64 xa) ∧ w4.cell? ⟨b1, o1 + k * 5 + 3, none⟩ = some (.int .u8 (xc.toNat : Int)) :=
                    ⟨(hb4.cell (p := ⟨b1, o1 + k * 5 + 1, none⟩) hb1).trans hS.1, (hb4.cell (p := ⟨b1, o1 + k * 5 + 3, none⟩) hb1).trans hS.2⟩
                  refine ⟨_, rfl, hS4, ?_⟩
                  have HD4 := Lib.hid H4
                  have BS4 := Lib.hid (T4.blk BS3.out HGS.out.2.1 HGS.out.2.2 hrS)
                  have HB4 := Lib.hid (HB3.out.trans hb4)
                  have hr4 : r4 ≠ some gS := fun e => by
                    rcases R4 gS e with h2 | h2
                    · exact hrS h2
                    · omega
                  clear hS HD3 BS3 HB3 hz3 hg3 hb4 T4 R4 H4 HWR hS4
                  simp only [Act.put, List.setIfInBounds_toArray, List.set_cons_zero, List.set_cons_succ]
                  refine wpAnyH_done (by kernel_rfl) ?_ 0
                  go_wp2_with fail
                  go_roundw
                  case rel => exact ⟨k + 1, by omega, by go_num, r4, hr4, BS4, HD4, HB4⟩
                  case measure => simp [intOf]; omega
                · obtain rfl : n1 = k := by omega
                  have d1 : decide ((n1 : Int) < (n1 : Int)) = false := by simp
                  rw [← HN1.out, List.take_length] at HD
                  clear hk hlt
                  have hzr : L ≤ wr.heap.size := Nat.le_trans (Nat.le_of_eq HLL.out) HB.out.size
                  have HCR : Hid (Calls Try.prog 15 #[.pointer (some ⟨g, 0, none⟩), .slice A2 n2 c2] wr fun e w' => e = .returned (.tuple #[]) ∧ DkAt w' L g b none (kd Sf []) ∧ Turn3 wr w' g b r) := Lib.hid (by
                    have hs : Sees wr L A2 (ivs keep) := HS2.out.below HB.out
                    have := crash_any L g b r (kd (Wf.map scf) (wl rest)) A2 n2 c2 keep wr HD.out (kd_in (by rw [List.length_map]; exact HW8.out) rest) (Nat.le_trans (wl_len _) (by have := HN1.out; omega)) hzr HN2.out (Nat.le_trans hn2 hm2) (fun W hT => sees_turn hs hzr hT (fun q o e hp e2 => by
                      obtain ⟨q', o', e', hq, _⟩ := hs hp
                      rw [e] at e'
                      injection e' with e'
                      injection e' with e'
                      have := HGB.out.2.1
                      omega))
                    rw [kd_crash, ← HSF.out] at this
                    exact this)
                  go_wp2_with fail
                  refine HCR.out.mono ?_
                  rintro e w6 ⟨rfl, H6, T6⟩
                  have HB6 := Lib.hid (HB.out.trans (T6.below HGB.out.1 HGB.out.2.1 (fun q e => (HD.out.row q e).1) hzr))
                  have BS6 := Lib.hid (T6.blk BS.out HGS.out.2.1 HGS.out.2.2 hrS)
                  have HD6 := Lib.hid H6
                  clear HCR BS HD HB T6 H6 hzr hrS r HS2
                  go_wp2_with fail
                  go_loopw [12] (fun i wr => ∃ k : Nat, k ≤ 8 ∧ i = .int .i64 (k : Int) ∧ Hid (Blk wr gS (sts Wf)) ∧ Hid (DkAt wr L g b none (kd Sf [])) ∧ Hid (Below L w wr)) (fun i _ => 8 - (intOf i).toNat)
                  case atStart => exact ⟨0, by omega, rfl, BS6, HD6, HB6⟩
                  case round =>
                    clear BS6 HD6 HB6
                    obtain ⟨k, hk, rfl, BS, HD, HB⟩ := hrel
                    by_cases hlt : k < 8
                    · have d1 : decide ((k : Int) < 8) = true := decide_eq_true (by omega)
                      have hkS : k < Wf.length := by rw [HW8.out]; exact hlt
                      obtain ⟨⟨s, ev⟩, hse⟩ : ∃ p, dread (kd Sf []) (k : Int) = p := ⟨_, rfl⟩
                      have HK := Lib.hid (HKO.out k hlt s ev hse)
                      have hrd := read_any L g b none (kd Sf []) (k : Int) wr HD.out (by simp [kd])
                      rw [hse] at hrd
                      dsimp only at hrd
                      obtain ⟨sv, hsv⟩ : ∃ sv, sv = str s := ⟨_, rfl⟩
                      rw [← hsv] at hrd
                      have HRD := Lib.hid hrd
                      obtain ⟨tv, htv⟩ : ∃ tv, tv = str (Wf.getD k []) := ⟨_, rfl⟩
                      obtain ⟨ok0, hok0⟩ : ∃ ok0, ok0 = decide (s = Wf.getD k []) := ⟨_, rfl⟩
                      have hq0 : (sv.toList == tv.toList) = ok0 := by
                        rw [hsv, htv, hok0, str_list, str_list, Bool.eq_iff_iff]
                        simp
                      have HSV := Lib.hid hsv
                      rw [← hok0] at HK
                      clear hse hrd hsv hok0
                      go_wp2_with fail
                      refine HRD.out.mono ?_
                      rintro e w7 ⟨rfl, hb7⟩
                      have BS7 := BS.out.later hb7
                      have ct := BS7.cell (sts_get Wf k hkS)
                      rw [← htv] at ct
                      have BS7 := Lib.hid BS7
                      have HD7 := Lib.hid (HD.out.later hb7)
                      have HB7 := Lib.hid (HB.out.trans (hb7.mono (Nat.le_trans (Nat.le_of_eq HLL.out) HB.out.size)))
                      clear HRD BS HD HB hb7 htv hkS
                      go_wp2_with fail
                      clear ct hq0
                      go_loopw [15, 16, 17] (fun v15 v16 i wq => ∃ j : Nat, j ≤ n1 ∧ i = .int .i64 (j : Int) ∧ v15 = .bool (okf ok0 s ev (rest.take j) k) ∧ v16 = .bool (tch (rest.take j) k) ∧ Hid (Blk wq gS (sts Wf)) ∧ Hid (DkAt wq L g b none (kd Sf [])) ∧ Hid (Below L w wq)) (fun _ _ i _ => n1 - (intOf i).toNat)
                      case atStart => exact ⟨0, by omega, rfl, by simp [okf], by simp [tch], BS7, HD7, HB7⟩
                      case round =>
                        clear BS7 HD7 HB7
                        obtain ⟨j, hj, rfl, rfl, rfl, BS, HD, HB⟩ := hrel
                        by_cases hlj : j < n1
                        · have d2 : decide ((j : Int) < (n1 : Int)) = true := decide_eq_true (by omega)
                          have hjl : j < rest.length := by rw [HN1.out]; exact hlj
                          obtain ⟨b1, o1, e1, hb1, hr1⟩ := sees_rw (ax_len _) (HS1.out.below HB.out) (by decide : 0 < 5) j hjl
                          subst e1
                          obtain ⟨x, hx⟩ : ∃ x, x = rest[j] := ⟨_, rfl⟩
                          rw [← hx] at hr1
                          have hok := okf_take ok0 s ev rest k j hjl
                          have htc := tch_take rest k j hjl
                          rw [← hx] at hok htc
                          clear hx
                          obtain ⟨xk, xa, xn, xc, xv⟩ := x
                          dsimp only at hok htc
                          generalize okf ok0 s ev (rest.take j) k = ob at hok ⊢
                          generalize tch (rest.take j) k = tb at htc ⊢
                          have p1 : wr.cell? ⟨b1, o1 + j * 5 + 1, none⟩ = some (.int .i64 xa) := hr1 1 _ rfl
                          have p3 : wr.cell? ⟨b1, o1 + j * 5 + 3, none⟩ = some (.int .u8 (xc.toNat : Int)) := hr1 3 _ rfl
                          obtain ⟨s1, hs1⟩ : ∃ s1, s1 = str (fil 64 xc) := ⟨_, rfl⟩
                          have HSE : Hid (∀ wx, Calls Try.prog 12 #[.int .u8 (xc.toNat : Int), .int .i64 0] wx fun e w' => e = .returned (.string s1) ∧ Below wx.heap.size wx w') := Lib.hid (fun wx => by
                            rw [hs1]
                            exact sect_any xc 0 wx)
                          have HQ : Hid ((sv.toList == s1.toList) = decide (s = fil 64 xc)) := Lib.hid (by
                            rw [hs1, HSV.out, str_list, str_list, Bool.eq_iff_iff]
                            simp)
                          clear hs1 hr1
                          by_cases hxa : xa = (k : Int)
                          · subst hxa
                            rw [decide_eq_true rfl, Bool.or_true] at htc
                            have HTC := Lib.hid htc
                            cases ob with
                            | true =>
                              have HOK := Lib.hid (hok.trans (Bool.true_or _))
                              clear hok htc HQ
                              go_wp2_with fail
                              go_roundw
                              case rel => exact ⟨j + 1, by omega, by go_num, by rw [HOK.out], by rw [HTC.out], BS, HD, HB⟩
                              case measure => simp [intOf]; omega
                            | false =>
                              rw [Bool.false_or] at hok
                              by_cases hs : s = fil 64 xc
                              · have HOK := Lib.hid (hok.trans (decide_eq_true ⟨rfl, .inl hs⟩))
                                have hq1 : (sv.toList == s1.toList) = true := HQ.out.trans (decide_eq_true hs)
                                clear hok htc HQ hs
                                go_wp2_with fail
                                refine (HSE.out wr).mono ?_
                                rintro e w8 ⟨rfl, hb8⟩
                                have HB8 := Lib.hid (HB.out.trans (hb8.mono (Nat.le_trans (Nat.le_of_eq HLL.out) HB.out.size)))
                                have BS8 := Lib.hid (BS.out.later hb8)
                                have HD8 := Lib.hid (HD.out.later hb8)
                                clear hb8 BS HD HB
                                go_wp2_with fail
                                go_roundw
                                case rel => exact ⟨j + 1, by omega, by go_num, by rw [HOK.out], by rw [HTC.out], BS8, HD8, HB8⟩
                                case measure => simp [intOf]; omega
                              · have hq1 : (sv.toList == s1.toList) = false := HQ.out.trans (decide_eq_false hs)
                                by_cases he : ev = 16
                                · have HOK := Lib.hid (hok.trans (decide_eq_true ⟨rfl, .inr he⟩))
                                  subst he
                                  clear hok htc HQ hs
                                  go_wp2_with fail
                                  refine (HSE.out wr).mono ?_
                                  rintro e w8 ⟨rfl, hb8⟩
                                  have HB8 := Lib.hid (HB.out.trans (hb8.mono (Nat.le_trans (Nat.le_of_eq HLL.out) HB.out.size)))
                                  have BS8 := Lib.hid (BS.out.later hb8)
                                  have HD8 := Lib.hid (HD.out.later hb8)
                                  clear hb8 BS HD HB
                                  go_wp2_with fail
                                  go_roundw
                                  case rel => exact ⟨j + 1, by omega, by go_num, by rw [HOK.out], by rw [HTC.out], BS8, HD8, HB8⟩
                                  case measure => simp [intOf]; omega
                                · have HOK := Lib.hid (hok.trans (decide_eq_false (fun h => h.2.elim hs he)))
                                  have hq2 : (ev == 16) = false := by rw [beq_eq_false_iff_ne]; exact he
                                  clear hok htc HQ hs he
                                  go_wp2_with fail
                                  refine (HSE.out wr).mono ?_
                                  rintro e w8 ⟨rfl, hb8⟩
                                  have HB8 := Lib.hid (HB.out.trans (hb8.mono (Nat.le_trans (Nat.le_of_eq HLL.out) HB.out.size)))
                                  have BS8 := Lib.hid (BS.out.later hb8)
                                  have HD8 := Lib.hid (HD.out.later hb8)
                                  clear hb8 BS HD HB
                                  go_wp2_with fail
                                  go_roundw
                                  case rel => exact ⟨j + 1, by omega, by go_num, by rw [HOK.out], by rw [HTC.out], BS8, HD8, HB8⟩
                                  case measure => simp [intOf]; omega
                          · have ne : (xa == (k : Int)) = false := by rw [beq_eq_false_iff_ne]; exact hxa
                            have HTC := Lib.hid (htc.trans (by rw [decide_eq_false hxa, Bool.or_false]))
                            have HOK := Lib.hid (hok.trans (by rw [decide_eq_false (fun h => hxa h.1), Bool.or_false]))
                            clear hok htc hxa HQ
                            go_wp2_with fail
                            go_roundw
                            case rel => exact ⟨j + 1, by omega, by go_num, by rw [HOK.out], by rw [HTC.out], BS, HD, HB⟩
                            case measure => simp [intOf]; omega
                        · obtain rfl : n1 = j := by omega
                          have d2 : decide ((n1 : Int) < (n1 : Int)) = false := by simp
                          have e15 : rest.take n1 = rest := by rw [← HN1.out]; exact List.take_length
                          rw [e15, HK.out.1]
                          have hk2 := HK.out.2
                          clear e15 hj hlj
                          generalize tch rest k = tb at hk2 ⊢
                          cases tb with
                          | true =>
                            clear hk2 HK
                            go_wp2_with fail
                            go_roundw
                            case rel => exact ⟨k + 1, by omega, by go_num, BS, HD, HB⟩
                            case measure => simp [intOf]; omega
                          | false =>
                            have hv := hk2 rfl
                            subst hv
                            clear hk2 HK
                            go_wp2_with fail
                            go_roundw
                            case rel => exact ⟨k + 1, by omega, by go_num, BS, HD, HB⟩
                            case measure => simp [intOf]; omega
                    · have hk8 : k = 8 := by omega
                      have d1 : decide ((k : Int) < 8) = false := decide_eq_false (by omega)
                      clear hlt hk hk8
                      have HDE : Hid (∀ wx, DkAt wx L g b none (kd Sf []) → Calls Try.prog 18 #[.pointer (some ⟨g, 0, none⟩)] wx fun e w' => e = .returned (.bool false) ∧ wx = w') := Lib.hid (fun wx h => dead_any L g b none (kd Sf []) wx h)
                      have HWT : Hid (∀ wx, DkAt wx L g b none (kd Sf []) → Calls Try.prog 19 #[.pointer (some ⟨g, 0, none⟩)] wx fun e w' => e = .returned (.int .i64 0) ∧ wx = w') := Lib.hid (fun wx h => waiting_any L g b none (kd Sf []) wx h)
                      go_wp2_with fail
                      refine (HDE.out wr HD.out).mono ?_
                      rintro e w9 ⟨rfl, rfl⟩
                      go_wp2_with fail
                      refine (HWT.out wr HD.out).mono ?_
                      rintro e w9 ⟨rfl, rfl⟩
                      go_wp2_with fail
                      refine (awake_any _).mono ?_
                      rintro e w9 ⟨rfl, hb9⟩
                      have HB9 : Hid (Below L w w9) := Lib.hid (HB.out.trans (hb9.mono (Nat.le_trans (Nat.le_of_eq HLL.out) HB.out.size)))
                      clear hb9
                      go_wp2_with fail
                      go_ret
                      exact ⟨rfl, by have := HB9.out; rw [HLL.out] at this; exact this⟩
    · have e1 : decide ((40 : Int) < (n1 : Int)) = true := decide_eq_true (by omega)
      go_enter Try.func4, Try.ntmps4
      go_wp2_with fail
      refine HNW2.out.mono ?_
      rintro e w1 ⟨rfl, H1, L1, z1⟩
      have HB1 := Lib.hid L1
      have HZ1 := Lib.hid z1
      clear H1 L1 z1 HNW2
      go_wp2_with fail
      refine (awake_any _).mono ?_
      rintro e w9 ⟨rfl, hb9⟩
      have hb9 := Lib.hid hb9
      go_wp2_with fail
      go_ret
      exact ⟨rfl, by have := HB1.out.trans (hb9.out.mono HZ1.out); rw [HLL.out] at this; exact this⟩
  · have e0 : decide ((40 : Int) < (n0 : Int)) = true := decide_eq_true (by omega)
    go_enter Try.func4, Try.ntmps4
    go_wp2_with fail
    refine HNW2.out.mono ?_
    rintro e w1 ⟨rfl, H1, L1, z1⟩
    have HB1 := Lib.hid L1
    have HZ1 := Lib.hid z1
    clear H1 L1 z1 HNW2
    go_wp2_with fail
    refine (awake_any _).mono ?_
    rintro e w9 ⟨rfl, hb9⟩
    have hb9 := Lib.hid hb9
    go_wp2_with fail
    go_ret
    exact ⟨rfl, by have := HB1.out.trans (hb9.out.mono HZ1.out); rw [HLL.out] at this; exact this⟩
end Go.Proofs.Ytjnfdhjnfginpaa
