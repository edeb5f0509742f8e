/- Tokens: which may come behind which. -/
import Derived.Test.YticdpfjajkfheaaDoorM4
import Derived.Test.YticdpfjajkfheaaDoorM7
import Derived.Test.YticdpfjajkfheaaDoorM6
import Derived.Test.YticdpfjajkfheaaDoorM3
namespace Go.Proofs.YticdpfjajkfheaaDoor
set_option linter.unusedVariables false
open Go Go.RowKit OctM

/-- May the second token come behind the first? -/
def tgo (d p s c d' p' s' c' : Int) : Bool := tchk d p s c && (tchk d' p' s' c' && ((d == d') && ((p == p') && (decide (s ≤ s') && decide (c ≤ c')))))
set_option maxRecDepth 100000 in
set_option maxHeartbeats 3200000 in
theorem tgoes_any (d p s c d' p' s' c' : Int) (w : World) : Calls Tryd.prog 21 #[.agg (tks d p s c).toArray, .agg (tks d' p' s' c').toArray] w fun e w' => e = .returned (.bool (tgo d p s c d' p' s' c')) ∧ Below w.heap.size w w' := by
  have HA := Lib.hid (fun wx : World => tcheck_any d p s c wx)
  have HB := Lib.hid (fun wx : World => tcheck_any d' p' s' c' wx)
  have hu := Tryd.underlying42
  have B0 := (Blk.new w (tks d p s c) 42).alloc (.cells (tks d' p' s' c').toArray 42)
  have B1 := Blk.new (w.alloc (.cells (tks d p s c).toArray 42)) (tks d' p' s' c') 42
  have hw0 := ((Below.refl w.heap.size w).alloc (Nat.le_refl _) (.cells (tks d p s c).toArray 42)).alloc (by simp) (.cells (tks d' p' s' c').toArray 42)
  have hs1 : (w.alloc (.cells (tks d p s c).toArray 42)).heap.size = w.heap.size + 1 := by simp
  rw [hs1] at B1
  have HPA : Hid (∀ wx, Blk wx w.heap.size (tks d p s c) → wx.cell? ⟨w.heap.size, 0, none⟩ = some (.int .i64 d) ∧ wx.cell? ⟨w.heap.size, 1, none⟩ = some (.int .i64 p) ∧ wx.cell? ⟨w.heap.size, 2, none⟩ = some (.int .i64 s) ∧ wx.cell? ⟨w.heap.size, 3, none⟩ = some (.int .i64 c)) := Lib.hid fun wx h => ⟨h.cell rfl, h.cell rfl, h.cell rfl, h.cell rfl⟩
  have HPB : Hid (∀ wx, Blk wx (w.heap.size + 1) (tks d' p' s' c') → wx.cell? ⟨w.heap.size + 1, 0, none⟩ = some (.int .i64 d') ∧ wx.cell? ⟨w.heap.size + 1, 1, none⟩ = some (.int .i64 p') ∧ wx.cell? ⟨w.heap.size + 1, 2, none⟩ = some (.int .i64 s') ∧ wx.cell? ⟨w.heap.size + 1, 3, none⟩ = some (.int .i64 c')) := Lib.hid fun wx h => ⟨h.cell rfl, h.cell rfl, h.cell rfl, h.cell rfl⟩
  obtain ⟨R, hR⟩ : ∃ R, R = tgo d p s c d' p' s' c' := ⟨_, rfl⟩
  rw [← hR]
  unfold tgo at hR
  obtain ⟨ok1, hok1⟩ : ∃ z, z = tchk d p s c := ⟨_, rfl⟩
  obtain ⟨ok2, hok2⟩ : ∃ z, z = tchk d' p' s' c' := ⟨_, rfl⟩
  rw [← hok1] at hR HA
  rw [← hok2] at hR HB
  obtain ⟨k1, hk1⟩ : ∃ z, (d == d') = z := ⟨_, rfl⟩
  rw [hk1] at hR
  obtain ⟨k2, hk2⟩ : ∃ z, (p == p') = z := ⟨_, rfl⟩
  rw [hk2] at hR
  obtain ⟨k3, hk3⟩ : ∃ z, decide (s ≤ s') = z := ⟨_, rfl⟩
  rw [hk3] at hR
  obtain ⟨k4, hk4⟩ : ∃ z, decide (c ≤ c') = z := ⟨_, rfl⟩
  rw [hk4] at hR
  obtain ⟨ta, hta⟩ : ∃ z, z = tks d p s c := ⟨_, rfl⟩
  obtain ⟨tb, htb⟩ : ∃ z, z = tks d' p' s' c' := ⟨_, rfl⟩
  have HLA : Hid (ta.length = 4) := Lib.hid (by rw [hta]; rfl)
  have HLB : Hid (tb.length = 4) := Lib.hid (by rw [htb]; rfl)
  rw [← hta] at B0 B1 hw0 HA HPA ⊢
  rw [← htb] at B0 B1 hw0 HB HPB ⊢
  clear hta htb hok1 hok2 hs1
  have RG := B0.range 0 ta (by rw [List.drop_zero, List.take_length])
  generalize hW : (w.alloc (.cells ta.toArray 42)).alloc (.cells tb.toArray 42) = W at *
  have HW := Lib.hid hW
  have HBW := Lib.hid hw0
  clear hW hw0
  rw [← HW.out] at RG
  cases ok1
  · have HR : Hid (R = false) := Lib.hid (by rw [hR]; rfl)
    clear hR
    go_enter Tryd.func21, Tryd.ntmps21
    go_wp2_with (first
      | (refine wpList_load_mid rfl 42 (.tmp 2) rfl w.heap.size 0 rfl ta _ RG hu rfl (by rw [HLA.out]; exact info_tok) ?_)
      | fail)
    rw [HW.out]
    refine (HA.out _).mono ?_
    rintro e w1 ⟨rfl, hb1⟩
    have D0 := B0.later hb1
    have D1 := B1.later hb1
    have hbw := HBW.out.trans (hb1.mono HBW.out.size)
    clear RG B0 B1 hb1
    go_wp2_with fail
    go_ret
    exact ⟨by rw [HR.out]; rfl, hbw⟩
  · cases ok2
    · have HR : Hid (R = false) := Lib.hid (by rw [hR]; rfl)
      clear hR
      go_enter Tryd.func21, Tryd.ntmps21
      go_wp2_with (first
        | (refine wpList_load_mid rfl 42 (.tmp 2) rfl w.heap.size 0 rfl ta _ RG hu rfl (by rw [HLA.out]; exact info_tok) ?_)
        | fail)
      rw [HW.out]
      refine (HA.out _).mono ?_
      rintro e w1 ⟨rfl, hb1⟩
      have D0 := B0.later hb1
      have D1 := B1.later hb1
      have hbw := HBW.out.trans (hb1.mono HBW.out.size)
      clear RG B0 B1 hb1
      have RG := D1.range 0 tb (by rw [List.drop_zero, List.take_length])
      go_wp2_with (first
        | (refine wpList_load_g (by rfl) 42 (.tmp 3) rfl (w.heap.size + 1) 0 rfl tb _ RG hu rfl (by rw [HLB.out]; exact info_tok) ?_)
        | fail)
      refine (HB.out _).mono ?_
      rintro e w2 ⟨rfl, hb2⟩
      obtain ⟨a0, a1, a2, a3⟩ := HPA.out _ (D0.later hb2)
      obtain ⟨b0, b1, b2, b3⟩ := HPB.out _ (D1.later hb2)
      replace hbw := hbw.trans (hb2.mono hbw.size)
      clear RG D0 D1 hb2
      go_wp2_with fail
      go_ret
      exact ⟨by rw [HR.out]; rfl, hbw⟩
    · cases k1
      · have HR : Hid (R = false) := Lib.hid (by rw [hR]; rfl)
        clear hR
        go_enter Tryd.func21, Tryd.ntmps21
        go_wp2_with (first
          | (refine wpList_load_mid rfl 42 (.tmp 2) rfl w.heap.size 0 rfl ta _ RG hu rfl (by rw [HLA.out]; exact info_tok) ?_)
          | fail)
        rw [HW.out]
        refine (HA.out _).mono ?_
        rintro e w1 ⟨rfl, hb1⟩
        have D0 := B0.later hb1
        have D1 := B1.later hb1
        have hbw := HBW.out.trans (hb1.mono HBW.out.size)
        clear RG B0 B1 hb1
        have RG := D1.range 0 tb (by rw [List.drop_zero, List.take_length])
        go_wp2_with (first
          | (refine wpList_load_g (by rfl) 42 (.tmp 3) rfl (w.heap.size + 1) 0 rfl tb _ RG hu rfl (by rw [HLB.out]; exact info_tok) ?_)
          | fail)
        refine (HB.out _).mono ?_
        rintro e w2 ⟨rfl, hb2⟩
        obtain ⟨a0, a1, a2, a3⟩ := HPA.out _ (D0.later hb2)
        obtain ⟨b0, b1, b2, b3⟩ := HPB.out _ (D1.later hb2)
        replace hbw := hbw.trans (hb2.mono hbw.size)
        clear RG D0 D1 hb2
        go_wp2_with fail
        go_ret
        exact ⟨by rw [HR.out]; rfl, hbw⟩
      · cases k2
        · have HR : Hid (R = false) := Lib.hid (by rw [hR]; rfl)
          clear hR
          go_enter Tryd.func21, Tryd.ntmps21
          go_wp2_with (first
            | (refine wpList_load_mid rfl 42 (.tmp 2) rfl w.heap.size 0 rfl ta _ RG hu rfl (by rw [HLA.out]; exact info_tok) ?_)
            | fail)
          rw [HW.out]
          refine (HA.out _).mono ?_
          rintro e w1 ⟨rfl, hb1⟩
          have D0 := B0.later hb1
          have D1 := B1.later hb1
          have hbw := HBW.out.trans (hb1.mono HBW.out.size)
          clear RG B0 B1 hb1
          have RG := D1.range 0 tb (by rw [List.drop_zero, List.take_length])
          go_wp2_with (first
            | (refine wpList_load_g (by rfl) 42 (.tmp 3) rfl (w.heap.size + 1) 0 rfl tb _ RG hu rfl (by rw [HLB.out]; exact info_tok) ?_)
            | fail)
          refine (HB.out _).mono ?_
          rintro e w2 ⟨rfl, hb2⟩
          obtain ⟨a0, a1, a2, a3⟩ := HPA.out _ (D0.later hb2)
          obtain ⟨b0, b1, b2, b3⟩ := HPB.out _ (D1.later hb2)
          replace hbw := hbw.trans (hb2.mono hbw.size)
          clear RG D0 D1 hb2
          go_wp2_with fail
          go_ret
          exact ⟨by rw [HR.out]; rfl, hbw⟩
        · cases k3
          · have HR : Hid (R = false) := Lib.hid (by rw [hR]; rfl)
            clear hR
            go_enter Tryd.func21, Tryd.ntmps21
            go_wp2_with (first
              | (refine wpList_load_mid rfl 42 (.tmp 2) rfl w.heap.size 0 rfl ta _ RG hu rfl (by rw [HLA.out]; exact info_tok) ?_)
              | fail)
            rw [HW.out]
            refine (HA.out _).mono ?_
            rintro e w1 ⟨rfl, hb1⟩
            have D0 := B0.later hb1
            have D1 := B1.later hb1
            have hbw := HBW.out.trans (hb1.mono HBW.out.size)
            clear RG B0 B1 hb1
            have RG := D1.range 0 tb (by rw [List.drop_zero, List.take_length])
            go_wp2_with (first
              | (refine wpList_load_g (by rfl) 42 (.tmp 3) rfl (w.heap.size + 1) 0 rfl tb _ RG hu rfl (by rw [HLB.out]; exact info_tok) ?_)
              | fail)
            refine (HB.out _).mono ?_
            rintro e w2 ⟨rfl, hb2⟩
            obtain ⟨a0, a1, a2, a3⟩ := HPA.out _ (D0.later hb2)
            obtain ⟨b0, b1, b2, b3⟩ := HPB.out _ (D1.later hb2)
            replace hbw := hbw.trans (hb2.mono hbw.size)
            clear RG D0 D1 hb2
            go_wp2_with fail
            go_ret
            exact ⟨by rw [HR.out]; rfl, hbw⟩
          · cases k4
            · have HR : Hid (R = false) := Lib.hid (by rw [hR]; rfl)
              clear hR
              go_enter Tryd.func21, Tryd.ntmps21
              go_wp2_with (first
                | (refine wpList_load_mid rfl 42 (.tmp 2) rfl w.heap.size 0 rfl ta _ RG hu rfl (by rw [HLA.out]; exact info_tok) ?_)
                | fail)
              rw [HW.out]
              refine (HA.out _).mono ?_
              rintro e w1 ⟨rfl, hb1⟩
              have D0 := B0.later hb1
              have D1 := B1.later hb1
              have hbw := HBW.out.trans (hb1.mono HBW.out.size)
              clear RG B0 B1 hb1
              have RG := D1.range 0 tb (by rw [List.drop_zero, List.take_length])
              go_wp2_with (first
                | (refine wpList_load_g (by rfl) 42 (.tmp 3) rfl (w.heap.size + 1) 0 rfl tb _ RG hu rfl (by rw [HLB.out]; exact info_tok) ?_)
                | fail)
              refine (HB.out _).mono ?_
              rintro e w2 ⟨rfl, hb2⟩
              obtain ⟨a0, a1, a2, a3⟩ := HPA.out _ (D0.later hb2)
              obtain ⟨b0, b1, b2, b3⟩ := HPB.out _ (D1.later hb2)
              replace hbw := hbw.trans (hb2.mono hbw.size)
              clear RG D0 D1 hb2
              go_wp2_with fail
              go_ret
              exact ⟨by rw [HR.out]; rfl, hbw⟩
            · have HR : Hid (R = true) := Lib.hid (by rw [hR]; rfl)
              clear hR
              go_enter Tryd.func21, Tryd.ntmps21
              go_wp2_with (first
                | (refine wpList_load_mid rfl 42 (.tmp 2) rfl w.heap.size 0 rfl ta _ RG hu rfl (by rw [HLA.out]; exact info_tok) ?_)
                | fail)
              rw [HW.out]
              refine (HA.out _).mono ?_
              rintro e w1 ⟨rfl, hb1⟩
              have D0 := B0.later hb1
              have D1 := B1.later hb1
              have hbw := HBW.out.trans (hb1.mono HBW.out.size)
              clear RG B0 B1 hb1
              have RG := D1.range 0 tb (by rw [List.drop_zero, List.take_length])
              go_wp2_with (first
                | (refine wpList_load_g (by rfl) 42 (.tmp 3) rfl (w.heap.size + 1) 0 rfl tb _ RG hu rfl (by rw [HLB.out]; exact info_tok) ?_)
                | fail)
              refine (HB.out _).mono ?_
              rintro e w2 ⟨rfl, hb2⟩
              obtain ⟨a0, a1, a2, a3⟩ := HPA.out _ (D0.later hb2)
              obtain ⟨b0, b1, b2, b3⟩ := HPB.out _ (D1.later hb2)
              replace hbw := hbw.trans (hb2.mono hbw.size)
              clear RG D0 D1 hb2
              go_wp2_with fail
              go_ret
              exact ⟨by rw [HR.out]; rfl, hbw⟩
set_option maxRecDepth 100000 in
set_option maxHeartbeats 3200000 in
theorem rtgoes_any (d p s c d' p' s' c' : Int) (w : World) : Calls Tryd.prog 22 #[.agg (tks d p s c).toArray, .agg (tks d' p' s' c').toArray] w fun e w' => e = .returned (.bool (tgo d p s c d' p' s' c')) ∧ Below w.heap.size w w' := by
  have HA := Lib.hid (fun wx : World => rtcheck_any d p s c wx)
  have HB := Lib.hid (fun wx : World => rtcheck_any d' p' s' c' wx)
  have hu := Tryd.underlying42
  have B0 := (Blk.new w (tks d p s c) 42).alloc (.cells (tks d' p' s' c').toArray 42)
  have B1 := Blk.new (w.alloc (.cells (tks d p s c).toArray 42)) (tks d' p' s' c') 42
  have hw0 := ((Below.refl w.heap.size w).alloc (Nat.le_refl _) (.cells (tks d p s c).toArray 42)).alloc (by simp) (.cells (tks d' p' s' c').toArray 42)
  have hs1 : (w.alloc (.cells (tks d p s c).toArray 42)).heap.size = w.heap.size + 1 := by simp
  rw [hs1] at B1
  have HPA : Hid (∀ wx, Blk wx w.heap.size (tks d p s c) → wx.cell? ⟨w.heap.size, 0, none⟩ = some (.int .i64 d) ∧ wx.cell? ⟨w.heap.size, 1, none⟩ = some (.int .i64 p) ∧ wx.cell? ⟨w.heap.size, 2, none⟩ = some (.int .i64 s) ∧ wx.cell? ⟨w.heap.size, 3, none⟩ = some (.int .i64 c)) := Lib.hid fun wx h => ⟨h.cell rfl, h.cell rfl, h.cell rfl, h.cell rfl⟩
  have HPB : Hid (∀ wx, Blk wx (w.heap.size + 1) (tks d' p' s' c') → wx.cell? ⟨w.heap.size + 1, 0, none⟩ = some (.int .i64 d') ∧ wx.cell? ⟨w.heap.size + 1, 1, none⟩ = some (.int .i64 p') ∧ wx.cell? ⟨w.heap.size + 1, 2, none⟩ = some (.int .i64 s') ∧ wx.cell? ⟨w.heap.size + 1, 3, none⟩ = some (.int .i64 c')) := Lib.hid fun wx h => ⟨h.cell rfl, h.cell rfl, h.cell rfl, h.cell rfl⟩
  obtain ⟨R, hR⟩ : ∃ R, R = tgo d p s c d' p' s' c' := ⟨_, rfl⟩
  rw [← hR]
  unfold tgo at hR
  obtain ⟨ok1, hok1⟩ : ∃ z, z = tchk d p s c := ⟨_, rfl⟩
  obtain ⟨ok2, hok2⟩ : ∃ z, z = tchk d' p' s' c' := ⟨_, rfl⟩
  rw [← hok1] at hR HA
  rw [← hok2] at hR HB
  obtain ⟨k1, hk1⟩ : ∃ z, (d == d') = z := ⟨_, rfl⟩
  rw [hk1] at hR
  obtain ⟨k2, hk2⟩ : ∃ z, (p == p') = z := ⟨_, rfl⟩
  rw [hk2] at hR
  obtain ⟨k3, hk3⟩ : ∃ z, decide (s ≤ s') = z := ⟨_, rfl⟩
  rw [hk3] at hR
  obtain ⟨k4, hk4⟩ : ∃ z, decide (c ≤ c') = z := ⟨_, rfl⟩
  rw [hk4] at hR
  obtain ⟨ta, hta⟩ : ∃ z, z = tks d p s c := ⟨_, rfl⟩
  obtain ⟨tb, htb⟩ : ∃ z, z = tks d' p' s' c' := ⟨_, rfl⟩
  have HLA : Hid (ta.length = 4) := Lib.hid (by rw [hta]; rfl)
  have HLB : Hid (tb.length = 4) := Lib.hid (by rw [htb]; rfl)
  rw [← hta] at B0 B1 hw0 HA HPA ⊢
  rw [← htb] at B0 B1 hw0 HB HPB ⊢
  clear hta htb hok1 hok2 hs1
  have RG := B0.range 0 ta (by rw [List.drop_zero, List.take_length])
  generalize hW : (w.alloc (.cells ta.toArray 42)).alloc (.cells tb.toArray 42) = W at *
  have HW := Lib.hid hW
  have HBW := Lib.hid hw0
  clear hW hw0
  rw [← HW.out] at RG
  cases ok1
  · have HR : Hid (R = false) := Lib.hid (by rw [hR]; rfl)
    clear hR
    go_enter Tryd.func22, Tryd.ntmps22
    go_wp2_with (first
      | (refine wpList_load_mid rfl 42 (.tmp 2) rfl w.heap.size 0 rfl ta _ RG hu rfl (by rw [HLA.out]; exact info_tok) ?_)
      | fail)
    rw [HW.out]
    refine (HA.out _).mono ?_
    rintro e w1 ⟨rfl, hb1⟩
    have D0 := B0.later hb1
    have D1 := B1.later hb1
    have hbw := HBW.out.trans (hb1.mono HBW.out.size)
    clear RG B0 B1 hb1
    go_wp2_with fail
    go_ret
    exact ⟨by rw [HR.out]; rfl, hbw⟩
  · cases ok2
    · have HR : Hid (R = false) := Lib.hid (by rw [hR]; rfl)
      clear hR
      go_enter Tryd.func22, Tryd.ntmps22
      go_wp2_with (first
        | (refine wpList_load_mid rfl 42 (.tmp 2) rfl w.heap.size 0 rfl ta _ RG hu rfl (by rw [HLA.out]; exact info_tok) ?_)
        | fail)
      rw [HW.out]
      refine (HA.out _).mono ?_
      rintro e w1 ⟨rfl, hb1⟩
      have D0 := B0.later hb1
      have D1 := B1.later hb1
      have hbw := HBW.out.trans (hb1.mono HBW.out.size)
      clear RG B0 B1 hb1
      have RG := D1.range 0 tb (by rw [List.drop_zero, List.take_length])
      go_wp2_with (first
        | (refine wpList_load_g (by rfl) 42 (.tmp 3) rfl (w.heap.size + 1) 0 rfl tb _ RG hu rfl (by rw [HLB.out]; exact info_tok) ?_)
        | fail)
      refine (HB.out _).mono ?_
      rintro e w2 ⟨rfl, hb2⟩
      obtain ⟨a0, a1, a2, a3⟩ := HPA.out _ (D0.later hb2)
      obtain ⟨b0, b1, b2, b3⟩ := HPB.out _ (D1.later hb2)
      replace hbw := hbw.trans (hb2.mono hbw.size)
      clear RG D0 D1 hb2
      go_wp2_with fail
      go_ret
      exact ⟨by rw [HR.out]; rfl, hbw⟩
    · cases k1
      · have HR : Hid (R = false) := Lib.hid (by rw [hR]; rfl)
        clear hR
        go_enter Tryd.func22, Tryd.ntmps22
        go_wp2_with (first
          | (refine wpList_load_mid rfl 42 (.tmp 2) rfl w.heap.size 0 rfl ta _ RG hu rfl (by rw [HLA.out]; exact info_tok) ?_)
          | fail)
        rw [HW.out]
        refine (HA.out _).mono ?_
        rintro e w1 ⟨rfl, hb1⟩
        have D0 := B0.later hb1
        have D1 := B1.later hb1
        have hbw := HBW.out.trans (hb1.mono HBW.out.size)
        clear RG B0 B1 hb1
        have RG := D1.range 0 tb (by rw [List.drop_zero, List.take_length])
        go_wp2_with (first
          | (refine wpList_load_g (by rfl) 42 (.tmp 3) rfl (w.heap.size + 1) 0 rfl tb _ RG hu rfl (by rw [HLB.out]; exact info_tok) ?_)
          | fail)
        refine (HB.out _).mono ?_
        rintro e w2 ⟨rfl, hb2⟩
        obtain ⟨a0, a1, a2, a3⟩ := HPA.out _ (D0.later hb2)
        obtain ⟨b0, b1, b2, b3⟩ := HPB.out _ (D1.later hb2)
        replace hbw := hbw.trans (hb2.mono hbw.size)
        clear RG D0 D1 hb2
        go_wp2_with fail
        go_ret
        exact ⟨by rw [HR.out]; rfl, hbw⟩
      · cases k2
        · have HR : Hid (R = false) := Lib.hid (by rw [hR]; rfl)
          clear hR
          go_enter Tryd.func22, Tryd.ntmps22
          go_wp2_with (first
            | (refine wpList_load_mid rfl 42 (.tmp 2) rfl w.heap.size 0 rfl ta _ RG hu rfl (by rw [HLA.out]; exact info_tok) ?_)
            | fail)
          rw [HW.out]
          refine (HA.out _).mono ?_
          rintro e w1 ⟨rfl, hb1⟩
          have D0 := B0.later hb1
          have D1 := B1.later hb1
          have hbw := HBW.out.trans (hb1.mono HBW.out.size)
          clear RG B0 B1 hb1
          have RG := D1.range 0 tb (by rw [List.drop_zero, List.take_length])
          go_wp2_with (first
            | (refine wpList_load_g (by rfl) 42 (.tmp 3) rfl (w.heap.size + 1) 0 rfl tb _ RG hu rfl (by rw [HLB.out]; exact info_tok) ?_)
            | fail)
          refine (HB.out _).mono ?_
          rintro e w2 ⟨rfl, hb2⟩
          obtain ⟨a0, a1, a2, a3⟩ := HPA.out _ (D0.later hb2)
          obtain ⟨b0, b1, b2, b3⟩ := HPB.out _ (D1.later hb2)
          replace hbw := hbw.trans (hb2.mono hbw.size)
          clear RG D0 D1 hb2
          go_wp2_with fail
          go_ret
          exact ⟨by rw [HR.out]; rfl, hbw⟩
        · cases k3
          · have HR : Hid (R = false) := Lib.hid (by rw [hR]; rfl)
            clear hR
            go_enter Tryd.func22, Tryd.ntmps22
            go_wp2_with (first
              | (refine wpList_load_mid rfl 42 (.tmp 2) rfl w.heap.size 0 rfl ta _ RG hu rfl (by rw [HLA.out]; exact info_tok) ?_)
              | fail)
            rw [HW.out]
            refine (HA.out _).mono ?_
            rintro e w1 ⟨rfl, hb1⟩
            have D0 := B0.later hb1
            have D1 := B1.later hb1
            have hbw := HBW.out.trans (hb1.mono HBW.out.size)
            clear RG B0 B1 hb1
            have RG := D1.range 0 tb (by rw [List.drop_zero, List.take_length])
            go_wp2_with (first
              | (refine wpList_load_g (by rfl) 42 (.tmp 3) rfl (w.heap.size + 1) 0 rfl tb _ RG hu rfl (by rw [HLB.out]; exact info_tok) ?_)
              | fail)
            refine (HB.out _).mono ?_
            rintro e w2 ⟨rfl, hb2⟩
            obtain ⟨a0, a1, a2, a3⟩ := HPA.out _ (D0.later hb2)
            obtain ⟨b0, b1, b2, b3⟩ := HPB.out _ (D1.later hb2)
            replace hbw := hbw.trans (hb2.mono hbw.size)
            clear RG D0 D1 hb2
            go_wp2_with fail
            go_ret
            exact ⟨by rw [HR.out]; rfl, hbw⟩
          · cases k4
            · have HR : Hid (R = false) := Lib.hid (by rw [hR]; rfl)
              clear hR
              go_enter Tryd.func22, Tryd.ntmps22
              go_wp2_with (first
                | (refine wpList_load_mid rfl 42 (.tmp 2) rfl w.heap.size 0 rfl ta _ RG hu rfl (by rw [HLA.out]; exact info_tok) ?_)
                | fail)
              rw [HW.out]
              refine (HA.out _).mono ?_
              rintro e w1 ⟨rfl, hb1⟩
              have D0 := B0.later hb1
              have D1 := B1.later hb1
              have hbw := HBW.out.trans (hb1.mono HBW.out.size)
              clear RG B0 B1 hb1
              have RG := D1.range 0 tb (by rw [List.drop_zero, List.take_length])
              go_wp2_with (first
                | (refine wpList_load_g (by rfl) 42 (.tmp 3) rfl (w.heap.size + 1) 0 rfl tb _ RG hu rfl (by rw [HLB.out]; exact info_tok) ?_)
                | fail)
              refine (HB.out _).mono ?_
              rintro e w2 ⟨rfl, hb2⟩
              obtain ⟨a0, a1, a2, a3⟩ := HPA.out _ (D0.later hb2)
              obtain ⟨b0, b1, b2, b3⟩ := HPB.out _ (D1.later hb2)
              replace hbw := hbw.trans (hb2.mono hbw.size)
              clear RG D0 D1 hb2
              go_wp2_with fail
              go_ret
              exact ⟨by rw [HR.out]; rfl, hbw⟩
            · have HR : Hid (R = true) := Lib.hid (by rw [hR]; rfl)
              clear hR
              go_enter Tryd.func22, Tryd.ntmps22
              go_wp2_with (first
                | (refine wpList_load_mid rfl 42 (.tmp 2) rfl w.heap.size 0 rfl ta _ RG hu rfl (by rw [HLA.out]; exact info_tok) ?_)
                | fail)
              rw [HW.out]
              refine (HA.out _).mono ?_
              rintro e w1 ⟨rfl, hb1⟩
              have D0 := B0.later hb1
              have D1 := B1.later hb1
              have hbw := HBW.out.trans (hb1.mono HBW.out.size)
              clear RG B0 B1 hb1
              have RG := D1.range 0 tb (by rw [List.drop_zero, List.take_length])
              go_wp2_with (first
                | (refine wpList_load_g (by rfl) 42 (.tmp 3) rfl (w.heap.size + 1) 0 rfl tb _ RG hu rfl (by rw [HLB.out]; exact info_tok) ?_)
                | fail)
              refine (HB.out _).mono ?_
              rintro e w2 ⟨rfl, hb2⟩
              obtain ⟨a0, a1, a2, a3⟩ := HPA.out _ (D0.later hb2)
              obtain ⟨b0, b1, b2, b3⟩ := HPB.out _ (D1.later hb2)
              replace hbw := hbw.trans (hb2.mono hbw.size)
              clear RG D0 D1 hb2
              go_wp2_with fail
              go_ret
              exact ⟨by rw [HR.out]; rfl, hbw⟩
end Go.Proofs.YticdpfjajkfheaaDoor

/- Tokens: their texts, by the document. -/
namespace Go.Proofs.YticdpfjajkfheaaDoor
set_option linter.unusedVariables false
open Go Go.RowKit BitM MskM OctM

set_option maxRecDepth 100000 in
set_option maxHeartbeats 3200000 in
theorem rtshow_any (d p s c : Int) (w : World) : Calls Tryd.prog 26 #[.agg (tks d p s c).toArray] w fun e w' => e = .returned (.string (str (tsh d p s c))) ∧ Below w.heap.size w w' := by
  have HC := Lib.hid (fun wx : World => rtcheck_any d p s c wx)
  have hu := Tryd.underlying42
  have B := Blk.new w (tks d p s c) 42
  have hb := (Below.refl w.heap.size w).alloc (Nat.le_refl _) (.cells (tks d p s c).toArray 42)
  have HP : Hid (∀ wx, Blk wx w.heap.size (tks d p s c) → wx.cell? ⟨w.heap.size, 0, none⟩ = some (.int .i64 d) ∧ wx.cell? ⟨w.heap.size, 1, none⟩ = some (.int .i64 p) ∧ wx.cell? ⟨w.heap.size, 2, none⟩ = some (.int .i64 s) ∧ wx.cell? ⟨w.heap.size, 3, none⟩ = some (.int .i64 c)) := Lib.hid fun wx h => ⟨h.cell rfl, h.cell rfl, h.cell rfl, h.cell rfl⟩
  obtain ⟨ok, hok⟩ : ∃ z, z = tchk d p s c := ⟨_, rfl⟩
  rw [← hok] at HC
  obtain ⟨R, hR⟩ : ∃ z, z = str (tsh d p s c) := ⟨_, rfl⟩
  rw [← hR]
  cases ok
  · have HR : Hid (R = ⟨#[]⟩) := Lib.hid (by rw [hR, tsh_off hok.symm]; rfl)
    obtain ⟨pc, hpc⟩ : ∃ pc, pc = tks d p s c := ⟨_, rfl⟩
    rw [← hpc] at B hb HC ⊢
    have HL : Hid (pc.length = 4) := Lib.hid (by rw [hpc]; rfl)
    clear hpc hok hR HP
    have RG := B.range 0 pc (by rw [List.drop_zero, List.take_length])
    go_enter Tryd.func26, Tryd.ntmps26
    go_wp2_with (first
      | (refine wpList_load_mid rfl 42 (.tmp 1) rfl w.heap.size 0 rfl pc _ RG hu rfl (by rw [HL.out]; exact info_tok) ?_)
      | fail)
    refine (HC.out _).mono ?_
    rintro e w1 ⟨rfl, hb1⟩
    clear RG
    go_wp2_with fail
    go_ret
    exact ⟨by rw [HR.out]; rfl, hb.trans (hb1.mono hb.size)⟩
  · have h2 := of_decide_eq_true hok.symm
    have HT3 : Hid (∀ wx, Calls Tryd.prog 38 #[.int .i64 c] wx fun e w' => e = .returned (.string (str (Lib.itoa c))) ∧ Below wx.heap.size wx w') := Lib.hid fun wx => rtens_any c wx (by omega) (by omega)
    have HT0 : Hid (∀ wx, Calls Tryd.prog 38 #[.int .i64 d] wx fun e w' => e = .returned (.string (str (Lib.itoa d))) ∧ Below wx.heap.size wx w') := Lib.hid fun wx => rtens_any d wx (by omega) (by omega)
    have HT1 : Hid (∀ wx, Calls Tryd.prog 38 #[.int .i64 p] wx fun e w' => e = .returned (.string (str (Lib.itoa p))) ∧ Below wx.heap.size wx w') := Lib.hid fun wx => rtens_any p wx (by omega) (by omega)
    have HT2 : Hid (∀ wx, Calls Tryd.prog 38 #[.int .i64 s] wx fun e w' => e = .returned (.string (str (Lib.itoa s))) ∧ Below wx.heap.size wx w') := Lib.hid fun wx => rtens_any s wx (by omega) (by omega)
    have z0 := Lib.itoa_length_le d (by omega) (by omega)
    have z1 := Lib.itoa_length_le p (by omega) (by omega)
    have z2 := Lib.itoa_length_le s (by omega) (by omega)
    have z3 := Lib.itoa_length_le c (by omega) (by omega)
    obtain ⟨sd, hsd⟩ : ∃ z, z = str (Lib.itoa d) := ⟨_, rfl⟩
    obtain ⟨sp, hsp⟩ : ∃ z, z = str (Lib.itoa p) := ⟨_, rfl⟩
    obtain ⟨st, hst⟩ : ∃ z, z = str (Lib.itoa s) := ⟨_, rfl⟩
    obtain ⟨sc, hsc⟩ : ∃ z, z = str (Lib.itoa c) := ⟨_, rfl⟩
    have y0 : sd.size ≤ 21 := by rw [hsd, str_size]; exact z0
    have y1 : sp.size ≤ 21 := by rw [hsp, str_size]; exact z1
    have y2 : st.size ≤ 21 := by rw [hst, str_size]; exact z2
    have y3 : sc.size ≤ 21 := by rw [hsc, str_size]; exact z3
    clear z0 z1 z2 z3
    rw [← hsd] at HT0
    rw [← hsp] at HT1
    rw [← hst] at HT2
    rw [← hsc] at HT3
    obtain ⟨q, hq⟩ : ∃ q, q = (c == 1073741824) := ⟨_, rfl⟩
    have kq : (c == 1073741824) = q := hq.symm
    have e46 : (str [46] : ByteArray) = ⟨#[46]⟩ := rfl
    have HRR : Hid ((q = true → R = sd ++ ⟨#[46]⟩ ++ sp ++ ⟨#[46]⟩ ++ st ++ ⟨#[46]⟩ ++ ⟨#[97, 108, 108]⟩) ∧ (q = false → R = sd ++ ⟨#[46]⟩ ++ sp ++ ⟨#[46]⟩ ++ st ++ ⟨#[46]⟩ ++ sc)) := Lib.hid ⟨fun h => by
        have hc : curt c = [97, 108, 108] := by unfold curt; rw [if_pos (by rw [h] at hq; simpa using hq.symm)]
        rw [hR, tsh_fit hok.symm, hc, hsd, hsp, hst, ← e46, show (⟨#[97, 108, 108]⟩ : ByteArray) = str [97, 108, 108] from rfl]
        simp only [str_append]
        congr 1
        simp, fun h => by
        have hc : curt c = Lib.itoa c := by unfold curt; rw [if_neg (by rw [h] at hq; simpa using hq.symm)]
        rw [hR, tsh_fit hok.symm, hc, hsd, hsp, hst, hsc, ← e46]
        simp only [str_append]
        congr 1
        simp⟩
    obtain ⟨pc, hpc⟩ : ∃ pc, pc = tks d p s c := ⟨_, rfl⟩
    rw [← hpc] at B hb HC HP ⊢
    have HL : Hid (pc.length = 4) := Lib.hid (by rw [hpc]; rfl)
    clear hpc hR hok h2 hsd hsp hst hsc hq e46
    have RG := B.range 0 pc (by rw [List.drop_zero, List.take_length])
    cases q
    all_goals
      go_enter Tryd.func26, Tryd.ntmps26
      go_wp2_with (first
        | (refine wpList_load_mid rfl 42 (.tmp 1) rfl w.heap.size 0 rfl pc _ RG hu rfl (by rw [HL.out]; exact info_tok) ?_)
        | fail)
      refine (HC.out _).mono ?_
      rintro e w1 ⟨rfl, hb1⟩
      replace B := B.later hb1
      replace hb := hb.trans (hb1.mono hb.size)
      obtain ⟨p0, p1, p2, p3⟩ := HP.out _ B
      clear RG hb1
      go_wp2_with fail
      refine (HT3.out _).mono ?_
      rintro e w2 ⟨rfl, hb2⟩
      replace B := B.later hb2
      replace hb := hb.trans (hb2.mono hb.size)
      clear p0 p1 p2 p3 hb2
      have c0 : ∀ kk : LW w2, kk.val.cell? ⟨w.heap.size, 0, none⟩ = some (.int .i64 d) := fun kk => (HP.out _ (B.later kk.le)).1
      have c1 : ∀ kk : LW w2, kk.val.cell? ⟨w.heap.size, 1, none⟩ = some (.int .i64 p) := fun kk => (HP.out _ (B.later kk.le)).2.1
      have c2 : ∀ kk : LW w2, kk.val.cell? ⟨w.heap.size, 2, none⟩ = some (.int .i64 s) := fun kk => (HP.out _ (B.later kk.le)).2.2.1
      have c3 := (HP.out _ B).2.2.2
      go_wp2_with fail
      refine wp_region_steady [] 29 (by kernel_rfl) (by kernel_rfl) (by kernel_rfl) (by rfl) ?_
      iterate 2 (refine wpG_quiet (by rfl) (by rfl) (by rfl) (fun K hK => ?_); go_big_quiet_op; refine hK _ ?_; clear hK K)
      refine wpG_call (by rfl) (by rfl) 38 #[.int .i64 d] (.string sd) (by intro _; simp [go_sem]) (by kernel_rfl) (fun w1 hl => HT0.out w1) ?_
      simp only [Act.put, List.setIfInBounds_toArray, List.set_cons_zero, List.set_cons_succ]
      iterate 3 (refine wpG_quiet (by rfl) (by rfl) (by rfl) (fun K hK => ?_); go_big_quiet_op; refine hK _ ?_; clear hK K)
      refine wpG_call (by rfl) (by rfl) 38 #[.int .i64 p] (.string sp) (by intro _; simp [go_sem]) (by kernel_rfl) (fun w1 hl => HT1.out w1) ?_
      simp only [Act.put, List.setIfInBounds_toArray, List.set_cons_zero, List.set_cons_succ]
      iterate 4 (refine wpG_quiet (by rfl) (by rfl) (by rfl) (fun K hK => ?_); go_big_quiet_op; refine hK _ ?_; clear hK K)
      refine wpG_call (by rfl) (by rfl) 38 #[.int .i64 s] (.string st) (by intro _; simp [go_sem]) (by kernel_rfl) (fun w1 hl => HT2.out w1) ?_
      simp only [Act.put, List.setIfInBounds_toArray, List.set_cons_zero, List.set_cons_succ]
      iterate 5 (refine wpG_quiet (by rfl) (by rfl) (by rfl) (fun K hK => ?_); go_big_quiet_op; refine hK _ ?_; clear hK K)
      refine wpG_nil fun w4 hl _ => ?_
      go_wp2_with fail
      go_ret
      first
        | exact ⟨by rw [HRR.out.2 (by first | rfl | trivial)]; rfl, hb.trans (hl.mono hb.size)⟩
        | exact ⟨by rw [HRR.out.1 (by first | rfl | trivial)]; rfl, hb.trans (hl.mono hb.size)⟩
end Go.Proofs.YticdpfjajkfheaaDoor

/- The document's Split: what it returns. -/
namespace Go.Proofs.YticdpfjajkfheaaDoor
set_option linter.unusedVariables false
open Go Go.RowKit BitM MskM

/-- How far a text is split: the parts that stand, where the next begins, how far it has been looked at. -/
def SpAt (c : UInt8) (L : List UInt8) (D : List (List UInt8)) (f i : Nat) : Prop := parts c L = D ++ parts c (L.drop f) ∧ c ∉ (L.drop f).take (i - f)
theorem SpAt.start (c : UInt8) (L : List UInt8) : SpAt c L [] 0 0 := ⟨by simp, by simp⟩
theorem SpAt.hit {c : UInt8} {L : List UInt8} {D : List (List UInt8)} {f i : Nat} (h : SpAt c L D f i) (hf : f ≤ i) (hi : i < L.length) (he : L[i] = c) : SpAt c L (D ++ [(L.drop f).take (i - f)]) (i + 1) (i + 1) := by
  obtain ⟨h1, h2⟩ := h
  refine ⟨?_, by simp⟩
  have e : L.drop f = (L.drop f).take (i - f) ++ c :: L.drop (i + 1) := by
    conv => lhs; rw [← List.take_append_drop (i - f) (L.drop f)]
    rw [List.drop_drop, show f + (i - f) = i by omega, List.drop_eq_getElem_cons hi, he]
  rw [h1, List.append_assoc]
  congr 1
  conv => lhs; rw [e]
  rw [parts_first c _ _ h2]
  rfl
theorem SpAt.miss {c : UInt8} {L : List UInt8} {D : List (List UInt8)} {f i : Nat} (h : SpAt c L D f i) (hf : f ≤ i) (hi : i < L.length) (he : L[i] ≠ c) : SpAt c L D f (i + 1) := by
  obtain ⟨h1, h2⟩ := h
  refine ⟨h1, ?_⟩
  have hlt : i - f < (L.drop f).length := by rw [List.length_drop]; omega
  rw [show i + 1 - f = (i - f) + 1 by omega, List.take_succ_eq_append_getElem hlt]
  have e : (L.drop f)[i - f] = L[i] := by
    rw [List.getElem_drop]
    congr 1
    omega
  rw [e, List.mem_append, not_or]
  exact ⟨h2, by simp; exact fun h => he h.symm⟩
theorem SpAt.end_ {c : UInt8} {L : List UInt8} {D : List (List UInt8)} {f : Nat} (h : SpAt c L D f L.length) (hf : f ≤ L.length) : parts c L = D ++ [L.drop f] := by
  obtain ⟨h1, h2⟩ := h
  rw [List.take_of_length_le (by rw [List.length_drop]; omega)] at h2
  rw [h1, parts_none c _ h2]
theorem piece (s : ByteArray) (f i : Nat) : s.extract f i = str ((s.data.toList.drop f).take (i - f)) := by
  apply ByteArray.ext
  apply Array.ext'
  show (s.extract f i).data.toList = _
  rw [ByteArray.data_extract, Array.toList_extract, List.extract_eq_take_drop]
  rfl

set_option maxRecDepth 100000 in
set_option maxHeartbeats 3200000 in
theorem rsplit_any (t : ByteArray) (c : UInt8) (w : World) (hx : t.size ≤ 1000) : Calls Tryd.prog 42 #[.string t, .int .u8 (c.toNat : Int)] w fun e w' =>
    (∃ A cap, e = .returned (.slice A (parts c t.data.toList).length cap) ∧ Own w' w.heap.size 9 (.slice A (parts c t.data.toList).length cap) (svs (parts c t.data.toList))) ∧ Below w.heap.size w w' := by
  obtain ⟨i0, hi, hz0, hz1, hz2⟩ := info_parts info_str
  have HN : Hid (t.data.toList.length = t.size) := Lib.hid (by simp)
  obtain ⟨m, hm⟩ : ∃ m, m = c.toNat := ⟨_, rfl⟩
  rw [← hm]
  have HM := Lib.hid hm
  clear hm
  obtain ⟨PS, hPS⟩ : ∃ PS, PS = parts c t.data.toList := ⟨_, rfl⟩
  rw [← hPS]
  have HPS := Lib.hid hPS
  clear hPS
  go_enter Tryd.func42, Tryd.ntmps42
  go_wp2_with fail
  go_loopw [5, 6, 7] (fun v ff ii wr => ∃ (i f n : Nat) (D : List (List UInt8)), i ≤ t.size ∧ f ≤ i ∧ n ≤ i ∧ ii = .int .i64 i ∧ ff = .int .i64 f ∧ Hid (D.length = n) ∧ Hid (SpAt c t.data.toList D f i) ∧ (∃ A1 c1, v = .slice A1 n c1 ∧ Own wr w.heap.size 9 v (svs D)) ∧ Below w.heap.size w wr) (fun _ _ ii _ => t.size - (intOf ii).toNat)
  case atStart => exact ⟨0, 0, 0, [], Nat.zero_le _, Nat.le_refl _, Nat.le_refl _, rfl, rfl, Lib.hid rfl, Lib.hid (SpAt.start c _), ⟨some ⟨w.heap.size, 0, none⟩, 0, rfl, own_lit w w.heap.size 9 #[] (Nat.le_refl _) (by simp [maxLen])⟩, (Below.refl _ _).alloc (Nat.le_refl _) _⟩
  case round =>
    obtain ⟨i, f, n, D, hi1, hf1, hn1, rfl, rfl, HD, HS, ⟨A1, c1, rfl, hown⟩, hbr⟩ := hrel
    by_cases hlt : i < t.size
    · have hlt2 : i < t.data.toList.length := by rw [HN.out]; exact hlt
      have hge : t.data.toList[i] = t[i] := rfl
      by_cases hc : t[i] = c
      · have b1 : ((t[i].toNat : Int) == (m : Int)) = true := by rw [HM.out, hc]; simp
        have HS2 := Lib.hid (HS.out.hit hf1 hlt2 (hge.trans hc))
        have hpc := piece t f i
        obtain ⟨q, hq⟩ : ∃ q, q = (t.data.toList.drop f).take (i - f) := ⟨_, rfl⟩
        rw [← hq] at hpc HS2
        have hb1 : (f : Int) ≤ (i : Int) := by omega
        have hb2 : (i : Int) ≤ (t.size : Int) := by omega
        have HPC := Lib.hid hpc
        clear hq hge hc hpc
        go_wp2_with (first
          | (at_builtin
             refine wpList_app _ rfl (.tmp 20) (.tmp 25) _ rfl w.heap.size 9 i0 _ 16 Tryd.underlying73 hi hz0 hz1 hz2 rfl (.slice A1 n c1) (svs D) n rfl (by rw [svs_length, HD.out]) (hown.alloc _) (wr.heap.size + 1) (some ⟨wr.heap.size, 0, none⟩) 1 (svs [q]) 1 rfl rfl (sees_lit wr _ 9 (0, 0) _ (by rw [HPC.out]; rfl)) (svs_one _) (by simp [maxLen]; omega) (by omega) (by have := hbr.size; simp; omega) ?_
             intro A9 c9 w9 hown9 hb9 hg9 hat9
             rw [← svs_append] at hown9
             have hbr9 : Below w.heap.size w w9 := (hbr.alloc hbr.size _).trans hb9
             clear hg9 hat9 hb9 hown hbr)
          | fail)
        go_roundw
        case rel => exact ⟨i + 1, i + 1, n + 1, D ++ [q], by omega, by omega, by omega, by go_num, by go_num, Lib.hid (by rw [List.length_append, HD.out]; first | done | rfl), HS2, ⟨A9, c9, rfl, hown9⟩, hbr9⟩
        case measure => simp [intOf]; omega
      · have b1 : ((t[i].toNat : Int) == (m : Int)) = false := by
          rw [beq_eq_false_iff_ne, HM.out]; intro e; exact hc (UInt8.toNat_inj.1 (Int.ofNat_inj.1 e))
        have HS2 := Lib.hid (HS.out.miss hf1 hlt2 (fun e => hc (hge.symm.trans e)))
        clear hge hc
        go_wp2_with fail
        go_roundw
        case rel => exact ⟨i + 1, f, n, D, by omega, by omega, by omega, by go_num, rfl, HD, HS2, ⟨A1, c1, rfl, hown⟩, hbr⟩
        case measure => simp [intOf]; omega
    · obtain rfl : i = t.size := by omega
      have HS2 : Hid (PS = D ++ [t.data.toList.drop f]) := Lib.hid (by
        have := HS.out
        rw [← HN.out] at this
        rw [HPS.out]; exact this.end_ (by rw [HN.out]; exact hf1))
      have hpc : t.extract f t.size = str (t.data.toList.drop f) := by
        rw [piece, List.take_of_length_le (by rw [List.length_drop, HN.out]; omega)]
      obtain ⟨q, hq⟩ : ∃ q, q = t.data.toList.drop f := ⟨_, rfl⟩
      rw [← hq] at hpc HS2
      have hb1 : (f : Int) ≤ (t.size : Int) := by omega
      have HPC := Lib.hid hpc
      have HLN : Hid (PS.length = n + 1) := Lib.hid (by rw [HS2.out, List.length_append, HD.out]; rfl)
      clear hq hpc
      go_wp2_with (first
        | (at_builtin
           refine wpList_app _ rfl (.tmp 29) (.tmp 33) _ rfl w.heap.size 9 i0 _ 16 Tryd.underlying73 hi hz0 hz1 hz2 rfl (.slice A1 n c1) (svs D) n rfl (by rw [svs_length, HD.out]) (hown.alloc _) (wr.heap.size + 1) (some ⟨wr.heap.size, 0, none⟩) 1 (svs [q]) 1 rfl rfl (sees_lit wr _ 9 (0, 0) _ (by rw [HPC.out]; rfl)) (svs_one _) (by simp [maxLen]; omega) (by omega) (by have := hbr.size; simp; omega) ?_
           intro A9 c9 w9 hown9 hb9 hg9 hat9
           rw [← svs_append, ← HS2.out] at hown9
           have hbr9 : Below w.heap.size w w9 := (hbr.alloc hbr.size _).trans hb9
           clear hg9 hat9 hb9 hown hbr)
        | fail)
      go_ret
      rw [HLN.out]
      exact ⟨⟨A9, c9, rfl, hown9⟩, hbr9⟩
end Go.Proofs.YticdpfjajkfheaaDoor

/- The document's Int: what any text is read as. -/
namespace Go.Proofs.YticdpfjajkfheaaDoor
set_option linter.unusedVariables false
open Go Go.RowKit BitM MskM

set_option maxRecDepth 100000 in
set_option maxHeartbeats 3200000 in
theorem rint_any (s : ByteArray) (most : Int) (w : World) : Calls Tryd.prog 43 #[.string s, .int .i64 most] w fun e w' =>
    e = .returned (.tuple #[.int .i64 (pint s.data.toList most).1, .bool (pint s.data.toList most).2]) ∧ w = w' := by
  have hsz : s.data.toList.length = s.size := by simp
  obtain ⟨P, hP⟩ : ∃ P, P = pint s.data.toList most := ⟨_, rfl⟩
  rw [← hP]
  have HPP := Lib.hid hP
  clear hP
  by_cases h0 : s.size = 0
  · have HP : Hid (P = (0, false)) := Lib.hid (by rw [HPP.out]; unfold pint; rw [if_pos (Or.inl (List.length_eq_zero_iff.1 (by omega)))])
    clear hsz
    go_enter Tryd.func43, Tryd.ntmps43
    go_wp2_with fail
    go_ret2
    exact ⟨by rw [HP.out]; rfl, rfl⟩
  · have hpos : 0 < s.size := by omega
    have hpi : ((s.size : Int) == 0) = false := by rw [beq_eq_false_iff_ne]; omega
    by_cases h14 : 14 ≤ s.size
    · have HP : Hid (P = (0, false)) := Lib.hid (by rw [HPP.out]; unfold pint; rw [if_pos (Or.inr (Or.inl (by omega)))])
      have h14i : (13 : Int) < (s.size : Int) := by omega
      clear hsz h0
      go_enter Tryd.func43, Tryd.ntmps43
      go_wp2_with fail
      go_ret2
      exact ⟨by rw [HP.out]; rfl, rfl⟩
    · have h14i : ¬ (13 : Int) < (s.size : Int) := by omega
      have HSZ := Lib.hid hsz
      have HNE : Hid (s.data.toList ≠ []) := Lib.hid (by intro e; rw [e] at hsz; simp at hsz; omega)
      have HH : Hid (s.data.toList.headD 0 = s[0]'hpos) := Lib.hid (by
        rw [List.headD_eq_head?_getD, List.head?_eq_getElem?, List.getElem?_eq_getElem (by omega)]
        first | done | rfl)
      clear hsz h0
      go_enter Tryd.func43, Tryd.ntmps43
      go_wp2_with fail
      go_loop [6, 7] (fun n i => ∃ k m : Nat, k ≤ s.size ∧ i = .int .i64 k ∧ n = .int .i64 m ∧ m < 10000000000000 ∧ Hid (m = num (s.data.toList.take k)) ∧ Hid ((s.data.toList.take k).all dig = true)) (fun _ i => s.size - (intOf i).toNat)
      case atStart => exact ⟨0, 0, Nat.zero_le _, rfl, rfl, by omega, Lib.hid rfl, Lib.hid rfl⟩
      case round =>
        obtain ⟨k, m, hk, rfl, rfl, hm, HM, HD⟩ := hrel
        by_cases hlt : k < s.size
        · have HT := Lib.hid (take_byte s k hlt)
          have h256 := UInt8.toNat_lt (s[k]'hlt)
          by_cases hc : 48 ≤ (s[k]'hlt).toNat ∧ (s[k]'hlt).toNat ≤ 57
          · obtain ⟨hc1, hc2⟩ := hc
            have HD2 : Hid ((s.data.toList.take (k + 1)).all dig = true) := Lib.hid (by
              rw [HT.out, List.all_append, HD.out, Bool.true_and, List.all_cons, List.all_nil, Bool.and_true, dig, decide_eq_true hc1, decide_eq_true hc2]; rfl)
            have HM2 : Hid (10 * m + ((s[k]'hlt).toNat - 48) = num (s.data.toList.take (k + 1))) := Lib.hid (by
              rw [HT.out, num_snoc, ← HM.out])
            have hm2 : 10 * m + ((s[k]'hlt).toNat - 48) < 10000000000000 := by
              rw [HM2.out]
              have := num_lt _ _ rfl HD2.out
              rw [List.length_take, HSZ.out, Nat.min_eq_left (by omega)] at this
              exact Nat.lt_of_lt_of_le this (Nat.pow_le_pow_right (by omega) (by omega : k + 1 ≤ 13))
            have hc1' : ¬ ((s[k]'hlt).toNat : Int) < 48 := by omega
            have hc2' : ¬ (57 : Int) < ((s[k]'hlt).toNat : Int) := by omega
            have hmi : (m : Int) < 10000000000000 := by omega
            have hci : ((s[k]'hlt).toNat : Int) < 256 := by omega
            clear hc2 h256
            go_wp2_with fail
            go_round
            case rel => exact ⟨k + 1, 10 * m + ((s[k]'hlt).toNat - 48), by omega, by go_num, by go_num, hm2, HM2, HD2⟩
            case measure => simp [intOf]; omega
          · have HP : Hid (P = (0, false)) := Lib.hid (by
              rw [HPP.out]
              unfold pint
              rw [if_pos (Or.inr (Or.inr (Or.inr (Or.inl ?_))))]
              rw [List.all_eq_false]
              refine ⟨s[k], ?_, ?_⟩
              · have : s[k] = s.data.toList[k]'(by rw [HSZ.out]; exact hlt) := rfl
                rw [this]
                exact List.getElem_mem _
              · unfold dig
                intro e
                simp only [Bool.and_eq_true, decide_eq_true_eq] at e
                exact hc e)
            by_cases hc1 : 48 ≤ (s[k]'hlt).toNat
            · have hc2 : (57 : Int) < ((s[k]'hlt).toNat : Int) := by omega
              have hc1' : ¬ ((s[k]'hlt).toNat : Int) < 48 := by omega
              clear hc hc1
              go_wp2_with fail
              go_ret2
              exact ⟨by rw [HP.out]; rfl, rfl⟩
            · have hc2 : ((s[k]'hlt).toNat : Int) < 48 := by omega
              clear hc hc1
              go_wp2_with fail
              go_ret2
              exact ⟨by rw [HP.out]; rfl, rfl⟩
        · obtain rfl : k = s.size := by omega
          have hT : s.data.toList.take s.size = s.data.toList := by rw [← HSZ.out, List.take_length]
          have HMM : Hid (m = num s.data.toList) := Lib.hid (by rw [HM.out, hT])
          have HDD : Hid (s.data.toList.all dig = true) := Lib.hid (by have := HD.out; rw [hT] at this; exact this)
          clear hT
          by_cases hz : 1 < s.size ∧ (s[0]'hpos).toNat = 48
          · obtain ⟨hz1, hz2⟩ := hz
            have HP : Hid (P = (0, false)) := Lib.hid (by
              rw [HPP.out]
              unfold pint
              rw [if_pos (Or.inr (Or.inr (Or.inl ⟨by rw [HSZ.out]; exact hz1, by rw [HH.out]; exact UInt8.toNat_inj.1 hz2⟩)))])
            have hz3 : (1 : Int) < (s.size : Int) := by omega
            have hz4 : (((s[0]'hpos).toNat : Int) == 48) = true := by rw [hz2]; rfl
            clear hz2
            go_wp2_with fail
            go_ret2
            exact ⟨by rw [HP.out]; rfl, rfl⟩
          · have HZ : Hid (¬ (1 < s.data.toList.length ∧ s.data.toList.headD 0 = 48)) := Lib.hid (by
              rintro ⟨h1, h2⟩
              apply hz
              rw [HH.out] at h2
              exact ⟨by rw [HSZ.out] at h1; exact h1, by rw [h2]; rfl⟩)
            have key : (((s[0]'hpos).toNat : Int) == 48) = false ∨ ((((s[0]'hpos).toNat : Int) == 48) = true ∧ ¬ (1 : Int) < (s.size : Int)) := by
              by_cases e : (s[0]'hpos).toNat = 48
              · right; exact ⟨by rw [e]; rfl, by intro h; exact hz ⟨by omega, e⟩⟩
              · left; rw [beq_eq_false_iff_ne]; omega
            clear hz
            have HV : Hid (P = if most < (m : Int) ∨ 1099511627776 < (m : Int) then (0, false) else ((m : Int), true)) := Lib.hid (by
              rw [HPP.out]
              unfold pint
              by_cases hx : most < (m : Int) ∨ 1099511627776 < (m : Int)
              · rw [if_pos hx, if_pos (Or.inr (Or.inr (Or.inr (Or.inr (by rw [← HMM.out]; omega)))))]
              · rw [if_neg hx, if_neg (by
                  rintro (h | h | h | h | h)
                  · exact HNE.out h
                  · have := HSZ.out; omega
                  · exact HZ.out h
                  · rw [HDD.out] at h; cases h
                  · rw [← HMM.out] at h; omega), ← HMM.out])
            by_cases hm1 : most < (m : Int)
            · have HP : Hid (P = (0, false)) := Lib.hid (by rw [HV.out, if_pos (.inl hm1)])
              rcases key with k1 | ⟨k1, k2⟩
              all_goals
                go_wp2_with fail
                go_ret2
                exact ⟨by rw [HP.out]; rfl, rfl⟩
            · by_cases hm3 : (1099511627776 : Int) < (m : Int)
              · have HP : Hid (P = (0, false)) := Lib.hid (by rw [HV.out, if_pos (.inr hm3)])
                rcases key with k1 | ⟨k1, k2⟩
                all_goals
                  go_wp2_with fail
                  go_ret2
                  exact ⟨by rw [HP.out]; rfl, rfl⟩
              · have HP : Hid (P = ((m : Int), true)) := Lib.hid (by rw [HV.out, if_neg (by omega)])
                rcases key with k1 | ⟨k1, k2⟩
                all_goals
                  go_wp2_with fail
                  go_ret2
                  exact ⟨by rw [HP.out]; rfl, rfl⟩
end Go.Proofs.YticdpfjajkfheaaDoor

/- Tokens: what a text is read as, by the document. -/
namespace Go.Proofs.YticdpfjajkfheaaDoor
set_option linter.unusedVariables false
open Go Go.RowKit BitM MskM OctM

set_option maxRecDepth 100000 in
set_option maxHeartbeats 3200000 in
theorem rtparse_any (t : ByteArray) (w : World) (hx : t.size ≤ 1000) :
    Calls Tryd.prog 16 #[.string t] w fun e w' => e = .returned (.tuple #[.agg (tq (rpv t.data.toList).1).toArray, .bool (rpv t.data.toList).2]) ∧ Below w.heap.size w w' := by
  have hu := Tryd.underlying42
  have B := Blk.new w (tks 0 0 0 0) 42
  have hb := (Below.refl w.heap.size w).alloc (Nat.le_refl _) (.cells (tks 0 0 0 0).toArray 42)
  have HSP := Lib.hid (fun (wx : World) => rsplit_any t 46 wx hx)
  have HTS := Lib.hid (fun (d p s c : Int) (wx : World) => rtshow_any d p s c wx)
  have hTL : t = str t.data.toList := (str_eta t).symm
  obtain ⟨L, hL⟩ : ∃ L, L = t.data.toList := ⟨_, rfl⟩
  rw [← hL] at HSP hTL ⊢
  have HTL := Lib.hid hTL
  obtain ⟨PS, hPS⟩ : ∃ PS, PS = parts 46 L := ⟨_, rfl⟩
  have HPS := Lib.hid hPS.symm
  rw [← hPS] at HSP
  obtain ⟨n, hn⟩ : ∃ n, n = PS.length := ⟨_, rfl⟩
  rw [← hn] at HSP
  have HN := Lib.hid hn
  have O0 := tks_one 0 0 0 0
  have hE : L ≠ [] → (t.toList.isEmpty = false ∧ (!t.toList.isEmpty) = true) := fun h => by
    have h1 : t.toList.isEmpty = false := by rw [ByteArray.toList_eq, ← hL, List.isEmpty_eq_false_iff]; exact h
    exact ⟨h1, by rw [h1]; rfl⟩
  have HE := Lib.hid hE
  clear hL hTL hPS hn hx hE
  go_enter Tryd.func16, Tryd.ntmps16
  go_wp2_with fail
  refine (HSP.out _).mono ?_
  rintro e w1 ⟨⟨A, cap, rfl, hown⟩, hb1⟩
  have B1 := B.later hb1
  have hbw := hb.trans (hb1.mono hb.size)
  have hlt0 := B.lt
  clear B hb hb1
  by_cases h4 : n = 4
  · subst h4
    obtain ⟨g, rfl, hg2, hg3⟩ := hown.block (by omega)
    have hg4 : w.heap.size + 1 ≤ g := by simpa using hg2
    obtain ⟨a, b, c, d, rfl⟩ := four_list HN.out.symm
    have a0 : w1.cell? ⟨g, 0, none⟩ = some (.string (str a)) := hown.cell 0 (by simp [svs])
    have a1 : w1.cell? ⟨g, 1, none⟩ = some (.string (str b)) := hown.cell 1 (by simp [svs])
    have a2 : w1.cell? ⟨g, 2, none⟩ = some (.string (str c)) := hown.cell 2 (by simp [svs])
    have a3 : w1.cell? ⟨g, 3, none⟩ = some (.string (str d)) := hown.cell 3 (by simp [svs])
    have HRP := Lib.hid (rpv_four HPS.out)
    have hLne : L ≠ [] := fun e => by
      have := HPS.out
      rw [e] at this
      simp [parts] at this
    have HRP2 : Hid (rpv L = if tsh (pint a 6).1 (rx b).1 (rx c).1 (ry d) = L then (((pint a 6).1, (rx b).1, (rx c).1, ry d), true) else ((0, 0, 0, 0), false)) := Lib.hid (by rw [HRP.out]; simp only [ne_eq, hLne, not_false_eq_true, true_and])
    obtain ⟨em1, em2⟩ := HE.out hLne
    have I0 : Hid (∀ wx : World, Calls Tryd.prog 43 #[.string (str a), .int .i64 6] wx fun e w' => e = .returned (.tuple #[.int .i64 (pint a 6).1, .bool (pint a 6).2]) ∧ wx = w') := Lib.hid (fun wx => rint_any (str a) 6 wx)
    have I1 : Hid (∀ wx : World, Calls Tryd.prog 43 #[.string (str b), .int .i64 1099511627776] wx fun e w' => e = .returned (.tuple #[.int .i64 (rx b).1, .bool (rx b).2]) ∧ wx = w') := Lib.hid (fun wx => rint_any (str b) 1099511627776 wx)
    have I2 : Hid (∀ wx : World, Calls Tryd.prog 43 #[.string (str c), .int .i64 1099511627776] wx fun e w' => e = .returned (.tuple #[.int .i64 (rx c).1, .bool (rx c).2]) ∧ wx = w') := Lib.hid (fun wx => rint_any (str c) 1099511627776 wx)
    have I3 : Hid (∀ wx : World, Calls Tryd.prog 43 #[.string (str d), .int .i64 1073741823] wx fun e w' => e = .returned (.tuple #[.int .i64 (pint d 1073741823).1, .bool (pint d 1073741823).2]) ∧ wx = w') := Lib.hid (fun wx => rint_any (str d) 1073741823 wx)
    have hq : ∃ q, q = decide (d = [97, 108, 108]) := ⟨_, rfl⟩
    obtain ⟨q, hq⟩ := hq
    have hqe : ((str d).toList == [97, 108, 108]) = q := by
      rw [ByteArray.toList_eq, hq]
      show (d == _) = _
      by_cases hd : d = [97, 108, 108] <;> simp [hd]
    have hry : ry d = if q = true then 1073741824 else (pint d 1073741823).1 := by rw [hq]; unfold ry; by_cases hd : d = [97, 108, 108] <;> simp [hd]
    obtain ⟨v0, hv0⟩ : ∃ z, z = (pint a 6).1 := ⟨_, rfl⟩
    obtain ⟨v1, hv1⟩ : ∃ z, z = (rx b).1 := ⟨_, rfl⟩
    obtain ⟨v2, hv2⟩ : ∃ z, z = (rx c).1 := ⟨_, rfl⟩
    obtain ⟨x3, hx3⟩ : ∃ z, z = (pint d 1073741823).1 := ⟨_, rfl⟩
    obtain ⟨v3, hv3⟩ : ∃ z, z = ry d := ⟨_, rfl⟩
    rw [← hv3, ← hx3] at hry
    rw [← hv0] at I0
    rw [← hv1] at I1
    rw [← hv2] at I2
    rw [← hx3] at I3
    rw [← hv0, ← hv1, ← hv2, ← hv3] at HRP2
    obtain ⟨sa, hsa⟩ : ∃ z, z = str a := ⟨_, rfl⟩
    obtain ⟨sb, hsb⟩ : ∃ z, z = str b := ⟨_, rfl⟩
    obtain ⟨sc, hsc⟩ : ∃ z, z = str c := ⟨_, rfl⟩
    obtain ⟨sd, hsd⟩ : ∃ z, z = str d := ⟨_, rfl⟩
    rw [← hsa] at I0 a0
    rw [← hsb] at I1 a1
    rw [← hsc] at I2 a2
    rw [← hsd] at I3 a3 hqe
    have HTSv := Lib.hid (HTS.out v0 v1 v2 v3)
    obtain ⟨sv, hsv⟩ : ∃ z, z = str (tsh v0 v1 v2 v3) := ⟨_, rfl⟩
    rw [← hsv] at HTSv
    obtain ⟨g3, hg3'⟩ : ∃ z, z = w1.heap.size := ⟨_, rfl⟩
    have hls := B1.lt
    have hne3 : g3 ≠ w.heap.size := by omega
    have hle3 : w.heap.size ≤ g3 := by omega
    have NB := Blk.new w1 (tks 0 0 0 0) 42
    rw [← hg3'] at NB
    have M0 := B1.alloc (.cells (tks 0 0 0 0).toArray 42)
    have mb := hbw.alloc hbw.size (.cells (tks 0 0 0 0).toArray 42)
    have TN := NB.there 0 4 (Nat.le_refl _)
    have XN := NB.wholeT (ds := tks v0 v1 v2 v3) rfl
    have X0 := M0.setsOther (b := g3) hne3 (tks v0 v1 v2 v3) 0
    have XB := below_sets (b := g3) hle3 (tks v0 v1 v2 v3) 0 mb
    have ON := tks_one v0 v1 v2 v3
    have HG3 := Lib.hid hg3'
    clear B1 hbw hv0 hv1 hv2 hx3 hv3 hsa hsb hsc hsd hq NB M0 mb hls hne3 hle3 hg3' hg2 hg3 hg4 hlt0 HRP HN HPS hown
    have HX : Hid (rpv L = if sv = t then ((v0, v1, v2, v3), true) else ((0, 0, 0, 0), false)) := Lib.hid (by
      rw [HRP2.out]
      have e : (tsh v0 v1 v2 v3 = L) ↔ (sv = t) := by
        rw [hsv, HTL.out]
        exact ⟨fun h => by rw [h], fun h => by simpa [str] using h⟩
      simp only [e])
    clear HRP2 hsv HTL HTS
    cases q
    · have hv3' : v3 = x3 := by simpa using hry
      clear hry
      subst hv3'
      by_cases heq : sv = t
      · have HY : Hid (rpv L = ((v0, v1, v2, v3), true)) := Lib.hid (by rw [HX.out, if_pos heq])
        subst heq
        clear HX
        go_wp2_with fail
        refine (I0.out _).mono ?_
        rintro e w2 ⟨rfl, rfl⟩
        go_wp2_with fail
        refine (I1.out _).mono ?_
        rintro e w2 ⟨rfl, rfl⟩
        go_wp2_with fail
        refine (I2.out _).mono ?_
        rintro e w2 ⟨rfl, rfl⟩
        go_wp2_with fail
        refine (I3.out _).mono ?_
        rintro e w2 ⟨rfl, rfl⟩
        go_wp2_with (first
          | (rw [← HG3.out]
             refine wpList_store_mid rfl 42 (.tmp 13) (.tmp 56) rfl g3 0 (tks v0 v1 v2 v3).toArray rfl rfl TN info_tok ON ?_
             simp only [Act.put]
             generalize hw5 : World.setCells _ g3 0 (tks v0 v1 v2 v3).toArray.toList = w5
             have XN' : Blk w5 g3 (tks v0 v1 v2 v3) := hw5 ▸ XN
             have X0' : Blk w5 w.heap.size (tks 0 0 0 0) := hw5 ▸ X0
             have XB' : Below w.heap.size w w5 := hw5 ▸ XB
             have RG := XN'.range 0 (tks v0 v1 v2 v3) rfl
             clear a0 a1 a2 a3 TN XN X0 XB hw5 ON)
          | (refine wpList_load_g (by rfl) 42 (.tmp 13) rfl g3 0 rfl (tks v0 v1 v2 v3) _ RG hu rfl info_tok ?_)
          | fail)
        refine (HTSv.out _).mono ?_
        rintro e w6 ⟨rfl, hb6⟩
        replace X0 := X0'.later hb6
        replace XB := XB'.trans (hb6.mono XB'.size)
        have T6 := X0.there 0 4 (Nat.le_refl _)
        have F6 := X0.wholeT (ds := tks v0 v1 v2 v3) rfl
        have G6 := below_sets (Nat.le_refl w.heap.size) (tks v0 v1 v2 v3) 0 XB
        replace RG := (XN'.later hb6).range 0 (tks v0 v1 v2 v3) rfl
        have ON6 := tks_one v0 v1 v2 v3
        go_wp2_with (first
          | (refine wpList_load_mid rfl 42 (.tmp 13) rfl g3 0 rfl (tks v0 v1 v2 v3) _ RG hu rfl info_tok ?_)
          | (refine wpList_store_mid rfl 42 (.tmp 2) (.tmp 66) rfl w.heap.size 0 (tks v0 v1 v2 v3).toArray rfl rfl T6 info_tok ON6 ?_)
          | fail)
        exact bodyPost_ret (v := .tuple #[.agg (tks v0 v1 v2 v3).toArray, .bool true]) (results_rows_tmp (q := 2) (p := 3) rfl _ _ w.heap.size _ _ _ rfl rfl F6 hu rfl info_tok) rfl ⟨by rw [HY.out]; rfl, G6⟩
      · have HY : Hid (rpv L = ((0, 0, 0, 0), false)) := Lib.hid (by rw [HX.out, if_neg heq])
        have hne : (sv.toList == t.toList) = false := by
          rw [beq_eq_false_iff_ne]
          exact fun h => heq ((list_str _ _).1 h)
        have hne2 : (sv.toList != t.toList) = true := by rw [bne, hne]; rfl
        clear HX heq
        go_wp2_with fail
        refine (I0.out _).mono ?_
        rintro e w2 ⟨rfl, rfl⟩
        go_wp2_with fail
        refine (I1.out _).mono ?_
        rintro e w2 ⟨rfl, rfl⟩
        go_wp2_with fail
        refine (I2.out _).mono ?_
        rintro e w2 ⟨rfl, rfl⟩
        go_wp2_with fail
        refine (I3.out _).mono ?_
        rintro e w2 ⟨rfl, rfl⟩
        go_wp2_with (first
          | (rw [← HG3.out]
             refine wpList_store_mid rfl 42 (.tmp 13) (.tmp 56) rfl g3 0 (tks v0 v1 v2 v3).toArray rfl rfl TN info_tok ON ?_
             simp only [Act.put]
             generalize hw5 : World.setCells _ g3 0 (tks v0 v1 v2 v3).toArray.toList = w5
             have XN' : Blk w5 g3 (tks v0 v1 v2 v3) := hw5 ▸ XN
             have X0' : Blk w5 w.heap.size (tks 0 0 0 0) := hw5 ▸ X0
             have XB' : Below w.heap.size w w5 := hw5 ▸ XB
             have RG := XN'.range 0 (tks v0 v1 v2 v3) rfl
             clear a0 a1 a2 a3 TN XN X0 XB hw5 ON)
          | (refine wpList_load_g (by rfl) 42 (.tmp 13) rfl g3 0 rfl (tks v0 v1 v2 v3) _ RG hu rfl info_tok ?_)
          | fail)
        refine (HTSv.out _).mono ?_
        rintro e w6 ⟨rfl, hb6⟩
        replace X0 := X0'.later hb6
        replace XB := XB'.trans (hb6.mono XB'.size)
        have T6 := X0.there 0 4 (Nat.le_refl _)
        have F6 := X0.wholeT (ds := tks 0 0 0 0) rfl
        have G6 := below_sets (Nat.le_refl w.heap.size) (tks 0 0 0 0) 0 XB
        replace RG := (XN'.later hb6).range 0 (tks v0 v1 v2 v3) rfl
        have ON6 := tks_one 0 0 0 0
        go_wp2_with (first
          | (refine wpList_load_mid rfl 42 (.tmp 13) rfl g3 0 rfl (tks v0 v1 v2 v3) _ RG hu rfl info_tok ?_)
          | (refine wpList_store_mid rfl 42 (.tmp 2) (.tmp 65) rfl w.heap.size 0 (tks 0 0 0 0).toArray rfl rfl T6 info_tok ON6 ?_)
          | fail)
        exact bodyPost_ret (v := .tuple #[.agg (tks 0 0 0 0).toArray, .bool false]) (results_rows_tmp (q := 2) (p := 3) rfl _ _ w.heap.size _ _ _ rfl rfl F6 hu rfl info_tok) rfl ⟨by rw [HY.out]; rfl, G6⟩
    · have hv3' : v3 = 1073741824 := by simpa using hry
      clear hry
      subst hv3'
      by_cases heq : sv = t
      · have HY : Hid (rpv L = ((v0, v1, v2, 1073741824), true)) := Lib.hid (by rw [HX.out, if_pos heq])
        subst heq
        clear HX
        go_wp2_with fail
        refine (I0.out _).mono ?_
        rintro e w2 ⟨rfl, rfl⟩
        go_wp2_with fail
        refine (I1.out _).mono ?_
        rintro e w2 ⟨rfl, rfl⟩
        go_wp2_with fail
        refine (I2.out _).mono ?_
        rintro e w2 ⟨rfl, rfl⟩
        go_wp2_with fail
        refine (I3.out _).mono ?_
        rintro e w2 ⟨rfl, rfl⟩
        go_wp2_with (first
          | (rw [← HG3.out]
             refine wpList_store_mid rfl 42 (.tmp 13) (.tmp 56) rfl g3 0 (tks v0 v1 v2 1073741824).toArray rfl rfl TN info_tok ON ?_
             simp only [Act.put]
             generalize hw5 : World.setCells _ g3 0 (tks v0 v1 v2 1073741824).toArray.toList = w5
             have XN' : Blk w5 g3 (tks v0 v1 v2 1073741824) := hw5 ▸ XN
             have X0' : Blk w5 w.heap.size (tks 0 0 0 0) := hw5 ▸ X0
             have XB' : Below w.heap.size w w5 := hw5 ▸ XB
             have RG := XN'.range 0 (tks v0 v1 v2 1073741824) rfl
             clear a0 a1 a2 a3 TN XN X0 XB hw5 ON)
          | (refine wpList_load_g (by rfl) 42 (.tmp 13) rfl g3 0 rfl (tks v0 v1 v2 1073741824) _ RG hu rfl info_tok ?_)
          | fail)
        refine (HTSv.out _).mono ?_
        rintro e w6 ⟨rfl, hb6⟩
        replace X0 := X0'.later hb6
        replace XB := XB'.trans (hb6.mono XB'.size)
        have T6 := X0.there 0 4 (Nat.le_refl _)
        have F6 := X0.wholeT (ds := tks v0 v1 v2 1073741824) rfl
        have G6 := below_sets (Nat.le_refl w.heap.size) (tks v0 v1 v2 1073741824) 0 XB
        replace RG := (XN'.later hb6).range 0 (tks v0 v1 v2 1073741824) rfl
        have ON6 := tks_one v0 v1 v2 1073741824
        go_wp2_with (first
          | (refine wpList_load_mid rfl 42 (.tmp 13) rfl g3 0 rfl (tks v0 v1 v2 1073741824) _ RG hu rfl info_tok ?_)
          | (refine wpList_store_mid rfl 42 (.tmp 2) (.tmp 66) rfl w.heap.size 0 (tks v0 v1 v2 1073741824).toArray rfl rfl T6 info_tok ON6 ?_)
          | fail)
        exact bodyPost_ret (v := .tuple #[.agg (tks v0 v1 v2 1073741824).toArray, .bool true]) (results_rows_tmp (q := 2) (p := 3) rfl _ _ w.heap.size _ _ _ rfl rfl F6 hu rfl info_tok) rfl ⟨by rw [HY.out]; rfl, G6⟩
      · have HY : Hid (rpv L = ((0, 0, 0, 0), false)) := Lib.hid (by rw [HX.out, if_neg heq])
        have hne : (sv.toList == t.toList) = false := by
          rw [beq_eq_false_iff_ne]
          exact fun h => heq ((list_str _ _).1 h)
        have hne2 : (sv.toList != t.toList) = true := by rw [bne, hne]; rfl
        clear HX heq
        go_wp2_with fail
        refine (I0.out _).mono ?_
        rintro e w2 ⟨rfl, rfl⟩
        go_wp2_with fail
        refine (I1.out _).mono ?_
        rintro e w2 ⟨rfl, rfl⟩
        go_wp2_with fail
        refine (I2.out _).mono ?_
        rintro e w2 ⟨rfl, rfl⟩
        go_wp2_with fail
        refine (I3.out _).mono ?_
        rintro e w2 ⟨rfl, rfl⟩
        go_wp2_with (first
          | (rw [← HG3.out]
             refine wpList_store_mid rfl 42 (.tmp 13) (.tmp 56) rfl g3 0 (tks v0 v1 v2 1073741824).toArray rfl rfl TN info_tok ON ?_
             simp only [Act.put]
             generalize hw5 : World.setCells _ g3 0 (tks v0 v1 v2 1073741824).toArray.toList = w5
             have XN' : Blk w5 g3 (tks v0 v1 v2 1073741824) := hw5 ▸ XN
             have X0' : Blk w5 w.heap.size (tks 0 0 0 0) := hw5 ▸ X0
             have XB' : Below w.heap.size w w5 := hw5 ▸ XB
             have RG := XN'.range 0 (tks v0 v1 v2 1073741824) rfl
             clear a0 a1 a2 a3 TN XN X0 XB hw5 ON)
          | (refine wpList_load_g (by rfl) 42 (.tmp 13) rfl g3 0 rfl (tks v0 v1 v2 1073741824) _ RG hu rfl info_tok ?_)
          | fail)
        refine (HTSv.out _).mono ?_
        rintro e w6 ⟨rfl, hb6⟩
        replace X0 := X0'.later hb6
        replace XB := XB'.trans (hb6.mono XB'.size)
        have T6 := X0.there 0 4 (Nat.le_refl _)
        have F6 := X0.wholeT (ds := tks 0 0 0 0) rfl
        have G6 := below_sets (Nat.le_refl w.heap.size) (tks 0 0 0 0) 0 XB
        replace RG := (XN'.later hb6).range 0 (tks v0 v1 v2 1073741824) rfl
        have ON6 := tks_one 0 0 0 0
        go_wp2_with (first
          | (refine wpList_load_mid rfl 42 (.tmp 13) rfl g3 0 rfl (tks v0 v1 v2 1073741824) _ RG hu rfl info_tok ?_)
          | (refine wpList_store_mid rfl 42 (.tmp 2) (.tmp 65) rfl w.heap.size 0 (tks 0 0 0 0).toArray rfl rfl T6 info_tok ON6 ?_)
          | fail)
        exact bodyPost_ret (v := .tuple #[.agg (tks 0 0 0 0).toArray, .bool false]) (results_rows_tmp (q := 2) (p := 3) rfl _ _ w.heap.size _ _ _ rfl rfl F6 hu rfl info_tok) rfl ⟨by rw [HY.out]; rfl, G6⟩
  · have d4 : ((n : Int) == 4) = false := by simp; omega
    have HX : Hid (rpv L = ((0, 0, 0, 0), false)) := Lib.hid (rpv_other (by rw [HPS.out, ← HN.out]; exact h4))
    have T1 := B1.there 0 4 (Nat.le_refl _)
    have F1 := B1.wholeT (ds := tks 0 0 0 0) rfl
    have G1 := below_sets (Nat.le_refl w.heap.size) (tks 0 0 0 0) 0 hbw
    clear h4 hown B1 hbw hlt0
    go_wp2_with (first
      | (refine wpList_store_mid rfl 42 (.tmp 2) (.tmp 19) rfl w.heap.size 0 (tks 0 0 0 0).toArray rfl rfl T1 info_tok O0 ?_)
      | fail)
    exact bodyPost_ret (v := .tuple #[.agg (tks 0 0 0 0).toArray, .bool false]) (results_rows_tmp (q := 2) (p := 3) rfl _ _ w.heap.size _ _ _ rfl rfl F1 hu rfl info_tok) rfl ⟨by rw [HX.out]; rfl, G1⟩
end Go.Proofs.YticdpfjajkfheaaDoor
