/- Disks: an act, by both. -/
import Derived.Test.YtjnfdhjnfginpaaDkY
namespace Go.Proofs.Ytjnfdhjnfginpaa
set_option linter.unusedVariables false
set_option linter.unusedSimpArgs false
open Go Go.RowKit

set_option maxRecDepth 100000 in
set_option maxHeartbeats 6400000 in
theorem does_any (L g b : Nat) (r : Option Nat) (m : Nat) (q p : Option Nat) (D : Dk) (kd a n : Int) (c : UInt8) (A : Option Addr) (ln cp : Nat) (keep : List Int) (w : World) (h : Both w L g b r m q p D) (hin : DIn D)
    (hf : -9223372036854775808 ≤ D.fuse ∧ D.fuse ≤ 9223372036854775807) (hw : D.w.length ≤ 65000) (hs : D.s.length ≤ 2048) (hL : L ≤ w.heap.size) (hk : keep.length = ln) (hln : ln ≤ maxLen) (hsee : ∀ W, Below L w W → Sees W W.heap.size A (ivs keep)) :
    Calls Try.prog 8 #[.pointer (some ⟨g, 0, none⟩), .pointer (some ⟨m, 0, none⟩), .agg #[.int .i64 kd, .int .i64 a, .int .i64 n, .int .u8 (c.toNat : Int), .slice A ln cp]] w fun e w' => e = .returned (.bool true) ∧ ∃ r' q' p', Both w' L g b r' m q' p' (dact D kd a n c keep) ∧ Below L w w' := by
  have hgl := h.dk.lt
  have hml := h.rf.lt
  have hrl := h.dk.row
  have B1 := Blk.new w [.int .i64 kd, .int .i64 a, .int .i64 n, .int .u8 (c.toNat : Int), .slice A ln cp] 35
  have L1 := (Below.refl w.heap.size w).alloc (Nat.le_refl _) (.cells #[.int .i64 kd, .int .i64 a, .int .i64 n, .int .u8 (c.toNat : Int), .slice A ln cp] 35)
  have HX : Hid (∀ wx, Below w.heap.size w wx → Both wx L g b r m q p D) := Lib.hid (fun wx hb => h.later hb)
  have HNE : Hid (w.heap.size ≠ g ∧ w.heap.size ≠ b ∧ (∀ j, L ≤ w.heap.size + j) ∧ w.heap.size ≠ m ∧ r ≠ some w.heap.size) := Lib.hid ⟨by omega, by omega, fun j => by omega, by omega, fun e => by have := hrl _ e; omega⟩
  have HL : Hid (L ≤ w.heap.size) := Lib.hid hL
  have HIN := Lib.hid hin
  have HF := Lib.hid hf
  have HW := Lib.hid hw
  have HSL := Lib.hid hs
  have HSEE := Lib.hid hsee
  have HK := Lib.hid hk
  have HLN := Lib.hid hln
  clear h hin hf hw hs hL hk hln hsee hgl hml hrl
  by_cases k0 : kd = 0
  · subst k0
    have HD : Hid (dact D 0 a n c keep = (dwrite D a (fil (if n = 7 then 63 else 64) c)).1) := Lib.hid (by unfold dact; rw [if_pos rfl])
    obtain ⟨l, hl⟩ : ∃ l, l = fil (if n = 7 then 63 else 64) c := ⟨_, rfl⟩
    rw [← hl] at HD
    obtain ⟨s0, hs0⟩ : ∃ s0, s0 = str l := ⟨_, rfl⟩
    have HLL : Hid (l.length ≤ maxLen) := Lib.hid (by rw [hl, fil_len]; unfold maxLen; split <;> omega)
    have HSE : Hid (∀ wx : World, Calls Try.prog 12 #[.int .u8 (c.toNat : Int), .int .i64 n] wx fun e w' => e = .returned (.string s0) ∧ Below wx.heap.size wx w') := Lib.hid (fun wx => by rw [hs0, hl]; exact sect_any c n wx)
    have HWR : Hid (∀ wx, Below w.heap.size w wx → Calls Try.prog 11 #[.pointer (some ⟨g, 0, none⟩), .int .i64 a, .string s0] wx fun e w' => e = .returned (.int .i64 (dwrite D a l).2) ∧ ∃ r', DkAt w' L g b r' (dwrite D a l).1 ∧ Turn3 wx w' g b r ∧ RowN wx r r') := Lib.hid (fun wx hb => by rw [hs0]; exact write_any L g b r D a l wx (HX.out wx hb).dk HF.out HLL.out (by have := HW.out; omega) (Nat.le_trans HL.out hb.size))
    have HRW : Hid (∀ wx, RfAt wx L m q p D → L ≤ wx.heap.size → Calls Try.prog 21 #[.pointer (some ⟨m, 0, none⟩), .int .i64 a, .string s0] wx fun e w' => e = .returned (.int .i64 (dwrite D a l).2) ∧ ∃ p', RfAt w' L m q p' (dwrite D a l).1 ∧ Turn3 wx w' m m none ∧ RowN wx p p') := Lib.hid (fun wx hr hz => by rw [hs0]; exact rwrite_any L m q p D a l wx hr HF.out HLL.out (by have := HW.out; omega) (by have := HSL.out; omega) hz)
    obtain ⟨er, her⟩ : ∃ er, er = (dwrite D a l).2 := ⟨_, rfl⟩
    rw [← her] at HWR HRW
    have c0 : (w.alloc (.cells #[.int .i64 0, .int .i64 a, .int .i64 n, .int .u8 (c.toNat : Int), .slice A ln cp] 35)).cell? ⟨w.heap.size, 0, none⟩ = some (.int .i64 0) := B1.cell (j := 0) rfl
    have c2 : (w.alloc (.cells #[.int .i64 0, .int .i64 a, .int .i64 n, .int .u8 (c.toNat : Int), .slice A ln cp] 35)).cell? ⟨w.heap.size, 2, none⟩ = some (.int .i64 n) := B1.cell (j := 2) rfl
    have c3 : (w.alloc (.cells #[.int .i64 0, .int .i64 a, .int .i64 n, .int .u8 (c.toNat : Int), .slice A ln cp] 35)).cell? ⟨w.heap.size, 3, none⟩ = some (.int .u8 (c.toNat : Int)) := B1.cell (j := 3) rfl
    have HB1 := Lib.hid B1
    have HL1 := Lib.hid L1
    clear her hl hs0 B1 L1
    go_enter Try.func8, Try.ntmps8
    go_wp2_with fail
    refine (HSE.out _).mono ?_
    rintro e w3 ⟨rfl, hb3⟩
    have HL3 := Lib.hid (HL1.out.trans (hb3.mono HL1.out.size))
    have HB3 := Lib.hid (HB1.out.later hb3)
    clear hb3 HB1 HL1 c0 c2 c3 HSE
    go_wp2_with fail
    refine wp_region_held (S := fun wx => wx.cell? ⟨w.heap.size, 1, none⟩ = some (.int .i64 a)) (by kernel_rfl) ?_
    show Go.wpAnyH Try.prog Region.Mode.any _ _ _ _ _ _ w3.drew
    have HL3 := Lib.hid HL3.out.drew
    have HB3 := Lib.hid HB3.out.drew
    generalize w3.drew = wd at HL3 HB3 ⊢
    have hS : wd.cell? ⟨w.heap.size, 1, none⟩ = some (.int .i64 a) := HB3.out.cell (j := 1) rfl
    refine takeH (i := 0) (oi := _) (v := (.pointer (some ⟨g, 0, none⟩))) (fuel := 11) (some 17) rfl rfl (by kernel_rfl) (by kernel_rfl) (by kernel_rfl) (fun _ _ _ h => h) (.inl ⟨by rfl, fun wx hS => by simp [go_sem]⟩) hS ?_
    simp only [Act.put, List.setIfInBounds_toArray, List.set_cons_zero, List.set_cons_succ]
    refine takeH (i := 1) (oi := _) (v := (.pointer (some ⟨w.heap.size, 1, none⟩))) (fuel := 10) (some 18) rfl rfl (by kernel_rfl) (by kernel_rfl) (by kernel_rfl) (fun _ _ _ h => h) (.inl ⟨by rfl, fun wx hS => by simp [go_sem]⟩) hS ?_
    simp only [Act.put, List.setIfInBounds_toArray, List.set_cons_zero, List.set_cons_succ]
    refine takeH (i := 2) (oi := _) (v := (.int .i64 a)) (fuel := 9) (some 19) rfl rfl (by kernel_rfl) (by kernel_rfl) (by kernel_rfl) (fun _ _ _ h => h) (.inl ⟨by rfl, fun wx hS => by simp [go_sem, hS]⟩) hS ?_
    simp only [Act.put, List.setIfInBounds_toArray, List.set_cons_zero, List.set_cons_succ]
    refine takeH (i := 3) (oi := _) (v := (.string s0)) (fuel := 8) (some 20) rfl rfl (by kernel_rfl) (by kernel_rfl) (by kernel_rfl) (fun _ _ _ h => h) (.inl ⟨by rfl, fun wx hS => by simp [go_sem]⟩) hS ?_
    simp only [Act.put, List.setIfInBounds_toArray, List.set_cons_zero, List.set_cons_succ]
    refine takeH (i := 5) (oi := _) (v := (.pointer (some ⟨m, 0, none⟩))) (fuel := 7) (some 22) rfl rfl (by kernel_rfl) (by kernel_rfl) (by kernel_rfl) (fun _ _ _ h => h) (.inl ⟨by rfl, fun wx hS => by simp [go_sem]⟩) hS ?_
    simp only [Act.put, List.setIfInBounds_toArray, List.set_cons_zero, List.set_cons_succ]
    refine takeH (i := 6) (oi := _) (v := (.pointer (some ⟨w.heap.size, 1, none⟩))) (fuel := 6) (some 23) rfl rfl (by kernel_rfl) (by kernel_rfl) (by kernel_rfl) (fun _ _ _ h => h) (.inl ⟨by rfl, fun wx hS => by simp [go_sem]⟩) hS ?_
    simp only [Act.put, List.setIfInBounds_toArray, List.set_cons_zero, List.set_cons_succ]
    refine takeH (i := 7) (oi := _) (v := (.int .i64 a)) (fuel := 5) (some 24) rfl rfl (by kernel_rfl) (by kernel_rfl) (by kernel_rfl) (fun _ _ _ h => h) (.inl ⟨by rfl, fun wx hS => by simp [go_sem, hS]⟩) hS ?_
    simp only [Act.put, List.setIfInBounds_toArray, List.set_cons_zero, List.set_cons_succ]
    refine takeH (i := 8) (oi := _) (v := (.string s0)) (fuel := 4) (some 25) rfl rfl (by kernel_rfl) (by kernel_rfl) (by kernel_rfl) (fun _ _ _ h => h) (.inl ⟨by rfl, fun wx hS => by simp [go_sem]⟩) hS ?_
    simp only [Act.put, List.setIfInBounds_toArray, List.set_cons_zero, List.set_cons_succ]
    refine allH [4] 4 (fuel := 3) (by kernel_rfl) ?_
    refine callH (some 21) _ rfl rfl 11 #[.pointer (some ⟨g, 0, none⟩), .int .i64 a, .string s0] (by simp [go_sem]) (by rfl) ?_
    refine (HWR.out wd HL3.out).mono ?_
    rintro e w4 ⟨rfl, r4, H4, T4, R4⟩
    have HB4 := T4.blk HB3.out HNE.out.1 HNE.out.2.1 HNE.out.2.2.2.2
    have hS4 : w4.cell? ⟨w.heap.size, 1, none⟩ = some (.int .i64 a) := HB4.cell (j := 1) rfl
    refine ⟨_, rfl, hS4, ?_⟩
    have X3 := HX.out wd HL3.out
    have M4 := X3.mid T4
    have hz4 : L ≤ w4.heap.size := Nat.le_trans (Nat.le_trans HL.out HL3.out.size) T4.size
    clear hS
    have hS := hS4
    clear hS4
    simp only [Act.put, List.setIfInBounds_toArray, List.set_cons_zero, List.set_cons_succ]
    refine allH [9] 9 (fuel := 2) (by kernel_rfl) ?_
    refine callH (some 26) _ rfl rfl 21 #[.pointer (some ⟨m, 0, none⟩), .int .i64 a, .string s0] (by simp [go_sem]) (by rfl) ?_
    refine (HRW.out w4 M4 hz4).mono ?_
    rintro e w5 ⟨rfl, p5, H5, T5, R5⟩
    have hS5 : w5.cell? ⟨w.heap.size, 1, none⟩ = some (.int .i64 a) := (T5.blk HB4 HNE.out.2.2.2.1 HNE.out.2.2.2.1 (by simp)).cell (j := 1) rfl
    refine ⟨_, rfl, hS5, ?_⟩
    have Y5 := Lib.hid (X3.step H4 T4 R4 H5 T5 (RowN.refl _ _) R5)
    have Z5 := Lib.hid ((HL3.out.mono HL.out).trans (X3.below T4 T5 (Nat.le_trans HL.out HL3.out.size)))
    clear hS X3 M4 hz4 HB4 H4 T4 R4 H5 T5 R5 HB3 HL3 HX
    have hS := hS5
    clear hS5
    simp only [Act.put, List.setIfInBounds_toArray, List.set_cons_zero, List.set_cons_succ]
    refine takeH (i := 10) (oi := _) (v := (.bool true)) (fuel := 1) (some 27) rfl rfl (by kernel_rfl) (by kernel_rfl) (by kernel_rfl) (fun _ _ _ h => h) (.inl ⟨by rfl, fun wx hS => by simp [go_sem]⟩) hS ?_
    simp only [Act.put, List.setIfInBounds_toArray, List.set_cons_zero, List.set_cons_succ]
    refine takeH (i := 11) (oi := _) (v := (.bool true)) (fuel := 0) (some 6) rfl rfl (by kernel_rfl) (by kernel_rfl) (by kernel_rfl) (fun _ _ _ h => h) (.inl ⟨by rfl, fun wx hS => by simp [go_sem]⟩) hS ?_
    simp only [Act.put, List.setIfInBounds_toArray, List.set_cons_zero, List.set_cons_succ]
    refine wpAnyH_done (by kernel_rfl) ?_ 0
    clear hS
    go_wp2_with fail
    go_ret
    exact ⟨rfl, r4, q, p5, by rw [HD.out]; exact Y5.out, Z5.out⟩
  · by_cases k1 : kd = 1
    · subst k1
      have HD : Hid (dact D 1 a n c keep = (dsync D).1) := Lib.hid (by unfold dact; rw [if_neg (by decide), if_pos rfl])
      have HWR : Hid (∀ wx, Below w.heap.size w wx → Calls Try.prog 13 #[.pointer (some ⟨g, 0, none⟩)] wx fun e w' => e = .returned (.int .i64 (dsync D).2) ∧ ∃ r', DkAt w' L g b r' (dsync D).1 ∧ Turn3 wx w' g b r ∧ RowN wx r r') := Lib.hid (fun wx hb => sync_any L g b r D wx (HX.out wx hb).dk HIN.out HF.out (by have := HW.out; omega) (Nat.le_trans HL.out hb.size))
      have HRW : Hid (∀ wx, RfAt wx L m q p D → L ≤ wx.heap.size → Calls Try.prog 22 #[.pointer (some ⟨m, 0, none⟩)] wx fun e w' => e = .returned (.int .i64 (dsync D).2) ∧ ∃ q' p', RfAt w' L m q' p' (dsync D).1 ∧ Turn3 wx w' m m none ∧ RowN wx q q' ∧ RowN wx p p') := Lib.hid (fun wx hr hz => rsync_any L m q p D wx hr HIN.out HF.out (by have := HW.out; omega) (by have := HSL.out; omega) hz)
      obtain ⟨er, her⟩ : ∃ er, er = (dsync D).2 := ⟨_, rfl⟩
      rw [← her] at HWR HRW
      have c0 : (w.alloc (.cells #[.int .i64 1, .int .i64 a, .int .i64 n, .int .u8 (c.toNat : Int), .slice A ln cp] 35)).cell? ⟨w.heap.size, 0, none⟩ = some (.int .i64 1) := B1.cell (j := 0) rfl
      have HL1 := Lib.hid L1
      clear her B1 L1 k0
      go_enter Try.func8, Try.ntmps8
      go_wp2_with fail
      refine (HWR.out _ HL1.out).mono ?_
      rintro e w4 ⟨rfl, r4, H4, T4, R4⟩
      have X3 := HX.out _ HL1.out
      have M4 := X3.mid T4
      have hz4 : L ≤ w4.heap.size := Nat.le_trans (Nat.le_trans HL.out HL1.out.size) T4.size
      have H4 := Lib.hid H4
      have T4 := Lib.hid T4
      have R4 := Lib.hid R4
      have X3 := Lib.hid X3
      have M4 := Lib.hid M4
      clear c0
      go_wp2_with fail
      refine (HRW.out w4 M4.out hz4).mono ?_
      rintro e w5 ⟨rfl, q5, p5, H5, T5, Q5, R5⟩
      have Y5 := Lib.hid (X3.out.step H4.out T4.out R4.out H5 T5 Q5 R5)
      have Z5 := Lib.hid ((HL1.out.mono HL.out).trans (X3.out.below T4.out T5 (Nat.le_trans HL.out HL1.out.size)))
      clear X3 M4 hz4 H4 T4 R4 H5 T5 Q5 R5 HL1 HX
      go_wp2_with fail
      go_ret
      exact ⟨rfl, r4, q5, p5, by rw [HD.out]; exact Y5.out, Z5.out⟩
    · by_cases k2 : kd = 2
      · subst k2
        have HD : Hid (dact D 2 a n c keep = { D with fuse := n }) := Lib.hid (by unfold dact; rw [if_neg (by decide), if_neg (by decide), if_pos rfl])
        have HWR : Hid (∀ wx, Below w.heap.size w wx → Calls Try.prog 14 #[.pointer (some ⟨g, 0, none⟩), .int .i64 n] wx fun e w' => e = .returned (.tuple #[]) ∧ DkAt w' L g b r { D with fuse := n } ∧ Turn3 wx w' g b r) := Lib.hid (fun wx hb => fuse_any L g b r D n wx (HX.out wx hb).dk)
        have c0 : (w.alloc (.cells #[.int .i64 2, .int .i64 a, .int .i64 n, .int .u8 (c.toNat : Int), .slice A ln cp] 35)).cell? ⟨w.heap.size, 0, none⟩ = some (.int .i64 2) := B1.cell (j := 0) rfl
        have c2 : (w.alloc (.cells #[.int .i64 2, .int .i64 a, .int .i64 n, .int .u8 (c.toNat : Int), .slice A ln cp] 35)).cell? ⟨w.heap.size, 2, none⟩ = some (.int .i64 n) := B1.cell (j := 2) rfl
        have HB1 := Lib.hid B1
        have HL1 := Lib.hid L1
        clear B1 L1 k0 k1
        go_enter Try.func8, Try.ntmps8
        go_wp2_with fail
        refine (HWR.out _ HL1.out).mono ?_
        rintro e w4 ⟨rfl, H4, T4⟩
        have HB4 := T4.blk HB1.out HNE.out.1 HNE.out.2.1 HNE.out.2.2.2.2
        have c2' : w4.cell? ⟨w.heap.size, 2, none⟩ = some (.int .i64 n) := HB4.cell (j := 2) rfl
        have X3 := HX.out _ HL1.out
        have M4 := X3.mid T4
        have H5 := M4.setFuse n
        have T5 := Turn3.set w4 m m m 2 none (.int .i64 n) (.inl rfl)
        have Y5 := Lib.hid (X3.step H4 T4 (RowN.refl _ _) H5 T5 (RowN.refl _ _) (RowN.refl _ _))
        have Z5 := Lib.hid ((HL1.out.mono HL.out).trans (X3.below T4 T5 (Nat.le_trans HL.out HL1.out.size)))
        obtain ⟨A3, c3, A4, c4, m0, m1, m2, m3, _, _, _, _, mz⟩ := M4.cells
        have mz := mz 2
        clear X3 M4 H4 T4 H5 T5 HL1 HX c0 c2 m0 m1 m3 HB4 HB1
        go_wp2_with fail
        go_ret
        exact ⟨rfl, r, q, p, by rw [HD.out]; exact Y5.out, Z5.out⟩
      · by_cases k3 : kd = 3
        · subst k3
          have HD : Hid (dact D 3 a n c keep = dcrash D keep) := Lib.hid (by unfold dact; rw [if_neg (by decide), if_neg (by decide), if_neg (by decide), if_pos rfl])
          have HWR : Hid (∀ wx, Below w.heap.size w wx → Calls Try.prog 15 #[.pointer (some ⟨g, 0, none⟩), .slice A ln cp] wx fun e w' => e = .returned (.tuple #[]) ∧ DkAt w' L g b none (dcrash D keep) ∧ Turn3 wx w' g b r) := Lib.hid (fun wx hb => crash_any L g b r D A ln cp keep wx (HX.out wx hb).dk HIN.out (by have := HW.out; omega) (Nat.le_trans HL.out hb.size) HK.out HLN.out (fun W hT => HSEE.out W ((hb.mono HL.out).trans (hT.below (HX.out wx hb).dk.Lb (HX.out wx hb).dk.Lb (fun k e => by cases e) (Nat.le_trans HL.out hb.size)))))
          have HRW : Hid (∀ wx, RfAt wx L m q p D → Below L w wx → L ≤ wx.heap.size → Calls Try.prog 23 #[.pointer (some ⟨m, 0, none⟩), .slice A ln cp] wx fun e w' => e = .returned (.tuple #[]) ∧ ∃ q', RfAt w' L m q' none (dcrash D keep) ∧ Turn3 wx w' m m none ∧ RowN wx q q') := Lib.hid (fun wx hr hb hz => rcrash_any L m q p D A ln cp keep wx hr HIN.out (by have := HW.out; omega) (by have := HSL.out; omega) hz HK.out HLN.out (fun W hT => HSEE.out W (hb.trans (hT.below hr.Lm hr.Lm (fun k e => by cases e) hz))))
          have c0 : (w.alloc (.cells #[.int .i64 3, .int .i64 a, .int .i64 n, .int .u8 (c.toNat : Int), .slice A ln cp] 35)).cell? ⟨w.heap.size, 0, none⟩ = some (.int .i64 3) := B1.cell (j := 0) rfl
          have c4 : (w.alloc (.cells #[.int .i64 3, .int .i64 a, .int .i64 n, .int .u8 (c.toNat : Int), .slice A ln cp] 35)).cell? ⟨w.heap.size, 4, none⟩ = some (.slice A ln cp) := B1.cell (j := 4) rfl
          have HB1 := Lib.hid B1
          have HL1 := Lib.hid L1
          clear B1 L1 k0 k1 k2
          go_enter Try.func8, Try.ntmps8
          go_wp2_with fail
          refine (HWR.out _ HL1.out).mono ?_
          rintro e w4 ⟨rfl, H4, T4⟩
          have HB4 := T4.blk HB1.out HNE.out.1 HNE.out.2.1 HNE.out.2.2.2.2
          have c4' : w4.cell? ⟨w.heap.size, 4, none⟩ = some (.slice A ln cp) := HB4.cell (j := 4) rfl
          have X3 := HX.out _ HL1.out
          have M4 := X3.mid T4
          have hz4 : L ≤ w4.heap.size := Nat.le_trans (Nat.le_trans HL.out HL1.out.size) T4.size
          have b4 : Below L w w4 := (HL1.out.mono HL.out).trans (T4.below X3.dk.Lg X3.dk.Lb (fun k hk => (X3.dk.row k hk).1) (Nat.le_trans HL.out HL1.out.size))
          have H4 := Lib.hid H4
          have T4 := Lib.hid T4
          have X3 := Lib.hid X3
          have M4 := Lib.hid M4
          have b4 := Lib.hid b4
          clear c0 c4 HB4
          go_wp2_with fail
          refine (HRW.out w4 M4.out b4.out hz4).mono ?_
          rintro e w5 ⟨rfl, q5, H5, T5, Q5⟩
          have Y5 := Lib.hid (X3.out.step H4.out T4.out (RowN.none _ _) H5 T5 Q5 (RowN.none _ _))
          have Z5 := Lib.hid ((HL1.out.mono HL.out).trans (X3.out.below T4.out T5 (Nat.le_trans HL.out HL1.out.size)))
          clear X3 M4 hz4 H4 T4 H5 T5 Q5 HL1 HX b4 c4'
          go_wp2_with fail
          go_ret
          exact ⟨rfl, none, q5, none, by rw [HD.out]; exact Y5.out, Z5.out⟩
        · have HD : Hid (dact D kd a n c keep = D) := Lib.hid (by unfold dact; rw [if_neg k0, if_neg k1, if_neg k2, if_neg k3])
          have e0 : (kd == 0) = false := by rw [beq_eq_false_iff_ne]; exact k0
          have e1 : (kd == 1) = false := by rw [beq_eq_false_iff_ne]; exact k1
          have e2 : (kd == 2) = false := by rw [beq_eq_false_iff_ne]; exact k2
          have e3 : (kd == 3) = false := by rw [beq_eq_false_iff_ne]; exact k3
          have c0 : (w.alloc (.cells #[.int .i64 kd, .int .i64 a, .int .i64 n, .int .u8 (c.toNat : Int), .slice A ln cp] 35)).cell? ⟨w.heap.size, 0, none⟩ = some (.int .i64 kd) := B1.cell (j := 0) rfl
          have HL1 := Lib.hid L1
          clear B1 L1 k0 k1 k2 k3
          go_enter Try.func8, Try.ntmps8
          go_wp2_with fail
          go_ret
          exact ⟨rfl, r, q, p, by rw [HD.out]; exact HX.out _ HL1.out, HL1.out.mono HL.out⟩
end Go.Proofs.Ytjnfdhjnfginpaa
