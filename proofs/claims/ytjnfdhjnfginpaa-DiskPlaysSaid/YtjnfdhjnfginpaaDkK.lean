/- Disks: the chapter's example. -/
import Derived.Test.YtjnfdhjnfginpaaDkJ
import Derived.Test.YtjnfdhjnfginpaaHeldD
namespace Go.Proofs.Ytjnfdhjnfginpaa
set_option linter.unusedVariables false
set_option linter.unusedSimpArgs false
open Go Go.RowKit

theorem aw_write (l : List UInt8) (h : l.length = 64) : dwrite { dnew 2 with fuse := 1 } 1 l = ({ dnew 2 with w := [(1, b64 l)], fuse := 0 }, 0) := by
  unfold dwrite dhas dstep dnew
  simp [h]
theorem aw_sync (l : List UInt8) : dsync { dnew 2 with w := [(1, b64 l)], fuse := 0 } = ({ dnew 2 with w := [(1, b64 l)], fuse := 0, dead := true }, 15) := by
  unfold dsync dstep dnew
  simp
theorem aw_read (l : List UInt8) : dread (dcrash { dnew 2 with w := [(1, b64 l)], fuse := 0, dead := true } [2]) 1 = ([], 16) := by
  unfold dread dcrash dhas dlook dnew
  simp [dkeep, dsettle, outc]
theorem aw_in (l : List UInt8) (f : Int) (d : Bool) : DIn { dnew 2 with w := [(1, b64 l)], fuse := f, dead := d } := by
  intro x hx
  simp at hx
  subst hx
  unfold dhas dnew
  simp
theorem sees_turn {w W : World} {b B : Nat} {A : Option Addr} {xs : List Value} (h : Sees w B A xs) (hB : B ≤ w.heap.size) (hT : Turn3 w W b b none) (hne : ∀ k o, A = some ⟨k, o, none⟩ → 0 < xs.length → k ≠ b) : Sees W W.heap.size A xs := fun hp => by
  obtain ⟨k, o, e, hk, hc⟩ := h hp
  refine ⟨k, o, e, Nat.lt_of_lt_of_le (Nat.lt_of_lt_of_le hk hB) hT.size, fun j hj => ?_⟩
  rw [hT.cell (by omega) (hne k o e hp)]
  exact hc j hj

set_option maxRecDepth 100000 in
set_option maxHeartbeats 6400000 in
theorem awake_any (w : World) : Calls Try.prog 6 #[] w fun e w' => e = .returned (.bool true) ∧ Below w.heap.size w w' := by
  have HNW := Lib.hid (new_any 2 w (by omega) (by omega))
  obtain ⟨g, hg⟩ : ∃ g, g = w.heap.size + 1 := ⟨_, rfl⟩
  obtain ⟨b, hb⟩ : ∃ b, b = w.heap.size := ⟨_, rfl⟩
  obtain ⟨L, hL⟩ : ∃ L, L = w.heap.size := ⟨_, rfl⟩
  have HNW2 : Hid (Calls Try.prog 5 #[.int .i64 2] w fun e w' => e = .returned (.pointer (some ⟨g, 0, none⟩)) ∧ DkAt w' L g b none (dnew 2) ∧ Below L w w' ∧ L ≤ w'.heap.size) := Lib.hid (by
    rw [hg, hb, hL]
    exact HNW.out.mono fun e w' h => ⟨h.1, h.2.1, h.2.2, h.2.2.size⟩)
  obtain ⟨ss, hss⟩ : ∃ ss, ss = str (fil 64 5) := ⟨_, rfl⟩
  have HSE : Hid (∀ wx, Calls Try.prog 12 #[.int .u8 5, .int .i64 0] wx fun e w' => e = .returned (.string ss) ∧ Below wx.heap.size wx w') := Lib.hid (fun wx => by
    rw [hss]
    exact sect_any 5 0 wx)
  have HWR : Hid (∀ wx, DkAt wx L g b none { dnew 2 with fuse := 1 } → L ≤ wx.heap.size → Calls Try.prog 11 #[.pointer (some ⟨g, 0, none⟩), .int .i64 1, .string ss] wx fun e w' => e = .returned (.int .i64 0) ∧ ∃ r', DkAt w' L g b r' { dnew 2 with w := [(1, b64 (fil 64 5))], fuse := 0 } ∧ Turn3 wx w' g b none ∧ RowN wx none r') := Lib.hid (fun wx h hl => by
    have := write_any L g b none _ 1 (fil 64 5) wx h (by decide) (by rw [fil_len]; simp [maxLen]) (by simp [dnew]) hl
    rw [aw_write (fil 64 5) (fil_len _ _), ← hss] at this
    exact this)
  have HSY : Hid (∀ wx r, DkAt wx L g b r { dnew 2 with w := [(1, b64 (fil 64 5))], fuse := 0 } → L ≤ wx.heap.size → Calls Try.prog 13 #[.pointer (some ⟨g, 0, none⟩)] wx fun e w' => e = .returned (.int .i64 15) ∧ ∃ r', DkAt w' L g b r' { dnew 2 with w := [(1, b64 (fil 64 5))], fuse := 0, dead := true } ∧ Turn3 wx w' g b r ∧ RowN wx r r') := Lib.hid (fun wx r h hl => by
    have := sync_any L g b r _ wx h (aw_in _ _ _) (by decide) (by simp) hl
    rw [aw_sync] at this
    exact this)
  have HCR : Hid (∀ wx r B, DkAt wx L g b r { dnew 2 with w := [(1, b64 (fil 64 5))], fuse := 0, dead := true } → L ≤ wx.heap.size → Sees wx wx.heap.size (some ⟨B, 0, none⟩) (ivs [2]) → B ≠ b → Calls Try.prog 15 #[.pointer (some ⟨g, 0, none⟩), .slice (some ⟨B, 0, none⟩) 1 1] wx fun e w' => e = .returned (.tuple #[]) ∧ DkAt w' L g b none (dcrash { dnew 2 with w := [(1, b64 (fil 64 5))], fuse := 0, dead := true } [2]) ∧ Turn3 wx w' g b r) := Lib.hid (fun wx r B h hl hs hne =>
    crash_any L g b r _ (some ⟨B, 0, none⟩) 1 1 [2] wx h (aw_in _ _ _) (by simp) hl rfl (by simp [maxLen]) (fun W hT => sees_turn hs (Nat.le_refl _) hT (fun k o e _ => by cases e; exact hne)))
  have HRE : Hid (∀ wx, DkAt wx L g b none (dcrash { dnew 2 with w := [(1, b64 (fil 64 5))], fuse := 0, dead := true } [2]) → Calls Try.prog 16 #[.pointer (some ⟨g, 0, none⟩), .int .i64 1] wx fun e w' => e = .returned (.tuple #[.string (str []), .int .i64 16]) ∧ Below wx.heap.size wx w') := Lib.hid (fun wx h => by
    have := read_any L g b none _ 1 wx h (by simp [dcrash])
    rw [aw_read] at this
    exact this)
  have HLL : Hid (L = w.heap.size) := Lib.hid hL
  have HGB : Hid (L ≤ g ∧ L ≤ b ∧ g = b + 1) := Lib.hid (by omega)
  clear hg hb hL hss HNW
  go_enter Try.func6, Try.ntmps6
  go_wp2_with fail
  refine HNW2.out.mono ?_
  rintro e w1 ⟨rfl, H1, L1, z1⟩
  have HL1 := Lib.hid z1
  have HB1 := Lib.hid L1
  have HF := Lib.hid (fuse_any L g b none (dnew 2) 1 w1 H1)
  clear H1 L1 z1
  go_wp2_with fail
  refine HF.out.mono ?_
  rintro e w2 ⟨rfl, H2, T2⟩
  clear HF
  go_wp2_with fail
  have HD2 := Lib.hid H2
  have HT2 := Lib.hid T2
  clear H2 T2
  refine (HSE.out w2).mono ?_
  rintro e w3 ⟨rfl, hb3⟩
  have HD3 := Lib.hid (HD2.out.later hb3)
  have HT3 := Lib.hid (HT2.out.trans (Turn3.of_below hb3 g b none) (RowN.refl _ _))
  clear hb3
  go_wp2_with fail
  refine (HWR.out w3 HD3.out (Nat.le_trans HL1.out HT3.out.size)).mono ?_
  rintro e w4 ⟨rfl, r4, H4, T4, R4⟩
  have HD4 := Lib.hid H4
  have HB4 : Hid (Below L w w4) := Lib.hid (HB1.out.trans ((HT3.out.trans T4 (RowN.refl _ _)).below HGB.out.1 HGB.out.2.1 (fun k e => by cases e) HL1.out))
  have HL4 : Hid (L ≤ w4.heap.size) := Lib.hid (Nat.le_trans HL1.out (Nat.le_trans HT3.out.size T4.size))
  have HR4 : Hid (∀ k, r4 = some k → L ≤ k) := Lib.hid (fun k hk => (HD4.out.row k hk).1)
  clear H4 T4 R4
  go_wp2_with fail
  refine (HSY.out w4 r4 HD4.out HL4.out).mono ?_
  rintro e w5 ⟨rfl, r5, H5, T5, R5⟩
  have HD5 := Lib.hid H5
  have HB5 : Hid (Below L w w5) := Lib.hid (HB4.out.trans (T5.below HGB.out.1 HGB.out.2.1 HR4.out HL4.out))
  have HL5 : Hid (L ≤ w5.heap.size) := Lib.hid (Nat.le_trans HL4.out T5.size)
  have HR5 : Hid (∀ k, r5 = some k → L ≤ k) := Lib.hid (fun k hk => (HD5.out.row k hk).1)
  have hb6 := (Below.refl w5.heap.size w5).alloc (Nat.le_refl _) (.cells #[.int .i64 2] 3)
  have HD6 := Lib.hid (HD5.out.later hb6)
  have HB6 : Hid (Below L w (w5.alloc (.cells #[.int .i64 2] 3))) := Lib.hid (HB5.out.trans (hb6.mono HL5.out))
  have HL6 : Hid (L ≤ (w5.alloc (.cells #[.int .i64 2] 3)).heap.size) := Lib.hid (Nat.le_trans HL5.out hb6.size)
  have HS6 : Hid (Sees (w5.alloc (.cells #[.int .i64 2] 3)) (w5.alloc (.cells #[.int .i64 2] 3)).heap.size (some ⟨w5.heap.size, 0, none⟩) (ivs [2])) := Lib.hid ((sees_lit w5 #[.int .i64 2] 3 (0, 0) (ivs [2]) rfl).more (by simp))
  have HN6 : Hid (w5.heap.size ≠ b) := Lib.hid (fun e => by have := HD5.out.lt.2; omega)
  clear H5 T5 R5 hb6
  go_wp2_with fail
  refine (HCR.out _ r5 w5.heap.size HD6.out HL6.out HS6.out HN6.out).mono ?_
  rintro e w7 ⟨rfl, H7, T7⟩
  have HD7 := Lib.hid H7
  have HB7 : Hid (Below L w w7) := Lib.hid (HB6.out.trans (T7.below HGB.out.1 HGB.out.2.1 HR5.out HL6.out))
  have HL7 : Hid (L ≤ w7.heap.size) := Lib.hid (Nat.le_trans HL6.out T7.size)
  clear H7 T7
  go_wp2_with fail
  refine (HRE.out w7 HD7.out).mono ?_
  rintro e w8 ⟨rfl, hb8⟩
  have HB8 : Hid (Below L w w8) := Lib.hid (HB7.out.trans (hb8.mono HL7.out))
  clear hb8
  go_wp2_with fail
  go_ret
  exact ⟨rfl, by have := HB8.out; rw [HLL.out] at this; exact this⟩
end Go.Proofs.Ytjnfdhjnfginpaa
