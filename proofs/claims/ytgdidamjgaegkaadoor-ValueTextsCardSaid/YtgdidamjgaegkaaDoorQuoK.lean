/- unquote of any text: it returns some text. -/
import Derived.Test.YtgdidamjgaegkaaDoorQuoC
namespace Go.Proofs.YtgdidamjgaegkaaDoor
set_option linter.unusedVariables false
open Go Go.RowKit BitM MskM ValM

theorem u8_some (x : Int) : ∃ c : UInt8, IntKind.u8.wrap x = (c.toNat : Int) := by
  have e : IntKind.u8.wrap x = x % 256 := by
    have h1 : IntKind.u8.signed = false := rfl
    have h2 : IntKind.u8.bits = 8 := rfl
    simp [IntKind.wrap, h1, h2]
  refine ⟨UInt8.ofNat (x % 256).toNat, ?_⟩
  rw [e, UInt8.toNat_ofNat']
  omega

set_option maxRecDepth 100000 in
set_option maxHeartbeats 3200000 in
theorem unquote_some (t : ByteArray) (w : World) (hx : t.size ≤ 1000) : Calls Tryd.prog 83 #[.string t] w fun e w' => (∃ p, e = .returned (.string p)) ∧ Below w.heap.size w w' := by
  obtain ⟨i0, hi, hz0, hz1, hz2⟩ := info_parts info_byte
  have HIX := Lib.hid (fun (a : UInt8) (wx : World) => (Tryd.strings_IndexByte hexs (a.toNat : Int) wx).mono fun e w' (h : e = .returned (.int .i64 (Lib.indexByte hexs.data.toList (a.toNat : Int).toNat.toUInt8)) ∧ w' = wx) => (show e = .returned (.int .i64 (Lib.indexByte hexs.data.toList a)) ∧ Below wx.heap.size wx w' from ⟨by rw [h.1]; simp, h.2 ▸ Below.refl _ _⟩))
  go_enter Tryd.func83, Tryd.ntmps83
  go_wp2_with fail
  go_loopw [3, 4] (fun v ii wr => ∃ (i m : Nat) (l : List UInt8), i ≤ 1004 ∧ ii = .int .i64 i ∧ m ≤ i ∧ Hid (l.length = m) ∧ (∃ A1 c1, v = .slice A1 m c1 ∧ Own wr w.heap.size 5 v (bvs l)) ∧ Below w.heap.size w wr) (fun _ ii _ => 1005 - (intOf ii).toNat)
  case atStart => exact ⟨1, 0, [], by omega, rfl, by omega, Lib.hid rfl, ⟨none, 0, rfl, ⟨rfl, .inl ⟨rfl, rfl⟩⟩⟩, Below.refl _ _⟩
  case round =>
    obtain ⟨i, m, l, hi4, rfl, hmi, HLM, ⟨A1, c1, rfl, hown⟩, hbr⟩ := hrel
    by_cases hlt : i + 1 < t.size
    · have hg : (i : Int) < (t.size : Int) - 1 := by omega
      have l0 : i < t.size := by omega
      by_cases h92 : t[i] = 92
      · have n0 : ((t[i].toNat : Int) != 92) = false := by rw [h92]; rfl
        clear h92
        by_cases h120 : t[i + 1] = 120
        · have n1 : ((t[i + 1].toNat : Int) == 120) = true := by rw [h120]; rfl
          clear h120
          by_cases h3 : i + 1 + 2 < t.size
          · have hg3 : (i : Int) + 1 + 2 < (t.size : Int) := by omega
            have hy1 : (0 : Int) ≤ (i : Int) + 1 + 1 := by omega
            have hy2 : (i : Int) + 1 + 1 < (t.size : Int) := by omega
            have hy3 : (0 : Int) ≤ (i : Int) + 1 + 2 := by omega
            have hl2 : i + 1 + 1 < t.size := by omega
            have HX2 : Hid (∀ wx : World, Calls Tryd.prog 97 #[.string hexs, .int .u8 (t[i + 1 + 1].toNat : Int)] wx fun e w' => e = .returned (.int .i64 (Lib.indexByte hexs.data.toList t[i + 1 + 1])) ∧ Below wx.heap.size wx w') := Lib.hid (HIX.out t[i + 1 + 1])
            have HX3 : Hid (∀ wx : World, Calls Tryd.prog 97 #[.string hexs, .int .u8 (t[i + 1 + 2].toNat : Int)] wx fun e w' => e = .returned (.int .i64 (Lib.indexByte hexs.data.toList t[i + 1 + 2])) ∧ Below wx.heap.size wx w') := Lib.hid (HIX.out t[i + 1 + 2])
            obtain ⟨x, hxv⟩ : ∃ z, z = Lib.indexByte hexs.data.toList t[i + 1 + 1] := ⟨_, rfl⟩
            obtain ⟨y, hyv⟩ : ∃ z, z = Lib.indexByte hexs.data.toList t[i + 1 + 2] := ⟨_, rfl⟩
            rw [← hxv] at HX2
            rw [← hyv] at HX3
            obtain ⟨c, hc⟩ := u8_some (bits .or .i64 (IntKind.i64.wrap (x * 16)) y)
            have HCW := Lib.hid hc
            have HC8 : Hid (UInt8.ofNat c.toNat = c) := Lib.hid (by simp)
            have hc256 := UInt8.toNat_lt c
            clear hxv hyv hc
            go_wp2_with fail
            refine wp_region_steady [] 57 (by kernel_rfl) (by kernel_rfl) (by kernel_rfl) (by rfl) ?_
            iterate 4 (refine wpG_quiet (by rfl) (by rfl) (by rfl) (fun K hK => ?_); go_big_quiet_op; refine hK _ ?_; clear hK K)
            refine wpG_call (by rfl) (by rfl) 97 #[.string { data := #[48, 49, 50, 51, 52, 53, 54, 55, 56, 57, 97, 98, 99, 100, 101, 102] }, .int .u8 (t[i + 1 + 1].toNat : Int)] (.int .i64 x) (by intro _; simp [go_sem]) (by kernel_rfl) (fun w1 hl => (HX2.out w1)) ?_
            simp only [Act.put, List.setIfInBounds_toArray, List.set_cons_zero, List.set_cons_succ]
            refine wpG_run (by rfl) (by rfl) (.int .i64 (IntKind.i64.wrap (x * 16))) (fun w1 hl => by simp [go_sem]) ?_
            simp only [Act.put, List.setIfInBounds_toArray, List.set_cons_zero, List.set_cons_succ]
            iterate 4 (refine wpG_quiet (by rfl) (by rfl) (by rfl) (fun K hK => ?_); go_big_quiet_op; refine hK _ ?_; clear hK K)
            refine wpG_call (by rfl) (by rfl) 97 #[.string { data := #[48, 49, 50, 51, 52, 53, 54, 55, 56, 57, 97, 98, 99, 100, 101, 102] }, .int .u8 (t[i + 1 + 2].toNat : Int)] (.int .i64 y) (by intro _; simp [go_sem]) (by kernel_rfl) (fun w1 hl => (HX3.out w1)) ?_
            simp only [Act.put, List.setIfInBounds_toArray, List.set_cons_zero, List.set_cons_succ]
            refine wpG_run (by rfl) (by rfl) (.int .i64 (bits .or .i64 (IntKind.i64.wrap (x * 16)) y)) (fun w1 hl => by simp [go_sem]) ?_
            simp only [Act.put, List.setIfInBounds_toArray, List.set_cons_zero, List.set_cons_succ]
            refine wpG_run (by rfl) (by rfl) (.int .u8 (c.toNat : Int)) (fun w1 hl => by simp [go_sem]; exact HCW.out) ?_
            simp only [Act.put, List.setIfInBounds_toArray, List.set_cons_zero, List.set_cons_succ]
            iterate 1 (refine wpG_quiet (by rfl) (by rfl) (by rfl) (fun K hK => ?_); go_big_quiet_op; refine hK _ ?_; clear hK K)
            refine wpG_nil fun w1 hl _ => ?_
            replace hown := hown.later hl
            replace hbr := hbr.trans (hl.mono hbr.size)
            have hi7 : (i : Int) + 1 + 2 + 1 = (i : Int) + 4 := by omega
            clear hl
            go_wp2_with (first
              | (at_builtin
                 refine wpList_app _ rfl (.tmp 51) (.tmp 53) _ rfl w.heap.size 5 i0 _ 1 Tryd.underlying68 hi hz0 hz1 hz2 rfl (.slice A1 m c1) (bvs l) m rfl (by rw [bvs_length, HLM.out]) (hown.alloc _) (w1.heap.size + 1) (some ⟨w1.heap.size, 0, none⟩) 1 (bvs [c]) 1 rfl rfl (sees_lit w1 _ 5 (0, 0) _ rfl) (bvs_one _) (by simp [maxLen]; omega) (by omega) (by have := hbr.size; simp; omega) ?_
                 intro A9 c9 w9 hown9 hb9 hg9 hat9
                 rw [← bvs_append] at hown9
                 have hbr9 : Below w.heap.size w w9 := (hbr.alloc hbr.size _).trans hb9
                 clear hg9 hat9 hb9 hown hbr)
              | fail)
            go_roundw
            case rel => exact ⟨i + 4, m + 1, l ++ [c], by omega, by go_num, by omega, Lib.hid (by rw [List.length_append, HLM.out]; first | done | rfl), ⟨A9, c9, rfl, hown9⟩, hbr9⟩
            case measure => simp [intOf]; omega
          · have hg3 : ¬ (i : Int) + 1 + 2 < (t.size : Int) := by omega
            go_wp2_with (first
              | (at_builtin
                 refine wpList_app _ rfl (.tmp 51) (.tmp 53) _ rfl w.heap.size 5 i0 _ 1 Tryd.underlying68 hi hz0 hz1 hz2 rfl (.slice A1 m c1) (bvs l) m rfl (by rw [bvs_length, HLM.out]) (hown.alloc _) (wr.heap.size + 1) (some ⟨wr.heap.size, 0, none⟩) 1 (bvs [t[i + 1]]) 1 rfl rfl (sees_lit wr _ 5 (0, 0) _ rfl) (bvs_one _) (by simp [maxLen]; omega) (by omega) (by have := hbr.size; simp; omega) ?_
                 intro A9 c9 w9 hown9 hb9 hg9 hat9
                 rw [← bvs_append] at hown9
                 have hbr9 : Below w.heap.size w w9 := (hbr.alloc hbr.size _).trans hb9
                 clear hg9 hat9 hb9 hown hbr)
              | fail)
            go_roundw
            case rel => exact ⟨i + 2, m + 1, l ++ [t[i + 1]], by omega, by go_num, by omega, Lib.hid (by rw [List.length_append, HLM.out]; first | done | rfl), ⟨A9, c9, rfl, hown9⟩, hbr9⟩
            case measure => simp [intOf]; omega
        · have n1 : ((t[i + 1].toNat : Int) == 120) = false := by
            rw [beq_eq_false_iff_ne]; intro e; exact h120 (UInt8.toNat_inj.1 (Int.ofNat_inj.1 e))
          clear h120
          go_wp2_with (first
            | (at_builtin
               refine wpList_app _ rfl (.tmp 51) (.tmp 53) _ rfl w.heap.size 5 i0 _ 1 Tryd.underlying68 hi hz0 hz1 hz2 rfl (.slice A1 m c1) (bvs l) m rfl (by rw [bvs_length, HLM.out]) (hown.alloc _) (wr.heap.size + 1) (some ⟨wr.heap.size, 0, none⟩) 1 (bvs [t[i + 1]]) 1 rfl rfl (sees_lit wr _ 5 (0, 0) _ rfl) (bvs_one _) (by simp [maxLen]; omega) (by omega) (by have := hbr.size; simp; omega) ?_
               intro A9 c9 w9 hown9 hb9 hg9 hat9
               rw [← bvs_append] at hown9
               have hbr9 : Below w.heap.size w w9 := (hbr.alloc hbr.size _).trans hb9
               clear hg9 hat9 hb9 hown hbr)
            | fail)
          go_roundw
          case rel => exact ⟨i + 2, m + 1, l ++ [t[i + 1]], by omega, by go_num, by omega, Lib.hid (by rw [List.length_append, HLM.out]; first | done | rfl), ⟨A9, c9, rfl, hown9⟩, hbr9⟩
          case measure => simp [intOf]; omega
      · have n0 : ((t[i].toNat : Int) != 92) = true := by
          rw [bne_iff_ne]; intro e; exact h92 (UInt8.toNat_inj.1 (Int.ofNat_inj.1 e))
        clear h92
        go_wp2_with (first
          | (at_builtin
             refine wpList_app _ rfl (.tmp 18) (.tmp 20) _ rfl w.heap.size 5 i0 _ 1 Tryd.underlying68 hi hz0 hz1 hz2 rfl (.slice A1 m c1) (bvs l) m rfl (by rw [bvs_length, HLM.out]) (hown.alloc _) (wr.heap.size + 1) (some ⟨wr.heap.size, 0, none⟩) 1 (bvs [t[i]]) 1 rfl rfl (sees_lit wr _ 5 (0, 0) _ rfl) (bvs_one _) (by simp [maxLen]; omega) (by omega) (by have := hbr.size; simp; omega) ?_
             intro A9 c9 w9 hown9 hb9 hg9 hat9
             rw [← bvs_append] at hown9
             have hbr9 : Below w.heap.size w w9 := (hbr.alloc hbr.size _).trans hb9
             clear hg9 hat9 hb9 hown hbr)
          | fail)
        go_roundw
        case rel => exact ⟨i + 1, m + 1, l ++ [t[i]], by omega, by go_num, by omega, Lib.hid (by rw [List.length_append, HLM.out]; first | done | rfl), ⟨A9, c9, rfl, hown9⟩, hbr9⟩
        case measure => simp [intOf]; omega
    · have hg : ¬ (i : Int) < (t.size : Int) - 1 := by omega
      have hcv := run_str (P := Tryd.prog) wr wr.heap.size 68 5 9 Tryd.underlying68 Tryd.underlying5 Tryd.underlying9 A1 m c1 l HLM.out hown.sees
      obtain ⟨u, hu⟩ : ∃ u, u = str l := ⟨_, rfl⟩
      rw [← hu] at hcv
      clear hown hu
      go_wp2_with fail
      go_ret
      exact ⟨⟨u, rfl⟩, hbr⟩
end Go.Proofs.YtgdidamjgaegkaaDoor
