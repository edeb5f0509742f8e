/- Pieces: lists of pieces, as the program has them, and as the document has them. -/
import Derived.Test.YtgoebblcggdlgaaPieN
namespace Go.Proofs.Ytgoebblcggdlgaa
set_option linter.unusedVariables false
set_option linter.unusedSimpArgs false
open Go Go.RowKit OctM SumM

set_option maxRecDepth 100000 in
set_option maxHeartbeats 3200000 in
theorem list_any (A : Option Addr) (n c : Nat) (l : List Pc) (w : World) (hn : l.length = n) (hN : n ≤ 65536) (hs : Sees w w.heap.size A (rws pcel l)) :
    Calls Try.prog 18 #[.slice A n c] w fun e w' => ∃ A2 c2, e = .returned (.slice A2 n c2) ∧ w'.ownsRow w.heap.size 25 5 (.slice A2 n c2) n (rws pcel l) ∧ Below w.heap.size w w' := by
  have hu := Try.underlying23
  obtain ⟨i1, ji, jz0, jz1, jz2⟩ := info_pied
  have HN := Lib.hid hn
  have HS := Lib.hid hs
  have HROW0 := Lib.hid (row_lit w w.heap.size 25 5 0 #[] (Nat.le_refl _) (by simp [maxLen]) rfl)
  have HB0 := Lib.hid ((Below.refl w.heap.size w).alloc (Nat.le_refl _) (.cells #[] 25))
  clear hn hs
  go_enter Try.func18, Try.ntmps18
  go_wp2_with fail
  go_loopw [3, 4] (fun v i wr => ∃ k : Nat, k ≤ n ∧ i = .int .i64 (k : Int) ∧ (∃ A1 c1, v = .slice A1 k c1 ∧ Hid (wr.ownsRow w.heap.size 25 5 v k (rws pcel (l.take k)))) ∧ Hid (Below w.heap.size w wr)) (fun _ i _ => n - (intOf i).toNat)
  case atStart => exact ⟨0, by omega, rfl, ⟨_, _, rfl, HROW0⟩, HB0⟩
  case round =>
    clear HROW0 HB0
    obtain ⟨k, hk, rfl, ⟨A1, c1, rfl, HR⟩, HBR⟩ := hrel
    by_cases hlt : k < n
    · have d1 : decide ((k : Int) < (n : Int)) = true := decide_eq_true (by omega)
      have hkl : k < l.length := by rw [HN.out]; exact hlt
      obtain ⟨b1, o1, rfl, hb1, hr1⟩ := sees_rw (pc_len _) (HS.out.below HBR.out) (by decide : 0 < 5) k hkl
      have HSN : Hid (rws pcel (l.take (k + 1)) = rws pcel (l.take k) ++ pcel l[k]) := Lib.hid (by rw [List.take_succ_eq_append_getElem hkl, rws_append, rws_one])
      have HLEN := Lib.hid ((pc_len _) _ (List.getElem_mem hkl))
      obtain ⟨u, hu2⟩ : ∃ u, u = l[k] := ⟨_, rfl⟩
      rw [← hu2] at hr1 HSN HLEN
      clear hu2
      have HC := Lib.hid (fun wx => to_any u wx)
      have ONE := pcel_one u
      obtain ⟨pc, hpc⟩ : ∃ pc, pc = pcel u := ⟨_, rfl⟩
      rw [← hpc] at hr1 HSN HLEN HC ONE
      clear hpc
      go_wp2_with (first
        | (refine wpList_load_mid rfl 23 (.tmp 15) rfl b1 (o1 + k * 5) rfl pc _ hr1 hu rfl (by rw [HLEN.out]; exact info_rpie) ?_)
        | fail)
      refine (HC.out _).mono ?_
      rintro e w4 ⟨rfl, h4⟩
      have HB4 := Lib.hid (HBR.out.trans (h4.mono HBR.out.size))
      have HR4 := Lib.hid (World.ownsRow.alloc (row_later HR.out h4) (.cells pc.toArray 25))
      clear h4 hr1
      go_wp2_with (first
        | (refine wpList_lit1 rfl 42 25 (.tmp 17) rfl (.agg pc.toArray) pc.toArray rfl (run_p1 pc HLEN.out _) ?_)
        | (at_builtin
           refine wpList_appk _ rfl (.tmp 12) (.tmp 18) 42 rfl w.heap.size 25 i1 _ 5 40 Try.underlying42 ji jz0 jz1 jz2 rfl (by decide) (.slice A1 k c1) k (rws pcel (l.take k)) rfl HR4.out (w4.heap.size + 1) (some ⟨w4.heap.size, 0, none⟩) 1 pc 1 rfl (by rw [HLEN.out]) (sees_lit w4 _ 25 (0, 0) _ rfl) ONE (by unfold maxLen; omega) (by omega) (by have := HB4.out.size; simp; omega) ?_
           intro A5 c5 w5 hr5 hb5 hg5 hat5)
        | fail)
      rw [← HSN.out] at hr5
      have HR5 := Lib.hid hr5
      have HB5 := Lib.hid ((HB4.out.alloc HB4.out.size _).trans hb5)
      clear hr5 hb5 hg5 hat5
      go_roundw
      case rel => exact ⟨k + 1, by omega, by go_num, ⟨A5, c5, rfl, HR5⟩, HB5⟩
      case measure => simp [intOf]; omega
    · obtain rfl : k = n := by omega
      have d1 : decide ((k : Int) < (k : Int)) = false := by simp
      have HTK : Hid (l.take k = l) := Lib.hid (List.take_of_length_le (by rw [HN.out]; omega))
      rw [HTK.out] at HR
      go_wp2_with fail
      go_ret
      exact ⟨A1, c1, rfl, HR.out, HBR.out⟩

set_option maxRecDepth 100000 in
set_option maxHeartbeats 3200000 in
theorem back_any (A : Option Addr) (n c : Nat) (l : List Pc) (w : World) (hn : l.length = n) (hN : n ≤ 65536) (hs : Sees w w.heap.size A (rws pcel l)) :
    Calls Try.prog 21 #[.slice A n c] w fun e w' => ∃ A2 c2, e = .returned (.slice A2 n c2) ∧ w'.ownsRow w.heap.size 23 5 (.slice A2 n c2) n (rws pcel l) ∧ Below w.heap.size w w' := by
  have hu := Try.underlying25
  obtain ⟨i1, ji, jz0, jz1, jz2⟩ := info_rpied
  have HN := Lib.hid hn
  have HS := Lib.hid hs
  have HROW0 := Lib.hid (row_lit w w.heap.size 23 5 0 #[] (Nat.le_refl _) (by simp [maxLen]) rfl)
  have HB0 := Lib.hid ((Below.refl w.heap.size w).alloc (Nat.le_refl _) (.cells #[] 23))
  clear hn hs
  go_enter Try.func21, Try.ntmps21
  go_wp2_with fail
  go_loopw [3, 4] (fun v i wr => ∃ k : Nat, k ≤ n ∧ i = .int .i64 (k : Int) ∧ (∃ A1 c1, v = .slice A1 k c1 ∧ Hid (wr.ownsRow w.heap.size 23 5 v k (rws pcel (l.take k)))) ∧ Hid (Below w.heap.size w wr)) (fun _ i _ => n - (intOf i).toNat)
  case atStart => exact ⟨0, by omega, rfl, ⟨_, _, rfl, HROW0⟩, HB0⟩
  case round =>
    clear HROW0 HB0
    obtain ⟨k, hk, rfl, ⟨A1, c1, rfl, HR⟩, HBR⟩ := hrel
    by_cases hlt : k < n
    · have d1 : decide ((k : Int) < (n : Int)) = true := decide_eq_true (by omega)
      have hkl : k < l.length := by rw [HN.out]; exact hlt
      obtain ⟨b1, o1, rfl, hb1, hr1⟩ := sees_rw (pc_len _) (HS.out.below HBR.out) (by decide : 0 < 5) k hkl
      have HSN : Hid (rws pcel (l.take (k + 1)) = rws pcel (l.take k) ++ pcel l[k]) := Lib.hid (by rw [List.take_succ_eq_append_getElem hkl, rws_append, rws_one])
      have HLEN := Lib.hid ((pc_len _) _ (List.getElem_mem hkl))
      obtain ⟨u, hu2⟩ : ∃ u, u = l[k] := ⟨_, rfl⟩
      rw [← hu2] at hr1 HSN HLEN
      clear hu2
      have HC := Lib.hid (fun wx => from_any u wx)
      have ONE := pcel_one u
      obtain ⟨pc, hpc⟩ : ∃ pc, pc = pcel u := ⟨_, rfl⟩
      rw [← hpc] at hr1 HSN HLEN HC ONE
      clear hpc
      go_wp2_with (first
        | (refine wpList_load_mid rfl 25 (.tmp 15) rfl b1 (o1 + k * 5) rfl pc _ hr1 hu rfl (by rw [HLEN.out]; exact info_pie) ?_)
        | fail)
      refine (HC.out _).mono ?_
      rintro e w4 ⟨rfl, h4⟩
      have HB4 := Lib.hid (HBR.out.trans (h4.mono HBR.out.size))
      have HR4 := Lib.hid (World.ownsRow.alloc (row_later HR.out h4) (.cells pc.toArray 23))
      clear h4 hr1
      go_wp2_with (first
        | (refine wpList_lit1 rfl 39 23 (.tmp 17) rfl (.agg pc.toArray) pc.toArray rfl (run_rp1 pc HLEN.out _) ?_)
        | (at_builtin
           refine wpList_appk _ rfl (.tmp 12) (.tmp 18) 39 rfl w.heap.size 23 i1 _ 5 40 Try.underlying39 ji jz0 jz1 jz2 rfl (by decide) (.slice A1 k c1) k (rws pcel (l.take k)) rfl HR4.out (w4.heap.size + 1) (some ⟨w4.heap.size, 0, none⟩) 1 pc 1 rfl (by rw [HLEN.out]) (sees_lit w4 _ 23 (0, 0) _ rfl) ONE (by unfold maxLen; omega) (by omega) (by have := HB4.out.size; simp; omega) ?_
           intro A5 c5 w5 hr5 hb5 hg5 hat5)
        | fail)
      rw [← HSN.out] at hr5
      have HR5 := Lib.hid hr5
      have HB5 := Lib.hid ((HB4.out.alloc HB4.out.size _).trans hb5)
      clear hr5 hb5 hg5 hat5
      go_roundw
      case rel => exact ⟨k + 1, by omega, by go_num, ⟨A5, c5, rfl, HR5⟩, HB5⟩
      case measure => simp [intOf]; omega
    · obtain rfl : k = n := by omega
      have d1 : decide ((k : Int) < (k : Int)) = false := by simp
      have HTK : Hid (l.take k = l) := Lib.hid (List.take_of_length_le (by rw [HN.out]; omega))
      rw [HTK.out] at HR
      go_wp2_with fail
      go_ret
      exact ⟨A1, c1, rfl, HR.out, HBR.out⟩
end Go.Proofs.Ytgoebblcggdlgaa
