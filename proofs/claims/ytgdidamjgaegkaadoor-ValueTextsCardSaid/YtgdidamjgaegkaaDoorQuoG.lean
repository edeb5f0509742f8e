/- The document's digit, Quote: what each returns. -/
import Derived.Test.YtgdidamjgaegkaaDoorQuoC
namespace Go.Proofs.YtgdidamjgaegkaaDoor
set_option linter.unusedVariables false
open Go Go.RowKit BitM MskM ValM

theorem dig_piece (n : Nat) (h : n < 16) : (⟨#[48, 49, 50, 51, 52, 53, 54, 55, 56, 57, 97, 98, 99, 100, 101, 102]⟩ : ByteArray).extract n (n + 1) = str [hexd n] := by
  have key : ∀ n : Fin 16, ((⟨#[48, 49, 50, 51, 52, 53, 54, 55, 56, 57, 97, 98, 99, 100, 101, 102]⟩ : ByteArray).extract n.val (n.val + 1)).data.toList = [hexd n.val] := by decide +kernel
  have h2 := key ⟨n, h⟩
  apply ByteArray.ext
  apply Array.ext'
  exact h2
theorem rdigit_any (n : Nat) (w : World) (h : n < 16) : Calls Tryd.prog 85 #[.int .i64 (n : Int)] w fun e w' => e = .returned (.string (str [hexd n])) ∧ w = w' := by
  have hp := dig_piece n h
  have hb1 : (n : Int) + 1 ≤ 16 := by omega
  have hb2 : (n : Int) ≤ (n : Int) + 1 := by omega
  have hp2 : (⟨#[48, 49, 50, 51, 52, 53, 54, 55, 56, 57, 97, 98, 99, 100, 101, 102]⟩ : ByteArray).extract n ((n : Int) + 1).toNat = str [hexd n] := by
    rw [show ((n : Int) + 1).toNat = n + 1 by omega]; exact hp
  obtain ⟨u, hu⟩ : ∃ u, u = str [hexd n] := ⟨_, rfl⟩
  rw [← hu] at hp hp2 ⊢
  clear hu
  go_enter Tryd.func85, Tryd.ntmps85
  go_wp2_with fail
  go_ret
  exact ⟨by first | rfl | (rw [← hp]; rfl), rfl⟩

theorem piece1 (s : ByteArray) (k : Nat) (h : k < s.size) : s.extract k (k + 1) = str [s[k]] := by
  apply ByteArray.ext
  apply Array.ext'
  have hlt : k < s.data.toList.length := by simpa using h
  show (s.extract k (k + 1)).data.toList = [s[k]]
  rw [ByteArray.data_extract, Array.toList_extract, List.extract_eq_take_drop, List.drop_eq_getElem_cons hlt, show k + 1 - k = 1 by omega]
  rfl

set_option maxRecDepth 100000 in
set_option maxHeartbeats 3200000 in
theorem rquote_any (s : ByteArray) (w : World) (hs : s.size ≤ 1000) : Calls Tryd.prog 48 #[.string s] w fun e w' => e = .returned (.string (str (quo s.data.toList))) ∧ w = w' := by
  have HN : Hid (s.data.toList.length = s.size) := Lib.hid (by simp)
  obtain ⟨u, hu⟩ : ∃ u, u = str (quo s.data.toList) := ⟨_, rfl⟩
  rw [← hu]
  have HU := Lib.hid hu
  clear hu
  go_enter Tryd.func48, Tryd.ntmps48
  go_wp2_with fail
  go_loop [4, 3] (fun i t => ∃ (k : Nat) (p : ByteArray), k ≤ s.size ∧ i = .int .i64 k ∧ t = .string p ∧ p.size ≤ 4001 ∧ Hid (p = str ([34] ++ qug (s.data.toList.take k)))) (fun i _ => s.size - (intOf i).toNat)
  case atStart => exact ⟨0, _, Nat.zero_le _, rfl, rfl, by decide, Lib.hid rfl⟩
  case round =>
    obtain ⟨k, p, hk, rfl, rfl, hp, HP⟩ := hrel
    by_cases hlt : k < s.size
    · have hkl : k < s.data.toList.length := by rw [HN.out]; exact hlt
      have hps : p.size = ([34] ++ qug (s.data.toList.take k)).length := by rw [HP.out, str_size]
      have h1 := qug_len (s.data.toList.take k)
      rw [List.length_take, Nat.min_eq_left (by omega)] at h1
      rw [List.length_append, List.length_cons, List.length_nil] at hps
      have hp4 : p.size + 4 ≤ 4001 := by omega
      clear hps h1
      have HS := Lib.hid (quog_snoc s.data.toList k hkl)
      have hge : s.data.toList[k] = s[k] := rfl
      rw [hge] at HS
      have hb1 : (k : Int) + 1 ≤ (s.size : Int) := by omega
      have hb2 : (k : Int) ≤ (k : Int) + 1 := by omega
      have hpc := piece1 s k hlt
      have hpc2 : s.extract k ((k : Int) + 1).toNat = str [s[k]] := by
        rw [show ((k : Int) + 1).toNat = k + 1 by omega]; exact hpc
      have h256 := UInt8.toNat_lt s[k]
      have hwr : wrap64 (s[k].toNat : Int) = (s[k].toNat : Int) := by unfold wrap64; omega
      have hq1 : (str [s[k]]).size = 1 := str_size _
      obtain ⟨q, hq⟩ : ∃ q, q = str [s[k]] := ⟨_, rfl⟩
      rw [← hq] at hpc hpc2 hq1
      have HQ := Lib.hid hq
      clear hq hge
      by_cases hpx : s[k].toNat < 32 ∨ 126 < s[k].toNat
      · have HE : Hid (escg s[k] = [92, 120] ++ [hexd (s[k].toNat / 16)] ++ [hexd (s[k].toNat % 16)]) := Lib.hid (by unfold escg; rw [if_pos hpx]; rfl)
        have e16 : (((s[k].toNat / 16 : Nat)) : Int) = (s[k].toNat : Int) / 16 := by omega
        have e17 : (((s[k].toNat % 16 : Nat)) : Int) = (s[k].toNat : Int) % 16 := by omega
        have HD1 : Hid (∀ wx : World, Calls Tryd.prog 85 #[.int .i64 ((s[k].toNat : Int) / 16)] wx fun e w' => e = .returned (.string (str [hexd (s[k].toNat / 16)])) ∧ wx = w') := Lib.hid (fun wx => by
          rw [← e16]; exact rdigit_any (s[k].toNat / 16) wx (by omega))
        have HD2 : Hid (∀ wx : World, Calls Tryd.prog 85 #[.int .i64 ((s[k].toNat : Int) % 16)] wx fun e w' => e = .returned (.string (str [hexd (s[k].toNat % 16)])) ∧ wx = w') := Lib.hid (fun wx => by
          rw [← e17]; exact rdigit_any (s[k].toNat % 16) wx (by omega))
        have key : (s[k].toNat : Int) < 32 ∨ (¬ (s[k].toNat : Int) < 32 ∧ (126 : Int) < (s[k].toNat : Int)) := by omega
        have z1 : (str [hexd (s[k].toNat / 16)]).size = 1 := str_size _
        have z2 : (str [hexd (s[k].toNat % 16)]).size = 1 := str_size _
        obtain ⟨d1, hd1⟩ : ∃ d, d = str [hexd (s[k].toNat / 16)] := ⟨_, rfl⟩
        obtain ⟨d2, hd2⟩ : ∃ d, d = str [hexd (s[k].toNat % 16)] := ⟨_, rfl⟩
        rw [← hd1] at HD1 z1
        rw [← hd2] at HD2 z2
        have HX : Hid (p ++ ⟨#[92, 120]⟩ ++ d1 ++ d2 = str ([34] ++ qug (s.data.toList.take (k + 1)))) := Lib.hid (by
          rw [HS.out, HE.out, HP.out, hd1, hd2, ← List.append_assoc, ← List.append_assoc, ← str_append, ← str_append, ← str_append]; rfl)
        clear hpx e16 e17 hd1 hd2 HE HS hpc hpc2
        rcases key with h32 | ⟨h32, h126⟩
        all_goals
          go_wp2_with fail
          refine (HD1.out _).mono ?_
          rintro e w1 ⟨rfl, rfl⟩
          go_wp2_with fail
          refine (HD2.out _).mono ?_
          rintro e w1 ⟨rfl, rfl⟩
          go_wp2_with fail
          go_round
          case rel =>
            refine ⟨k + 1, _, by omega, by go_num, rfl, ?_, HX⟩
            rw [ByteArray.size_append, ByteArray.size_append, ByteArray.size_append, z1, z2]
            show p.size + 2 + 1 + 1 ≤ 4001
            omega
          case measure => simp [intOf]; omega
      · have h32 : ¬ (s[k].toNat : Int) < 32 := by omega
        have h126 : ¬ (126 : Int) < (s[k].toNat : Int) := by omega
        by_cases hq2 : s[k] = 34 ∨ s[k] = 92
        · have HE : Hid (escg s[k] = [92] ++ [s[k]]) := Lib.hid (by unfold escg esc; rw [if_neg hpx, if_pos hq2]; rfl)
          have HX : Hid (p ++ ⟨#[92]⟩ ++ q = str ([34] ++ qug (s.data.toList.take (k + 1)))) := Lib.hid (by
            rw [HS.out, HE.out, HP.out, HQ.out, ← List.append_assoc, ← str_append, ← str_append]; rfl)
          have key : (((s[k]'hlt).toNat : Int) == 34) = true ∨ ((((s[k]'hlt).toNat : Int) == 34) = false ∧ (((s[k]'hlt).toNat : Int) == 92) = true) := by
            rcases hq2 with h | h
            · left; rw [h]; rfl
            · right; rw [h]; exact ⟨rfl, rfl⟩
          clear hpx hq2 HE HS
          rcases key with b1 | ⟨b1, b2⟩
          all_goals
            go_wp2_with fail
            go_round
            case rel =>
              refine ⟨k + 1, _, by omega, by go_num, rfl, ?_, HX⟩
              rw [ByteArray.size_append, ByteArray.size_append, hq1]
              show p.size + 1 + 1 ≤ 4001
              omega
            case measure => simp [intOf]; omega
        · have HE : Hid (escg s[k] = [s[k]]) := Lib.hid (by unfold escg esc; rw [if_neg hpx, if_neg hq2])
          have HX : Hid (p ++ q = str ([34] ++ qug (s.data.toList.take (k + 1)))) := Lib.hid (by
            rw [HS.out, HE.out, HP.out, HQ.out, str_append])
          have b1 : (((s[k]'hlt).toNat : Int) == 34) = false := by
            rw [beq_eq_false_iff_ne]; intro e
            exact hq2 (.inl (UInt8.toNat_inj.1 (by have : (34 : UInt8).toNat = 34 := rfl; omega)))
          have b2 : (((s[k]'hlt).toNat : Int) == 92) = false := by
            rw [beq_eq_false_iff_ne]; intro e
            exact hq2 (.inr (UInt8.toNat_inj.1 (by have : (92 : UInt8).toNat = 92 := rfl; omega)))
          clear hpx hq2 HE HS
          go_wp2_with fail
          go_round
          case rel =>
            refine ⟨k + 1, _, by omega, by go_num, rfl, ?_, HX⟩
            rw [ByteArray.size_append, hq1]
            omega
          case measure => simp [intOf]; omega
    · obtain rfl : k = s.size := by omega
      have HX : Hid (p ++ ⟨#[34]⟩ = u) := Lib.hid (by
        rw [HU.out, HP.out, ← HN.out, List.take_length]
        unfold quo
        rw [← str_append]; rfl)
      go_wp2_with fail
      go_ret
      exact ⟨by rw [← HX.out]; rfl, rfl⟩
end Go.Proofs.YtgdidamjgaegkaaDoor
