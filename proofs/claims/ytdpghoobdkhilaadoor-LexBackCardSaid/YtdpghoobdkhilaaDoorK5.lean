/- The document's Int: what any text is read as. -/
import Derived.Test.YtdpghoobdkhilaaDoorK3
import Derived.Test.YtdpghoobdkhilaaDoorK4
namespace Go.Proofs.YtdpghoobdkhilaaDoor
set_option linter.unusedVariables false
open Go Go.RowKit BitM MskM

set_option maxRecDepth 100000 in
set_option maxHeartbeats 3200000 in
theorem rint_any (s : ByteArray) (most : Int) (w : World) : Calls Tryd.prog 25 #[.string s, .int .i64 most] w fun e w' =>
    e = .returned (.tuple #[.int .i64 (pint s.data.toList most).1, .bool (pint s.data.toList most).2]) ∧ w = w' := by
  have hsz : s.data.toList.length = s.size := by simp
  obtain ⟨P, hP⟩ : ∃ P, P = pint s.data.toList most := ⟨_, rfl⟩
  rw [← hP]
  have HPP := Lib.hid hP
  clear hP
  by_cases h0 : s.size = 0
  · have HP : Hid (P = (0, false)) := Lib.hid (by rw [HPP.out]; unfold pint; rw [if_pos (Or.inl (List.length_eq_zero_iff.1 (by omega)))])
    clear hsz
    go_enter Tryd.func25, Tryd.ntmps25
    go_wp2_with fail
    go_ret2
    exact ⟨by rw [HP.out]; rfl, rfl⟩
  · have hpos : 0 < s.size := by omega
    have hpi : ((s.size : Int) == 0) = false := by rw [beq_eq_false_iff_ne]; omega
    by_cases h14 : 14 ≤ s.size
    · have HP : Hid (P = (0, false)) := Lib.hid (by rw [HPP.out]; unfold pint; rw [if_pos (Or.inr (Or.inl (by omega)))])
      have h14i : (13 : Int) < (s.size : Int) := by omega
      clear hsz h0
      go_enter Tryd.func25, Tryd.ntmps25
      go_wp2_with fail
      go_ret2
      exact ⟨by rw [HP.out]; rfl, rfl⟩
    · have h14i : ¬ (13 : Int) < (s.size : Int) := by omega
      have HSZ := Lib.hid hsz
      have HNE : Hid (s.data.toList ≠ []) := Lib.hid (by intro e; rw [e] at hsz; simp at hsz; omega)
      have HH : Hid (s.data.toList.headD 0 = s[0]'hpos) := Lib.hid (by
        rw [List.headD_eq_head?_getD, List.head?_eq_getElem?, List.getElem?_eq_getElem (by omega)]
        first | done | rfl)
      clear hsz h0
      go_enter Tryd.func25, Tryd.ntmps25
      go_wp2_with fail
      go_loop [6, 7] (fun n i => ∃ k m : Nat, k ≤ s.size ∧ i = .int .i64 k ∧ n = .int .i64 m ∧ m < 10000000000000 ∧ Hid (m = num (s.data.toList.take k)) ∧ Hid ((s.data.toList.take k).all dig = true)) (fun _ i => s.size - (intOf i).toNat)
      case atStart => exact ⟨0, 0, Nat.zero_le _, rfl, rfl, by omega, Lib.hid rfl, Lib.hid rfl⟩
      case round =>
        obtain ⟨k, m, hk, rfl, rfl, hm, HM, HD⟩ := hrel
        by_cases hlt : k < s.size
        · have HT := Lib.hid (take_byte s k hlt)
          have h256 := UInt8.toNat_lt (s[k]'hlt)
          by_cases hc : 48 ≤ (s[k]'hlt).toNat ∧ (s[k]'hlt).toNat ≤ 57
          · obtain ⟨hc1, hc2⟩ := hc
            have HD2 : Hid ((s.data.toList.take (k + 1)).all dig = true) := Lib.hid (by
              rw [HT.out, List.all_append, HD.out, Bool.true_and, List.all_cons, List.all_nil, Bool.and_true, dig, decide_eq_true hc1, decide_eq_true hc2]; rfl)
            have HM2 : Hid (10 * m + ((s[k]'hlt).toNat - 48) = num (s.data.toList.take (k + 1))) := Lib.hid (by
              rw [HT.out, num_snoc, ← HM.out])
            have hm2 : 10 * m + ((s[k]'hlt).toNat - 48) < 10000000000000 := by
              rw [HM2.out]
              have := num_lt _ _ rfl HD2.out
              rw [List.length_take, HSZ.out, Nat.min_eq_left (by omega)] at this
              exact Nat.lt_of_lt_of_le this (Nat.pow_le_pow_right (by omega) (by omega : k + 1 ≤ 13))
            have hc1' : ¬ ((s[k]'hlt).toNat : Int) < 48 := by omega
            have hc2' : ¬ (57 : Int) < ((s[k]'hlt).toNat : Int) := by omega
            have hmi : (m : Int) < 10000000000000 := by omega
            have hci : ((s[k]'hlt).toNat : Int) < 256 := by omega
            clear hc2 h256
            go_wp2_with fail
            go_round
            case rel => exact ⟨k + 1, 10 * m + ((s[k]'hlt).toNat - 48), by omega, by go_num, by go_num, hm2, HM2, HD2⟩
            case measure => simp [intOf]; omega
          · have HP : Hid (P = (0, false)) := Lib.hid (by
              rw [HPP.out]
              unfold pint
              rw [if_pos (Or.inr (Or.inr (Or.inr (Or.inl ?_))))]
              rw [List.all_eq_false]
              refine ⟨s[k], ?_, ?_⟩
              · have : s[k] = s.data.toList[k]'(by rw [HSZ.out]; exact hlt) := rfl
                rw [this]
                exact List.getElem_mem _
              · unfold dig
                intro e
                simp only [Bool.and_eq_true, decide_eq_true_eq] at e
                exact hc e)
            by_cases hc1 : 48 ≤ (s[k]'hlt).toNat
            · have hc2 : (57 : Int) < ((s[k]'hlt).toNat : Int) := by omega
              have hc1' : ¬ ((s[k]'hlt).toNat : Int) < 48 := by omega
              clear hc hc1
              go_wp2_with fail
              go_ret2
              exact ⟨by rw [HP.out]; rfl, rfl⟩
            · have hc2 : ((s[k]'hlt).toNat : Int) < 48 := by omega
              clear hc hc1
              go_wp2_with fail
              go_ret2
              exact ⟨by rw [HP.out]; rfl, rfl⟩
        · obtain rfl : k = s.size := by omega
          have hT : s.data.toList.take s.size = s.data.toList := by rw [← HSZ.out, List.take_length]
          have HMM : Hid (m = num s.data.toList) := Lib.hid (by rw [HM.out, hT])
          have HDD : Hid (s.data.toList.all dig = true) := Lib.hid (by have := HD.out; rw [hT] at this; exact this)
          clear hT
          by_cases hz : 1 < s.size ∧ (s[0]'hpos).toNat = 48
          · obtain ⟨hz1, hz2⟩ := hz
            have HP : Hid (P = (0, false)) := Lib.hid (by
              rw [HPP.out]
              unfold pint
              rw [if_pos (Or.inr (Or.inr (Or.inl ⟨by rw [HSZ.out]; exact hz1, by rw [HH.out]; exact UInt8.toNat_inj.1 hz2⟩)))])
            have hz3 : (1 : Int) < (s.size : Int) := by omega
            have hz4 : (((s[0]'hpos).toNat : Int) == 48) = true := by rw [hz2]; rfl
            clear hz2
            go_wp2_with fail
            go_ret2
            exact ⟨by rw [HP.out]; rfl, rfl⟩
          · have HZ : Hid (¬ (1 < s.data.toList.length ∧ s.data.toList.headD 0 = 48)) := Lib.hid (by
              rintro ⟨h1, h2⟩
              apply hz
              rw [HH.out] at h2
              exact ⟨by rw [HSZ.out] at h1; exact h1, by rw [h2]; rfl⟩)
            have key : (((s[0]'hpos).toNat : Int) == 48) = false ∨ ((((s[0]'hpos).toNat : Int) == 48) = true ∧ ¬ (1 : Int) < (s.size : Int)) := by
              by_cases e : (s[0]'hpos).toNat = 48
              · right; exact ⟨by rw [e]; rfl, by intro h; exact hz ⟨by omega, e⟩⟩
              · left; rw [beq_eq_false_iff_ne]; omega
            clear hz
            have HV : Hid (P = if most < (m : Int) ∨ 1099511627776 < (m : Int) then (0, false) else ((m : Int), true)) := Lib.hid (by
              rw [HPP.out]
              unfold pint
              by_cases hx : most < (m : Int) ∨ 1099511627776 < (m : Int)
              · rw [if_pos hx, if_pos (Or.inr (Or.inr (Or.inr (Or.inr (by rw [← HMM.out]; omega)))))]
              · rw [if_neg hx, if_neg (by
                  rintro (h | h | h | h | h)
                  · exact HNE.out h
                  · have := HSZ.out; omega
                  · exact HZ.out h
                  · rw [HDD.out] at h; cases h
                  · rw [← HMM.out] at h; omega), ← HMM.out])
            by_cases hm1 : most < (m : Int)
            · have HP : Hid (P = (0, false)) := Lib.hid (by rw [HV.out, if_pos (.inl hm1)])
              rcases key with k1 | ⟨k1, k2⟩
              all_goals
                go_wp2_with fail
                go_ret2
                exact ⟨by rw [HP.out]; rfl, rfl⟩
            · by_cases hm3 : (1099511627776 : Int) < (m : Int)
              · have HP : Hid (P = (0, false)) := Lib.hid (by rw [HV.out, if_pos (.inr hm3)])
                rcases key with k1 | ⟨k1, k2⟩
                all_goals
                  go_wp2_with fail
                  go_ret2
                  exact ⟨by rw [HP.out]; rfl, rfl⟩
              · have HP : Hid (P = ((m : Int), true)) := Lib.hid (by rw [HV.out, if_neg (by omega)])
                rcases key with k1 | ⟨k1, k2⟩
                all_goals
                  go_wp2_with fail
                  go_ret2
                  exact ⟨by rw [HP.out]; rfl, rfl⟩
end Go.Proofs.YtdpghoobdkhilaaDoor

/- The document's digit, Quote: what each returns. -/
namespace Go.Proofs.YtdpghoobdkhilaaDoor
set_option linter.unusedVariables false
open Go Go.RowKit BitM MskM ValM

theorem dig_piece (n : Nat) (h : n < 16) : (⟨#[48, 49, 50, 51, 52, 53, 54, 55, 56, 57, 97, 98, 99, 100, 101, 102]⟩ : ByteArray).extract n (n + 1) = str [hexd n] := by
  have key : ∀ n : Fin 16, ((⟨#[48, 49, 50, 51, 52, 53, 54, 55, 56, 57, 97, 98, 99, 100, 101, 102]⟩ : ByteArray).extract n.val (n.val + 1)).data.toList = [hexd n.val] := by decide +kernel
  have h2 := key ⟨n, h⟩
  apply ByteArray.ext
  apply Array.ext'
  exact h2
theorem rdigit_any (n : Nat) (w : World) (h : n < 16) : Calls Tryd.prog 29 #[.int .i64 (n : Int)] w fun e w' => e = .returned (.string (str [hexd n])) ∧ w = w' := by
  have hp := dig_piece n h
  have hb1 : (n : Int) + 1 ≤ 16 := by omega
  have hb2 : (n : Int) ≤ (n : Int) + 1 := by omega
  have hp2 : (⟨#[48, 49, 50, 51, 52, 53, 54, 55, 56, 57, 97, 98, 99, 100, 101, 102]⟩ : ByteArray).extract n ((n : Int) + 1).toNat = str [hexd n] := by
    rw [show ((n : Int) + 1).toNat = n + 1 by omega]; exact hp
  obtain ⟨u, hu⟩ : ∃ u, u = str [hexd n] := ⟨_, rfl⟩
  rw [← hu] at hp hp2 ⊢
  clear hu
  go_enter Tryd.func29, Tryd.ntmps29
  go_wp2_with fail
  go_ret
  exact ⟨by first | rfl | (rw [← hp]; rfl), rfl⟩

theorem piece1 (s : ByteArray) (k : Nat) (h : k < s.size) : s.extract k (k + 1) = str [s[k]] := by
  apply ByteArray.ext
  apply Array.ext'
  have hlt : k < s.data.toList.length := by simpa using h
  show (s.extract k (k + 1)).data.toList = [s[k]]
  rw [ByteArray.data_extract, Array.toList_extract, List.extract_eq_take_drop, List.drop_eq_getElem_cons hlt, show k + 1 - k = 1 by omega]
  rfl

set_option maxRecDepth 100000 in
set_option maxHeartbeats 3200000 in
theorem rquote_any (s : ByteArray) (w : World) (hs : s.size ≤ 1000) : Calls Tryd.prog 17 #[.string s] w fun e w' => e = .returned (.string (str (quo s.data.toList))) ∧ w = w' := by
  have HN : Hid (s.data.toList.length = s.size) := Lib.hid (by simp)
  obtain ⟨u, hu⟩ : ∃ u, u = str (quo s.data.toList) := ⟨_, rfl⟩
  rw [← hu]
  have HU := Lib.hid hu
  clear hu
  go_enter Tryd.func17, Tryd.ntmps17
  go_wp2_with fail
  go_loop [4, 3] (fun i t => ∃ (k : Nat) (p : ByteArray), k ≤ s.size ∧ i = .int .i64 k ∧ t = .string p ∧ p.size ≤ 4001 ∧ Hid (p = str ([34] ++ qug (s.data.toList.take k)))) (fun i _ => s.size - (intOf i).toNat)
  case atStart => exact ⟨0, _, Nat.zero_le _, rfl, rfl, by decide, Lib.hid rfl⟩
  case round =>
    obtain ⟨k, p, hk, rfl, rfl, hp, HP⟩ := hrel
    by_cases hlt : k < s.size
    · have hkl : k < s.data.toList.length := by rw [HN.out]; exact hlt
      have hps : p.size = ([34] ++ qug (s.data.toList.take k)).length := by rw [HP.out, str_size]
      have h1 := qug_len (s.data.toList.take k)
      rw [List.length_take, Nat.min_eq_left (by omega)] at h1
      rw [List.length_append, List.length_cons, List.length_nil] at hps
      have hp4 : p.size + 4 ≤ 4001 := by omega
      clear hps h1
      have HS := Lib.hid (quog_snoc s.data.toList k hkl)
      have hge : s.data.toList[k] = s[k] := rfl
      rw [hge] at HS
      have hb1 : (k : Int) + 1 ≤ (s.size : Int) := by omega
      have hb2 : (k : Int) ≤ (k : Int) + 1 := by omega
      have hpc := piece1 s k hlt
      have hpc2 : s.extract k ((k : Int) + 1).toNat = str [s[k]] := by
        rw [show ((k : Int) + 1).toNat = k + 1 by omega]; exact hpc
      have h256 := UInt8.toNat_lt s[k]
      have hwr : wrap64 (s[k].toNat : Int) = (s[k].toNat : Int) := by unfold wrap64; omega
      have hq1 : (str [s[k]]).size = 1 := str_size _
      obtain ⟨q, hq⟩ : ∃ q, q = str [s[k]] := ⟨_, rfl⟩
      rw [← hq] at hpc hpc2 hq1
      have HQ := Lib.hid hq
      clear hq hge
      by_cases hpx : s[k].toNat < 32 ∨ 126 < s[k].toNat
      · have HE : Hid (escg s[k] = [92, 120] ++ [hexd (s[k].toNat / 16)] ++ [hexd (s[k].toNat % 16)]) := Lib.hid (by unfold escg; rw [if_pos hpx]; rfl)
        have e16 : (((s[k].toNat / 16 : Nat)) : Int) = (s[k].toNat : Int) / 16 := by omega
        have e17 : (((s[k].toNat % 16 : Nat)) : Int) = (s[k].toNat : Int) % 16 := by omega
        have HD1 : Hid (∀ wx : World, Calls Tryd.prog 29 #[.int .i64 ((s[k].toNat : Int) / 16)] wx fun e w' => e = .returned (.string (str [hexd (s[k].toNat / 16)])) ∧ wx = w') := Lib.hid (fun wx => by
          rw [← e16]; exact rdigit_any (s[k].toNat / 16) wx (by omega))
        have HD2 : Hid (∀ wx : World, Calls Tryd.prog 29 #[.int .i64 ((s[k].toNat : Int) % 16)] wx fun e w' => e = .returned (.string (str [hexd (s[k].toNat % 16)])) ∧ wx = w') := Lib.hid (fun wx => by
          rw [← e17]; exact rdigit_any (s[k].toNat % 16) wx (by omega))
        have key : (s[k].toNat : Int) < 32 ∨ (¬ (s[k].toNat : Int) < 32 ∧ (126 : Int) < (s[k].toNat : Int)) := by omega
        have z1 : (str [hexd (s[k].toNat / 16)]).size = 1 := str_size _
        have z2 : (str [hexd (s[k].toNat % 16)]).size = 1 := str_size _
        obtain ⟨d1, hd1⟩ : ∃ d, d = str [hexd (s[k].toNat / 16)] := ⟨_, rfl⟩
        obtain ⟨d2, hd2⟩ : ∃ d, d = str [hexd (s[k].toNat % 16)] := ⟨_, rfl⟩
        rw [← hd1] at HD1 z1
        rw [← hd2] at HD2 z2
        have HX : Hid (p ++ ⟨#[92, 120]⟩ ++ d1 ++ d2 = str ([34] ++ qug (s.data.toList.take (k + 1)))) := Lib.hid (by
          rw [HS.out, HE.out, HP.out, hd1, hd2, ← List.append_assoc, ← List.append_assoc, ← str_append, ← str_append, ← str_append]; rfl)
        clear hpx e16 e17 hd1 hd2 HE HS hpc hpc2
        rcases key with h32 | ⟨h32, h126⟩
        all_goals
          go_wp2_with fail
          refine (HD1.out _).mono ?_
          rintro e w1 ⟨rfl, rfl⟩
          go_wp2_with fail
          refine (HD2.out _).mono ?_
          rintro e w1 ⟨rfl, rfl⟩
          go_wp2_with fail
          go_round
          case rel =>
            refine ⟨k + 1, _, by omega, by go_num, rfl, ?_, HX⟩
            rw [ByteArray.size_append, ByteArray.size_append, ByteArray.size_append, z1, z2]
            show p.size + 2 + 1 + 1 ≤ 4001
            omega
          case measure => simp [intOf]; omega
      · have h32 : ¬ (s[k].toNat : Int) < 32 := by omega
        have h126 : ¬ (126 : Int) < (s[k].toNat : Int) := by omega
        by_cases hq2 : s[k] = 34 ∨ s[k] = 92
        · have HE : Hid (escg s[k] = [92] ++ [s[k]]) := Lib.hid (by unfold escg esc; rw [if_neg hpx, if_pos hq2]; rfl)
          have HX : Hid (p ++ ⟨#[92]⟩ ++ q = str ([34] ++ qug (s.data.toList.take (k + 1)))) := Lib.hid (by
            rw [HS.out, HE.out, HP.out, HQ.out, ← List.append_assoc, ← str_append, ← str_append]; rfl)
          have key : (((s[k]'hlt).toNat : Int) == 34) = true ∨ ((((s[k]'hlt).toNat : Int) == 34) = false ∧ (((s[k]'hlt).toNat : Int) == 92) = true) := by
            rcases hq2 with h | h
            · left; rw [h]; rfl
            · right; rw [h]; exact ⟨rfl, rfl⟩
          clear hpx hq2 HE HS
          rcases key with b1 | ⟨b1, b2⟩
          all_goals
            go_wp2_with fail
            go_round
            case rel =>
              refine ⟨k + 1, _, by omega, by go_num, rfl, ?_, HX⟩
              rw [ByteArray.size_append, ByteArray.size_append, hq1]
              show p.size + 1 + 1 ≤ 4001
              omega
            case measure => simp [intOf]; omega
        · have HE : Hid (escg s[k] = [s[k]]) := Lib.hid (by unfold escg esc; rw [if_neg hpx, if_neg hq2])
          have HX : Hid (p ++ q = str ([34] ++ qug (s.data.toList.take (k + 1)))) := Lib.hid (by
            rw [HS.out, HE.out, HP.out, HQ.out, str_append])
          have b1 : (((s[k]'hlt).toNat : Int) == 34) = false := by
            rw [beq_eq_false_iff_ne]; intro e
            exact hq2 (.inl (UInt8.toNat_inj.1 (by have : (34 : UInt8).toNat = 34 := rfl; omega)))
          have b2 : (((s[k]'hlt).toNat : Int) == 92) = false := by
            rw [beq_eq_false_iff_ne]; intro e
            exact hq2 (.inr (UInt8.toNat_inj.1 (by have : (92 : UInt8).toNat = 92 := rfl; omega)))
          clear hpx hq2 HE HS
          go_wp2_with fail
          go_round
          case rel =>
            refine ⟨k + 1, _, by omega, by go_num, rfl, ?_, HX⟩
            rw [ByteArray.size_append, hq1]
            omega
          case measure => simp [intOf]; omega
    · obtain rfl : k = s.size := by omega
      have HX : Hid (p ++ ⟨#[34]⟩ = u) := Lib.hid (by
        rw [HU.out, HP.out, ← HN.out, List.take_length]
        unfold quo
        rw [← str_append]; rfl)
      go_wp2_with fail
      go_ret
      exact ⟨by rw [← HX.out]; rfl, rfl⟩
end Go.Proofs.YtdpghoobdkhilaaDoor

/- The document's Show, Int, hex: what each returns. -/
namespace Go.Proofs.YtdpghoobdkhilaaDoor
set_option linter.unusedVariables false
open Go Go.RowKit BitM MskM ValM

set_option maxRecDepth 100000 in
set_option maxHeartbeats 1600000 in
theorem rvshow_any (v : V3) (w : World) : Calls Tryd.prog 34 #[.agg (vcells v).toArray] w fun e w' => e = .returned (.string (str (vshow v))) ∧ Below w.heap.size w w' := by
  obtain ⟨k, n, s⟩ := v
  have HK := Lib.hid (fun wx : World => (show Calls Tryd.prog 40 #[.agg (vcells (k, n, s)).toArray] wx fun e w' => e = .returned (.bool (vchk (k, n, s))) ∧ Below wx.heap.size wx w' from rvcheck_any k n s wx))
  have HV : Hid (vshow (k, n, s) = if vchk (k, n, s) = false then [] else if k = 1 then Lib.itoa n else if k = 2 then quo s.data.toList else [45]) := Lib.hid rfl
  have hu := Tryd.underlying54
  have B0 := Blk.new w (vcells (k, n, s)) 54
  have hb := (Below.refl w.heap.size w).alloc (Nat.le_refl _) (.cells (vcells (k, n, s)).toArray 54)
  have R0 := B0.valR
  obtain ⟨u, hu2⟩ : ∃ u, u = str (vshow (k, n, s)) := ⟨_, rfl⟩
  rw [← hu2]
  have HU := Lib.hid hu2
  have HCK : Hid (vchk (k, n, s) = vchk (k, n, s)) := Lib.hid rfl
  have hn1 := vchk_num n s
  have hn2 := vchk_txt n s
  have hn3 := vchk_kind k n s
  have HN1 := Lib.hid hn1
  have HN2 := Lib.hid hn2
  have HN3 := Lib.hid hn3
  obtain ⟨ca, hca⟩ : ∃ ca, ca = (vcells (k, n, s)).toArray := ⟨_, rfl⟩
  rw [← hca] at R0 B0 hb ⊢
  clear hca hu2 HCK hn1 hn2 hn3
  cases hck : vchk (k, n, s)
  · rw [hck] at HK HV
    have HX : Hid (u = ⟨#[]⟩) := Lib.hid (by rw [HU.out, HV.out, if_pos rfl]; rfl)
    clear hck
    go_enter Tryd.func34, Tryd.ntmps34
    go_wp2_with (first
      | (refine wpList_load_mid rfl 54 (.tmp 1) rfl w.heap.size 0 rfl (vcells (k, n, s)) _ R0 hu rfl info_val ?_))
    refine (HK.out _).mono ?_
    rintro e w1 ⟨rfl, hb1⟩
    have hb2 := hb.trans (hb1.mono hb.size)
    clear B0 R0 hb1 hb
    go_wp2_with fail
    go_ret
    exact ⟨by rw [HX.out]; rfl, hb2⟩
  · rw [hck] at HK HV
    have HKD := Lib.hid (HN3.out hck)
    have HCH := Lib.hid hck
    clear hck
    rcases HKD.out with rfl | rfl | rfl
    · have HX : Hid (u = ⟨#[45]⟩) := Lib.hid (by rw [HU.out, HV.out]; rfl)
      go_enter Tryd.func34, Tryd.ntmps34
      go_wp2_with (first
        | (refine wpList_load_mid rfl 54 (.tmp 1) rfl w.heap.size 0 rfl (vcells (0, n, s)) _ R0 hu rfl info_val ?_))
      refine (HK.out _).mono ?_
      rintro e w1 ⟨rfl, hb1⟩
      have B1 := B0.later hb1
      obtain ⟨p0, p1, p2⟩ := B1.val
      have hb2 := hb.trans (hb1.mono hb.size)
      clear B0 R0 hb1 hb
      go_wp2_with fail
      go_ret
      exact ⟨by rw [HX.out]; rfl, hb2⟩
    · have HX : Hid (u = str (Lib.itoa n)) := Lib.hid (by rw [HU.out, HV.out]; rfl)
      have HC := Lib.hid (fun (wx : World) (hb : Below w.heap.size w wx) => rtens_small n wx (by have := HN1.out HCH.out; omega) (by have := HN1.out HCH.out; omega))
      rw [← HX.out] at HC
      go_enter Tryd.func34, Tryd.ntmps34
      go_wp2_with (first
        | (refine wpList_load_mid rfl 54 (.tmp 1) rfl w.heap.size 0 rfl (vcells (1, n, s)) _ R0 hu rfl info_val ?_))
      refine (HK.out _).mono ?_
      rintro e w1 ⟨rfl, hb1⟩
      have B1 := B0.later hb1
      obtain ⟨p0, p1, p2⟩ := B1.val
      have hb2 := hb.trans (hb1.mono hb.size)
      clear B0 R0 hb1 hb
      go_wp2_with fail
      refine (HC.out _ hb2).mono ?_
      rintro e w2 ⟨rfl, hb3⟩
      have hb4 := hb2.trans (hb3.mono hb2.size)
      clear p0 p1 p2 hb2
      go_wp2_with fail
      go_ret
      exact ⟨rfl, hb4⟩
    · have HX : Hid (u = str (quo s.data.toList)) := Lib.hid (by rw [HU.out, HV.out]; rfl)
      have HC := Lib.hid (fun (wx : World) => (rquote_any s wx (by have := HN2.out HCH.out; omega)).mono fun e w' (h : e = .returned (.string (str (quo s.data.toList))) ∧ wx = w') => (show e = .returned (.string (str (quo s.data.toList))) ∧ Below wx.heap.size wx w' from ⟨h.1, h.2 ▸ Below.refl _ _⟩))
      rw [← HX.out] at HC
      go_enter Tryd.func34, Tryd.ntmps34
      go_wp2_with (first
        | (refine wpList_load_mid rfl 54 (.tmp 1) rfl w.heap.size 0 rfl (vcells (2, n, s)) _ R0 hu rfl info_val ?_))
      refine (HK.out _).mono ?_
      rintro e w1 ⟨rfl, hb1⟩
      have B1 := B0.later hb1
      obtain ⟨p0, p1, p2⟩ := B1.val
      have hb2 := hb.trans (hb1.mono hb.size)
      clear B0 R0 hb1 hb
      go_wp2_with fail
      refine (HC.out _).mono ?_
      rintro e w2 ⟨rfl, hb3⟩
      have hb4 := hb2.trans (hb3.mono hb2.size)
      clear p0 p1 p2 hb2
      go_wp2_with fail
      go_ret
      exact ⟨rfl, hb4⟩

def hexv (c : UInt8) : Int := if 48 ≤ c.toNat ∧ c.toNat ≤ 57 then (c.toNat : Int) - 48 else if 97 ≤ c.toNat ∧ c.toNat ≤ 102 then (c.toNat : Int) - 87 else -1
theorem hexv_range (c : UInt8) : -1 ≤ hexv c ∧ hexv c ≤ 15 := by
  unfold hexv; split
  · omega
  · split <;> omega
theorem hexv_hexd (n : Nat) (h : n < 16) : hexv (hexd n) = (n : Int) := by
  have key : ∀ n : Fin 16, hexv (hexd n.val) = ((n.val : Nat) : Int) := by decide +kernel
  exact key ⟨n, h⟩
theorem rhex_any (c : UInt8) (w : World) : Calls Tryd.prog 39 #[.int .u8 (c.toNat : Int)] w fun e w' => e = .returned (.int .i64 (hexv c)) ∧ w = w' := by
  have h256 := UInt8.toNat_lt c
  obtain ⟨hv, hh⟩ : ∃ h : Int, h = hexv c := ⟨_, rfl⟩
  rw [← hh]
  unfold hexv at hh
  obtain ⟨m, hm⟩ : ∃ m, m = c.toNat := ⟨_, rfl⟩
  rw [← hm] at hh h256 ⊢
  clear hm
  by_cases h1 : 48 ≤ m ∧ m ≤ 57
  · rw [if_pos h1] at hh
    have HH := Lib.hid hh
    obtain ⟨a1, a2⟩ := h1
    have b1 : (48 : Int) ≤ (m : Int) := by omega
    have b2 : (m : Int) ≤ 57 := by omega
    clear hh a1 a2
    go_enter Tryd.func39, Tryd.ntmps39
    go_wp2_with fail
    go_ret
    exact ⟨by rw [HH.out]; rfl, rfl⟩
  · rw [if_neg h1] at hh
    have key1 : ¬ (48 : Int) ≤ (m : Int) ∨ ((48 : Int) ≤ (m : Int) ∧ ¬ (m : Int) ≤ 57) := by omega
    by_cases h2 : 97 ≤ m ∧ m ≤ 102
    · rw [if_pos h2] at hh
      have HH := Lib.hid hh
      obtain ⟨a1, a2⟩ := h2
      have b1 : (97 : Int) ≤ (m : Int) := by omega
      have b2 : (m : Int) ≤ 102 := by omega
      clear hh a1 a2 h1
      rcases key1 with k1 | ⟨k1, k2⟩
      all_goals
        go_enter Tryd.func39, Tryd.ntmps39
        go_wp2_with fail
      all_goals
        go_ret
        exact ⟨by rw [HH.out]; rfl, rfl⟩
    · rw [if_neg h2] at hh
      have HH := Lib.hid hh
      have key2 : ¬ (97 : Int) ≤ (m : Int) ∨ ((97 : Int) ≤ (m : Int) ∧ ¬ (m : Int) ≤ 102) := by omega
      clear hh h1 h2
      rcases key1 with k1 | ⟨k1, k2⟩ <;> rcases key2 with k3 | ⟨k3, k4⟩
      all_goals
        go_enter Tryd.func39, Tryd.ntmps39
        go_wp2_with fail
      all_goals
        go_ret
        exact ⟨by rw [HH.out]; rfl, rfl⟩
end Go.Proofs.YtdpghoobdkhilaaDoor

/- The document's open: what it returns of any text; of a text in quotes. -/
namespace Go.Proofs.YtdpghoobdkhilaaDoor
set_option linter.unusedVariables false
open Go Go.RowKit BitM MskM ValM

/-- How far a text in quotes is read. -/
def At (t : ByteArray) (i : Nat) (p : ByteArray) : Prop := ∀ xs, t.data.toList = quo xs → ∃ j, j ≤ xs.length ∧ p = str (xs.take j) ∧ i = 1 + (qug (xs.take j)).length
theorem quo_size {t : ByteArray} {xs : List UInt8} (h : t.data.toList = quo xs) : t.size = (qug xs).length + 2 := by
  have : t.data.toList.length = t.size := by simp
  rw [← this, h]
  unfold quo
  rw [List.length_append, List.length_append]
  simp; omega
theorem At.open_ {t p : ByteArray} {i : Nat} (h : At t i p) (hi : i + 1 < t.size) {xs : List UInt8} (hx : t.data.toList = quo xs) :
    ∃ j, ∃ hj : j < xs.length, p = str (xs.take j) ∧ i = 1 + (qug (xs.take j)).length ∧ t.data.toList.drop i = escg xs[j] ++ (qug (xs.drop (j + 1)) ++ [34]) ∧ xs.take (j + 1) = xs.take j ++ [xs[j]] := by
  obtain ⟨j, hj, hp, hI⟩ := h xs hx
  have hsz := quo_size hx
  have hlt : j < xs.length := by
    rcases Nat.lt_or_ge j xs.length with h' | h'
    · exact h'
    · rw [List.take_of_length_le h'] at hI; omega
  refine ⟨j, hlt, hp, hI, ?_, List.take_succ_eq_append_getElem hlt⟩
  have hsplit : qug xs = qug (xs.take j) ++ (escg xs[j] ++ qug (xs.drop (j + 1))) := by
    rw [← qug_cons, ← List.drop_eq_getElem_cons hlt, ← qug_append, List.take_append_drop]
  rw [hx, hI]
  unfold quo
  rw [hsplit, List.append_assoc, List.append_assoc, ← List.drop_drop]
  simp [List.drop_left']
theorem At.start (t : ByteArray) : At t 1 ⟨#[]⟩ := fun xs _ => ⟨0, Nat.zero_le _, rfl, rfl⟩
theorem At.plain {t p : ByteArray} {i : Nat} (h : At t i p) (hi : i + 1 < t.size) (h0 : t[i]'(by omega) ≠ 92) : At t (i + 1) (p ++ str [t[i]'(by omega)]) := fun xs hx => by
  obtain ⟨j, hj, hp, hI, hd, ht⟩ := h.open_ hi hx
  rcases escg_kinds xs[j] with ⟨he, hn⟩ | ⟨he, hn⟩ | ⟨he, hn⟩ <;> rw [he] at hd <;> obtain ⟨l0, e0, hd1⟩ := byte_of hd
  · refine ⟨j + 1, hj, by rw [hp, e0, ht, str_append], ?_⟩
    rw [ht, qug_snoc, List.length_append, he, hI]; simp; omega
  · exact absurd e0 h0
  · exact absurd e0 h0
theorem At.esc {t p : ByteArray} {i : Nat} (h : At t i p) (hi : i + 1 < t.size) (h0 : t[i]'(by omega) = 92) (h1 : ¬ (t[i + 1]'hi = 120 ∧ ∃ h3 : i + 3 < t.size, 0 ≤ hexv (t[i + 2]'(by omega)) ∧ 0 ≤ hexv (t[i + 3]'h3))) : At t (i + 2) (p ++ str [t[i + 1]'hi]) := fun xs hx => by
  obtain ⟨j, hj, hp, hI, hd, ht⟩ := h.open_ hi hx
  rcases escg_kinds xs[j] with ⟨he, hn⟩ | ⟨he, hn⟩ | ⟨he, hn⟩ <;> rw [he] at hd <;> obtain ⟨l0, e0, hd1⟩ := byte_of hd
  · rw [h0] at e0; exact absurd e0.symm hn.1
  · obtain ⟨l1, e1, hd2⟩ := byte_of hd1
    refine ⟨j + 1, hj, by rw [hp, e1, ht, str_append], ?_⟩
    rw [ht, qug_snoc, List.length_append, he, hI]; simp; omega
  · obtain ⟨l1, e1, hd2⟩ := byte_of hd1
    obtain ⟨l2, e2, hd3⟩ := byte_of hd2
    obtain ⟨l3, e3, hd4⟩ := byte_of hd3
    have hc := UInt8.toNat_lt xs[j]
    have e2' : t[i + 2] = hexd (xs[j].toNat / 16) := e2
    have e3' : t[i + 3] = hexd (xs[j].toNat % 16) := e3
    exact absurd ⟨e1, l3, by rw [e2', hexv_hexd _ (by omega)]; omega, by rw [e3', hexv_hexd _ (by omega)]; omega⟩ h1
theorem At.hex {t p : ByteArray} {i : Nat} (h : At t i p) (h3 : i + 3 < t.size) (h0 : t[i]'(by omega) = 92) (h1 : t[i + 1]'(by omega) = 120) (c : UInt8) (hc : (c.toNat : Int) = 16 * hexv (t[i + 2]'(by omega)) + hexv (t[i + 3]'h3)) : At t (i + 4) (p ++ str [c]) := fun xs hx => by
  obtain ⟨j, hj, hp, hI, hd, ht⟩ := h.open_ (by omega) hx
  rcases escg_kinds xs[j] with ⟨he, hn⟩ | ⟨he, hn⟩ | ⟨he, hn⟩ <;> rw [he] at hd <;> obtain ⟨l0, e0, hd1⟩ := byte_of hd
  · rw [h0] at e0; exact absurd e0.symm hn.1
  · obtain ⟨l1, e1, hd2⟩ := byte_of hd1
    rw [h1] at e1
    rcases hn with hn | hn <;> rw [hn] at e1 <;> exact absurd e1 (by decide)
  · obtain ⟨l1, e1, hd2⟩ := byte_of hd1
    obtain ⟨l2, e2, hd3⟩ := byte_of hd2
    obtain ⟨l3, e3, hd4⟩ := byte_of hd3
    have h256 := UInt8.toNat_lt xs[j]
    have e2' : t[i + 2] = hexd (xs[j].toNat / 16) := e2
    have e3' : t[i + 3] = hexd (xs[j].toNat % 16) := e3
    rw [e2', e3', hexv_hexd _ (by omega), hexv_hexd _ (by omega)] at hc
    have hcx : c = xs[j] := UInt8.toNat_inj.1 (by omega)
    refine ⟨j + 1, hj, by rw [hp, hcx, ht, str_append], ?_⟩
    rw [ht, qug_snoc, List.length_append, he, hI]; simp; omega
theorem At.end_ {t p : ByteArray} {i : Nat} (h : At t i p) (hi : t.size ≤ i + 1) {xs : List UInt8} (hx : t.data.toList = quo xs) : p = str xs := by
  obtain ⟨j, hj, hp, hI⟩ := h xs hx
  have hsz := quo_size hx
  rcases Nat.lt_or_ge j xs.length with hlt | hge
  · exfalso
    have hsplit : qug xs = qug (xs.take j) ++ (escg xs[j] ++ qug (xs.drop (j + 1))) := by
      rw [← qug_cons, ← List.drop_eq_getElem_cons hlt, ← qug_append, List.take_append_drop]
    have h1 := (escg_len xs[j]).1
    have h2 : (qug xs).length = (qug (xs.take j)).length + ((escg xs[j]).length + (qug (xs.drop (j + 1))).length) := by rw [hsplit, List.length_append, List.length_append]
    omega
  · rw [hp, List.take_of_length_le hge]

theorem run_bts1 (p : Int) (w : World) : (Instr.buildSlice 59 1 #[(0, .int .u8 p)]).run Tryd.prog w = .ok (.slice (some ⟨w.heap.size, 0, none⟩) 1 1) (w.alloc (.cells #[.int .u8 p] 5)) := by kernel_rfl
theorem bts1_gives {a : Act} {op : Oper} (y : Operand) (p : UInt8) (ho : op.op = .buildSlice 59 1 #[(0, y)]) (hy : a.eval y = .int .u8 (p.toNat : Int)) (w : World) : gives Tryd.prog op a (relBts [p]).rel w := by
  unfold gives execOp
  simp only [ho, List.map_toArray, List.map_cons, List.map_nil, hy, Sem.run_bind, run_bts1, Result.andThen_ok, Sem.run_pure]
  exact ⟨(Below.refl _ _).alloc (Nat.le_refl _) _, _, rfl, Blk.new w (bvs [p]) _⟩

set_option maxRecDepth 100000 in
set_option maxHeartbeats 3200000 in
theorem ropen_any (t : ByteArray) (w : World) (hx : t.size ≤ 1000) : Calls Tryd.prog 33 #[.string t] w fun e w' => (∃ p, e = .returned (.string p) ∧ (∀ xs, t.data.toList = quo xs → p = str xs)) ∧ Below w.heap.size w w' := by
  have HH := Lib.hid (fun (c : UInt8) (wx : World) => rhex_any c wx)
  go_enter Tryd.func33, Tryd.ntmps33
  go_wp2_with fail
  go_loopw [4, 3] (fun ii v wr => ∃ (i : Nat) (p : ByteArray), i ≤ 1003 ∧ ii = .int .i64 i ∧ v = .string p ∧ p.size ≤ i ∧ Hid (At t i p) ∧ Below w.heap.size w wr) (fun ii _ _ => 1004 - (intOf ii).toNat)
  case atStart => exact ⟨1, _, by omega, rfl, rfl, by decide, Lib.hid (At.start t), Below.refl _ _⟩
  case round =>
    obtain ⟨i, p, hi4, rfl, rfl, hps, HAT, hbr⟩ := hrel
    by_cases hlt : i + 1 < t.size
    · have hg : (i : Int) < (t.size : Int) - 1 := by omega
      have l0 : i < t.size := by omega
      have hb1 : (i : Int) + 1 ≤ (t.size : Int) := by omega
      have hb2 : (i : Int) ≤ (i : Int) + 1 := by omega
      have hb3 : (i : Int) + 2 ≤ (t.size : Int) := by omega
      have hb4 : (i : Int) + 1 ≤ (i : Int) + 2 := by omega
      by_cases h92 : t[i] = 92
      · have n0 : ((t[i].toNat : Int) != 92) = false := by rw [h92]; rfl
        have hpc := piece1 t (i + 1) hlt
        rw [show i + 1 + 1 = i + 2 by omega] at hpc
        have hpc2 : t.extract (i + 1) ((i : Int) + 2).toNat = str [t[i + 1]] := by
          rw [show ((i : Int) + 2).toNat = i + 2 by omega]; exact hpc
        have hpc3 : t.extract ((i : Int) + 1).toNat ((i : Int) + 2).toNat = str [t[i + 1]] := by
          rw [show ((i : Int) + 1).toNat = i + 1 by omega]; exact hpc2
        have hq1 : (str [t[i + 1]]).size = 1 := str_size _
        by_cases h120 : t[i + 1] = 120
        · have n1 : ((t[i + 1].toNat : Int) == 120) = true := by rw [h120]; rfl
          by_cases h3 : i + 3 < t.size
          · have hg3 : (i : Int) + 3 < (t.size : Int) := by omega
            have hy1 : (0 : Int) ≤ (i : Int) + 2 := by omega
            have hy2 : (i : Int) + 2 < (t.size : Int) := by omega
            have hy3 : (0 : Int) ≤ (i : Int) + 3 := by omega
            have HX2 : Hid (∀ wx : World, Calls Tryd.prog 39 #[.int .u8 (t[i + 2].toNat : Int)] wx fun e w' => e = .returned (.int .i64 (hexv t[i + 2])) ∧ wx = w') := Lib.hid (HH.out t[i + 2])
            have HX3 : Hid (∀ wx : World, Calls Tryd.prog 39 #[.int .u8 (t[i + 3].toNat : Int)] wx fun e w' => e = .returned (.int .i64 (hexv t[i + 3])) ∧ wx = w') := Lib.hid (HH.out t[i + 3])
            by_cases hx2 : 0 ≤ hexv t[i + 2]
            · by_cases hx3 : 0 ≤ hexv t[i + 3]
              · have r2 := hexv_range t[i + 2]
                have r3 := hexv_range t[i + 3]
                obtain ⟨c, hc⟩ : ∃ c : UInt8, (c.toNat : Int) = 16 * hexv t[i + 2] + hexv t[i + 3] := ⟨UInt8.ofNat (16 * hexv t[i + 2] + hexv t[i + 3]).toNat, by
                  rw [UInt8.toNat_ofNat']; omega⟩
                have HA3 := Lib.hid (HAT.out.hex h3 h92 h120 c hc)
                have hq1 : (str [c]).size = 1 := str_size _
                obtain ⟨x, hxv⟩ : ∃ z, z = hexv t[i + 2] := ⟨_, rfl⟩
                obtain ⟨y, hyv⟩ : ∃ z, z = hexv t[i + 3] := ⟨_, rfl⟩
                rw [← hxv] at HX2 hx2 r2 hc
                rw [← hyv] at HX3 hx3 r3 hc
                have HCW : Hid (IntKind.u8.wrap (16 * x + y) = (c.toNat : Int)) := Lib.hid (by rw [← hc]; exact wrapB _ (UInt8.toNat_lt c))
                have GX2 := Lib.hid (fun wx : World => (HX2.out wx).mono fun e w' (h : e = .returned (.int .i64 x) ∧ wx = w') => (show e = .returned (.int .i64 x) ∧ Below wx.heap.size wx w' from ⟨h.1, h.2 ▸ Below.refl _ _⟩))
                have GX3 := Lib.hid (fun wx : World => (HX3.out wx).mono fun e w' (h : e = .returned (.int .i64 y) ∧ wx = w') => (show e = .returned (.int .i64 y) ∧ Below wx.heap.size wx w' from ⟨h.1, h.2 ▸ Below.refl _ _⟩))
                clear h92 h120 hxv hyv hc HAT hpc hpc2 hpc3
                go_wp2_with fail
                refine (HX2.out _).mono ?_
                rintro e w9 ⟨rfl, rfl⟩
                go_wp2_with fail
                refine (HX3.out _).mono ?_
                rintro e w9 ⟨rfl, rfl⟩
                go_wp2_with fail
                refine wp_region_steady [(65, relBts [c])] 81 (by kernel_rfl) (by kernel_rfl) (by kernel_rfl) (by rfl) ?_
                iterate 5 (refine wpG_quiet (by rfl) (by rfl) (by rfl) (fun K hK => ?_); go_big_quiet_op; refine hK _ ?_; clear hK K)
                refine wpG_call (by rfl) (by rfl) 39 #[.int .u8 (t[i + 2].toNat : Int)] (.int .i64 x) (by intro _; simp [go_sem]) (by kernel_rfl) (fun w1 hl => (GX2.out w1)) ?_
                simp only [Act.put, List.setIfInBounds_toArray, List.set_cons_zero, List.set_cons_succ]
                iterate 5 (refine wpG_quiet (by rfl) (by rfl) (by rfl) (fun K hK => ?_); go_big_quiet_op; refine hK _ ?_; clear hK K)
                refine wpG_call (by rfl) (by rfl) 39 #[.int .u8 (t[i + 3].toNat : Int)] (.int .i64 y) (by intro _; simp [go_sem]) (by kernel_rfl) (fun w1 hl => (GX3.out w1)) ?_
                simp only [Act.put, List.setIfInBounds_toArray, List.set_cons_zero, List.set_cons_succ]
                iterate 1 (refine wpG_quiet (by rfl) (by rfl) (by rfl) (fun K hK => ?_); go_big_quiet_op; refine hK _ ?_; clear hK K)
                refine wpG_run (by rfl) (by rfl) (.int .u8 (c.toNat : Int)) (fun w1 hl => by simp [go_sem]; exact HCW.out) ?_
                simp only [Act.put, List.setIfInBounds_toArray, List.set_cons_zero, List.set_cons_succ]
                refine wpG_open (relBts [c]) (by rfl) (by rfl) (fun w1 hl => bts1_gives (.tmp 64) c rfl rfl w1) ?_
                rintro _ ⟨_, _, _, ⟨g, rfl, _⟩⟩
                simp only [Act.put, List.setIfInBounds_toArray, List.set_cons_zero, List.set_cons_succ]
                refine wpG_run (by rfl) (by rfl) (.string (str [c])) (fun w1 hl => ?_) ?_
                · obtain ⟨g5, h5, r5⟩ := hl.2 65 _ (by simp [Op.operands]) rfl (by intro h; cases h)
                  cases h5
                  have hr := run_str (P := Tryd.prog) w1 w1.heap.size 59 5 9 Tryd.underlying59 Tryd.underlying5 Tryd.underlying9 _ 1 1 [c] rfl r5.seesBts
                  simp [go_sem, hr]
                simp only [Act.put, List.setIfInBounds_toArray, List.set_cons_zero, List.set_cons_succ]
                iterate 2 (refine wpG_quiet (by rfl) (by rfl) (by rfl) (fun K hK => ?_); go_big_quiet_op; refine hK _ ?_; clear hK K)
                refine wpG_nil fun w1 hl _ => ?_
                replace hbr := hbr.trans (hl.mono hbr.size)
                clear hl
                go_wp2_with fail
                go_roundw
                case rel => exact ⟨i + 4, _, by omega, by go_num, rfl, by rw [ByteArray.size_append, hq1]; omega, Lib.hid HA3.out, hbr⟩
                case measure => simp [intOf]; omega
              · have HA2 := HAT.out.esc hlt h92 (fun h => by obtain ⟨_, _, h5⟩ := h.2; exact hx3 h5)
                obtain ⟨x, hxv⟩ : ∃ z, z = hexv t[i + 2] := ⟨_, rfl⟩
                obtain ⟨y, hyv⟩ : ∃ z, z = hexv t[i + 3] := ⟨_, rfl⟩
                rw [← hxv] at HX2 hx2
                rw [← hyv] at HX3 hx3
                obtain ⟨q, hq⟩ : ∃ q, q = str [t[i + 1]] := ⟨_, rfl⟩
                rw [← hq] at hpc hpc2 hpc3 hq1 HA2
                have HA3 := Lib.hid HA2
                clear HA2 h92 h120 hq HAT hxv hyv
                go_wp2_with fail
                refine (HX2.out _).mono ?_
                rintro e w9 ⟨rfl, rfl⟩
                go_wp2_with fail
                refine (HX3.out _).mono ?_
                rintro e w9 ⟨rfl, rfl⟩
                go_wp2_with fail
                go_roundw
                case rel => exact ⟨i + 2, _, by omega, by go_num, rfl, by rw [ByteArray.size_append, hq1]; omega, Lib.hid HA3.out, hbr⟩
                case measure => simp [intOf]; omega
            · have HA2 := HAT.out.esc hlt h92 (fun h => by obtain ⟨_, h5, _⟩ := h.2; exact hx2 h5)
              obtain ⟨x, hxv⟩ : ∃ z, z = hexv t[i + 2] := ⟨_, rfl⟩
              rw [← hxv] at HX2 hx2
              obtain ⟨q, hq⟩ : ∃ q, q = str [t[i + 1]] := ⟨_, rfl⟩
              rw [← hq] at hpc hpc2 hpc3 hq1 HA2
              have HA3 := Lib.hid HA2
              clear HA2 h92 h120 hq HAT hxv
              go_wp2_with fail
              refine (HX2.out _).mono ?_
              rintro e w9 ⟨rfl, rfl⟩
              go_wp2_with fail
              go_roundw
              case rel => exact ⟨i + 2, _, by omega, by go_num, rfl, by rw [ByteArray.size_append, hq1]; omega, Lib.hid HA3.out, hbr⟩
              case measure => simp [intOf]; omega
          · have hg3 : ¬ (i : Int) + 3 < (t.size : Int) := by omega
            have HA2 := HAT.out.esc hlt h92 (fun h => by obtain ⟨h5, _⟩ := h.2; exact h3 h5)
            obtain ⟨q, hq⟩ : ∃ q, q = str [t[i + 1]] := ⟨_, rfl⟩
            rw [← hq] at hpc hpc2 hpc3 hq1 HA2
            have HA3 := Lib.hid HA2
            clear HA2 h92 h120 hq HAT
            go_wp2_with fail
            go_roundw
            case rel => exact ⟨i + 2, _, by omega, by go_num, rfl, by rw [ByteArray.size_append, hq1]; omega, Lib.hid HA3.out, hbr⟩
            case measure => simp [intOf]; omega

        · have n1 : ((t[i + 1].toNat : Int) == 120) = false := by
            rw [beq_eq_false_iff_ne]; intro e; exact h120 (UInt8.toNat_inj.1 (Int.ofNat_inj.1 e))
          have HA2 := HAT.out.esc hlt h92 (fun h => h120 h.1)
          obtain ⟨q, hq⟩ : ∃ q, q = str [t[i + 1]] := ⟨_, rfl⟩
          rw [← hq] at hpc hpc2 hpc3 hq1 HA2
          have HA3 := Lib.hid HA2
          clear HA2 h92 h120 hq HAT
          go_wp2_with fail
          go_roundw
          case rel => exact ⟨i + 2, _, by omega, by go_num, rfl, by rw [ByteArray.size_append, hq1]; omega, Lib.hid HA3.out, hbr⟩
          case measure => simp [intOf]; omega
      · have n0 : ((t[i].toNat : Int) != 92) = true := by
          rw [bne_iff_ne]; intro e; exact h92 (UInt8.toNat_inj.1 (Int.ofNat_inj.1 e))
        have hpc := piece1 t i l0
        have hpc2 : t.extract i ((i : Int) + 1).toNat = str [t[i]] := by
          rw [show ((i : Int) + 1).toNat = i + 1 by omega]; exact hpc
        have hq1 : (str [t[i]]).size = 1 := str_size _
        have HA2 := HAT.out.plain hlt h92
        obtain ⟨q, hq⟩ : ∃ q, q = str [t[i]] := ⟨_, rfl⟩
        rw [← hq] at hpc hpc2 hq1 HA2
        have HA3 := Lib.hid HA2
        clear HA2 h92 hq HAT
        go_wp2_with fail
        go_roundw
        case rel => exact ⟨i + 1, _, by omega, by go_num, rfl, by rw [ByteArray.size_append, hq1]; omega, Lib.hid HA3.out, hbr⟩
        case measure => simp [intOf]; omega
    · have hg : ¬ (i : Int) < (t.size : Int) - 1 := by omega
      go_wp2_with fail
      go_ret
      exact ⟨⟨p, rfl, fun xs h => HAT.out.end_ (by omega) h⟩, hbr⟩
end Go.Proofs.YtdpghoobdkhilaaDoor
