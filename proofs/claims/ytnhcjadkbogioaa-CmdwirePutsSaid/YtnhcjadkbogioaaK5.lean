/- The document's Num, Str, Flag as texts: what each returns. -/
import Derived.Test.YtnhcjadkbogioaaK1
namespace Go.Proofs.Ytnhcjadkbogioaa
set_option linter.unusedVariables false
open Go.RowKit OctM

/-- string([]byte{..}) of a byte laid anew. -/
theorem str_one (w : World) (x : Int) (m : Nat) (hm : m < 256) (hx : x = (m : Int)) :
    (convert 33 9 (.slice (some ⟨w.heap.size, 0, none⟩) 1 1)).run Try.prog (w.alloc (.cells #[.int .u8 x] 5)) = .ok (.string (str [UInt8.ofNat m])) (w.alloc (.cells #[.int .u8 x] 5)) :=
  run_str (P := Try.prog) _ (w.heap.size + 1) 33 5 9 Try.underlying33 Try.underlying5 Try.underlying9 _ 1 1 [UInt8.ofNat m] rfl
    (by subst hx; exact sees_lit w #[.int .u8 (m : Int)] 5 (0, 0) (bvs [UInt8.ofNat m]) (oct_one m hm).symm)

set_option maxRecDepth 4000 in
set_option maxHeartbeats 1600000 in
theorem ref_num_mid (z : Int) (w : World) (h0 : 0 ≤ z) (h1 : z ≤ 1099511627776) :
    Calls Try.prog 26 #[.int .i64 z] w fun e w' => e = .returned (.string (str (enc (held z)))) ∧ Below w.heap.size w w' := by
  have hel := held_len z
  have hhl := held_le z
  obtain ⟨h, hh⟩ : ∃ h, h = held z := ⟨_, rfl⟩
  rw [← hh] at hel hhl ⊢
  obtain ⟨zn, rfl⟩ := Int.eq_ofNat_of_zero_le h0
  have HH := Lib.hid (show zn = h from by have := held_self h0 h1; rw [← hh] at this; omega)
  have hmx : max (zn : Int) 0 = (zn : Int) := by omega
  have hmn : min (zn : Int) 1099511627776 = (zn : Int) := by omega
  clear hh
  obtain ⟨k, hk⟩ : ∃ k, k = (enc h).length := ⟨_, rfl⟩
  rw [← hk] at hel
  have HK := Lib.hid hk
  clear hk
  go_enter Try.func26, Try.ntmps26
  go_wp2_with fail
  go_loopw [3, 4] (fun i v wr => ∃ (m : Nat) (p : List UInt8), m ≤ 1099511627776 ∧ i = .int .i64 m ∧ v = .string (str p) ∧ p ++ enc m = enc h ∧ Below w.heap.size w wr) (fun i _ _ => (intOf i).toNat)
  case atStart => exact ⟨zn, [], by omega, rfl, rfl, by rw [HH.out]; rfl, Below.refl _ _⟩
  case round =>
    obtain ⟨m, p, hm1, rfl, rfl, hpe, hbr⟩ := hrel
    have hpl : p.length ≤ 6 := by
      have := congrArg List.length hpe
      rw [List.length_append, ← HK.out] at this
      omega
    have HPE := Lib.hid hpe
    have hsp := str_size p
    clear hpe
    obtain ⟨sp, hsp2⟩ : ∃ sp, sp = str p := ⟨_, rfl⟩
    rw [← hsp2] at hsp ⊢
    have hspb : sp.size ≤ 6 := by omega
    have HSP := Lib.hid hsp2
    clear hsp2 hsp
    by_cases hlt : m < 128
    · have HE := Lib.hid (enc_low hlt)
      have hd : decide ((128 : Int) ≤ (m : Int)) = false := by simp; omega
      have hstr := str_one wr (m : Int) m (by omega) rfl
      have hs1 : (str [UInt8.ofNat m]).size = 1 := str_size _
      obtain ⟨t, ht⟩ : ∃ t, t = str [UInt8.ofNat m] := ⟨_, rfl⟩
      rw [← ht] at hstr hs1
      have HT := Lib.hid ht
      clear ht hpl
      go_wp2_with fail
      go_ret
      refine ⟨?_, hbr.alloc hbr.size _⟩
      rw [← HPE.out, HE.out, ← str_append, ← HSP.out, ← HT.out]
      rfl
    · have HE := Lib.hid (enc_high hlt)
      have hge : (128 : Int) ≤ (m : Int) := by omega
      have hstr := str_one wr ((m : Int) % 128 + 128) (m % 128 + 128) (by omega) (by omega)
      have hs1 : (str [UInt8.ofNat (m % 128 + 128)]).size = 1 := str_size _
      obtain ⟨t, ht⟩ : ∃ t, t = str [UInt8.ofNat (m % 128 + 128)] := ⟨_, rfl⟩
      rw [← ht] at hstr hs1
      have HT := Lib.hid ht
      clear ht hpl
      go_wp2_with fail
      go_roundw
      case rel =>
        refine ⟨m / 128, p ++ [UInt8.ofNat (m % 128 + 128)], by omega, by go_num, by rw [← str_append, ← HSP.out, ← HT.out], ?_, hbr.alloc hbr.size _⟩
        rw [← HPE.out, HE.out, List.append_assoc]; rfl
      case measure => simp [intOf]; omega

set_option maxRecDepth 4000 in
set_option maxHeartbeats 1600000 in
theorem ref_num_low (z : Int) (w : World) (h0 : z < 0) :
    Calls Try.prog 26 #[.int .i64 z] w fun e w' => e = .returned (.string (str (enc (held z)))) ∧ Below w.heap.size w w' := by
  have hel := held_len z
  have hhl := held_le z
  obtain ⟨h, hh⟩ : ∃ h, h = held z := ⟨_, rfl⟩
  rw [← hh] at hel hhl ⊢
  have HH := Lib.hid (show 0 = h from by rw [hh]; unfold held; omega)
  clear hh
  obtain ⟨k, hk⟩ : ∃ k, k = (enc h).length := ⟨_, rfl⟩
  rw [← hk] at hel
  have HK := Lib.hid hk
  clear hk
  go_enter Try.func26, Try.ntmps26
  go_wp2_with fail
  go_loopw [3, 4] (fun i v wr => ∃ (m : Nat) (p : List UInt8), m ≤ 1099511627776 ∧ i = .int .i64 m ∧ v = .string (str p) ∧ p ++ enc m = enc h ∧ Below w.heap.size w wr) (fun i _ _ => (intOf i).toNat)
  case atStart => exact ⟨0, [], by omega, rfl, rfl, by rw [HH.out]; rfl, Below.refl _ _⟩
  case round =>
    obtain ⟨m, p, hm1, rfl, rfl, hpe, hbr⟩ := hrel
    have hpl : p.length ≤ 6 := by
      have := congrArg List.length hpe
      rw [List.length_append, ← HK.out] at this
      omega
    have HPE := Lib.hid hpe
    have hsp := str_size p
    clear hpe
    obtain ⟨sp, hsp2⟩ : ∃ sp, sp = str p := ⟨_, rfl⟩
    rw [← hsp2] at hsp ⊢
    have hspb : sp.size ≤ 6 := by omega
    have HSP := Lib.hid hsp2
    clear hsp2 hsp
    by_cases hlt : m < 128
    · have HE := Lib.hid (enc_low hlt)
      have hd : decide ((128 : Int) ≤ (m : Int)) = false := by simp; omega
      have hstr := str_one wr (m : Int) m (by omega) rfl
      have hs1 : (str [UInt8.ofNat m]).size = 1 := str_size _
      obtain ⟨t, ht⟩ : ∃ t, t = str [UInt8.ofNat m] := ⟨_, rfl⟩
      rw [← ht] at hstr hs1
      have HT := Lib.hid ht
      clear ht hpl
      go_wp2_with fail
      go_ret
      refine ⟨?_, hbr.alloc hbr.size _⟩
      rw [← HPE.out, HE.out, ← str_append, ← HSP.out, ← HT.out]
      rfl
    · have HE := Lib.hid (enc_high hlt)
      have hge : (128 : Int) ≤ (m : Int) := by omega
      have hstr := str_one wr ((m : Int) % 128 + 128) (m % 128 + 128) (by omega) (by omega)
      have hs1 : (str [UInt8.ofNat (m % 128 + 128)]).size = 1 := str_size _
      obtain ⟨t, ht⟩ : ∃ t, t = str [UInt8.ofNat (m % 128 + 128)] := ⟨_, rfl⟩
      rw [← ht] at hstr hs1
      have HT := Lib.hid ht
      clear ht hpl
      go_wp2_with fail
      go_roundw
      case rel =>
        refine ⟨m / 128, p ++ [UInt8.ofNat (m % 128 + 128)], by omega, by go_num, by rw [← str_append, ← HSP.out, ← HT.out], ?_, hbr.alloc hbr.size _⟩
        rw [← HPE.out, HE.out, List.append_assoc]; rfl
      case measure => simp [intOf]; omega

set_option maxRecDepth 4000 in
set_option maxHeartbeats 1600000 in
theorem ref_num_high (z : Int) (w : World) (h0 : 1099511627776 < z) :
    Calls Try.prog 26 #[.int .i64 z] w fun e w' => e = .returned (.string (str (enc (held z)))) ∧ Below w.heap.size w w' := by
  have hel := held_len z
  have hhl := held_le z
  obtain ⟨h, hh⟩ : ∃ h, h = held z := ⟨_, rfl⟩
  rw [← hh] at hel hhl ⊢
  have HH := Lib.hid (show 1099511627776 = h from by rw [hh]; unfold held; omega)
  clear hh
  obtain ⟨k, hk⟩ : ∃ k, k = (enc h).length := ⟨_, rfl⟩
  rw [← hk] at hel
  have HK := Lib.hid hk
  clear hk
  go_enter Try.func26, Try.ntmps26
  go_wp2_with fail
  go_loopw [3, 4] (fun i v wr => ∃ (m : Nat) (p : List UInt8), m ≤ 1099511627776 ∧ i = .int .i64 m ∧ v = .string (str p) ∧ p ++ enc m = enc h ∧ Below w.heap.size w wr) (fun i _ _ => (intOf i).toNat)
  case atStart => exact ⟨1099511627776, [], by omega, rfl, rfl, by rw [HH.out]; rfl, Below.refl _ _⟩
  case round =>
    obtain ⟨m, p, hm1, rfl, rfl, hpe, hbr⟩ := hrel
    have hpl : p.length ≤ 6 := by
      have := congrArg List.length hpe
      rw [List.length_append, ← HK.out] at this
      omega
    have HPE := Lib.hid hpe
    have hsp := str_size p
    clear hpe
    obtain ⟨sp, hsp2⟩ : ∃ sp, sp = str p := ⟨_, rfl⟩
    rw [← hsp2] at hsp ⊢
    have hspb : sp.size ≤ 6 := by omega
    have HSP := Lib.hid hsp2
    clear hsp2 hsp
    by_cases hlt : m < 128
    · have HE := Lib.hid (enc_low hlt)
      have hd : decide ((128 : Int) ≤ (m : Int)) = false := by simp; omega
      have hstr := str_one wr (m : Int) m (by omega) rfl
      have hs1 : (str [UInt8.ofNat m]).size = 1 := str_size _
      obtain ⟨t, ht⟩ : ∃ t, t = str [UInt8.ofNat m] := ⟨_, rfl⟩
      rw [← ht] at hstr hs1
      have HT := Lib.hid ht
      clear ht hpl
      go_wp2_with fail
      go_ret
      refine ⟨?_, hbr.alloc hbr.size _⟩
      rw [← HPE.out, HE.out, ← str_append, ← HSP.out, ← HT.out]
      rfl
    · have HE := Lib.hid (enc_high hlt)
      have hge : (128 : Int) ≤ (m : Int) := by omega
      have hstr := str_one wr ((m : Int) % 128 + 128) (m % 128 + 128) (by omega) (by omega)
      have hs1 : (str [UInt8.ofNat (m % 128 + 128)]).size = 1 := str_size _
      obtain ⟨t, ht⟩ : ∃ t, t = str [UInt8.ofNat (m % 128 + 128)] := ⟨_, rfl⟩
      rw [← ht] at hstr hs1
      have HT := Lib.hid ht
      clear ht hpl
      go_wp2_with fail
      go_roundw
      case rel =>
        refine ⟨m / 128, p ++ [UInt8.ofNat (m % 128 + 128)], by omega, by go_num, by rw [← str_append, ← HSP.out, ← HT.out], ?_, hbr.alloc hbr.size _⟩
        rw [← HPE.out, HE.out, List.append_assoc]; rfl
      case measure => simp [intOf]; omega

theorem ref_num (z : Int) (w : World) :
    Calls Try.prog 26 #[.int .i64 z] w fun e w' => e = .returned (.string (str (enc (held z)))) ∧ Below w.heap.size w w' := by
  by_cases h0 : z < 0
  · exact ref_num_low z w h0
  · by_cases h1 : 1099511627776 < z
    · exact ref_num_high z w h1
    · exact ref_num_mid z w (by omega) (by omega)

theorem ref_str (t : List UInt8) (w : World) (hm : t.length ≤ 1048576) :
    Calls Try.prog 90 #[.string (str t)] w fun e w' => e = .returned (.string (str (enc t.length ++ t))) ∧ Below w.heap.size w w' := by
  have hsz := str_size t
  have hh : held (t.length : Int) = t.length := by have := held_self (n := (t.length : Int)) (by omega) (by omega); omega
  have hel := held_len (t.length : Int)
  rw [hh] at hel
  have HH := Lib.hid hh
  have hs1 := str_size (enc t.length)
  have HA := Lib.hid (str_append (enc t.length) t)
  clear hh
  go_enter Try.func90, Try.ntmps90
  go_wp2_with fail
  refine (ref_num (t.length : Int) w).mono ?_
  rintro e w1 ⟨rfl, b1⟩
  rw [HH.out]
  go_wp2_with fail
  go_ret
  rw [← HA.out]
  exact ⟨rfl, b1⟩
end Go.Proofs.Ytnhcjadkbogioaa
