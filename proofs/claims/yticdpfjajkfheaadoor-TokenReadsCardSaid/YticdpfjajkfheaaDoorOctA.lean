/- octet.number, fresh, Num, Str, Flag: what each returns. -/
import Derived.Test.YticdpfjajkfheaaDoorWords2
import Derived.Test.YticdpfjajkfheaaDoorOctM
namespace Go.Proofs.YticdpfjajkfheaaDoor
set_option linter.unusedVariables false
open Go.RowKit OctM

theorem oct_info : (Tryd.prog.info? 5).map (fun i => (i.zero, i.size, i.bytes)) = some (some (.int .u8 0), 1, 1) := by kernel_rfl
theorem oct_size : (Tryd.prog.info? 5).map (·.size) = some 1 := by kernel_rfl
theorem oct_parts : ∃ i0, Tryd.prog.info? 5 = some i0 ∧ i0.zero = some (.int .u8 0) ∧ i0.size = 1 ∧ i0.bytes = 1 := by
  have h := oct_info
  cases hi : Tryd.prog.info? 5 with
  | none => rw [hi] at h; cases h
  | some i0 =>
    rw [hi] at h
    simp only [Option.map_some, Option.some.injEq, Prod.mk.injEq] at h
    exact ⟨i0, rfl, h.1, h.2.1, h.2.2⟩

/-- A copy with room: a row of the call's own. -/
theorem oct_fresh (A : Option Addr) (n c : Nat) (l : List UInt8) (r : Nat) (w : World) (hn : l.length = n) (hs : Sees w w.heap.size A (bvs l)) (hm : n ≤ 1048576) (hr : r ≤ 1048576) :
    Calls Tryd.prog 49 #[.slice A n c, .int .i64 r] w fun e w' => ∃ A' c', e = .returned (.slice A' n c') ∧ Own w' w.heap.size 5 (.slice A' n c') (bvs l) ∧ Below w.heap.size w w' := by
  obtain ⟨i0, hi, hz0, hz1, hz2⟩ := oct_parts
  go_enter Tryd.func49, Tryd.ntmps49
  go_wp2_with (first
    | (refine wpList_mk _ rfl (.tmp 7) (.tmp 11) _ rfl w.heap.size 5 i0 _ Tryd.underlying48 hi hz0 hz1 rfl .i64 .i64 _ _ n (n + r) rfl rfl rfl (by omega) (by omega) (by rw [hz2]; omega) (by simp [maxLen]; omega) (Nat.le_refl _) ?_
       intro w1 hown1 hb1 hg1 hsz1)
    | (refine wpList_cp _ rfl (.tmp 13) (.tmp 14) _ rfl w.heap.size 5 Tryd.underlying48 oct_size (some ⟨w.heap.size, 0, none⟩) n (n + r) (List.replicate n (.int .u8 0)) rfl (by simp) hown1 w.heap.size A n c (bvs l) rfl (by rw [bvs_length, hn]) (hs.below hb1) (bvs_one l) ?_
       intro w2 hown2 hb2 hg2 hsz2
       simp only [Nat.le_refl, List.take_of_length_le, bvs_length, hn, List.drop_replicate, Nat.sub_self, List.replicate_zero, List.append_nil] at hown2)
    | fail)
  go_ret
  exact ⟨_, _, rfl, hown2, hb1.trans hb2⟩

theorem oct_one (m : Nat) (h : m < 256) : bvs [UInt8.ofNat m] = [Value.int .u8 (m : Int)] := by
  simp [bvs, bv, low_nat h]

set_option maxHeartbeats 1600000 in
theorem oct_number_mid (A : Option Addr) (n c : Nat) (l : List UInt8) (z : Int) (w : World) (base : Nat) (hb0 : base ≤ w.heap.size) (hn : l.length = n) (ho : Own w base 5 (.slice A n c) (bvs l)) (hm : n ≤ 2097152) (h0 : 0 ≤ z) (h1 : z ≤ 1099511627776) :
    Calls Tryd.prog 65 #[.slice A n c, .int .i64 z] w fun e w' => ∃ A' c', e = .returned (.slice A' (n + (enc (held z)).length) c') ∧ Own w' base 5 (.slice A' (n + (enc (held z)).length) c') (bvs (l ++ enc (held z))) ∧ Below base w w' := by
  obtain ⟨i0, hi, hz0, hz1, hz2⟩ := oct_parts
  have hel := held_len z
  have hhl := held_le z
  obtain ⟨h, hh⟩ : ∃ h, h = held z := ⟨_, rfl⟩
  rw [← hh] at hel hhl ⊢
  obtain ⟨zn, rfl⟩ := Int.eq_ofNat_of_zero_le h0
  have HH := Lib.hid (show zn = h from by have := held_self h0 h1; rw [← hh] at this; omega)
  have hmx : max (zn : Int) 0 = (zn : Int) := by omega
  have hmn : min (zn : Int) 1099511627776 = (zn : Int) := by omega
  clear hh
  obtain ⟨k, hk⟩ : ∃ k, k = (enc h).length := ⟨_, rfl⟩
  rw [← hk] at hel ⊢
  have HK := Lib.hid hk
  clear hk
  have HN := Lib.hid hn
  clear hn
  go_enter Tryd.func65, Tryd.ntmps65
  go_wp2_with fail
  go_loopw [0, 1] (fun v i wr => ∃ (m : Nat) (p : List UInt8), m ≤ 1099511627776 ∧ i = .int .i64 m ∧ p ++ enc m = l ++ enc h ∧ (∃ A1 c1, v = .slice A1 p.length c1 ∧ Own wr base 5 v (bvs p)) ∧ Below base w wr) (fun _ i _ => (intOf i).toNat)
  case atStart => exact ⟨zn, l, by omega, rfl, by rw [HH.out], ⟨A, c, by rw [HN.out], ho⟩, Below.refl _ _⟩
  case round =>
    obtain ⟨m, p, hm1, rfl, hpe, ⟨A1, c1, rfl, hown⟩, hbr⟩ := hrel
    have hpl : p.length + (enc m).length = n + k := by
      have := congrArg List.length hpe
      rw [List.length_append, List.length_append, HN.out, ← HK.out] at this
      exact this
    have HPE := Lib.hid hpe
    have hbs := hbr.size
    have hep := enc_pos m
    clear hpe
    by_cases hlt : m < 128
    · have HE := Lib.hid (enc_low hlt)
      have HL := Lib.hid (show (enc m).length = 1 from by rw [HE.out]; rfl)
      have hpl1 : p.length + 1 = n + k := by rw [HL.out] at hpl; exact hpl
      clear hpl hep
      obtain ⟨q, hq⟩ : ∃ q, q = p.length := ⟨_, rfl⟩
      rw [← hq] at hown hpl1 ⊢
      have HQ := Lib.hid hq
      have HQ1 := Lib.hid hpl1
      have hq2 : q ≤ 2097160 := by omega
      have hd : decide ((128 : Int) ≤ (m : Int)) = false := by simp; omega
      have HLT := Lib.hid hlt
      clear hq hpl1 hlt hm1
      go_wp2_with (first
        | (at_builtin
           have hlt := HLT.out
           refine wpList_app _ rfl (.tmp 19) (.tmp 22) _ rfl base 5 i0 _ 1 Tryd.underlying48 hi hz0 hz1 hz2 rfl (.slice A1 q c1) (bvs p) q rfl (by rw [bvs_length, HQ.out]) (hown.alloc _) (wr.heap.size + 1) (some ⟨wr.heap.size, 0, none⟩) 1 (bvs [UInt8.ofNat m]) 1 rfl rfl (sees_lit wr _ 5 (0, 0) _ (by rw [oct_one m (by omega)]; simp; try omega)) (bvs_one _) (by simp [maxLen]; omega) (by omega) (by simp; omega) ?_
           intro A3 c3 w3 hown3 hb3 hg3 hat3)
        | fail)
      go_ret
      rw [← bvs_append] at hown3
      have e1 : l ++ enc h = p ++ [UInt8.ofNat m] := by rw [← HPE.out, HE.out]
      rw [e1, ← HQ1.out]
      exact ⟨A3, c3, rfl, hown3, (hbr.alloc (by omega) _).trans hb3⟩
    · have HE := Lib.hid (enc_high hlt)
      have HL := Lib.hid (show (enc m).length = (enc (m / 128)).length + 1 from by rw [HE.out]; rfl)
      have hpl1 : p.length + 1 ≤ n + k := by rw [HL.out] at hpl; omega
      clear hpl hep
      obtain ⟨q, hq⟩ : ∃ q, q = p.length := ⟨_, rfl⟩
      rw [← hq] at hown hpl1 ⊢
      have HQ := Lib.hid hq
      have hq2 : q ≤ 2097160 := by omega
      clear hq hpl1
      have hand := i64_and127 (m : Int)
      have hor := i64_or128 ((m : Int) % 128) (by omega) (by omega)
      have hge : (128 : Int) ≤ (m : Int) := by omega
      go_wp2_with (first
        | (at_builtin
           refine wpList_app _ rfl (.tmp 10) (.tmp 15) _ rfl base 5 i0 _ 1 Tryd.underlying48 hi hz0 hz1 hz2 rfl (.slice A1 q c1) (bvs p) q rfl (by rw [bvs_length, HQ.out]) (hown.alloc _) (wr.heap.size + 1) (some ⟨wr.heap.size, 0, none⟩) 1 (bvs [UInt8.ofNat (m % 128 + 128)]) 1 rfl rfl (sees_lit wr _ 5 (0, 0) _ (by rw [oct_one (m % 128 + 128) (by omega)]; simp; try omega)) (bvs_one _) (by simp [maxLen]; omega) (by omega) (by simp; omega) ?_
           intro A3 c3 w3 hown3 hb3 hg3 hat3)
        | fail)
      rw [← bvs_append] at hown3
      go_roundw
      case rel =>
        refine ⟨m / 128, p ++ [UInt8.ofNat (m % 128 + 128)], by omega, by go_num, ?_, ⟨A3, c3, by rw [List.length_append, ← HQ.out]; rfl, hown3⟩, (hbr.alloc (by omega) _).trans hb3⟩
        rw [← HPE.out, HE.out, List.append_assoc]; rfl
      case measure => simp [intOf]; omega

set_option maxHeartbeats 1600000 in
theorem oct_number_low (A : Option Addr) (n c : Nat) (l : List UInt8) (z : Int) (w : World) (base : Nat) (hb0 : base ≤ w.heap.size) (hn : l.length = n) (ho : Own w base 5 (.slice A n c) (bvs l)) (hm : n ≤ 2097152) (h0 : z < 0) :
    Calls Tryd.prog 65 #[.slice A n c, .int .i64 z] w fun e w' => ∃ A' c', e = .returned (.slice A' (n + (enc (held z)).length) c') ∧ Own w' base 5 (.slice A' (n + (enc (held z)).length) c') (bvs (l ++ enc (held z))) ∧ Below base w w' := by
  obtain ⟨i0, hi, hz0, hz1, hz2⟩ := oct_parts
  have hel := held_len z
  have hhl := held_le z
  obtain ⟨h, hh⟩ : ∃ h, h = held z := ⟨_, rfl⟩
  rw [← hh] at hel hhl ⊢
  have HH := Lib.hid (show 0 = h from by rw [hh]; unfold held; omega)
  clear hh
  obtain ⟨k, hk⟩ : ∃ k, k = (enc h).length := ⟨_, rfl⟩
  rw [← hk] at hel ⊢
  have HK := Lib.hid hk
  clear hk
  have HN := Lib.hid hn
  clear hn
  go_enter Tryd.func65, Tryd.ntmps65
  go_wp2_with fail
  go_loopw [0, 1] (fun v i wr => ∃ (m : Nat) (p : List UInt8), m ≤ 1099511627776 ∧ i = .int .i64 m ∧ p ++ enc m = l ++ enc h ∧ (∃ A1 c1, v = .slice A1 p.length c1 ∧ Own wr base 5 v (bvs p)) ∧ Below base w wr) (fun _ i _ => (intOf i).toNat)
  case atStart => exact ⟨0, l, by omega, rfl, by rw [HH.out], ⟨A, c, by rw [HN.out], ho⟩, Below.refl _ _⟩
  case round =>
    obtain ⟨m, p, hm1, rfl, hpe, ⟨A1, c1, rfl, hown⟩, hbr⟩ := hrel
    have hpl : p.length + (enc m).length = n + k := by
      have := congrArg List.length hpe
      rw [List.length_append, List.length_append, HN.out, ← HK.out] at this
      exact this
    have HPE := Lib.hid hpe
    have hbs := hbr.size
    have hep := enc_pos m
    clear hpe
    by_cases hlt : m < 128
    · have HE := Lib.hid (enc_low hlt)
      have HL := Lib.hid (show (enc m).length = 1 from by rw [HE.out]; rfl)
      have hpl1 : p.length + 1 = n + k := by rw [HL.out] at hpl; exact hpl
      clear hpl hep
      obtain ⟨q, hq⟩ : ∃ q, q = p.length := ⟨_, rfl⟩
      rw [← hq] at hown hpl1 ⊢
      have HQ := Lib.hid hq
      have HQ1 := Lib.hid hpl1
      have hq2 : q ≤ 2097160 := by omega
      have hd : decide ((128 : Int) ≤ (m : Int)) = false := by simp; omega
      have HLT := Lib.hid hlt
      clear hq hpl1 hlt hm1
      go_wp2_with (first
        | (at_builtin
           have hlt := HLT.out
           refine wpList_app _ rfl (.tmp 19) (.tmp 22) _ rfl base 5 i0 _ 1 Tryd.underlying48 hi hz0 hz1 hz2 rfl (.slice A1 q c1) (bvs p) q rfl (by rw [bvs_length, HQ.out]) (hown.alloc _) (wr.heap.size + 1) (some ⟨wr.heap.size, 0, none⟩) 1 (bvs [UInt8.ofNat m]) 1 rfl rfl (sees_lit wr _ 5 (0, 0) _ (by rw [oct_one m (by omega)]; simp; try omega)) (bvs_one _) (by simp [maxLen]; omega) (by omega) (by simp; omega) ?_
           intro A3 c3 w3 hown3 hb3 hg3 hat3)
        | fail)
      go_ret
      rw [← bvs_append] at hown3
      have e1 : l ++ enc h = p ++ [UInt8.ofNat m] := by rw [← HPE.out, HE.out]
      rw [e1, ← HQ1.out]
      exact ⟨A3, c3, rfl, hown3, (hbr.alloc (by omega) _).trans hb3⟩
    · have HE := Lib.hid (enc_high hlt)
      have HL := Lib.hid (show (enc m).length = (enc (m / 128)).length + 1 from by rw [HE.out]; rfl)
      have hpl1 : p.length + 1 ≤ n + k := by rw [HL.out] at hpl; omega
      clear hpl hep
      obtain ⟨q, hq⟩ : ∃ q, q = p.length := ⟨_, rfl⟩
      rw [← hq] at hown hpl1 ⊢
      have HQ := Lib.hid hq
      have hq2 : q ≤ 2097160 := by omega
      clear hq hpl1
      have hand := i64_and127 (m : Int)
      have hor := i64_or128 ((m : Int) % 128) (by omega) (by omega)
      have hge : (128 : Int) ≤ (m : Int) := by omega
      go_wp2_with (first
        | (at_builtin
           refine wpList_app _ rfl (.tmp 10) (.tmp 15) _ rfl base 5 i0 _ 1 Tryd.underlying48 hi hz0 hz1 hz2 rfl (.slice A1 q c1) (bvs p) q rfl (by rw [bvs_length, HQ.out]) (hown.alloc _) (wr.heap.size + 1) (some ⟨wr.heap.size, 0, none⟩) 1 (bvs [UInt8.ofNat (m % 128 + 128)]) 1 rfl rfl (sees_lit wr _ 5 (0, 0) _ (by rw [oct_one (m % 128 + 128) (by omega)]; simp; try omega)) (bvs_one _) (by simp [maxLen]; omega) (by omega) (by simp; omega) ?_
           intro A3 c3 w3 hown3 hb3 hg3 hat3)
        | fail)
      rw [← bvs_append] at hown3
      go_roundw
      case rel =>
        refine ⟨m / 128, p ++ [UInt8.ofNat (m % 128 + 128)], by omega, by go_num, ?_, ⟨A3, c3, by rw [List.length_append, ← HQ.out]; rfl, hown3⟩, (hbr.alloc (by omega) _).trans hb3⟩
        rw [← HPE.out, HE.out, List.append_assoc]; rfl
      case measure => simp [intOf]; omega

set_option maxHeartbeats 1600000 in
theorem oct_number_high (A : Option Addr) (n c : Nat) (l : List UInt8) (z : Int) (w : World) (base : Nat) (hb0 : base ≤ w.heap.size) (hn : l.length = n) (ho : Own w base 5 (.slice A n c) (bvs l)) (hm : n ≤ 2097152) (h0 : 1099511627776 < z) :
    Calls Tryd.prog 65 #[.slice A n c, .int .i64 z] w fun e w' => ∃ A' c', e = .returned (.slice A' (n + (enc (held z)).length) c') ∧ Own w' base 5 (.slice A' (n + (enc (held z)).length) c') (bvs (l ++ enc (held z))) ∧ Below base w w' := by
  obtain ⟨i0, hi, hz0, hz1, hz2⟩ := oct_parts
  have hel := held_len z
  have hhl := held_le z
  obtain ⟨h, hh⟩ : ∃ h, h = held z := ⟨_, rfl⟩
  rw [← hh] at hel hhl ⊢
  have HH := Lib.hid (show 1099511627776 = h from by rw [hh]; unfold held; omega)
  clear hh
  obtain ⟨k, hk⟩ : ∃ k, k = (enc h).length := ⟨_, rfl⟩
  rw [← hk] at hel ⊢
  have HK := Lib.hid hk
  clear hk
  have HN := Lib.hid hn
  clear hn
  go_enter Tryd.func65, Tryd.ntmps65
  go_wp2_with fail
  go_loopw [0, 1] (fun v i wr => ∃ (m : Nat) (p : List UInt8), m ≤ 1099511627776 ∧ i = .int .i64 m ∧ p ++ enc m = l ++ enc h ∧ (∃ A1 c1, v = .slice A1 p.length c1 ∧ Own wr base 5 v (bvs p)) ∧ Below base w wr) (fun _ i _ => (intOf i).toNat)
  case atStart => exact ⟨1099511627776, l, by omega, rfl, by rw [HH.out], ⟨A, c, by rw [HN.out], ho⟩, Below.refl _ _⟩
  case round =>
    obtain ⟨m, p, hm1, rfl, hpe, ⟨A1, c1, rfl, hown⟩, hbr⟩ := hrel
    have hpl : p.length + (enc m).length = n + k := by
      have := congrArg List.length hpe
      rw [List.length_append, List.length_append, HN.out, ← HK.out] at this
      exact this
    have HPE := Lib.hid hpe
    have hbs := hbr.size
    have hep := enc_pos m
    clear hpe
    by_cases hlt : m < 128
    · have HE := Lib.hid (enc_low hlt)
      have HL := Lib.hid (show (enc m).length = 1 from by rw [HE.out]; rfl)
      have hpl1 : p.length + 1 = n + k := by rw [HL.out] at hpl; exact hpl
      clear hpl hep
      obtain ⟨q, hq⟩ : ∃ q, q = p.length := ⟨_, rfl⟩
      rw [← hq] at hown hpl1 ⊢
      have HQ := Lib.hid hq
      have HQ1 := Lib.hid hpl1
      have hq2 : q ≤ 2097160 := by omega
      have hd : decide ((128 : Int) ≤ (m : Int)) = false := by simp; omega
      have HLT := Lib.hid hlt
      clear hq hpl1 hlt hm1
      go_wp2_with (first
        | (at_builtin
           have hlt := HLT.out
           refine wpList_app _ rfl (.tmp 19) (.tmp 22) _ rfl base 5 i0 _ 1 Tryd.underlying48 hi hz0 hz1 hz2 rfl (.slice A1 q c1) (bvs p) q rfl (by rw [bvs_length, HQ.out]) (hown.alloc _) (wr.heap.size + 1) (some ⟨wr.heap.size, 0, none⟩) 1 (bvs [UInt8.ofNat m]) 1 rfl rfl (sees_lit wr _ 5 (0, 0) _ (by rw [oct_one m (by omega)]; simp; try omega)) (bvs_one _) (by simp [maxLen]; omega) (by omega) (by simp; omega) ?_
           intro A3 c3 w3 hown3 hb3 hg3 hat3)
        | fail)
      go_ret
      rw [← bvs_append] at hown3
      have e1 : l ++ enc h = p ++ [UInt8.ofNat m] := by rw [← HPE.out, HE.out]
      rw [e1, ← HQ1.out]
      exact ⟨A3, c3, rfl, hown3, (hbr.alloc (by omega) _).trans hb3⟩
    · have HE := Lib.hid (enc_high hlt)
      have HL := Lib.hid (show (enc m).length = (enc (m / 128)).length + 1 from by rw [HE.out]; rfl)
      have hpl1 : p.length + 1 ≤ n + k := by rw [HL.out] at hpl; omega
      clear hpl hep
      obtain ⟨q, hq⟩ : ∃ q, q = p.length := ⟨_, rfl⟩
      rw [← hq] at hown hpl1 ⊢
      have HQ := Lib.hid hq
      have hq2 : q ≤ 2097160 := by omega
      clear hq hpl1
      have hand := i64_and127 (m : Int)
      have hor := i64_or128 ((m : Int) % 128) (by omega) (by omega)
      have hge : (128 : Int) ≤ (m : Int) := by omega
      go_wp2_with (first
        | (at_builtin
           refine wpList_app _ rfl (.tmp 10) (.tmp 15) _ rfl base 5 i0 _ 1 Tryd.underlying48 hi hz0 hz1 hz2 rfl (.slice A1 q c1) (bvs p) q rfl (by rw [bvs_length, HQ.out]) (hown.alloc _) (wr.heap.size + 1) (some ⟨wr.heap.size, 0, none⟩) 1 (bvs [UInt8.ofNat (m % 128 + 128)]) 1 rfl rfl (sees_lit wr _ 5 (0, 0) _ (by rw [oct_one (m % 128 + 128) (by omega)]; simp; try omega)) (bvs_one _) (by simp [maxLen]; omega) (by omega) (by simp; omega) ?_
           intro A3 c3 w3 hown3 hb3 hg3 hat3)
        | fail)
      rw [← bvs_append] at hown3
      go_roundw
      case rel =>
        refine ⟨m / 128, p ++ [UInt8.ofNat (m % 128 + 128)], by omega, by go_num, ?_, ⟨A3, c3, by rw [List.length_append, ← HQ.out]; rfl, hown3⟩, (hbr.alloc (by omega) _).trans hb3⟩
        rw [← HPE.out, HE.out, List.append_assoc]; rfl
      case measure => simp [intOf]; omega

theorem oct_number (A : Option Addr) (n c : Nat) (l : List UInt8) (z : Int) (w : World) (base : Nat) (hb0 : base ≤ w.heap.size) (hn : l.length = n) (ho : Own w base 5 (.slice A n c) (bvs l)) (hm : n ≤ 2097152) :
    Calls Tryd.prog 65 #[.slice A n c, .int .i64 z] w fun e w' => ∃ A' c', e = .returned (.slice A' (n + (enc (held z)).length) c') ∧ Own w' base 5 (.slice A' (n + (enc (held z)).length) c') (bvs (l ++ enc (held z))) ∧ Below base w w' := by
  by_cases h0 : z < 0
  · exact oct_number_low A n c l z w base hb0 hn ho hm h0
  · by_cases h1 : 1099511627776 < z
    · exact oct_number_high A n c l z w base hb0 hn ho hm h1
    · exact oct_number_mid A n c l z w base hb0 hn ho hm (by omega) (by omega)

/-- Bytes laid anew: the call's own row. -/
def GivesBytes (w : World) (xs : List UInt8) : Ending → World → Prop := fun e w' => ∃ A' c', e = .returned (.slice A' xs.length c') ∧ Own w' w.heap.size 5 (.slice A' xs.length c') (bvs xs) ∧ Below w.heap.size w w'

theorem oct_num (A : Option Addr) (n c : Nat) (l : List UInt8) (z : Int) (w : World) (hn : l.length = n) (hs : Sees w w.heap.size A (bvs l)) (hm : n ≤ 1048576) :
    Calls Tryd.prog 45 #[.slice A n c, .int .i64 z] w (GivesBytes w (l ++ enc (held z))) := by
  have HF := Lib.hid (oct_fresh A n c l 6 w hn hs hm (by omega))
  have HL := Lib.hid (show (l ++ enc (held z)).length = n + (enc (held z)).length from by rw [List.length_append, hn])
  have HN := Lib.hid hn
  clear hn hs
  go_enter Tryd.func45, Tryd.ntmps45
  go_wp2_with fail
  refine HF.out.mono ?_
  rintro e w1 ⟨A1, c1, rfl, o1, b1⟩
  go_wp2_with fail
  refine (oct_number A1 n c1 l z w1 w.heap.size b1.size HN.out o1 (by omega)).mono ?_
  rintro e w2 ⟨A2, c2, rfl, o2, b2⟩
  go_wp2
  go_ret
  exact ⟨A2, c2, by rw [HL.out]; rfl, by rw [HL.out]; exact o2, b1.trans b2⟩

/-- A truth's number. -/
def truth (b : Bool) : Nat := if b then 1 else 0
end Go.Proofs.YticdpfjajkfheaaDoor
