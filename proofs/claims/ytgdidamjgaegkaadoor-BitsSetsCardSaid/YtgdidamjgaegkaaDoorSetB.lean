/- The document's Read of sets: what it returns. -/
import Derived.Test.YtgdidamjgaegkaaDoorSetA
import Derived.Test.YtgdidamjgaegkaaDoorQuoI
namespace Go.Proofs.YtgdidamjgaegkaaDoor
set_option linter.unusedVariables false
open Go Go.RowKit BitM MskM

/-- The set that parts are read as, those that are no numbers left out. -/
def rdl (ps : List (List UInt8)) : BitVec 32 := ps.foldl (fun z p => if (pint p 31).2 = true then put z (pint p 31).1 else z) 0#32
theorem rdl_snoc (ps : List (List UInt8)) (p : List UInt8) : rdl (ps ++ [p]) = if (pint p 31).2 = true then put (rdl ps) (pint p 31).1 else rdl ps := by unfold rdl; rw [List.foldl_append]; rfl
theorem pint_range (p : List UInt8) (h : (pint p 31).2 = true) : ∃ k : Nat, k < 32 ∧ (pint p 31).1 = (k : Int) := by
  unfold pint at h ⊢
  split at h
  · cases h
  · rename_i hc
    rw [if_neg hc]
    simp only [not_or] at hc
    exact ⟨num p, by have := hc.2.2.2.2; omega, rfl⟩
/-- What a text is read as. -/
def brd (t : List UInt8) : BitVec 32 × Bool := if bsh (rdl ((parts 44 t).take 33)) = t then (rdl ((parts 44 t).take 33), true) else (0#32, false)

set_option maxRecDepth 100000 in
set_option maxHeartbeats 3200000 in
theorem rsread_any (t : ByteArray) (w : World) (hx : t.size ≤ 1000) : Calls Tryd.prog 29 #[.string t] w fun e w' =>
    e = .returned (.tuple #[.int .u32 ((brd t.data.toList).1.toNat : Int), .bool (brd t.data.toList).2]) ∧ Below w.heap.size w w' := by
  have HSP := Lib.hid (rsplit_any t 44 w hx)
  have HSH := Lib.hid (fun (x : BitVec 32) (wx : World) => bshow_any x wx)
  have HIN := Lib.hid (fun (p : List UInt8) (wx : World) => int_any (str p) 31 wx)
  have HRI := Lib.hid (fun (p : List UInt8) (wx : World) => rint_any (str p) 31 wx)
  obtain ⟨PS, hPS⟩ : ∃ PS, PS = parts 44 t.data.toList := ⟨_, rfl⟩
  have HB : Hid (brd t.data.toList = if bsh (rdl (PS.take 33)) = t.data.toList then (rdl (PS.take 33), true) else (0#32, false)) := Lib.hid (by rw [hPS]; rfl)
  obtain ⟨R, hR⟩ : ∃ R, R = brd t.data.toList := ⟨_, rfl⟩
  rw [← hR] at HB ⊢
  rw [← hPS] at HSP
  clear hPS hR
  obtain ⟨n, hn⟩ : ∃ n, n = PS.length := ⟨_, rfl⟩
  rw [← hn] at HSP
  have HN := Lib.hid hn
  clear hn
  go_enter Tryd.func29, Tryd.ntmps29
  go_wp2_with fail
  refine HSP.out.mono ?_
  rintro e w1 ⟨⟨A, cap, rfl, hown⟩, hb1⟩
  go_wp2_with fail
  go_loop [4, 6] (fun s i => ∃ (k : Nat), k ≤ n ∧ k ≤ 33 ∧ i = .int .i64 k ∧ ∃ z : BitVec 32, s = .int .u32 (z.toNat : Int) ∧ Hid (z = rdl (PS.take k))) (fun _ i => 33 - (intOf i).toNat)
  case atStart => exact ⟨0, Nat.zero_le _, Nat.zero_le _, rfl, 0#32, rfl, Lib.hid rfl⟩
  case round =>
    obtain ⟨k, hk1, hk2, rfl, z, rfl, HZ⟩ := hrel
    by_cases hlt : k < n ∧ k < 33
    · obtain ⟨h1, h2⟩ := hlt
      have hkl : k < PS.length := by rw [← HN.out]; exact h1
      have hsv : k < (svs PS).length := by rw [svs_length]; exact hkl
      obtain ⟨g, rfl, hg2, hg3⟩ := hown.block (by omega)
      have hc := hown.cell k hsv
      have hs : (svs PS)[k] = .string (str PS[k]) := by simp [svs]
      rw [hs] at hc
      have hk3 : decide ((k : Int) < (n : Int)) = true := by simp; omega
      have HT : Hid (PS.take (k + 1) = PS.take k ++ [PS[k]]) := Lib.hid (List.take_succ_eq_append_getElem hkl)
      obtain ⟨p, hp⟩ : ∃ p, p = PS[k] := ⟨_, rfl⟩
      rw [← hp] at hc HT
      have HZ2 : Hid (rdl (PS.take (k + 1)) = if (pint p 31).2 = true then put z (pint p 31).1 else z) := Lib.hid (by rw [HT.out, rdl_snoc, ← HZ.out])
      have HI := Lib.hid (fun wx : World => (show Calls Tryd.prog 27 #[.string (str p), .int .i64 31] wx fun e w' => e = .returned (.tuple #[.int .i64 (pint p 31).1, .bool (pint p 31).2]) ∧ wx = w' from rint_any (str p) 31 wx))
      have HPR := Lib.hid (pint_range p)
      obtain ⟨q, hq⟩ : ∃ q, q = pint p 31 := ⟨_, rfl⟩
      rw [← hq] at HI HZ2 HPR
      obtain ⟨sp, hsp⟩ : ∃ sp, sp = str p := ⟨_, rfl⟩
      rw [← hsp] at HI hc
      clear hq hsp hp hs hsv hkl
      obtain ⟨v, ok⟩ := q
      cases ok
      · have HZ3 : Hid (z = rdl (PS.take (k + 1))) := Lib.hid (by rw [HZ2.out]; rfl)
        simp only at HI
        clear HZ2 HPR
        go_wp2_with fail
        refine (HI.out _).mono ?_
        rintro e w2 ⟨rfl, rfl⟩
        go_wp2_with fail
        go_round
        case rel => exact ⟨k + 1, by omega, by omega, by go_num, z, rfl, HZ3⟩
        case measure => simp [intOf]; omega
      · obtain ⟨j, hj, hv⟩ := HPR.out rfl
        simp only at hv HI
        subst hv
        have HZ3 : Hid (put z (j : Int) = rdl (PS.take (k + 1))) := Lib.hid (by rw [HZ2.out]; rfl)
        have HW := Lib.hid (fun wx : World => rwith_any z j hj wx)
        obtain ⟨z2, hz2⟩ : ∃ z2, z2 = put z (j : Int) := ⟨_, rfl⟩
        rw [← hz2] at HZ3 HW
        clear HZ2 HPR hz2
        go_wp2_with fail
        refine (HI.out _).mono ?_
        rintro e w2 ⟨rfl, rfl⟩
        go_wp2_with fail
        refine (HW.out _).mono ?_
        rintro e w2 ⟨rfl, rfl⟩
        go_wp2_with fail
        go_round
        case rel => exact ⟨k + 1, by omega, by omega, by go_num, z2, rfl, HZ3⟩
        case measure => simp [intOf]; omega
    · have HZ3 : Hid (rdl (PS.take 33) = z) := Lib.hid (by
        rw [HZ.out]
        by_cases h33 : k = 33
        · rw [h33]
        · have : n = k := by omega
          rw [List.take_of_length_le (by rw [← HN.out]; omega), List.take_of_length_le (by rw [← HN.out]; omega)])
      have key : (¬ (k : Int) < (n : Int)) ∨ ((k : Int) < (n : Int) ∧ ¬ (k : Int) < 33) := by omega
      have HS := Lib.hid (HSH.out z)
      have HV : Hid (R = if bsh z = t.data.toList then (z, true) else (0#32, false)) := Lib.hid (by rw [HB.out, HZ3.out])
      obtain ⟨sz, hsz⟩ : ∃ sz, sz = str (bsh z) := ⟨_, rfl⟩
      rw [← hsz] at HS
      by_cases he : bsh z = t.data.toList
      · have hst : sz = t := by
          rw [hsz, he]
          apply ByteArray.ext
          apply Array.ext'
          rfl
        subst hst
        have HX : Hid (R = (z, true)) := Lib.hid (by rw [HV.out, if_pos he])
        clear he hlt
        rcases key with k1 | ⟨k1, k2⟩
        all_goals
          go_wp2_with fail
          refine (HS.out _).mono ?_
          rintro e w2 ⟨rfl, hb2⟩
          have hb3 := hb1.trans (hb2.mono hb1.size)
          go_wp2_with fail
          go_ret2
          exact ⟨by rw [HX.out]; rfl, hb3⟩
      · have hne : (sz.toList == t.toList) = false := by
          rw [beq_eq_false_iff_ne, hsz, ByteArray.toList_eq, ByteArray.toList_eq]
          exact he
        have hne2 : (sz.toList != t.toList) = true := by rw [bne, hne]; rfl
        have HX : Hid (R = (0#32, false)) := Lib.hid (by rw [HV.out, if_neg he])
        clear he hlt hsz
        rcases key with k1 | ⟨k1, k2⟩
        all_goals
          go_wp2_with fail
          refine (HS.out _).mono ?_
          rintro e w2 ⟨rfl, hb2⟩
          have hb3 := hb1.trans (hb2.mono hb1.size)
          go_wp2_with fail
          go_ret2
          exact ⟨by rw [HX.out]; rfl, hb3⟩
end Go.Proofs.YtgdidamjgaegkaaDoor
