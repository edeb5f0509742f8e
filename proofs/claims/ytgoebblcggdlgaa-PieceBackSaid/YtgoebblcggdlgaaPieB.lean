/- Pieces: sector: what it returns. -/
import Derived.Test.YtgoebblcggdlgaaPieA
import Derived.Test.YtgoebblcggdlgaaShelf
import Derived.Test.YtgoebblcggdlgaaLoadG
import Derived.Lib.ConvBytes
namespace Go.Proofs.Ytgoebblcggdlgaa
set_option linter.unusedVariables false
set_option linter.unusedSimpArgs false
open Go Go.RowKit OctM SumM

theorem below_bytes (w : World) (e : TypeId) (s : ByteArray) : Below w.heap.size w (Lib.bytesWorld w e s) := by
  refine ⟨?_, ?_, ?_, by rw [Lib.bytesWorld_size]; omega, fun k hk => Lib.bytesWorld_at_old w e s k hk⟩ <;> (unfold Lib.bytesWorld World.freeze; split <;> rfl)
/-- []byte(s): the slice, and what it sees. -/
theorem bytes_conv (w : World) (l : List UInt8) : ∃ c w1, (convert 9 58 (.string (str l))).run Try.prog w = .ok (.slice (some ⟨w.heap.size, 0, none⟩) l.length c) w1 ∧ Below w.heap.size w w1 ∧ Sees w1 w1.heap.size (some ⟨w.heap.size, 0, none⟩) (bvs l) := by
  have h0 := Lib.run_convert_string_bytes (P := Try.prog) w 9 58 5 (str l) Try.underlying9 Try.underlying58 Try.underlying5
  rw [str_size] at h0
  refine ⟨_, _, h0, below_bytes w _ (str l), ?_⟩
  intro _
  refine ⟨_, _, rfl, by rw [Lib.bytesWorld_size]; omega, fun j hj => ?_⟩
  rw [bvs_length] at hj
  have h := Lib.bytesWorld_cell w 5 (str l) j (by rw [str_size]; exact hj)
  rw [Nat.zero_add, h]
  have e : (str l).data.toList.getD j 0 = l[j] := by
    show l.getD j 0 = l[j]
    rw [List.getD_eq_getElem?_getD, List.getElem?_eq_getElem hj]; rfl
  rw [e]
  simp [bvs, bv]
theorem rep_zero (c : Nat) : Lib.repeatL [0] c = List.replicate c 0 := by
  induction c with
  | zero => rfl
  | succ c ih => rw [Lib.repeatL, ih]; rfl
theorem join_four (a b c d : List UInt8) : Lib.join [a, b, c, d] [] = a ++ b ++ c ++ d := by
  rw [Lib.join_cons]
  simp [Lib.joinTail]
/-- strings.Join of four texts, one behind the other. -/
theorem join4 (g : Nat) (a b c d : List UInt8) (w : World) (h : Blk w g [.string (str a), .string (str b), .string (str c), .string (str d)]) (hl : (a ++ b ++ c ++ d).length ≤ 4096) :
    Calls Try.prog 34 #[.slice (some ⟨g, 0, none⟩) 4 4, .string { data := #[] }] w fun e w' => e = .returned (.string (str (a ++ b ++ c ++ d))) ∧ Below w.heap.size w w' := by
  have e0 : ([str a, str b, str c, str d].map (·.data.toList)) = [a, b, c, d] := rfl
  have h2 := Try.strings_Join g 0 4 [str a, str b, str c, str d] { data := #[] } w (fun j x hj => by
    rw [Nat.zero_add]
    match j with
    | 0 => simp at hj; subst hj; exact h.cell rfl
    | 1 => simp at hj; subst hj; exact h.cell rfl
    | 2 => simp at hj; subst hj; exact h.cell rfl
    | 3 => simp at hj; subst hj; exact h.cell rfl
    | n + 4 => simp at hj) h.lt (by simp) (by simp) (by rw [e0, show (ByteArray.mk #[]).data.toList = ([] : List UInt8) from rfl, join_four]; omega)
  rw [e0, show (ByteArray.mk #[]).data.toList = ([] : List UInt8) from rfl, join_four] at h2
  exact h2
theorem rep_any (c : Nat) (w : World) (hc : c ≤ 4096) : Calls Try.prog 35 #[.string { data := #[0] }, .int .i64 (c : Int)] w fun e w' => e = .returned (.string (str (List.replicate c 0))) ∧ Below w.heap.size w w' := by
  have h := Try.strings_Repeat { data := #[0] } c w (by omega) (by rw [show (ByteArray.mk #[0]).size = 1 from rfl]; omega)
  rw [show (ByteArray.mk #[0]).data.toList = ([0] : List UInt8) from rfl, rep_zero] at h
  exact h
set_option maxHeartbeats 1600000 in
theorem sector_any (g : Nat) (a b c d : List UInt8) (w : World) (h : Blk w g [.string (str a), .string (str b), .string (str c), .string (str d)]) (hl : (a ++ b ++ c ++ d).length ≤ 62) :
    Calls Try.prog 27 #[.slice (some ⟨g, 0, none⟩) 4 4] w fun e w' => e = .returned (.string (str (sec (a ++ b ++ c ++ d) ++ lo 2 (sumOf (sec (a ++ b ++ c ++ d))).toNat))) ∧ Below w.heap.size w w' := by
  have HJ4 := Lib.hid (join4 g a b c d w h (by omega))
  obtain ⟨J, hJ⟩ : ∃ J, J = a ++ b ++ c ++ d := ⟨_, rfl⟩
  rw [← hJ] at HJ4 hl ⊢
  clear hJ h
  obtain ⟨n, hn⟩ : ∃ n, n = J.length := ⟨_, rfl⟩
  rw [← hn] at hl
  have HSL := Lib.hid (sec_len (l := J) (by omega))
  have HSE : Hid (str J ++ str (List.replicate (62 - n) 0) = str (sec J)) := Lib.hid (by rw [str_append, hn]; rfl)
  have hjz : (str J).size = n := by rw [str_size, hn]
  obtain ⟨T, hT⟩ : ∃ T, T = sec J := ⟨_, rfl⟩
  rw [← hT] at HSL HSE ⊢
  obtain ⟨sj, hsj⟩ : ∃ sj, sj = str J := ⟨_, rfl⟩
  rw [← hsj] at HJ4 HSE hjz
  obtain ⟨sr, hsr⟩ : ∃ sr, sr = str (List.replicate (62 - n) 0) := ⟨_, rfl⟩
  have hrz : sr.size = 62 - n := by rw [hsr, str_size, List.length_replicate]
  rw [← hsr] at HSE
  obtain ⟨S, hS⟩ : ∃ S, S = (sumOf T).toNat := ⟨_, rfl⟩
  have hS2 : S < 4294967296 := by rw [hS]; exact (sumOf T).isLt
  have HS := Lib.hid hS
  rw [← hS]
  obtain ⟨sl, hsl⟩ : ∃ sl, sl = str (lo 2 S) := ⟨_, rfl⟩
  have hlz : sl.size = 2 := by rw [hsl, str_size, lo_len]
  have HLW : Hid (∀ wx, Calls Try.prog 28 #[.int .i64 (S : Int), .int .i64 2] wx fun e w' => e = .returned (.string sl) ∧ Below wx.heap.size wx w') := Lib.hid (fun wx => by rw [hsl]; exact low_any S 2 (by omega) (by omega) wx)
  have HFI : Hid (sj ++ sr ++ sl = str (T ++ lo 2 S)) := Lib.hid (by rw [HSE.out, hsl, str_append])
  have HRP : Hid (∀ wx, Calls Try.prog 35 #[.string { data := #[0] }, .int .i64 ((62 - n : Nat) : Int)] wx fun e w' => e = .returned (.string sr) ∧ Below wx.heap.size wx w') := Lib.hid (fun wx => by rw [hsr]; exact rep_any (62 - n) wx (by omega))
  clear hn hT hsj hsr hS hsl
  go_enter Try.func27, Try.ntmps27
  go_wp2_with fail
  refine HJ4.out.mono ?_
  rintro e w1 ⟨rfl, hb1⟩
  go_wp2_with fail
  rw [show (62 : Int) - (n : Int) = ((62 - n : Nat) : Int) from by omega]
  refine (HRP.out w1).mono ?_
  rintro e w2 ⟨rfl, hb2⟩
  obtain ⟨c3, w3, hcv, hb3, hs3⟩ := bytes_conv w2 T
  rw [HSL.out, ← HSE.out] at hcv
  have HS3 := Lib.hid hs3
  clear hs3
  go_wp2_with fail
  refine (of_any _ 62 c3 T w3 _ HSL.out HS3.out (by simp [maxLen])).mono ?_
  rintro e w4 ⟨rfl, rfl⟩
  rw [← HS.out]
  go_wp2_with fail
  refine (HLW.out w3).mono ?_
  rintro e w5 ⟨rfl, hb5⟩
  go_wp2_with fail
  go_ret
  refine ⟨by rw [← HFI.out]; rfl, ?_⟩
  exact ((hb1.trans (hb2.mono hb1.size)).trans (hb3.mono (Nat.le_trans hb1.size hb2.size))).trans (hb5.mono (Nat.le_trans hb1.size (Nat.le_trans hb2.size hb3.size)))
end Go.Proofs.Ytgoebblcggdlgaa
