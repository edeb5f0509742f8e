/- The document's Split: what it returns. -/
import Derived.Test.YtgdidamjgaegkaaDoorTxtB
import Derived.Test.YtgdidamjgaegkaaDoorQuoC
namespace Go.Proofs.YtgdidamjgaegkaaDoor
set_option linter.unusedVariables false
open Go Go.RowKit BitM MskM

/-- How far a text is split: the parts that stand, where the next begins, how far it has been looked at. -/
def SpAt (c : UInt8) (L : List UInt8) (D : List (List UInt8)) (f i : Nat) : Prop := parts c L = D ++ parts c (L.drop f) ∧ c ∉ (L.drop f).take (i - f)
theorem SpAt.start (c : UInt8) (L : List UInt8) : SpAt c L [] 0 0 := ⟨by simp, by simp⟩
theorem SpAt.hit {c : UInt8} {L : List UInt8} {D : List (List UInt8)} {f i : Nat} (h : SpAt c L D f i) (hf : f ≤ i) (hi : i < L.length) (he : L[i] = c) : SpAt c L (D ++ [(L.drop f).take (i - f)]) (i + 1) (i + 1) := by
  obtain ⟨h1, h2⟩ := h
  refine ⟨?_, by simp⟩
  have e : L.drop f = (L.drop f).take (i - f) ++ c :: L.drop (i + 1) := by
    conv => lhs; rw [← List.take_append_drop (i - f) (L.drop f)]
    rw [List.drop_drop, show f + (i - f) = i by omega, List.drop_eq_getElem_cons hi, he]
  rw [h1, List.append_assoc]
  congr 1
  conv => lhs; rw [e]
  rw [parts_first c _ _ h2]
  rfl
theorem SpAt.miss {c : UInt8} {L : List UInt8} {D : List (List UInt8)} {f i : Nat} (h : SpAt c L D f i) (hf : f ≤ i) (hi : i < L.length) (he : L[i] ≠ c) : SpAt c L D f (i + 1) := by
  obtain ⟨h1, h2⟩ := h
  refine ⟨h1, ?_⟩
  have hlt : i - f < (L.drop f).length := by rw [List.length_drop]; omega
  rw [show i + 1 - f = (i - f) + 1 by omega, List.take_succ_eq_append_getElem hlt]
  have e : (L.drop f)[i - f] = L[i] := by
    rw [List.getElem_drop]
    congr 1
    omega
  rw [e, List.mem_append, not_or]
  exact ⟨h2, by simp; exact fun h => he h.symm⟩
theorem SpAt.end_ {c : UInt8} {L : List UInt8} {D : List (List UInt8)} {f : Nat} (h : SpAt c L D f L.length) (hf : f ≤ L.length) : parts c L = D ++ [L.drop f] := by
  obtain ⟨h1, h2⟩ := h
  rw [List.take_of_length_le (by rw [List.length_drop]; omega)] at h2
  rw [h1, parts_none c _ h2]
theorem piece (s : ByteArray) (f i : Nat) : s.extract f i = str ((s.data.toList.drop f).take (i - f)) := by
  apply ByteArray.ext
  apply Array.ext'
  show (s.extract f i).data.toList = _
  rw [ByteArray.data_extract, Array.toList_extract, List.extract_eq_take_drop]
  rfl

set_option maxRecDepth 100000 in
set_option maxHeartbeats 3200000 in
theorem rsplit_any (t : ByteArray) (c : UInt8) (w : World) (hx : t.size ≤ 1000) : Calls Tryd.prog 74 #[.string t, .int .u8 (c.toNat : Int)] w fun e w' =>
    (∃ A cap, e = .returned (.slice A (parts c t.data.toList).length cap) ∧ Own w' w.heap.size 9 (.slice A (parts c t.data.toList).length cap) (svs (parts c t.data.toList))) ∧ Below w.heap.size w w' := by
  obtain ⟨i0, hi, hz0, hz1, hz2⟩ := info_parts info_str
  have HN : Hid (t.data.toList.length = t.size) := Lib.hid (by simp)
  obtain ⟨m, hm⟩ : ∃ m, m = c.toNat := ⟨_, rfl⟩
  rw [← hm]
  have HM := Lib.hid hm
  clear hm
  obtain ⟨PS, hPS⟩ : ∃ PS, PS = parts c t.data.toList := ⟨_, rfl⟩
  rw [← hPS]
  have HPS := Lib.hid hPS
  clear hPS
  go_enter Tryd.func74, Tryd.ntmps74
  go_wp2_with fail
  go_loopw [5, 6, 7] (fun v ff ii wr => ∃ (i f n : Nat) (D : List (List UInt8)), i ≤ t.size ∧ f ≤ i ∧ n ≤ i ∧ ii = .int .i64 i ∧ ff = .int .i64 f ∧ Hid (D.length = n) ∧ Hid (SpAt c t.data.toList D f i) ∧ (∃ A1 c1, v = .slice A1 n c1 ∧ Own wr w.heap.size 9 v (svs D)) ∧ Below w.heap.size w wr) (fun _ _ ii _ => t.size - (intOf ii).toNat)
  case atStart => exact ⟨0, 0, 0, [], Nat.zero_le _, Nat.le_refl _, Nat.le_refl _, rfl, rfl, Lib.hid rfl, Lib.hid (SpAt.start c _), ⟨some ⟨w.heap.size, 0, none⟩, 0, rfl, own_lit w w.heap.size 9 #[] (Nat.le_refl _) (by simp [maxLen])⟩, (Below.refl _ _).alloc (Nat.le_refl _) _⟩
  case round =>
    obtain ⟨i, f, n, D, hi1, hf1, hn1, rfl, rfl, HD, HS, ⟨A1, c1, rfl, hown⟩, hbr⟩ := hrel
    by_cases hlt : i < t.size
    · have hlt2 : i < t.data.toList.length := by rw [HN.out]; exact hlt
      have hge : t.data.toList[i] = t[i] := rfl
      by_cases hc : t[i] = c
      · have b1 : ((t[i].toNat : Int) == (m : Int)) = true := by rw [HM.out, hc]; simp
        have HS2 := Lib.hid (HS.out.hit hf1 hlt2 (hge.trans hc))
        have hpc := piece t f i
        obtain ⟨q, hq⟩ : ∃ q, q = (t.data.toList.drop f).take (i - f) := ⟨_, rfl⟩
        rw [← hq] at hpc HS2
        have hb1 : (f : Int) ≤ (i : Int) := by omega
        have hb2 : (i : Int) ≤ (t.size : Int) := by omega
        have HPC := Lib.hid hpc
        clear hq hge hc hpc
        go_wp2_with (first
          | (at_builtin
             refine wpList_app _ rfl (.tmp 20) (.tmp 25) _ rfl w.heap.size 9 i0 _ 16 Tryd.underlying66 hi hz0 hz1 hz2 rfl (.slice A1 n c1) (svs D) n rfl (by rw [svs_length, HD.out]) (hown.alloc _) (wr.heap.size + 1) (some ⟨wr.heap.size, 0, none⟩) 1 (svs [q]) 1 rfl rfl (sees_lit wr _ 9 (0, 0) _ (by rw [HPC.out]; rfl)) (svs_one _) (by simp [maxLen]; omega) (by omega) (by have := hbr.size; simp; omega) ?_
             intro A9 c9 w9 hown9 hb9 hg9 hat9
             rw [← svs_append] at hown9
             have hbr9 : Below w.heap.size w w9 := (hbr.alloc hbr.size _).trans hb9
             clear hg9 hat9 hb9 hown hbr)
          | fail)
        go_roundw
        case rel => exact ⟨i + 1, i + 1, n + 1, D ++ [q], by omega, by omega, by omega, by go_num, by go_num, Lib.hid (by rw [List.length_append, HD.out]; first | done | rfl), HS2, ⟨A9, c9, rfl, hown9⟩, hbr9⟩
        case measure => simp [intOf]; omega
      · have b1 : ((t[i].toNat : Int) == (m : Int)) = false := by
          rw [beq_eq_false_iff_ne, HM.out]; intro e; exact hc (UInt8.toNat_inj.1 (Int.ofNat_inj.1 e))
        have HS2 := Lib.hid (HS.out.miss hf1 hlt2 (fun e => hc (hge.symm.trans e)))
        clear hge hc
        go_wp2_with fail
        go_roundw
        case rel => exact ⟨i + 1, f, n, D, by omega, by omega, by omega, by go_num, rfl, HD, HS2, ⟨A1, c1, rfl, hown⟩, hbr⟩
        case measure => simp [intOf]; omega
    · obtain rfl : i = t.size := by omega
      have HS2 : Hid (PS = D ++ [t.data.toList.drop f]) := Lib.hid (by
        have := HS.out
        rw [← HN.out] at this
        rw [HPS.out]; exact this.end_ (by rw [HN.out]; exact hf1))
      have hpc : t.extract f t.size = str (t.data.toList.drop f) := by
        rw [piece, List.take_of_length_le (by rw [List.length_drop, HN.out]; omega)]
      obtain ⟨q, hq⟩ : ∃ q, q = t.data.toList.drop f := ⟨_, rfl⟩
      rw [← hq] at hpc HS2
      have hb1 : (f : Int) ≤ (t.size : Int) := by omega
      have HPC := Lib.hid hpc
      have HLN : Hid (PS.length = n + 1) := Lib.hid (by rw [HS2.out, List.length_append, HD.out]; rfl)
      clear hq hpc
      go_wp2_with (first
        | (at_builtin
           refine wpList_app _ rfl (.tmp 29) (.tmp 33) _ rfl w.heap.size 9 i0 _ 16 Tryd.underlying66 hi hz0 hz1 hz2 rfl (.slice A1 n c1) (svs D) n rfl (by rw [svs_length, HD.out]) (hown.alloc _) (wr.heap.size + 1) (some ⟨wr.heap.size, 0, none⟩) 1 (svs [q]) 1 rfl rfl (sees_lit wr _ 9 (0, 0) _ (by rw [HPC.out]; rfl)) (svs_one _) (by simp [maxLen]; omega) (by omega) (by have := hbr.size; simp; omega) ?_
           intro A9 c9 w9 hown9 hb9 hg9 hat9
           rw [← svs_append, ← HS2.out] at hown9
           have hbr9 : Below w.heap.size w w9 := (hbr.alloc hbr.size _).trans hb9
           clear hg9 hat9 hb9 hown hbr)
        | fail)
      go_ret
      rw [HLN.out]
      exact ⟨⟨A9, c9, rfl, hown9⟩, hbr9⟩
end Go.Proofs.YtgdidamjgaegkaaDoor
