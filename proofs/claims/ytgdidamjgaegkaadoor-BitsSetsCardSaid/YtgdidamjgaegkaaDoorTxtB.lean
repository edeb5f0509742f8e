/- mask.Show: what it returns; strings.Join of texts of the call's own. -/
import Derived.Test.YtgdidamjgaegkaaDoorTxtA
import Derived.Test.YtgdidamjgaegkaaDoorMskE
namespace Go.Proofs.YtgdidamjgaegkaaDoor
set_option linter.unusedVariables false
open Go Go.RowKit BitM MskM

/-- Texts as the model's values. -/
def svs (l : List (List UInt8)) : List Value := l.map fun p => .string (str p)
theorem svs_length (l : List (List UInt8)) : (svs l).length = l.length := by simp [svs]
theorem svs_append (a b : List (List UInt8)) : svs (a ++ b) = svs a ++ svs b := by simp [svs]
theorem svs_one (l : List (List UInt8)) : ∀ u ∈ svs l, u.oneCell' = true := by
  intro u hu
  simp [svs] at hu
  obtain ⟨c, _, rfl⟩ := hu
  rfl
theorem info_str : (Tryd.prog.info? 9).map (fun i => (i.zero, i.size, i.bytes)) = some (some (.string ⟨#[]⟩), 1, 16) := by kernel_rfl
theorem join_any (g c n base : Nat) (ps : List (List UInt8)) (w : World) (hn : ps.length = n) (hown : Own w base 9 (.slice (some ⟨g, 0, none⟩) n c) (svs ps)) (hp : 0 < n) (hlen : (Lib.join ps [44]).length ≤ 140737488355328) (hm : n ≤ 65536) :
    Calls Tryd.prog 76 #[.slice (some ⟨g, 0, none⟩) n c, .string { data := #[44] }] w fun e w' => e = .returned (.string (str (Lib.join ps [44]))) ∧ Below w.heap.size w w' := by
  have hxs : (ps.map str).map (·.data.toList) = ps := by
    rw [List.map_map]
    have : ((fun x : ByteArray => x.data.toList) ∘ str) = id := by funext p; rfl
    rw [this, List.map_id]
  have hlen' : (ps.map str).length = n := by rw [List.length_map, hn]
  have h := Tryd.strings_Join g 0 c (ps.map str) { data := #[44] } w (fun j x hj => by
    have hjl : j < ps.length := by
      rcases Nat.lt_or_ge j ps.length with h | h
      · exact h
      · rw [List.getElem?_eq_none (by simpa using h)] at hj; cases hj
    rw [Nat.zero_add, hown.cell j (by rw [svs_length]; exact hjl)]
    rw [List.getElem?_map, List.getElem?_eq_getElem hjl] at hj
    simp only [Option.map_some, Option.some.injEq] at hj
    simp [svs, hj]) (by obtain ⟨g', h1, h2, h3⟩ := hown.block hp; injection h1 with h1; injection h1 with h1; omega) (by omega) (by rw [hlen']; exact hown.cap.1) (by rw [hxs]; exact hlen)
  rw [hlen', hxs] at h
  exact h
theorem toks_fin : ∀ m, m < 512 → ((lst (BitVec.ofNat 32 m &&& 255#32) 32).map fun n : Int => MskM.tok n.toNat) ++ (if has (BitVec.ofNat 32 m) 8 then [[108]] else []) = toks m := by decide +kernel
theorem toks_flds (x : BitVec 32) (h : x.toNat < 512) : (flds x).map Lib.itoa ++ (if has x 8 then [[108]] else []) = toks x.toNat := by
  have h1 := toks_fin x.toNat h
  rw [BitVec.ofNat_toNat, BitVec.setWidth_eq] at h1
  rw [← h1]
  congr 1
  refine List.map_congr_left fun n hn => ?_
  obtain ⟨h0, h8, _⟩ := (mem_flds x n).1 hn
  obtain ⟨k, rfl⟩ := Int.eq_ofNat_of_zero_le h0
  rw [itoa_tok (by omega), Int.toNat_natCast]
theorem mtx_len : ∀ m, m < 512 → (mtx m).length ≤ 17 := by decide +kernel
theorem toks_pos : ∀ m, m < 512 → m ≠ 0 → 0 < (toks m).length := by decide +kernel

set_option maxRecDepth 100000 in
set_option maxHeartbeats 3200000 in
theorem mshow_any (x : BitVec 32) (w : World) : Calls Tryd.prog 67 #[.int .u32 (x.toNat : Int)] w fun e w' => e = .returned (.string (str (mtx x.toNat))) ∧ Below w.heap.size w w' := by
  have HC := Lib.hid (fun wx : World => mcheck_any x wx)
  by_cases h : x.toNat ≤ 511
  · rw [decide_eq_true h] at HC
    by_cases hz : x.toNat = 0
    · have HM : Hid (mtx x.toNat = [45]) := Lib.hid (by rw [hz]; rfl)
      have b0 : ((x.toNat : Int) == 0) = true := by simp; omega
      obtain ⟨m, hm⟩ : ∃ m, m = mtx x.toNat := ⟨_, rfl⟩
      rw [← hm] at HM ⊢
      obtain ⟨X, hX⟩ : ∃ X, X = x.toNat := ⟨_, rfl⟩
      rw [← hX] at HC b0 ⊢
      clear hm h hz hX
      go_enter Tryd.func67, Tryd.ntmps67
      go_wp2_with fail
      refine (HC.out _).mono ?_
      rintro e w1 ⟨rfl, rfl⟩
      go_wp2_with fail
      go_ret
      exact ⟨by rw [HM.out]; rfl, Below.refl _ _⟩
    · obtain ⟨i0, hi, hz0, hz1, hz2⟩ := info_parts info_str
      have HF := Lib.hid (fun wx : World => fields_any x wx)
      have HL := Lib.hid (fun wx : World => labels_any x wx)
      have HT := Lib.hid (toks_flds x (by omega))
      have HP := Lib.hid (toks_pos x.toNat (by omega) hz)
      have HB := Lib.hid (mtx_len x.toNat (by omega))
      have HM : Hid (mtx x.toNat = Lib.join (toks x.toNat) [44]) := Lib.hid (by unfold mtx; rw [if_neg (by omega), if_neg hz])
      have HMEM : Hid (∀ n ∈ flds x, 0 ≤ n ∧ n < 8) := Lib.hid (fun n hn => by have := (mem_flds x n).1 hn; omega)
      have hfl := flds_len x
      obtain ⟨T, hT⟩ : ∃ T, T = toks x.toNat := ⟨_, rfl⟩
      rw [← hT] at HT HP HM
      obtain ⟨m, hm⟩ : ∃ m, m = mtx x.toNat := ⟨_, rfl⟩
      rw [← hm] at HM HB ⊢
      have b0 : ((x.toNat : Int) == 0) = false := by simp; omega
      obtain ⟨X, hX⟩ : ∃ X, X = x.toNat := ⟨_, rfl⟩
      rw [← hX] at HC b0 HF HL ⊢
      obtain ⟨l, hl⟩ : ∃ l, l = flds x := ⟨_, rfl⟩
      rw [← hl] at HF HT HMEM hfl
      obtain ⟨b8, hb8⟩ : ∃ b8, b8 = has x 8 := ⟨_, rfl⟩
      rw [← hb8] at HL HT
      obtain ⟨n, hn⟩ : ∃ n, n = l.length := ⟨_, rfl⟩
      have HN := Lib.hid hn
      rw [← hn] at HF hfl
      clear hT hm h hz hX hl hb8 hn
      go_enter Tryd.func67, Tryd.ntmps67
      go_wp2_with fail
      refine (HC.out _).mono ?_
      rintro e w1 ⟨rfl, rfl⟩
      go_wp2_with fail
      refine (HF.out _).mono ?_
      rintro e w1 ⟨A, c, rfl, hownF, hb⟩
      have hs := hownF.sees
      clear hownF
      go_wp2_with fail
      go_loopw [3, 14] (fun v i wr => ∃ k : Nat, k ≤ n ∧ i = .int .i64 k ∧ (∃ A1 c1, v = .slice A1 k c1 ∧ Own wr w1.heap.size 9 v (svs ((l.take k).map Lib.itoa))) ∧ Below w.heap.size w wr ∧ Below w1.heap.size w1 wr) (fun _ i _ => n - (intOf i).toNat)
      case atStart => exact ⟨0, Nat.zero_le _, rfl, ⟨none, 0, rfl, Own.nil_ _ _ _⟩, hb, Below.refl _ _⟩
      case round =>
        obtain ⟨k, hk, rfl, ⟨A1, c1, rfl, hown⟩, hbr, hbw⟩ := hrel
        obtain ⟨acc, hacc⟩ : ∃ acc, acc = (l.take k).map Lib.itoa := ⟨_, rfl⟩
        rw [← hacc] at hown
        have HLA : Hid (acc.length = k) := Lib.hid (by rw [hacc, List.length_map, List.length_take, Nat.min_eq_left (by rw [← HN.out]; exact hk)])
        have HACC := Lib.hid hacc
        clear hacc
        have hs3 := hs.below hbw
        by_cases hlt : k < n
        · have hkl : k < l.length := by rw [← HN.out]; exact hlt
          obtain ⟨b1, o1, rfl, hb1, hc1⟩ := hs3.int k hkl
          obtain ⟨y, hy⟩ : ∃ y, y = l[k] := ⟨_, rfl⟩
          rw [← hy] at hc1
          have hy1 := HMEM.out y (by rw [hy]; exact List.getElem_mem hkl)
          have HTY := Lib.hid (fun wx : World => tens_small y wx (by omega) (by omega))
          have HS : Hid ((l.take (k + 1)).map Lib.itoa = acc ++ [Lib.itoa y]) := Lib.hid (by rw [List.take_succ_eq_append_getElem hkl, List.map_append, ← hy, HACC.out]; rfl)
          clear hy hkl hy1
          go_wp2_with fail
          refine (HTY.out _).mono ?_
          rintro e w4 ⟨rfl, rfl⟩
          go_wp2_with (first
            | (at_builtin
               refine wpList_app _ rfl (.tmp 18) (.tmp 21) _ rfl w1.heap.size 9 i0 _ 16 Tryd.underlying66 hi hz0 hz1 hz2 rfl (.slice A1 k c1) (svs acc) k rfl (by rw [svs_length, HLA.out]) (hown.alloc _) (wr.heap.size + 1) (some ⟨wr.heap.size, 0, none⟩) 1 (svs [Lib.itoa y]) 1 rfl rfl (sees_lit wr _ 9 (0, 0) _ rfl) (svs_one _) (by simp [maxLen]; omega) (by omega) (by have := hbw.size; simp; omega) ?_
               intro A8 c8 w8 hown8 hb8 hg8 hat8)
            | fail)
          rw [← svs_append, ← HS.out] at hown8
          have hbw8 : Below w1.heap.size w1 w8 := (hbw.alloc hbw.size _).trans hb8
          have hbr8 : Below w.heap.size w w8 := hb.trans (hbw8.mono hb.size)
          go_roundw
          case rel => exact ⟨k + 1, by omega, by go_num, ⟨A8, c8, rfl, hown8⟩, hbr8, hbw8⟩
          case measure => simp [intOf]; omega
        · obtain rfl : k = n := by omega
          rw [HN.out, List.take_length] at HACC
          rw [← HACC.out] at HT
          have HLX := Lib.hid (HL.out wr)
          clear hs hs3 HL
          cases b8 with
          | true =>
            simp only [if_true] at HT
            go_wp2_with fail
            refine HLX.out.mono ?_
            rintro e w4 ⟨rfl, rfl⟩
            go_wp2_with (first
              | (at_builtin
                 refine wpList_app _ rfl (.tmp 26) (.tmp 27) _ rfl w1.heap.size 9 i0 _ 16 Tryd.underlying66 hi hz0 hz1 hz2 rfl (.slice A1 k c1) (svs acc) k rfl (by rw [svs_length, HLA.out]) (hown.alloc _) (wr.heap.size + 1) (some ⟨wr.heap.size, 0, none⟩) 1 (svs [[108]]) 1 rfl rfl (sees_lit wr _ 9 (0, 0) _ rfl) (svs_one _) (by simp [maxLen]; omega) (by omega) (by have := hbw.size; simp; omega) ?_
                 intro A8 c8 w8 hown8 hb8 hg8 hat8)
              | fail)
            rw [← svs_append, HT.out] at hown8
            have hbw8 : Below w1.heap.size w1 w8 := (hbw.alloc hbw.size _).trans hb8
            have hbr8 : Below w.heap.size w w8 := hb.trans (hbw8.mono hb.size)
            have HTL : Hid (T.length = k + 1) := Lib.hid (by rw [← HT.out, List.length_append, HLA.out]; rfl)
            obtain ⟨g8, rfl, hg1, hg2⟩ := hown8.block (by omega)
            have HJ := Lib.hid (join_any g8 c8 (k + 1) w1.heap.size T w8 HTL.out hown8 (by omega) (by rw [← HM.out]; have := HB.out; omega) (by omega))
            go_wp2_with fail
            refine HJ.out.mono ?_
            rintro e w9 ⟨rfl, hb9⟩
            have hbr9 := hbr8.trans (hb9.mono hbr8.size)
            go_wp2_with fail
            go_ret
            exact ⟨by rw [HM.out]; rfl, hbr9⟩
          | false =>
            simp only [Bool.false_eq_true, if_false, List.append_nil] at HT
            have HTL : Hid (T.length = k) := Lib.hid (by rw [← HT.out, HLA.out])
            have hkp : 0 < k := by rw [← HTL.out]; exact HP.out
            obtain ⟨g8, rfl, hg1, hg2⟩ := hown.block hkp
            have hown8 := hown
            rw [HT.out] at hown8
            have HJ := Lib.hid (join_any g8 c1 k w1.heap.size T wr HTL.out hown8 hkp (by rw [← HM.out]; have := HB.out; omega) (by omega))
            go_wp2_with fail
            refine HLX.out.mono ?_
            rintro e w4 ⟨rfl, rfl⟩
            go_wp2_with fail
            refine HJ.out.mono ?_
            rintro e w9 ⟨rfl, hb9⟩
            have hbr9 := hbr.trans (hb9.mono hbr.size)
            go_wp2_with fail
            go_ret
            exact ⟨by rw [HM.out]; rfl, hbr9⟩
  · rw [decide_eq_false h] at HC
    have HM : Hid (mtx x.toNat = []) := Lib.hid (by unfold mtx; rw [if_pos (by omega)])
    obtain ⟨m, hm⟩ : ∃ m, m = mtx x.toNat := ⟨_, rfl⟩
    rw [← hm] at HM ⊢
    clear hm h
    go_enter Tryd.func67, Tryd.ntmps67
    go_wp2_with fail
    refine (HC.out _).mono ?_
    rintro e w1 ⟨rfl, rfl⟩
    go_wp2_with fail
    go_ret
    exact ⟨by rw [HM.out]; rfl, Below.refl _ _⟩
end Go.Proofs.YtgdidamjgaegkaaDoor
