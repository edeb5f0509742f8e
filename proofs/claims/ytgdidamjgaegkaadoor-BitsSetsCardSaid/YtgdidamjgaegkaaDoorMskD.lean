/- The document's texts of masks, and the mask of a text: what each returns. -/
import Derived.Test.YtgdidamjgaegkaaDoorMskC
namespace Go.Proofs.YtgdidamjgaegkaaDoor
set_option linter.unusedVariables false
open Go Go.RowKit BitM MskM

def bshT (x : BitVec 32) : List UInt8 := if lst x 32 = [] then [45] else Lib.join ((lst x 32).map fun n : Int => MskM.tok n.toNat) [44]
theorem low_mem {x : BitVec 32} (h : x.toNat < 256) {n : Int} (hn : n ∈ lst x 32) : 0 ≤ n ∧ n < 8 := by
  obtain ⟨h0, h1, h2⟩ := (mem_lst x 32 n).1 hn
  obtain ⟨k, rfl⟩ := Int.eq_ofNat_of_zero_le h0
  have hk : k < 32 := by omega
  rw [has_in x hk, BitVec.getLsbD] at h2
  refine ⟨h0, ?_⟩
  by_cases h8 : k < 8
  · omega
  · exfalso
    have : x.toNat < 2 ^ k := Nat.lt_of_lt_of_le (by omega : x.toNat < 2 ^ 8) (Nat.pow_le_pow_right (by omega) (by omega))
    rw [Nat.testBit_lt_two_pow this] at h2
    cases h2
theorem bsh_low {x : BitVec 32} (h : x.toNat < 256) : bsh x = bshT x := by
  unfold bsh bshT
  have : (lst x 32).map Lib.itoa = (lst x 32).map fun n : Int => MskM.tok n.toNat := List.map_congr_left fun n hn => by
    obtain ⟨h0, h8⟩ := low_mem h hn
    obtain ⟨k, rfl⟩ := Int.eq_ofNat_of_zero_le h0
    rw [itoa_tok (by omega), Int.toNat_natCast]
  rw [this]
theorem bsh_fin : ∀ m, m < 256 → bshT (BitVec.ofNat 32 m) = mtx m ∧ (m ≠ 0 → bshT (BitVec.ofNat 32 m) ++ [44, 108] = mtx (m + 256)) := by decide +kernel
theorem has8 {x : BitVec 32} (h : x.toNat < 512) : has x 8 = decide (256 ≤ x.toNat) := by
  have := has_in x (k := 8) (by omega)
  rw [show ((8 : Nat) : Int) = 8 from rfl] at this
  rw [this, BitVec.getLsbD, Nat.testBit_eq_decide_div_mod_eq, decide_eq_decide]
  omega

set_option maxRecDepth 100000 in
set_option maxHeartbeats 1600000 in
theorem rmshow_any (x : BitVec 32) (w : World) : Calls Tryd.prog 68 #[.int .u32 (x.toNat : Int)] w fun e w' => e = .returned (.string (str (mtx x.toNat))) ∧ Below w.heap.size w w' := by
  have HC := Lib.hid (fun wx : World => rmcheck_any x wx)
  have HL := Lib.hid (fun wx : World => rlabels_any x wx)
  by_cases h : x.toNat ≤ 511
  · rw [decide_eq_true h] at HC
    rw [has8 (by omega)] at HL
    by_cases h2 : 256 ≤ x.toNat
    · rw [decide_eq_true h2] at HL
      by_cases h3 : x.toNat = 256
      · have HM : Hid (mtx x.toNat = [108]) := Lib.hid (by rw [h3]; decide)
        have b0 : ((x.toNat : Int) == 256) = true := by simp; omega
        obtain ⟨m, hm⟩ : ∃ m, m = mtx x.toNat := ⟨_, rfl⟩
        rw [← hm] at HM ⊢
        obtain ⟨X, hX⟩ : ∃ X, X = x.toNat := ⟨_, rfl⟩
        rw [← hX] at HC HL b0 ⊢
        clear hm h h2 h3 hX
        go_enter Tryd.func68, Tryd.ntmps68
        go_wp2_with fail
        refine (HC.out _).mono ?_
        rintro e w1 ⟨rfl, rfl⟩
        go_wp2_with fail
        refine (HL.out _).mono ?_
        rintro e w1 ⟨rfl, rfl⟩
        go_wp2_with fail
        go_ret
        exact ⟨by rw [HM.out]; rfl, Below.refl _ _⟩
      · have hlo : (BitVec.ofNat 32 (x.toNat - 256)).toNat = x.toNat - 256 := by rw [BitVec.toNat_ofNat]; omega
        have HS := Lib.hid (fun wx : World => bshow_any (BitVec.ofNat 32 (x.toNat - 256)) wx)
        rw [hlo, bsh_low (by rw [hlo]; omega)] at HS
        have hfin := (bsh_fin (x.toNat - 256) (by omega)).2 (by omega)
        rw [show x.toNat - 256 + 256 = x.toNat by omega] at hfin
        have HM : Hid (mtx x.toNat = bshT (BitVec.ofNat 32 (x.toNat - 256)) ++ [44, 108]) := Lib.hid hfin.symm
        have hbl := bsh_len (BitVec.ofNat 32 (x.toNat - 256))
        rw [bsh_low (by rw [hlo]; omega)] at hbl
        rw [show ((x.toNat - 256 : Nat) : Int) = (x.toNat : Int) - 256 by omega] at HS
        obtain ⟨u, hu⟩ : ∃ u, u = bshT (BitVec.ofNat 32 (x.toNat - 256)) := ⟨_, rfl⟩
        rw [← hu] at HS HM hbl
        obtain ⟨m, hm⟩ : ∃ m, m = mtx x.toNat := ⟨_, rfl⟩
        rw [← hm] at HM ⊢
        have b0 : ((x.toNat : Int) == 256) = false := by simp; omega
        have hx1 : (256 : Int) ≤ (x.toNat : Int) := by omega
        have hx2 : (x.toNat : Int) ≤ 511 := by omega
        have hus : (str u).size ≤ 96 := by rw [str_size]; exact hbl
        obtain ⟨su, hsu⟩ : ∃ su, su = str u := ⟨_, rfl⟩
        rw [← hsu] at HS hus
        have HSU := Lib.hid hsu
        obtain ⟨X, hX⟩ : ∃ X, X = x.toNat := ⟨_, rfl⟩
        rw [← hX] at HC HL HS b0 hx1 hx2 ⊢
        clear hm h h2 h3 hX hfin hlo hu hbl hsu
        go_enter Tryd.func68, Tryd.ntmps68
        go_wp2_with fail
        refine (HC.out _).mono ?_
        rintro e w1 ⟨rfl, rfl⟩
        go_wp2_with fail
        refine (HL.out _).mono ?_
        rintro e w1 ⟨rfl, rfl⟩
        go_wp2_with fail
        refine (HS.out _).mono ?_
        rintro e w1 ⟨rfl, hb⟩
        go_wp2_with fail
        go_ret
        exact ⟨by rw [HM.out, HSU.out, ← str_append]; rfl, hb⟩
    · rw [decide_eq_false h2] at HL
      have HS := Lib.hid (fun wx : World => bshow_any x wx)
      have hfin := (bsh_fin x.toNat (by omega)).1
      rw [BitVec.ofNat_toNat, BitVec.setWidth_eq] at hfin
      rw [bsh_low (by omega), hfin] at HS
      obtain ⟨m, hm⟩ : ∃ m, m = mtx x.toNat := ⟨_, rfl⟩
      rw [← hm] at HS ⊢
      obtain ⟨X, hX⟩ : ∃ X, X = x.toNat := ⟨_, rfl⟩
      rw [← hX] at HC HL HS ⊢
      clear hm h h2 hX hfin
      go_enter Tryd.func68, Tryd.ntmps68
      go_wp2_with fail
      refine (HC.out _).mono ?_
      rintro e w1 ⟨rfl, rfl⟩
      go_wp2_with fail
      refine (HL.out _).mono ?_
      rintro e w1 ⟨rfl, rfl⟩
      go_wp2_with fail
      refine (HS.out _).mono ?_
      rintro e w1 ⟨rfl, hb⟩
      go_wp2_with fail
      go_ret
      exact ⟨rfl, hb⟩
  · rw [decide_eq_false h] at HC
    have HM : Hid (mtx x.toNat = []) := Lib.hid (by unfold mtx; rw [if_pos (by omega)])
    obtain ⟨m, hm⟩ : ∃ m, m = mtx x.toNat := ⟨_, rfl⟩
    rw [← hm] at HM ⊢
    clear hm h
    go_enter Tryd.func68, Tryd.ntmps68
    go_wp2_with fail
    refine (HC.out _).mono ?_
    rintro e w1 ⟨rfl, rfl⟩
    go_wp2_with fail
    go_ret
    exact ⟨by rw [HM.out]; rfl, Below.refl _ _⟩
end Go.Proofs.YtgdidamjgaegkaaDoor
