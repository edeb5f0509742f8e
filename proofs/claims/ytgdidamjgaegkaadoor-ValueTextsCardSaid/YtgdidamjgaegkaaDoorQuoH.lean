/- The document's Show, Int, hex: what each returns. -/
import Derived.Test.YtgdidamjgaegkaaDoorQuoG
namespace Go.Proofs.YtgdidamjgaegkaaDoor
set_option linter.unusedVariables false
open Go Go.RowKit BitM MskM ValM

set_option maxRecDepth 100000 in
set_option maxHeartbeats 1600000 in
theorem rvshow_any (v : V3) (w : World) : Calls Tryd.prog 50 #[.agg (vcells v).toArray] w fun e w' => e = .returned (.string (str (vshow v))) ∧ Below w.heap.size w w' := by
  obtain ⟨k, n, s⟩ := v
  have HK := Lib.hid (fun wx : World => (show Calls Tryd.prog 36 #[.agg (vcells (k, n, s)).toArray] wx fun e w' => e = .returned (.bool (vchk (k, n, s))) ∧ Below wx.heap.size wx w' from rvcheck_any k n s wx))
  have HV : Hid (vshow (k, n, s) = if vchk (k, n, s) = false then [] else if k = 1 then Lib.itoa n else if k = 2 then quo s.data.toList else [45]) := Lib.hid rfl
  have hu := Tryd.underlying43
  have B0 := Blk.new w (vcells (k, n, s)) 43
  have hb := (Below.refl w.heap.size w).alloc (Nat.le_refl _) (.cells (vcells (k, n, s)).toArray 43)
  have R0 := B0.valR
  obtain ⟨u, hu2⟩ : ∃ u, u = str (vshow (k, n, s)) := ⟨_, rfl⟩
  rw [← hu2]
  have HU := Lib.hid hu2
  have HCK : Hid (vchk (k, n, s) = vchk (k, n, s)) := Lib.hid rfl
  have hn1 := vchk_num n s
  have hn2 := vchk_txt n s
  have hn3 := vchk_kind k n s
  have HN1 := Lib.hid hn1
  have HN2 := Lib.hid hn2
  have HN3 := Lib.hid hn3
  obtain ⟨ca, hca⟩ : ∃ ca, ca = (vcells (k, n, s)).toArray := ⟨_, rfl⟩
  rw [← hca] at R0 B0 hb ⊢
  clear hca hu2 HCK hn1 hn2 hn3
  cases hck : vchk (k, n, s)
  · rw [hck] at HK HV
    have HX : Hid (u = ⟨#[]⟩) := Lib.hid (by rw [HU.out, HV.out, if_pos rfl]; rfl)
    clear hck
    go_enter Tryd.func50, Tryd.ntmps50
    go_wp2_with (first
      | (refine wpList_load_mid rfl 43 (.tmp 1) rfl w.heap.size 0 rfl (vcells (k, n, s)) _ R0 hu rfl info_val ?_))
    refine (HK.out _).mono ?_
    rintro e w1 ⟨rfl, hb1⟩
    have hb2 := hb.trans (hb1.mono hb.size)
    clear B0 R0 hb1 hb
    go_wp2_with fail
    go_ret
    exact ⟨by rw [HX.out]; rfl, hb2⟩
  · rw [hck] at HK HV
    have HKD := Lib.hid (HN3.out hck)
    have HCH := Lib.hid hck
    clear hck
    rcases HKD.out with rfl | rfl | rfl
    · have HX : Hid (u = ⟨#[45]⟩) := Lib.hid (by rw [HU.out, HV.out]; rfl)
      go_enter Tryd.func50, Tryd.ntmps50
      go_wp2_with (first
        | (refine wpList_load_mid rfl 43 (.tmp 1) rfl w.heap.size 0 rfl (vcells (0, n, s)) _ R0 hu rfl info_val ?_))
      refine (HK.out _).mono ?_
      rintro e w1 ⟨rfl, hb1⟩
      have B1 := B0.later hb1
      obtain ⟨p0, p1, p2⟩ := B1.val
      have hb2 := hb.trans (hb1.mono hb.size)
      clear B0 R0 hb1 hb
      go_wp2_with fail
      go_ret
      exact ⟨by rw [HX.out]; rfl, hb2⟩
    · have HX : Hid (u = str (Lib.itoa n)) := Lib.hid (by rw [HU.out, HV.out]; rfl)
      have HC := Lib.hid (fun (wx : World) (hb : Below w.heap.size w wx) => rtens_small n wx (by have := HN1.out HCH.out; omega) (by have := HN1.out HCH.out; omega))
      rw [← HX.out] at HC
      go_enter Tryd.func50, Tryd.ntmps50
      go_wp2_with (first
        | (refine wpList_load_mid rfl 43 (.tmp 1) rfl w.heap.size 0 rfl (vcells (1, n, s)) _ R0 hu rfl info_val ?_))
      refine (HK.out _).mono ?_
      rintro e w1 ⟨rfl, hb1⟩
      have B1 := B0.later hb1
      obtain ⟨p0, p1, p2⟩ := B1.val
      have hb2 := hb.trans (hb1.mono hb.size)
      clear B0 R0 hb1 hb
      go_wp2_with fail
      refine (HC.out _ hb2).mono ?_
      rintro e w2 ⟨rfl, hb3⟩
      have hb4 := hb2.trans (hb3.mono hb2.size)
      clear p0 p1 p2 hb2
      go_wp2_with fail
      go_ret
      exact ⟨rfl, hb4⟩
    · have HX : Hid (u = str (quo s.data.toList)) := Lib.hid (by rw [HU.out, HV.out]; rfl)
      have HC := Lib.hid (fun (wx : World) => (rquote_any s wx (by have := HN2.out HCH.out; omega)).mono fun e w' (h : e = .returned (.string (str (quo s.data.toList))) ∧ wx = w') => (show e = .returned (.string (str (quo s.data.toList))) ∧ Below wx.heap.size wx w' from ⟨h.1, h.2 ▸ Below.refl _ _⟩))
      rw [← HX.out] at HC
      go_enter Tryd.func50, Tryd.ntmps50
      go_wp2_with (first
        | (refine wpList_load_mid rfl 43 (.tmp 1) rfl w.heap.size 0 rfl (vcells (2, n, s)) _ R0 hu rfl info_val ?_))
      refine (HK.out _).mono ?_
      rintro e w1 ⟨rfl, hb1⟩
      have B1 := B0.later hb1
      obtain ⟨p0, p1, p2⟩ := B1.val
      have hb2 := hb.trans (hb1.mono hb.size)
      clear B0 R0 hb1 hb
      go_wp2_with fail
      refine (HC.out _).mono ?_
      rintro e w2 ⟨rfl, hb3⟩
      have hb4 := hb2.trans (hb3.mono hb2.size)
      clear p0 p1 p2 hb2
      go_wp2_with fail
      go_ret
      exact ⟨rfl, hb4⟩

def hexv (c : UInt8) : Int := if 48 ≤ c.toNat ∧ c.toNat ≤ 57 then (c.toNat : Int) - 48 else if 97 ≤ c.toNat ∧ c.toNat ≤ 102 then (c.toNat : Int) - 87 else -1
theorem hexv_range (c : UInt8) : -1 ≤ hexv c ∧ hexv c ≤ 15 := by
  unfold hexv; split
  · omega
  · split <;> omega
theorem hexv_hexd (n : Nat) (h : n < 16) : hexv (hexd n) = (n : Int) := by
  have key : ∀ n : Fin 16, hexv (hexd n.val) = ((n.val : Nat) : Int) := by decide +kernel
  exact key ⟨n, h⟩
theorem rhex_any (c : UInt8) (w : World) : Calls Tryd.prog 98 #[.int .u8 (c.toNat : Int)] w fun e w' => e = .returned (.int .i64 (hexv c)) ∧ w = w' := by
  have h256 := UInt8.toNat_lt c
  obtain ⟨hv, hh⟩ : ∃ h : Int, h = hexv c := ⟨_, rfl⟩
  rw [← hh]
  unfold hexv at hh
  obtain ⟨m, hm⟩ : ∃ m, m = c.toNat := ⟨_, rfl⟩
  rw [← hm] at hh h256 ⊢
  clear hm
  by_cases h1 : 48 ≤ m ∧ m ≤ 57
  · rw [if_pos h1] at hh
    have HH := Lib.hid hh
    obtain ⟨a1, a2⟩ := h1
    have b1 : (48 : Int) ≤ (m : Int) := by omega
    have b2 : (m : Int) ≤ 57 := by omega
    clear hh a1 a2
    go_enter Tryd.func98, Tryd.ntmps98
    go_wp2_with fail
    go_ret
    exact ⟨by rw [HH.out]; rfl, rfl⟩
  · rw [if_neg h1] at hh
    have key1 : ¬ (48 : Int) ≤ (m : Int) ∨ ((48 : Int) ≤ (m : Int) ∧ ¬ (m : Int) ≤ 57) := by omega
    by_cases h2 : 97 ≤ m ∧ m ≤ 102
    · rw [if_pos h2] at hh
      have HH := Lib.hid hh
      obtain ⟨a1, a2⟩ := h2
      have b1 : (97 : Int) ≤ (m : Int) := by omega
      have b2 : (m : Int) ≤ 102 := by omega
      clear hh a1 a2 h1
      rcases key1 with k1 | ⟨k1, k2⟩
      all_goals
        go_enter Tryd.func98, Tryd.ntmps98
        go_wp2_with fail
      all_goals
        go_ret
        exact ⟨by rw [HH.out]; rfl, rfl⟩
    · rw [if_neg h2] at hh
      have HH := Lib.hid hh
      have key2 : ¬ (97 : Int) ≤ (m : Int) ∨ ((97 : Int) ≤ (m : Int) ∧ ¬ (m : Int) ≤ 102) := by omega
      clear hh h1 h2
      rcases key1 with k1 | ⟨k1, k2⟩ <;> rcases key2 with k3 | ⟨k3, k4⟩
      all_goals
        go_enter Tryd.func98, Tryd.ntmps98
        go_wp2_with fail
      all_goals
        go_ret
        exact ⟨by rw [HH.out]; rfl, rfl⟩
end Go.Proofs.YtgdidamjgaegkaaDoor
