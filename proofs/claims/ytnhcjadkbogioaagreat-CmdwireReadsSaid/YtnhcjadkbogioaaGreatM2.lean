/- octet.first: the number that bytes begin with. -/
import Derived.Test.YtnhcjadkbogioaaGreatM1
import Derived.Handy
set_option linter.unusedVariables false
set_option maxHeartbeats 1600000
namespace Go.Proofs.YtnhcjadkbogioaaGreat
open Go.RowKit OctM
theorem u8_and127 (c : UInt8) : bits .and .u8 (c.toNat : Int) 127 = (c.toNat : Int) % 128 := by
  have := u8_and_nat c.toNat 127 c.toNat_lt (by omega)
  have h2 := Nat.and_two_pow_sub_one_eq_mod c.toNat 7
  simp only [show (2 : Nat) ^ 7 - 1 = 127 from rfl, show (2 : Nat) ^ 7 = 128 from rfl] at h2
  rw [h2] at this
  simpa using this
theorem or_step (m k : Nat) (x : UInt8) (hk : k < 6) (hm : m < 128 ^ k) : bits .or .i64 (m : Int) (wrap64 ((x.toNat : Int) % 128 * 2 ^ (7 * k))) = ((m + x.toNat % 128 * 128 ^ k : Nat) : Int) := by
  have e1 : (2 : Nat) ^ (7 * k) = 128 ^ k := by rw [Nat.pow_mul]
  have e2 : ((x.toNat : Int) % 128 * 2 ^ (7 * k)) = ((2 ^ (7 * k) * (x.toNat % 128) : Nat) : Int) := by
    push_cast; rw [Int.mul_comm]
  have b1 : (2 : Nat) ^ (7 * k) ≤ 2 ^ 35 := Nat.pow_le_pow_right (by omega) (by omega)
  have b2 : 2 ^ (7 * k) * (x.toNat % 128) ≤ 2 ^ 35 * 127 := Nat.mul_le_mul b1 (by omega)
  have b3 : m < 2 ^ (7 * k) := by rw [e1]; exact hm
  rw [e2]
  have e3 : wrap64 ((2 ^ (7 * k) * (x.toNat % 128) : Nat) : Int) = ((2 ^ (7 * k) * (x.toNat % 128) : Nat) : Int) := by
    simp only [wrap64]; omega
  rw [e3, i64_or_low (x.toNat % 128) m (7 * k) b3 (by omega), e1, Nat.mul_comm (128 ^ k)]
set_option maxRecDepth 8000 in
theorem oct_first (A : Option Addr) (n c : Nat) (l : List UInt8) (w : World) (B : Nat) (hn : l.length = n) (hs : Sees w B A (bvs l)) (hm : n ≤ 2097152) :
    Calls Tryz.prog 66 #[.slice A n c] w fun e w' => e = .returned (.tuple #[.int .i64 ((scan l 0 0).1 : Nat), .int .i64 ((scan l 0 0).2.1 : Nat), .int .i64 ((scan l 0 0).2.2 : Nat)]) ∧ w = w' := by
  obtain ⟨s0, hs0⟩ : ∃ s0, s0 = scan l 0 0 := ⟨_, rfl⟩
  rw [← hs0]
  have HS := hid hs0
  clear hs0
  subst hn
  go_enter Tryz.func66, Tryz.ntmps66
  go_wp2_with fail
  go_loop [5, 10] (fun v i => ∃ k m : Nat, k ≤ l.length ∧ k ≤ 6 ∧ i = .int .i64 k ∧ v = .int .i64 m ∧ m < 128 ^ k ∧ s0 = scan (l.drop k) k m) (fun _ i => l.length - (intOf i).toNat)
  case atStart => exact ⟨0, 0, Nat.zero_le _, Nat.zero_le _, rfl, rfl, by simp, by rw [HS.out]; rfl⟩
  case round =>
    obtain ⟨k, m, hk, hk6, rfl, rfl, hmk, hsc⟩ := hrel
    have HSC := hid hsc
    have HMK := hid hmk
    clear hsc hmk
    by_cases hlt : k < l.length
    · have hA : ∃ b o, A = some ⟨b, o, none⟩ := by
        obtain ⟨b, o, h, _⟩ := hs (by rw [bvs_length]; omega)
        exact ⟨b, o, h⟩
      obtain ⟨b, o, rfl⟩ := hA
      have hc := hs.byte k hlt
      obtain ⟨x, hx⟩ : ∃ x, x = l[k] := ⟨_, rfl⟩
      rw [← hx] at hc
      have HX := hid hx
      have hxl := x.toNat_lt
      clear hx
      have hand := u8_and127 x
      have hcons : l.drop k = x :: l.drop (k + 1) := by rw [HX.out]; exact List.drop_eq_getElem_cons hlt
      have hsc := HSC.out
      rw [hcons] at hsc
      simp only [scan] at hsc
      by_cases h6 : k = 6
      · rw [if_pos h6] at hsc
        have HR := hid hsc
        have he : ((k : Int) == 6) = true := by simp; omega
        have hK := hid h6
        clear hsc h6 hcons hk6
        go_wp2_with fail
        go_ret3
        exact ⟨by rw [HR.out]; rfl, rfl⟩
      · rw [if_neg h6] at hsc
        have hk5 : k < 6 := by omega
        have he : ((k : Int) == 6) = false := by simp; omega
        have HK := hid hk5
        clear hcons h6
        by_cases hlo : x.toNat < 128
        · rw [if_pos hlo] at hsc
          have hd : decide ((x.toNat : Int) < 128) = true := by simp; omega
          have hmod : x.toNat % 128 = x.toNat := Nat.mod_eq_of_lt hlo
          have HLO := hid hlo
          clear hlo
          by_cases hz : x.toNat = 0
          · have hd2 : ((x.toNat : Int) == 0) = true := by simp; omega
            by_cases hk0 : 0 < k
            · rw [if_pos ⟨hz, hk0⟩] at hsc
              have HR := hid hsc
              have hd3 : decide ((0 : Int) < (k : Int)) = true := by simp; omega
              have hd3' : decide (0 < k) = true := by simp; omega
              have HZ := hid hz
              have HK0 := hid hk0
              clear hsc hz hk0 hmod
              go_wp2_with fail
              go_ret3
              exact ⟨by rw [HR.out]; rfl, rfl⟩
            · rw [if_neg (fun h => hk0 h.2)] at hsc
              have HR := hid hsc
              have hd3 : decide ((0 : Int) < (k : Int)) = false := by simp; omega
              have hd3' : decide (0 < k) = false := by simp; omega
              have HZ := hid hz
              have HK0 := hid hk0
              clear hsc hz hk0 hmod
              go_wp2_with fail
              go_ret3
              refine ⟨?_, rfl⟩
              rw [HR.out, ← or_step m k x HK.out HMK.out]
              rfl
          · rw [if_neg (fun h => hz h.1)] at hsc
            have HR := hid hsc
            have hd2 : ((x.toNat : Int) == 0) = false := by simp; omega
            have HZ := hid hz
            clear hsc hz hmod
            go_wp2_with fail
            go_ret3
            refine ⟨?_, rfl⟩
            rw [HR.out, ← or_step m k x HK.out HMK.out]
            rfl
        · rw [if_neg hlo] at hsc
          have hd : decide ((x.toNat : Int) < 128) = false := by simp; omega
          have HLO := hid hlo
          have HR := hid hsc
          clear hlo hsc
          go_wp2_with fail
          go_round
          case rel =>
            refine ⟨k + 1, m + x.toNat % 128 * 128 ^ k, by omega, by omega, by go_num, by rw [or_step m k x HK.out HMK.out], ?_, HR.out⟩
            have h1 : x.toNat % 128 * 128 ^ k ≤ 127 * 128 ^ k := Nat.mul_le_mul_right _ (by omega)
            have h2 := HMK.out
            rw [Nat.pow_succ]
            omega
          case measure => simp [intOf]; omega
    · obtain rfl : k = l.length := by omega
      have hsc := HSC.out
      rw [List.drop_length] at hsc
      simp only [scan] at hsc
      by_cases h6 : 6 ≤ l.length
      · rw [if_pos h6] at hsc
        have HR := hid hsc
        have hd : decide ((6 : Int) ≤ (l.length : Int)) = true := by simp; omega
        clear hsc
        go_wp2_with fail
        go_ret3
        exact ⟨by rw [HR.out]; rfl, rfl⟩
      · rw [if_neg h6] at hsc
        have HR := hid hsc
        have hd : decide ((6 : Int) ≤ (l.length : Int)) = false := by simp; omega
        have hlt6 : l.length < 6 := by omega
        clear hsc h6
        go_wp2_with fail
        go_ret3
        exact ⟨by rw [HR.out]; rfl, rfl⟩
def Rd (w : World) (base g : Nat) (l : List UInt8) (at_ : Nat) (err : Int) : Prop :=
  ∃ A c, l.length ≤ c ∧ c ≤ maxLen ∧ Own w base 53 (.slice (some ⟨g, 0, none⟩) 3 3) [.slice A l.length c, .int .i64 at_, .int .i64 err] ∧ Sees w g A (bvs l)
theorem Rd.block {w : World} {base g : Nat} {l : List UInt8} {at_ : Nat} {err : Int} (h : Rd w base g l at_ err) : base ≤ g ∧ g < w.heap.size := by
  obtain ⟨A, c, h1, h2, h3, h4⟩ := h
  exact h3.lt g rfl
theorem rd_new (A : Option Addr) (n c : Nat) (l : List UInt8) (w : World) (hn : l.length = n) (hs : Sees w w.heap.size A (bvs l)) (hm : n ≤ 1048576) :
    Calls Tryz.prog 5 #[.slice A n c] w fun e w' => ∃ g, e = .returned (.pointer (some ⟨g, 0, none⟩)) ∧ Rd w' w.heap.size g l 0 0 ∧ Below w.heap.size w w' := by
  have HF := hid (oct_fresh A n c l 0 w hn hs hm (by omega))
  have HN := hid hn
  clear hn hs
  go_enter Tryz.func5, Tryz.ntmps5
  go_wp2_with fail
  refine HF.out.mono ?_
  rintro e w1 ⟨A1, c1, rfl, o1, b1⟩
  have s1 := o1.sees
  have k1 := o1.cap
  go_wp2_with fail
  go_ret
  refine ⟨w1.heap.size, rfl, ⟨A1, c1, by rw [HN.out]; exact k1.1, k1.2, ?_, s1.alloc (Nat.le_refl _) _⟩, b1.alloc b1.size _⟩
  have h := own_lit w1 w.heap.size 53 #[.slice A1 n c1, .int .i64 0, .int .i64 0] b1.size (by simp [maxLen])
  rw [HN.out]
  exact h
theorem rd_ready (base g : Nat) (l : List UInt8) (at_ : Nat) (err : Int) (w : World) (h : Rd w base g l at_ err) :
    Calls Tryz.prog 48 #[.pointer (some ⟨g, 0, none⟩)] w fun e w' => e = .returned (.bool (err == 0)) ∧ w = w' := by
  obtain ⟨A, c, hlc, hcm, ho, hs⟩ := h
  have h2 := ho.cell 2 (by simp)
  simp only [List.getElem_cons_succ, List.getElem_cons_zero] at h2
  clear ho hs
  go_enter Tryz.func48, Tryz.ntmps48
  go_wp2_with fail
  go_ret
  exact ⟨rfl, rfl⟩
theorem rd_err (base g : Nat) (l : List UInt8) (at_ : Nat) (err : Int) (w : World) (h : Rd w base g l at_ err) :
    Calls Tryz.prog 9 #[.pointer (some ⟨g, 0, none⟩)] w fun e w' => e = .returned (.int .i64 err) ∧ w = w' := by
  obtain ⟨A, c, hlc, hcm, ho, hs⟩ := h
  have h2 := ho.cell 2 (by simp)
  simp only [List.getElem_cons_succ, List.getElem_cons_zero] at h2
  clear ho hs
  go_enter Tryz.func9, Tryz.ntmps9
  go_wp2_with fail
  go_ret
  exact ⟨rfl, rfl⟩
theorem rd_left (base g : Nat) (l : List UInt8) (at_ : Nat) (err : Int) (w : World) (h : Rd w base g l at_ err) (ha : at_ ≤ l.length) (hm : l.length ≤ 2097152) :
    Calls Tryz.prog 10 #[.pointer (some ⟨g, 0, none⟩)] w fun e w' => e = .returned (.int .i64 ((l.length : Int) - at_)) ∧ (∃ k, w' = w.drewN k) := by
  obtain ⟨A, c, hlc, hcm, ho, hs⟩ := h
  have h0 := ho.cell 0 (by simp)
  have h1 := ho.cell 1 (by simp)
  simp only [List.getElem_cons_succ, List.getElem_cons_zero] at h0 h1
  clear ho hs
  go_enter Tryz.func10, Tryz.ntmps10
  go_wp2_with fail
  go_quiet (fail)
  go_wp2
  go_ret
  exact ⟨rfl, _, rfl⟩
theorem drewN_grown (w : World) (k : Nat) (row : Option Nat) : w.grownBy (w.drewN k) row := ⟨rfl, rfl, rfl, Nat.le_refl _, fun _ _ _ => rfl⟩
theorem Rd.drewN {w : World} {base g : Nat} {l : List UInt8} {at_ : Nat} {err : Int} (h : Rd w base g l at_ err) (k : Nat) : Rd (w.drewN k) base g l at_ err := by
  obtain ⟨A, c, h1, h2, h3, h4⟩ := h
  exact ⟨A, c, h1, h2, h3.drewN k, h4.drewN k⟩
theorem Rd.put_err {w : World} {base g : Nat} {l : List UInt8} {at_ : Nat} {err : Int} (h : Rd w base g l at_ err) (e : Int) :
    Rd (w.setCell ⟨g, 2, none⟩ (.int .i64 e)) base g l at_ e ∧ w.grownBy (w.setCell ⟨g, 2, none⟩ (.int .i64 e)) (some g) := by
  obtain ⟨A, c, h1, h2, h3, h4⟩ := h
  have h5 := World.ownsRow.stored (h3 : w.ownsRow _ _ _ _ _ _) 2 (.int .i64 e)
  exact ⟨⟨A, c, h1, h2, h5.1, h4.setCell (Nat.le_refl _) _⟩, h5.2⟩
theorem Rd.put_at {w : World} {base g : Nat} {l : List UInt8} {at_ : Nat} {err : Int} (h : Rd w base g l at_ err) (n : Nat) :
    Rd (w.setCell ⟨g, 1, none⟩ (.int .i64 n)) base g l n err ∧ w.grownBy (w.setCell ⟨g, 1, none⟩ (.int .i64 n)) (some g) := by
  obtain ⟨A, c, h1, h2, h3, h4⟩ := h
  have h5 := World.ownsRow.stored (h3 : w.ownsRow _ _ _ _ _ _) 1 (.int .i64 n)
  exact ⟨⟨A, c, h1, h2, h5.1, h4.setCell (Nat.le_refl _) _⟩, h5.2⟩
def numOut (l : List UInt8) (at_ : Nat) (err most : Int) : Nat × Nat × Int :=
  if err ≠ 0 then (0, at_, err)
  else if (scan (l.drop at_) 0 0).2.2 ≠ 0 then (0, at_, ((scan (l.drop at_) 0 0).2.2 : Nat))
  else if 1099511627776 < ((scan (l.drop at_) 0 0).1 : Int) ∨ most < ((scan (l.drop at_) 0 0).1 : Int) then (0, at_, 4)
  else ((scan (l.drop at_) 0 0).1, at_ + (scan (l.drop at_) 0 0).2.1, 0)
theorem scan_size : ∀ (l : List UInt8) (i v : Nat), (scan l i v).2.1 ≤ i + l.length
  | [], i, v => by unfold scan; split <;> simp
  | c :: l, i, v => by
    unfold scan
    have := scan_size l (i + 1) (v + c.toNat % 128 * 128 ^ i)
    split
    · simp
    · split
      · split <;> simp
      · simp; omega
theorem rd_num (base g : Nat) (l : List UInt8) (at_ : Nat) (err most : Int) (w : World) (h : Rd w base g l at_ err) (ha : at_ ≤ l.length) (hm : l.length ≤ 2097152) :
    Calls Tryz.prog 33 #[.pointer (some ⟨g, 0, none⟩), .int .i64 most] w fun e w' =>
      e = .returned (.int .i64 ((numOut l at_ err most).1 : Nat)) ∧ Rd w' base g l (numOut l at_ err most).2.1 (numOut l at_ err most).2.2 ∧ w.grownBy w' (some g) := by
  obtain ⟨i0, hi, hz0, hz1, hz2⟩ := oct_parts
  have HRD := hid h
  have HRY := hid (rd_ready base g l at_ err w h)
  obtain ⟨A, c, hlc, hcm, ho, hs⟩ := h
  have h0 := ho.cell 0 (by simp)
  have h1 := ho.cell 1 (by simp)
  have h2 := ho.cell 2 (by simp)
  have f1 := ho.frozen 1
  have f2 := ho.frozen 2
  simp only [List.getElem_cons_succ, List.getElem_cons_zero] at h0 h1 h2
  clear ho
  by_cases he : err = 0
  · subst he
    obtain ⟨A2, hcut, hs2⟩ := cut_fact (P := Tryz.prog) 22 5 i0 Tryz.underlying22 hi hz1 hs l.length (l.length - at_) at_ c (at_ : Int) .i64 (bvs_length l) (by omega) rfl hlc
    rw [show (bvs l).drop at_ = bvs (l.drop at_) from by simp [bvs]] at hs2
    have HL := hid (show (l.drop at_).length = l.length - at_ from by simp)
    obtain ⟨q, hq⟩ : ∃ q, q = l.length - at_ := ⟨_, rfl⟩
    rw [← hq] at hcut HL
    have hql : q + at_ = l.length := by omega
    clear hq
    obtain ⟨cc, hcc⟩ : ∃ cc, cc = c - at_ := ⟨_, rfl⟩
    rw [← hcc] at hcut
    clear hcc
    obtain ⟨v, hv⟩ : ∃ v, v = (scan (l.drop at_) 0 0).1 := ⟨_, rfl⟩
    obtain ⟨sz, hsz⟩ : ∃ sz, sz = (scan (l.drop at_) 0 0).2.1 := ⟨_, rfl⟩
    obtain ⟨er, her⟩ : ∃ er, er = (scan (l.drop at_) 0 0).2.2 := ⟨_, rfl⟩
    have hszl : sz ≤ q := by
      have := scan_size (l.drop at_) 0 0
      rw [← hsz, HL.out] at this
      omega
    have HF := hid (fun k : Nat => (oct_first A2 q cc (l.drop at_) (w.drewN k) g HL.out (hs2.drewN k) (by omega)).mono (fun _ _ h => (⟨h.1, h.2.symm⟩ : _ ∧ _)))
    rw [← hv, ← hsz, ← her] at HF
    have HV := hid hv
    have HSZ := hid hsz
    have HER := hid her
    clear hv hsz her hs hs2
    by_cases h3 : er = 0
    · have d3 : ((er : Int) == 0) = true := by simp; omega
      have d3n : ((er : Int) != 0) = false := by simp; omega
      have HE3 := hid h3
      by_cases h4 : 1099511627776 < (v : Int)
      · have HO := Lib.hid (show numOut l at_ 0 most = (0, at_, 4) from by
          unfold numOut
          rw [if_neg (by simp), if_neg (by rw [← HER.out]; simpa using h3), if_pos (by rw [← HV.out]; exact .inl h4)])
        have d4 : decide ((1099511627776 : Int) < (v : Int)) = true := by simpa using h4
        clear h3 h4
        go_enter Tryz.func33, Tryz.ntmps33
        go_wp2_with fail
        refine HRY.out.mono ?_
        rintro e wx ⟨rfl, rfl⟩
        rw [show ((0 : Int) == 0) = true from rfl]
        go_wp2_with fail
        go_quiet (first | (go_at_call 66; refine Calls.quiet_of_same (HF.out _)))
        go_wp2_with fail
        go_ret
        rw [HO.out]
        exact ⟨rfl, ((HRD.out.drewN _).put_err 4).1, (drewN_grown _ _ _).trans ((HRD.out.drewN _).put_err 4).2⟩
      · have d4 : decide ((1099511627776 : Int) < (v : Int)) = false := by simp; omega
        by_cases h5 : most < (v : Int)
        · have HO := Lib.hid (show numOut l at_ 0 most = (0, at_, 4) from by
            unfold numOut
            rw [if_neg (by simp), if_neg (by rw [← HER.out]; simpa using h3), if_pos (by rw [← HV.out]; exact .inr h5)])
          have d5 : decide (most < (v : Int)) = true := by simpa using h5
          clear h3 h4 h5
          go_enter Tryz.func33, Tryz.ntmps33
          go_wp2_with fail
          refine HRY.out.mono ?_
          rintro e wx ⟨rfl, rfl⟩
          rw [show ((0 : Int) == 0) = true from rfl]
          go_wp2_with fail
          go_quiet (first | (go_at_call 66; refine Calls.quiet_of_same (HF.out _)))
          go_wp2_with fail
          go_ret
          rw [HO.out]
          exact ⟨rfl, ((HRD.out.drewN _).put_err 4).1, (drewN_grown _ _ _).trans ((HRD.out.drewN _).put_err 4).2⟩
        · have HO := Lib.hid (show numOut l at_ 0 most = (v, at_ + sz, 0) from by
            unfold numOut
            rw [if_neg (by simp), if_neg (by rw [← HER.out]; simpa using h3), if_neg (by rw [← HV.out]; omega), ← HV.out, ← HSZ.out])
          have d5 : decide (most < (v : Int)) = false := by simp; omega
          clear h4 h5
          subst h3
          clear d3 d3n
          go_enter Tryz.func33, Tryz.ntmps33
          go_wp2_with fail
          refine HRY.out.mono ?_
          rintro e wx ⟨rfl, rfl⟩
          rw [show ((0 : Int) == 0) = true from rfl]
          go_wp2_with fail
          go_quiet (first | (go_at_call 66; refine Calls.quiet_of_same (HF.out _)))
          go_wp2_with fail
          go_ret
          rw [HO.out]
          exact ⟨rfl, ((HRD.out.drewN _).put_at (at_ + sz)).1, (drewN_grown _ _ _).trans ((HRD.out.drewN _).put_at (at_ + sz)).2⟩
    · have HO := Lib.hid (show numOut l at_ 0 most = (0, at_, (er : Int)) from by
        unfold numOut
        rw [if_neg (by simp), if_pos (by rw [← HER.out]; exact h3), ← HER.out])
      have d3 : ((er : Int) == 0) = false := by simp; omega
      have d3n : ((er : Int) != 0) = true := by simp; omega
      have HE3 := hid h3
      clear h3
      go_enter Tryz.func33, Tryz.ntmps33
      go_wp2_with fail
      refine HRY.out.mono ?_
      rintro e wx ⟨rfl, rfl⟩
      rw [show ((0 : Int) == 0) = true from rfl]
      go_wp2_with fail
      go_quiet (first | (go_at_call 66; refine Calls.quiet_of_same (HF.out _)))
      go_wp2_with fail
      go_ret
      rw [HO.out]
      exact ⟨rfl, ((HRD.out.drewN _).put_err er).1, (drewN_grown _ _ _).trans ((HRD.out.drewN _).put_err er).2⟩
  · have hd : (err == 0) = false := by simpa using he
    have HO := hid (show numOut l at_ err most = (0, at_, err) from by unfold numOut; rw [if_pos he])
    clear he h0 h1 h2 f1 f2 hs
    go_enter Tryz.func33, Tryz.ntmps33
    go_wp2_with fail
    refine HRY.out.mono ?_
    rintro e wx ⟨rfl, rfl⟩
    rw [hd]
    go_wp2
    go_ret
    rw [HO.out]
    exact ⟨rfl, HRD.out, World.grownBy.refl w _⟩
theorem cut2_fact {P : Program} (t e : TypeId) (i : TypeInfo) (ht : P.underlying t = some (.slice e)) (hi : P.info? e = some i) (hsz : i.size = 1) {w : World} {B : Nat} {A : Option Addr} {xs : List Value} (h : Sees w B A xs)
    (n k m c : Nat) (K H : Int) (kl kh : IntKind) (hn : xs.length = n) (hkm : k + m ≤ n) (hK : K = (k : Int)) (hH : H = ((k + m : Nat) : Int)) (hc : n ≤ c) :
    ∃ A2, (∀ wx, (Instr.slice t (.slice A n c) (some (.int kl K)) (some (.int kh H)) none).run P wx = .ok (.slice A2 m (c - k)) wx) ∧ Sees w B A2 ((xs.drop k).take m) := by
  refine ⟨if c = k then A else A.map (·.add k), fun wx => ?_, (h.cut (by omega)).take m⟩
  have he : P.elem t = e := by simp [Program.elem, ht]
  have ht' : P.underlying t = some (.slice (P.elem t)) := by rw [he]; exact ht
  rw [run_slice_lh wx t A n c ht' kl kh K H (by omega) (by omega) (by omega), he]
  simp [sizeOf, typeInfo, hi, hsz, sliced, hK, hH]
  try omega
theorem Rd.facts {w : World} {base g : Nat} {l : List UInt8} {at_ : Nat} {err : Int} (h : Rd w base g l at_ err) :
    ∃ A c, l.length ≤ c ∧ c ≤ maxLen ∧ w.cell? ⟨g, 0, none⟩ = some (.slice A l.length c) ∧ w.cell? ⟨g, 1, none⟩ = some (.int .i64 at_) ∧ w.cell? ⟨g, 2, none⟩ = some (.int .i64 err) ∧
      w.frozen? ⟨g, 1, none⟩ = false ∧ w.frozen? ⟨g, 2, none⟩ = false ∧ Sees w g A (bvs l) := by
  obtain ⟨A, c, hlc, hcm, ho, hs⟩ := h
  have h0 := ho.cell 0 (by simp)
  have h1 := ho.cell 1 (by simp)
  have h2 := ho.cell 2 (by simp)
  simp only [List.getElem_cons_succ, List.getElem_cons_zero] at h0 h1 h2
  exact ⟨A, c, hlc, hcm, h0, h1, h2, ho.frozen 1, ho.frozen 2, hs⟩
theorem numOut_at (l : List UInt8) (at_ : Nat) (err most : Int) (ha : at_ ≤ l.length) : (numOut l at_ err most).2.1 ≤ l.length := by
  have := scan_size (l.drop at_) 0 0
  rw [List.length_drop] at this
  unfold numOut
  split
  · exact ha
  · split
    · exact ha
    · split
      · exact ha
      · simp; omega
def strOut (l : List UInt8) (at_ : Nat) (err most : Int) : List UInt8 × Nat × Int :=
  if err ≠ 0 then ([], at_, err)
  else if (numOut l at_ 0 most).2.2 ≠ 0 then ([], (numOut l at_ 0 most).2)
  else if l.length < (numOut l at_ 0 most).2.1 + (numOut l at_ 0 most).1 then ([], at_, 2)
  else ((l.drop (numOut l at_ 0 most).2.1).take (numOut l at_ 0 most).1, (numOut l at_ 0 most).2.1 + (numOut l at_ 0 most).1, 0)
theorem rd_str (base g : Nat) (l : List UInt8) (at_ : Nat) (err most : Int) (w : World) (h : Rd w base g l at_ err) (ha : at_ ≤ l.length) (hm : l.length ≤ 2097152) :
    Calls Tryz.prog 91 #[.pointer (some ⟨g, 0, none⟩), .int .i64 most] w fun e w' =>
      e = .returned (.string (str (strOut l at_ err most).1)) ∧ Rd w' base g l (strOut l at_ err most).2.1 (strOut l at_ err most).2.2 ∧ w.grownBy w' (some g) := by
  obtain ⟨i0, hi, hz0, hz1, hz2⟩ := oct_parts
  have HRD := hid h
  have HRY := hid (rd_ready base g l at_ err w h)
  by_cases he : err = 0
  · subst he
    have HNUM := hid (rd_num base g l at_ 0 most w h ha hm)
    have hna := numOut_at l at_ 0 most ha
    obtain ⟨A, c, hlc, hcm, h0, h1, h2, f1, f2, hs⟩ := h.facts
    clear h hs hlc hcm
    obtain ⟨o, ho⟩ : ∃ o, o = numOut l at_ 0 most := ⟨_, rfl⟩
    have HFO := hid (show strOut l at_ 0 most = if o.2.2 ≠ 0 then ([], o.2) else if l.length < o.2.1 + o.1 then ([], at_, 2) else ((l.drop o.2.1).take o.1, o.2.1 + o.1, 0) from by unfold strOut; rw [if_neg (by simp), ← ho])
    rw [← ho] at HNUM hna
    clear ho
    obtain ⟨v, a1, e1⟩ := o
    simp only at HFO HNUM hna
    by_cases h3 : e1 = 0
    · subst h3
      by_cases h4 : l.length < a1 + v
      · have HO := hid (show strOut l at_ 0 most = ([], at_, 2) from by rw [HFO.out, if_neg (by simp), if_pos h4])
        have d4 : decide ((l.length : Int) - (a1 : Int) < (v : Int)) = true := by simp; omega
        clear h4
        go_enter Tryz.func91, Tryz.ntmps91
        go_wp2_with fail
        refine HRY.out.mono ?_
        rintro e wx ⟨rfl, rfl⟩
        rw [show ((0 : Int) == 0) = true from rfl]
        go_wp2_with fail
        refine HNUM.out.mono ?_
        rintro e w1 ⟨rfl, rd1, g1⟩
        clear h0 h1 h2 f1 f2
        obtain ⟨A, c, hlc, hcm, h0, h1, h2, f1, f2, hs⟩ := rd1.facts
        have HR1 := hid rd1
        clear rd1 hs hlc hcm
        go_wp2_with fail
        refine (rd_left base g l a1 0 w1 HR1.out hna hm).mono ?_
        rintro e w2 ⟨rfl, nk, rfl⟩
        go_wp2_with fail
        go_ret
        rw [HO.out]
        exact ⟨rfl, (((HR1.out.drewN nk).put_at at_).1.put_err 2).1, ((g1.trans (drewN_grown _ _ _)).trans ((HR1.out.drewN nk).put_at at_).2).trans (((HR1.out.drewN nk).put_at at_).1.put_err 2).2⟩
      · have HO := hid (show strOut l at_ 0 most = ((l.drop a1).take v, a1 + v, 0) from by rw [HFO.out, if_neg (by simp), if_neg h4])
        have d4 : decide ((l.length : Int) - (a1 : Int) < (v : Int)) = false := by simp; omega
        have hav : a1 + v ≤ l.length := by omega
        clear h4
        go_enter Tryz.func91, Tryz.ntmps91
        go_wp2_with fail
        refine HRY.out.mono ?_
        rintro e wx ⟨rfl, rfl⟩
        rw [show ((0 : Int) == 0) = true from rfl]
        go_wp2_with fail
        refine HNUM.out.mono ?_
        rintro e w1 ⟨rfl, rd1, g1⟩
        clear h0 h1 h2 f1 f2
        obtain ⟨A, c, hlc, hcm, h0, h1, h2, f1, f2, hs⟩ := rd1.facts
        have HR1 := hid rd1
        clear rd1
        obtain ⟨A2, hcut, hs2⟩ := cut2_fact (P := Tryz.prog) 22 5 i0 Tryz.underlying22 hi hz1 hs l.length a1 v c (a1 : Int) ((a1 : Int) + (v : Int)) .i64 .i64 (bvs_length l) hav rfl (by simp) hlc
        rw [show ((bvs l).drop a1).take v = bvs ((l.drop a1).take v) from by simp [bvs]] at hs2
        have HL := hid (show ((l.drop a1).take v).length = v from by rw [List.length_take, List.length_drop]; omega)
        obtain ⟨cc, hcc⟩ : ∃ cc, cc = c - a1 := ⟨_, rfl⟩
        rw [← hcc] at hcut
        have hstr := fun k : Nat => run_str (P := Tryz.prog) (w1.drewN k) g 22 5 9 Tryz.underlying22 Tryz.underlying5 Tryz.underlying9 A2 v cc ((l.drop a1).take v) HL.out (hs2.drewN k)
        obtain ⟨t, ht⟩ : ∃ t, t = str ((l.drop a1).take v) := ⟨_, rfl⟩
        rw [← ht] at hstr
        have HT := hid ht
        clear hcc hs hs2 hlc hcm ht
        go_wp2_with fail
        refine (rd_left base g l a1 0 w1 HR1.out hna hm).mono ?_
        rintro e w2 ⟨rfl, nk, rfl⟩
        go_wp2_with fail
        go_quiet (fail)
        go_wp2_with fail
        go_ret
        rw [HO.out, ← HT.out]
        exact ⟨rfl, ((HR1.out.drewN _).put_at (a1 + v)).1, (g1.trans (drewN_grown _ _ _)).trans ((HR1.out.drewN _).put_at (a1 + v)).2⟩
    · have HO := hid (show strOut l at_ 0 most = ([], a1, e1) from by rw [HFO.out, if_pos h3])
      have d4 : (e1 == 0) = false := by simpa using h3
      have d5 : (e1 != 0) = true := by simpa using h3
      clear h3
      go_enter Tryz.func91, Tryz.ntmps91
      go_wp2_with fail
      refine HRY.out.mono ?_
      rintro e wx ⟨rfl, rfl⟩
      rw [show ((0 : Int) == 0) = true from rfl]
      go_wp2_with fail
      refine HNUM.out.mono ?_
      rintro e w1 ⟨rfl, rd1, g1⟩
      clear h0 h1 h2 f1 f2
      obtain ⟨A, c, hlc, hcm, h0, h1, h2, f1, f2, hs⟩ := rd1.facts
      have HR1 := hid rd1
      clear rd1 hs hlc hcm
      go_wp2_with fail
      go_ret
      rw [HO.out]
      exact ⟨rfl, HR1.out, g1⟩
  · have hd : (err == 0) = false := by simpa using he
    have HO := hid (show strOut l at_ err most = ([], at_, err) from by unfold strOut; rw [if_pos he])
    clear he h
    go_enter Tryz.func91, Tryz.ntmps91
    go_wp2_with fail
    refine HRY.out.mono ?_
    rintro e wx ⟨rfl, rfl⟩
    rw [hd]
    go_wp2
    go_ret
    rw [HO.out]
    exact ⟨rfl, HRD.out, World.grownBy.refl w _⟩
def failOut (err e : Int) : Int := if err = 0 then e else err
theorem rd_fail (base g : Nat) (l : List UInt8) (at_ : Nat) (err e0 : Int) (w : World) (h : Rd w base g l at_ err) :
    Calls Tryz.prog 19 #[.pointer (some ⟨g, 0, none⟩), .int .i64 e0] w fun e w' => e = .returned (.tuple #[]) ∧ Rd w' base g l at_ (failOut err e0) ∧ w.grownBy w' (some g) := by
  have HRD := hid h
  have HRY := hid (rd_ready base g l at_ err w h)
  obtain ⟨A, c, hlc, hcm, h0, h1, h2, f1, f2, hs⟩ := h.facts
  clear h hs hlc hcm
  by_cases he : err = 0
  · have hd : (err == 0) = true := by simpa using he
    have HO := hid (show failOut err e0 = e0 from if_pos he)
    clear he
    go_enter Tryz.func19, Tryz.ntmps19
    go_wp2_with fail
    refine HRY.out.mono ?_
    rintro e wx ⟨rfl, rfl⟩
    rw [hd]
    go_wp2_with fail
    go_returns
    rw [HO.out]
    exact ⟨rfl, (HRD.out.put_err e0).1, (HRD.out.put_err e0).2⟩
  · have hd : (err == 0) = false := by simpa using he
    have HO := hid (show failOut err e0 = err from if_neg he)
    clear he
    go_enter Tryz.func19, Tryz.ntmps19
    go_wp2_with fail
    refine HRY.out.mono ?_
    rintro e wx ⟨rfl, rfl⟩
    rw [hd]
    go_wp2_with fail
    go_returns
    rw [HO.out]
    exact ⟨rfl, HRD.out, World.grownBy.refl w _⟩
def endOut (n at_ : Nat) (err : Int) : Int := if err ≠ 0 then err else if at_ < n then 3 else 0
theorem rd_end (base g : Nat) (l : List UInt8) (at_ : Nat) (err : Int) (w : World) (h : Rd w base g l at_ err) (ha : at_ ≤ l.length) (hm : l.length ≤ 2097152) :
    Calls Tryz.prog 25 #[.pointer (some ⟨g, 0, none⟩)] w fun e w' => e = .returned (.int .i64 (endOut l.length at_ err)) ∧ (∃ k, w' = w.drewN k) := by
  have HE := hid (rd_err base g l at_ err w h)
  have HL := hid (rd_left base g l at_ err w h ha hm)
  clear h
  by_cases he : err = 0
  · have hd : (err != 0) = false := by simpa using he
    by_cases hlt : at_ < l.length
    · have HO := hid (show endOut l.length at_ err = 3 from by unfold endOut; rw [if_neg (by simpa using he), if_pos hlt])
      have d2 : decide (at_ < l.length) = true := by simpa using hlt
      clear he hlt
      go_enter Tryz.func25, Tryz.ntmps25
      go_wp2_with fail
      refine HE.out.mono ?_
      rintro e wx ⟨rfl, rfl⟩
      go_wp2_with fail
      refine HL.out.mono ?_
      rintro e wx ⟨rfl, k, rfl⟩
      go_wp2_with fail
      go_ret
      rw [HO.out]
      exact ⟨rfl, k, rfl⟩
    · have HO := hid (show endOut l.length at_ err = 0 from by unfold endOut; rw [if_neg (by simpa using he), if_neg hlt])
      have d2 : decide (at_ < l.length) = false := by simpa using hlt
      clear he hlt
      go_enter Tryz.func25, Tryz.ntmps25
      go_wp2_with fail
      refine HE.out.mono ?_
      rintro e wx ⟨rfl, rfl⟩
      go_wp2_with fail
      refine HL.out.mono ?_
      rintro e wx ⟨rfl, k, rfl⟩
      go_wp2_with fail
      go_ret
      rw [HO.out]
      exact ⟨rfl, k, rfl⟩
  · have hd : (err != 0) = true := by simpa using he
    have HO := hid (show endOut l.length at_ err = err from by unfold endOut; rw [if_pos he])
    clear he
    go_enter Tryz.func25, Tryz.ntmps25
    go_wp2_with fail
    refine HE.out.mono ?_
    rintro e wx ⟨rfl, rfl⟩
    go_wp2_with fail
    go_ret
    rw [HO.out]
    exact ⟨rfl, 0, rfl⟩
theorem nil_ready (w : World) : Calls Tryz.prog 48 #[.pointer none] w fun e w' => e = .returned (.bool false) ∧ w = w' := by
  go_enter Tryz.func48, Tryz.ntmps48
  go_wp2_with fail
  go_returns
  exact ⟨rfl, rfl⟩
theorem nil_num (w : World) (most : Int) : Calls Tryz.prog 33 #[.pointer none, .int .i64 most] w fun e w' => e = .returned (.int .i64 0) ∧ w = w' := by
  go_enter Tryz.func33, Tryz.ntmps33
  go_wp2_with fail
  refine (nil_ready _).mono ?_
  rintro e wx ⟨rfl, rfl⟩
  go_wp2_with fail
  go_returns
  exact ⟨rfl, rfl⟩
theorem nil_err (w : World) : Calls Tryz.prog 9 #[.pointer none] w fun e w' => e = .returned (.int .i64 1) ∧ w = w' := by
  go_enter Tryz.func9, Tryz.ntmps9
  go_wp2_with fail
  go_returns
  exact ⟨rfl, rfl⟩
theorem nil_fail (w : World) (most : Int) : Calls Tryz.prog 19 #[.pointer none, .int .i64 most] w fun e w' => e = .returned (.tuple #[]) ∧ w = w' := by
  go_enter Tryz.func19, Tryz.ntmps19
  go_wp2_with fail
  refine (nil_ready _).mono ?_
  rintro e wx ⟨rfl, rfl⟩
  go_wp2_with fail
  go_returns
  exact ⟨rfl, rfl⟩
def Rr (w : World) (base g : Nat) (l : List UInt8) (err : Int) : Prop :=
  Own w base 29 (.slice (some ⟨g, 0, none⟩) 2 2) [.string (str l), .int .i64 err]
theorem Rr.facts {w : World} {base g : Nat} {l : List UInt8} {err : Int} (h : Rr w base g l err) :
    w.cell? ⟨g, 0, none⟩ = some (.string (str l)) ∧ w.cell? ⟨g, 1, none⟩ = some (.int .i64 err) ∧ w.frozen? ⟨g, 0, none⟩ = false ∧ w.frozen? ⟨g, 1, none⟩ = false := by
  have h0 := Own.cell h 0 (by simp)
  have h1 := Own.cell h 1 (by simp)
  simp only [List.getElem_cons_succ, List.getElem_cons_zero] at h0 h1
  exact ⟨h0, h1, Own.frozen h 0, Own.frozen h 1⟩
theorem Rr.drewN {w : World} {base g : Nat} {l : List UInt8} {err : Int} (h : Rr w base g l err) (k : Nat) : Rr (w.drewN k) base g l err := Own.drewN h k
theorem Rr.put_err {w : World} {base g : Nat} {l : List UInt8} {err : Int} (h : Rr w base g l err) (e : Int) :
    Rr (w.setCell ⟨g, 1, none⟩ (.int .i64 e)) base g l e ∧ w.grownBy (w.setCell ⟨g, 1, none⟩ (.int .i64 e)) (some g) :=
  World.ownsRow.stored (h : w.ownsRow _ _ _ _ _ _) 1 (.int .i64 e)
theorem Rr.put_str {w : World} {base g : Nat} {l : List UInt8} {err : Int} (h : Rr w base g l err) (l' : List UInt8) :
    Rr (w.setCell ⟨g, 0, none⟩ (.string (str l'))) base g l' err ∧ w.grownBy (w.setCell ⟨g, 0, none⟩ (.string (str l'))) (some g) :=
  World.ownsRow.stored (h : w.ownsRow _ _ _ _ _ _) 0 (.string (str l'))
theorem rr_fail (base g : Nat) (l : List UInt8) (err e0 : Int) (w : World) (h : Rr w base g l err) :
    Calls Tryz.prog 49 #[.pointer (some ⟨g, 0, none⟩), .int .i64 e0] w fun e w' => e = .returned (.tuple #[]) ∧ Rr w' base g l (failOut err e0) ∧ w.grownBy w' (some g) := by
  have HRD := hid h
  obtain ⟨h0, h1, f0, f1⟩ := h.facts
  clear h
  by_cases he : err = 0
  · have hd : (err == 0) = true := by simpa using he
    have HO := hid (show failOut err e0 = e0 from if_pos he)
    clear he
    go_enter Tryz.func49, Tryz.ntmps49
    go_wp2_with fail
    go_returns
    rw [HO.out]
    exact ⟨rfl, (HRD.out.put_err e0).1, (HRD.out.put_err e0).2⟩
  · have hd : (err == 0) = false := by simpa using he
    have HO := hid (show failOut err e0 = err from if_neg he)
    clear he
    go_enter Tryz.func49, Tryz.ntmps49
    go_wp2_with fail
    go_returns
    rw [HO.out]
    exact ⟨rfl, HRD.out, World.grownBy.refl w _⟩
theorem str_cut (l : List UInt8) (k : Nat) : (str l).extract k (str l).size = str (l.drop k) := by
  apply ByteArray.ext
  have hsz : (str l).size = l.length := str_size l
  rw [hsz]
  apply Array.ext'
  simp [str, ByteArray.data_extract, List.take_of_length_le]
theorem nextOut_size (l : List UInt8) (most : Int) : (nextOut l most).2.1 ≤ l.length := by
  have := scan_size l 0 0
  unfold nextOut
  split
  · simp
  · split
    · simp
    · omega
def rnumOut (l : List UInt8) (err most : Int) : Nat × List UInt8 × Int :=
  if err ≠ 0 then (0, l, err) else ((nextOut l most).1, l.drop (nextOut l most).2.1, ((nextOut l most).2.2 : Nat))
theorem rr_num (base g : Nat) (l : List UInt8) (err most : Int) (w : World) (h : Rr w base g l err) (hm : l.length ≤ 2097152) :
    Calls Tryz.prog 22 #[.pointer (some ⟨g, 0, none⟩), .int .i64 most] w fun e w' =>
      e = .returned (.int .i64 ((rnumOut l err most).1 : Nat)) ∧ Rr w' base g (rnumOut l err most).2.1 (rnumOut l err most).2.2 ∧ w.grownBy w' (some g) := by
  have HRD := hid h
  obtain ⟨h0, h1, f0, f1⟩ := h.facts
  have hsz := str_size l
  clear h
  by_cases he : err = 0
  · have hd : (err != 0) = false := by simpa using he
    have HNX := hid (fun wx : World => ref_next l most wx hm)
    have hns := nextOut_size l most
    have HO := hid (show rnumOut l err most = ((nextOut l most).1, l.drop (nextOut l most).2.1, (((nextOut l most).2.2 : Nat) : Int)) from by unfold rnumOut; rw [if_neg (by simpa using he)])
    obtain ⟨o, ho⟩ : ∃ o, o = nextOut l most := ⟨_, rfl⟩
    rw [← ho] at HNX HO hns
    obtain ⟨v, n, er⟩ := o
    simp only at HNX HO hns
    have HC := hid (str_cut l n)
    clear he ho
    go_enter Tryz.func22, Tryz.ntmps22
    go_wp2_with fail
    refine (HNX.out _).mono ?_
    rintro e wx ⟨rfl, rfl⟩
    go_wp2_with fail
    go_ret
    rw [HO.out, show (str l).extract n l.length = str (l.drop n) from by rw [← HC.out, hsz]]
    exact ⟨rfl, ((HRD.out.put_err er).1.put_str (l.drop n)).1, (HRD.out.put_err er).2.trans ((HRD.out.put_err er).1.put_str (l.drop n)).2⟩
  · have hd : (err != 0) = true := by simpa using he
    have HO := hid (show rnumOut l err most = (0, l, err) from by unfold rnumOut; rw [if_pos he])
    clear he
    go_enter Tryz.func22, Tryz.ntmps22
    go_wp2_with fail
    go_ret
    rw [HO.out]
    exact ⟨rfl, HRD.out, World.grownBy.refl w _⟩
theorem str_mid (l : List UInt8) (a b : Nat) : (str l).extract a (a + b) = str ((l.drop a).take b) := by
  apply ByteArray.ext
  apply Array.ext'
  simp [str, ByteArray.data_extract]
def rstrOut (l : List UInt8) (err most : Int) : List UInt8 × List UInt8 × Int :=
  if err ≠ 0 then ([], l, err)
  else if (nextOut l most).2.2 ≠ 0 then ([], l, ((nextOut l most).2.2 : Nat))
  else if l.length < (nextOut l most).2.1 + (nextOut l most).1 then ([], l, 2)
  else ((l.drop (nextOut l most).2.1).take (nextOut l most).1, l.drop ((nextOut l most).2.1 + (nextOut l most).1), 0)
theorem rr_str (base g : Nat) (l : List UInt8) (err most : Int) (w : World) (h : Rr w base g l err) (hm : l.length ≤ 2097152) :
    Calls Tryz.prog 96 #[.pointer (some ⟨g, 0, none⟩), .int .i64 most] w fun e w' =>
      e = .returned (.string (str (rstrOut l err most).1)) ∧ Rr w' base g (rstrOut l err most).2.1 (rstrOut l err most).2.2 ∧ w.grownBy w' (some g) := by
  have HRD := hid h
  obtain ⟨h0, h1, f0, f1⟩ := h.facts
  have hsz := str_size l
  clear h
  by_cases he : err = 0
  · have hd : (err != 0) = false := by simpa using he
    have HE := hid he
    have HNX := hid (fun wx : World => ref_next l most wx hm)
    have hns := nextOut_size l most
    have HFO := Lib.hid (show rstrOut l err most = if (nextOut l most).2.2 ≠ 0 then ([], l, (((nextOut l most).2.2 : Nat) : Int))
      else if l.length < (nextOut l most).2.1 + (nextOut l most).1 then ([], l, 2) else ((l.drop (nextOut l most).2.1).take (nextOut l most).1, l.drop ((nextOut l most).2.1 + (nextOut l most).1), 0) from by unfold rstrOut; rw [if_neg (by simpa using he)])
    obtain ⟨o, ho⟩ : ∃ o, o = nextOut l most := ⟨_, rfl⟩
    rw [← ho] at HNX HFO hns
    obtain ⟨v, n, er⟩ := o
    simp only at HNX HFO hns
    clear he ho
    by_cases h3 : er = 0
    · have d3 : ((er : Int) == 0) = true := by simp; omega
      have d3n : ((er : Int) != 0) = false := by simp; omega
      by_cases h4 : l.length < n + v
      · have HO := hid (show rstrOut l err most = ([], l, 2) from by rw [HFO.out, if_neg (by simpa using h3), if_pos h4])
        have d4 : decide ((l.length : Int) - (n : Int) < (v : Int)) = true := by simp; omega
        clear h3 h4
        go_enter Tryz.func96, Tryz.ntmps96
        go_wp2_with fail
        refine (HNX.out _).mono ?_
        rintro e wx ⟨rfl, rfl⟩
        go_wp2_with fail
        go_ret
        rw [HO.out]
        exact ⟨rfl, (HRD.out.put_err 2).1, (HRD.out.put_err 2).2⟩
      · have HO := hid (show rstrOut l err most = ((l.drop n).take v, l.drop (n + v), 0) from by rw [HFO.out, if_neg (by simpa using h3), if_neg h4])
        have d4 : decide ((l.length : Int) - (n : Int) < (v : Int)) = false := by simp; omega
        have hnv : n + v ≤ l.length := by omega
        have hb1 : (n : Int) + (v : Int) ≤ (l.length : Int) := by omega
        have hb2 : (n : Int) ≤ (n : Int) + (v : Int) := by omega
        have HC := hid (str_cut l (n + v))
        have HM := hid (str_mid l n v)
        clear h3 h4
        go_enter Tryz.func96, Tryz.ntmps96
        go_wp2_with fail
        refine (HNX.out _).mono ?_
        rintro e wx ⟨rfl, rfl⟩
        go_wp2_with fail
        go_ret
        rw [HO.out]
        have e1 : (str l).extract ((n : Int) + (v : Int)).toNat l.length = str (l.drop (n + v)) := by rw [← HC.out, hsz]; congr 1
        have e2 : (str l).extract n ((n : Int) + (v : Int)).toNat = str ((l.drop n).take v) := by rw [← HM.out]; congr 1
        have hr := HRD.out
        rw [HE.out] at hr
        first
          | (rw [e1, e2]; exact ⟨rfl, (hr.put_str (l.drop (n + v))).1, (hr.put_str (l.drop (n + v))).2⟩)
          | (rw [HM.out, show (str l).extract (n + v) l.length = str (l.drop (n + v)) from by rw [← HC.out, hsz]]; exact ⟨rfl, (hr.put_str (l.drop (n + v))).1, (hr.put_str (l.drop (n + v))).2⟩)
    · have HO := hid (show rstrOut l err most = ([], l, (er : Int)) from by rw [HFO.out, if_pos h3])
      have d3 : ((er : Int) == 0) = false := by simp; omega
      have d3n : ((er : Int) != 0) = true := by simp; omega
      clear h3
      go_enter Tryz.func96, Tryz.ntmps96
      go_wp2_with fail
      refine (HNX.out _).mono ?_
      rintro e wx ⟨rfl, rfl⟩
      go_wp2_with fail
      go_ret
      rw [HO.out]
      exact ⟨rfl, (HRD.out.put_err er).1, (HRD.out.put_err er).2⟩
  · have hd : (err != 0) = true := by simpa using he
    have HO := hid (show rstrOut l err most = ([], l, err) from by unfold rstrOut; rw [if_pos he])
    clear he
    go_enter Tryz.func96, Tryz.ntmps96
    go_wp2_with fail
    go_ret
    rw [HO.out]
    exact ⟨rfl, HRD.out, World.grownBy.refl w _⟩
theorem rr_end (base g : Nat) (l : List UInt8) (err : Int) (w : World) (h : Rr w base g l err) :
    Calls Tryz.prog 26 #[.pointer (some ⟨g, 0, none⟩)] w fun e w' => e = .returned (.int .i64 (endOut l.length 0 err)) ∧ w = w' := by
  obtain ⟨h0, h1, f0, f1⟩ := h.facts
  have hl := str_list l
  clear h
  by_cases he : err = 0
  · have hd : (err == 0) = true := by simpa using he
    by_cases hlt : l = []
    · have HO := hid (show endOut l.length 0 err = err from by unfold endOut; rw [if_neg (by simpa using he), if_neg (by rw [hlt]; simp), he])
      subst hlt
      have HO := hid (show endOut 0 0 err = err from HO.out)
      clear he
      go_enter Tryz.func26, Tryz.ntmps26
      go_wp2_with fail
      go_ret
      rw [HO.out]
      exact ⟨rfl, rfl⟩
    · have HO := hid (show endOut l.length 0 err = 3 from by unfold endOut; rw [if_neg (by simpa using he), if_pos (List.length_pos_iff.2 hlt)])
      have hb : (l == []) = false := by simpa using hlt
      have hb2 : ((str l).toList == []) = false := by rw [hl]; exact hb
      clear he
      go_enter Tryz.func26, Tryz.ntmps26
      go_wp2_with fail
      go_ret
      rw [HO.out]
      exact ⟨rfl, rfl⟩
  · have hd : (err == 0) = false := by simpa using he
    have HO := hid (show endOut l.length 0 err = err from by unfold endOut; rw [if_pos he])
    clear he
    go_enter Tryz.func26, Tryz.ntmps26
    go_wp2_with fail
    go_ret
    rw [HO.out]
    exact ⟨rfl, rfl⟩
theorem next_num (l : List UInt8) (at_ : Nat) (most : Int) :
    nextOut (l.drop at_) most = ((numOut l at_ 0 most).1, (numOut l at_ 0 most).2.1 - at_, (numOut l at_ 0 most).2.2.toNat) ∧ at_ ≤ (numOut l at_ 0 most).2.1 ∧ 0 ≤ (numOut l at_ 0 most).2.2 ∧
    ((numOut l at_ 0 most).2.2 ≠ 0 → (numOut l at_ 0 most).1 = 0 ∧ (numOut l at_ 0 most).2.1 = at_) := by
  unfold nextOut numOut
  rw [if_neg (show ¬ ((0 : Int) ≠ 0) by simp)]
  generalize scan (l.drop at_) 0 0 = s
  obtain ⟨v, n, e⟩ := s
  by_cases h1 : e = 0
  · subst h1
    by_cases h2 : 1099511627776 < (v : Int) ∨ most < (v : Int)
    · simp [h2]
    · simp [h2]
  · simp [h1]
theorem same_num (l : List UInt8) (at_ : Nat) (err most : Int) :
    rnumOut (l.drop at_) err most = ((numOut l at_ err most).1, l.drop (numOut l at_ err most).2.1, (numOut l at_ err most).2.2) := by
  by_cases he : err = 0
  · subst he
    obtain ⟨h1, h2, h3, h4⟩ := next_num l at_ most
    unfold rnumOut
    rw [if_neg (by simp), h1]
    generalize numOut l at_ 0 most = o at *
    obtain ⟨v, a, e⟩ := o
    simp only at *
    rw [List.drop_drop, show at_ + (a - at_) = a by omega, Int.toNat_of_nonneg h3]
  · unfold rnumOut numOut
    rw [if_pos he, if_pos he]
theorem same_str (l : List UInt8) (at_ : Nat) (err most : Int) (ha : at_ ≤ l.length) :
    rstrOut (l.drop at_) err most = ((strOut l at_ err most).1, l.drop (strOut l at_ err most).2.1, (strOut l at_ err most).2.2) := by
  by_cases he : err = 0
  · subst he
    obtain ⟨h1, h2, h3, h4⟩ := next_num l at_ most
    unfold rstrOut strOut
    simp only [ne_eq, not_true_eq_false, if_false]
    rw [h1]
    generalize numOut l at_ 0 most = o at *
    obtain ⟨v, a, e⟩ := o
    simp only at *
    by_cases h5 : e = 0
    · subst h5
      simp only [Int.toNat_zero, not_true_eq_false, if_false]
      rw [List.length_drop]
      by_cases h6 : l.length < a + v
      · rw [if_pos (by omega), if_pos h6]
      · rw [if_neg (by omega), if_neg h6, List.drop_drop, List.drop_drop, show at_ + (a - at_) = a by omega, show at_ + (a - at_ + v) = a + v by omega]
    · obtain ⟨rfl, rfl⟩ := h4 h5
      rw [if_pos (by omega), if_pos h5]
      simp [Int.toNat_of_nonneg h3]
  · unfold rstrOut strOut
    rw [if_pos he, if_pos he]
theorem same_end (l : List UInt8) (at_ : Nat) (err : Int) (ha : at_ ≤ l.length) : endOut (l.drop at_).length 0 err = endOut l.length at_ err := by
  unfold endOut
  rw [List.length_drop]
  by_cases h : at_ < l.length
  · rw [if_pos (show 0 < l.length - at_ by omega), if_pos h]
  · rw [if_neg (show ¬ 0 < l.length - at_ by omega), if_neg h]
end Go.Proofs.YtnhcjadkbogioaaGreat
namespace Go.Proofs.YtnhcjadkbogioaaGreat
theorem own : ownKnob Tryz.prog.godebug = none := by kernel_rfl
theorem laidOut : laidOutB Tryz.prog = true := by kernel_rfl
theorem boolT : Tryz.prog.underlying 4 = some .bool := Tryz.underlying4
end Go.Proofs.YtnhcjadkbogioaaGreat
namespace Go.Proofs.YtnhcjadkbogioaaGreat
open Go.ChangeShapes Go.WideShapes Go.ChangeAt Go.RowKit OctM
open Go.ChangeMaps (open_string shut_string)
theorem Rd.below {w w' : World} {base g : Nat} {l : List UInt8} {at_ : Nat} {err : Int} (h : Rd w base g l at_ err) (hb : Below w.heap.size w w') : Rd w' base g l at_ err := by
  have hg := h.block.2
  obtain ⟨A, c, h1, h2, h3, h4⟩ := h
  refine ⟨A, c, h1, h2, ?_, h4.below (hb.mono (Nat.le_of_lt hg))⟩
  refine ⟨h3.1, ?_⟩
  rcases h3.2 with ⟨hv, _⟩ | ⟨g', cap, cur, hv, hb', hh, h5⟩
  · cases hv
  · have e1 : g = g' := by injection hv with hv; injection hv with hv; injection hv
    subst e1
    exact .inr ⟨g, cap, cur, hv, hb', by rw [hb.block g hg]; exact hh, h5⟩
theorem on_below {w w1 w2 : World} (h : Below w.heap.size w w1) (h2 : Below w1.heap.size w1 w2) : Below w.heap.size w w2 := h.trans (h2.mono h.size)
end Go.Proofs.YtnhcjadkbogioaaGreat
namespace Go.Proofs.YtnhcjadkbogioaaGreat
open Go.ChangeShapes Go.WideShapes Go.ChangeAt Go.RowKit
def SeesP (w : World) (B : Nat) (A : Option Addr) (l : List (Int × Int)) : Prop :=
  0 < l.length → ∃ b o, A = some ⟨b, o, none⟩ ∧ b < B ∧ ∀ j (hj : j < l.length), w.cell? ⟨b, o + j * 2, none⟩ = some (.int .i64 l[j].1) ∧ w.cell? ⟨b, o + j * 2 + 1, none⟩ = some (.int .i64 l[j].2)
theorem SeesP.below {w w' : World} {B : Nat} {A : Option Addr} {l : List (Int × Int)} (h : SeesP w B A l) (hb : Below B w w') : SeesP w' B A l := fun h0 => by
  obtain ⟨b, o, e, hlt, hc⟩ := h h0
  exact ⟨b, o, e, hlt, fun j hj => ⟨(hb.cell (p := ⟨b, o + j * 2, none⟩) hlt).trans (hc j hj).1, (hb.cell (p := ⟨b, o + j * 2 + 1, none⟩) hlt).trans (hc j hj).2⟩⟩
end Go.Proofs.YtnhcjadkbogioaaGreat
