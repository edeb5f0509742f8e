/- octet's Reader: what each method returns, and what it leaves. -/
import Derived.Test.YticdpfjajkfheaaDoorOctB
namespace Go.Proofs.YticdpfjajkfheaaDoor
set_option linter.unusedVariables false
open Go.RowKit OctM

/-- A reader at block g: its bytes lie below g; how many are taken; its error. -/
def Rd (w : World) (base g : Nat) (l : List UInt8) (at_ : Nat) (err : Int) : Prop :=
  ∃ A c, l.length ≤ c ∧ c ≤ maxLen ∧ Own w base 83 (.slice (some ⟨g, 0, none⟩) 3 3) [.slice A l.length c, .int .i64 at_, .int .i64 err] ∧ Sees w g A (bvs l)
theorem Rd.block {w : World} {base g : Nat} {l : List UInt8} {at_ : Nat} {err : Int} (h : Rd w base g l at_ err) : base ≤ g ∧ g < w.heap.size := by
  obtain ⟨A, c, h1, h2, h3, h4⟩ := h
  exact h3.lt g rfl

set_option maxHeartbeats 800000 in
theorem rd_new (A : Option Addr) (n c : Nat) (l : List UInt8) (w : World) (hn : l.length = n) (hs : Sees w w.heap.size A (bvs l)) (hm : n ≤ 1048576) :
    Calls Tryd.prog 27 #[.slice A n c] w fun e w' => ∃ g, e = .returned (.pointer (some ⟨g, 0, none⟩)) ∧ Rd w' w.heap.size g l 0 0 ∧ Below w.heap.size w w' := by
  have HF := Lib.hid (oct_fresh A n c l 0 w hn hs hm (by omega))
  have HN := Lib.hid hn
  clear hn hs
  go_enter Tryd.func27, Tryd.ntmps27
  go_wp2_with fail
  refine HF.out.mono ?_
  rintro e w1 ⟨A1, c1, rfl, o1, b1⟩
  have s1 := o1.sees
  have k1 := o1.cap
  go_wp2_with fail
  go_ret
  refine ⟨w1.heap.size, rfl, ⟨A1, c1, by rw [HN.out]; exact k1.1, k1.2, ?_, s1.alloc (Nat.le_refl _) _⟩, b1.alloc b1.size _⟩
  have h := own_lit w1 w.heap.size 83 #[.slice A1 n c1, .int .i64 0, .int .i64 0] b1.size (by simp [maxLen])
  rw [HN.out]
  exact h

theorem rd_ready (base g : Nat) (l : List UInt8) (at_ : Nat) (err : Int) (w : World) (h : Rd w base g l at_ err) :
    Calls Tryd.prog 70 #[.pointer (some ⟨g, 0, none⟩)] w fun e w' => e = .returned (.bool (err == 0)) ∧ w = w' := by
  obtain ⟨A, c, hlc, hcm, ho, hs⟩ := h
  have h2 := ho.cell 2 (by simp)
  simp only [List.getElem_cons_succ, List.getElem_cons_zero] at h2
  clear ho hs
  go_enter Tryd.func70, Tryd.ntmps70
  go_wp2_with fail
  go_ret
  exact ⟨rfl, rfl⟩
theorem rd_err (base g : Nat) (l : List UInt8) (at_ : Nat) (err : Int) (w : World) (h : Rd w base g l at_ err) :
    Calls Tryd.prog 30 #[.pointer (some ⟨g, 0, none⟩)] w fun e w' => e = .returned (.int .i64 err) ∧ w = w' := by
  obtain ⟨A, c, hlc, hcm, ho, hs⟩ := h
  have h2 := ho.cell 2 (by simp)
  simp only [List.getElem_cons_succ, List.getElem_cons_zero] at h2
  clear ho hs
  go_enter Tryd.func30, Tryd.ntmps30
  go_wp2_with fail
  go_ret
  exact ⟨rfl, rfl⟩
theorem rd_left (base g : Nat) (l : List UInt8) (at_ : Nat) (err : Int) (w : World) (h : Rd w base g l at_ err) (ha : at_ ≤ l.length) (hm : l.length ≤ 2097152) :
    Calls Tryd.prog 31 #[.pointer (some ⟨g, 0, none⟩)] w fun e w' => e = .returned (.int .i64 ((l.length : Int) - at_)) ∧ (∃ k, w' = w.drewN k) := by
  obtain ⟨A, c, hlc, hcm, ho, hs⟩ := h
  have h0 := ho.cell 0 (by simp)
  have h1 := ho.cell 1 (by simp)
  simp only [List.getElem_cons_succ, List.getElem_cons_zero] at h0 h1
  clear ho hs
  go_enter Tryd.func31, Tryd.ntmps31
  go_wp2_with fail
  go_quiet (fail)
  go_wp2
  go_ret
  exact ⟨rfl, _, rfl⟩

theorem drewN_grown (w : World) (k : Nat) (row : Option Nat) : w.grownBy (w.drewN k) row := ⟨rfl, rfl, rfl, Nat.le_refl _, fun _ _ _ => rfl⟩
theorem Rd.drewN {w : World} {base g : Nat} {l : List UInt8} {at_ : Nat} {err : Int} (h : Rd w base g l at_ err) (k : Nat) : Rd (w.drewN k) base g l at_ err := by
  obtain ⟨A, c, h1, h2, h3, h4⟩ := h
  exact ⟨A, c, h1, h2, h3.drewN k, h4.drewN k⟩
theorem Rd.put_err {w : World} {base g : Nat} {l : List UInt8} {at_ : Nat} {err : Int} (h : Rd w base g l at_ err) (e : Int) :
    Rd (w.setCell ⟨g, 2, none⟩ (.int .i64 e)) base g l at_ e ∧ w.grownBy (w.setCell ⟨g, 2, none⟩ (.int .i64 e)) (some g) := by
  obtain ⟨A, c, h1, h2, h3, h4⟩ := h
  have h5 := World.ownsRow.stored (h3 : w.ownsRow _ _ _ _ _ _) 2 (.int .i64 e)
  exact ⟨⟨A, c, h1, h2, h5.1, h4.setCell (Nat.le_refl _) _⟩, h5.2⟩
theorem Rd.put_at {w : World} {base g : Nat} {l : List UInt8} {at_ : Nat} {err : Int} (h : Rd w base g l at_ err) (n : Nat) :
    Rd (w.setCell ⟨g, 1, none⟩ (.int .i64 n)) base g l n err ∧ w.grownBy (w.setCell ⟨g, 1, none⟩ (.int .i64 n)) (some g) := by
  obtain ⟨A, c, h1, h2, h3, h4⟩ := h
  have h5 := World.ownsRow.stored (h3 : w.ownsRow _ _ _ _ _ _) 1 (.int .i64 n)
  exact ⟨⟨A, c, h1, h2, h5.1, h4.setCell (Nat.le_refl _) _⟩, h5.2⟩

/-- What taking a number gives: the number, how many bytes are taken then, the error then. -/
def numOut (l : List UInt8) (at_ : Nat) (err most : Int) : Nat × Nat × Int :=
  if err ≠ 0 then (0, at_, err)
  else if (scan (l.drop at_) 0 0).2.2 ≠ 0 then (0, at_, ((scan (l.drop at_) 0 0).2.2 : Nat))
  else if 1099511627776 < ((scan (l.drop at_) 0 0).1 : Int) ∨ most < ((scan (l.drop at_) 0 0).1 : Int) then (0, at_, 4)
  else ((scan (l.drop at_) 0 0).1, at_ + (scan (l.drop at_) 0 0).2.1, 0)
theorem scan_size : ∀ (l : List UInt8) (i v : Nat), (scan l i v).2.1 ≤ i + l.length
  | [], i, v => by unfold scan; split <;> simp
  | c :: l, i, v => by
    unfold scan
    have := scan_size l (i + 1) (v + c.toNat % 128 * 128 ^ i)
    split
    · simp
    · split
      · split <;> simp
      · simp; omega

set_option maxHeartbeats 1600000 in
theorem rd_num (base g : Nat) (l : List UInt8) (at_ : Nat) (err most : Int) (w : World) (h : Rd w base g l at_ err) (ha : at_ ≤ l.length) (hm : l.length ≤ 2097152) :
    Calls Tryd.prog 50 #[.pointer (some ⟨g, 0, none⟩), .int .i64 most] w fun e w' =>
      e = .returned (.int .i64 ((numOut l at_ err most).1 : Nat)) ∧ Rd w' base g l (numOut l at_ err most).2.1 (numOut l at_ err most).2.2 ∧ w.grownBy w' (some g) := by
  obtain ⟨i0, hi, hz0, hz1, hz2⟩ := oct_parts
  have HRD := Lib.hid h
  have HRY := Lib.hid (rd_ready base g l at_ err w h)
  obtain ⟨A, c, hlc, hcm, ho, hs⟩ := h
  have h0 := ho.cell 0 (by simp)
  have h1 := ho.cell 1 (by simp)
  have h2 := ho.cell 2 (by simp)
  have f1 := ho.frozen 1
  have f2 := ho.frozen 2
  simp only [List.getElem_cons_succ, List.getElem_cons_zero] at h0 h1 h2
  clear ho
  by_cases he : err = 0
  · subst he
    obtain ⟨A2, hcut, hs2⟩ := cut_fact (P := Tryd.prog) 48 5 i0 Tryd.underlying48 hi hz1 hs l.length (l.length - at_) at_ c (at_ : Int) .i64 (bvs_length l) (by omega) rfl hlc
    rw [show (bvs l).drop at_ = bvs (l.drop at_) from by simp [bvs]] at hs2
    have HL := Lib.hid (show (l.drop at_).length = l.length - at_ from by simp)
    obtain ⟨q, hq⟩ : ∃ q, q = l.length - at_ := ⟨_, rfl⟩
    rw [← hq] at hcut HL
    have hql : q + at_ = l.length := by omega
    clear hq
    obtain ⟨cc, hcc⟩ : ∃ cc, cc = c - at_ := ⟨_, rfl⟩
    rw [← hcc] at hcut
    clear hcc
    obtain ⟨v, hv⟩ : ∃ v, v = (scan (l.drop at_) 0 0).1 := ⟨_, rfl⟩
    obtain ⟨sz, hsz⟩ : ∃ sz, sz = (scan (l.drop at_) 0 0).2.1 := ⟨_, rfl⟩
    obtain ⟨er, her⟩ : ∃ er, er = (scan (l.drop at_) 0 0).2.2 := ⟨_, rfl⟩
    have hszl : sz ≤ q := by
      have := scan_size (l.drop at_) 0 0
      rw [← hsz, HL.out] at this
      omega
    have HF := Lib.hid (fun k : Nat => (oct_first A2 q cc (l.drop at_) (w.drewN k) g HL.out (hs2.drewN k) (by omega)).mono (fun _ _ h => (⟨h.1, h.2.symm⟩ : _ ∧ _)))
    rw [← hv, ← hsz, ← her] at HF
    have HV := Lib.hid hv
    have HSZ := Lib.hid hsz
    have HER := Lib.hid her
    clear hv hsz her hs hs2
    by_cases h3 : er = 0
    · have d3 : ((er : Int) == 0) = true := by simp; omega
      have d3n : ((er : Int) != 0) = false := by simp; omega
      have HE3 := Lib.hid h3
      by_cases h4 : 1099511627776 < (v : Int)
      · have HO := Lib.hid (show numOut l at_ 0 most = (0, at_, 4) from by
          unfold numOut
          rw [if_neg (by simp), if_neg (by rw [← HER.out]; simpa using h3), if_pos (by rw [← HV.out]; exact .inl h4)])
        have d4 : decide ((1099511627776 : Int) < (v : Int)) = true := by simpa using h4
        clear h3 h4
        go_enter Tryd.func50, Tryd.ntmps50
        go_wp2_with fail
        refine HRY.out.mono ?_
        rintro e wx ⟨rfl, rfl⟩
        rw [show ((0 : Int) == 0) = true from rfl]
        go_wp2_with fail
        go_quiet (first | (go_at_call 71; refine Calls.quiet_of_same (HF.out _)))
        go_wp2_with fail
        go_ret
        rw [HO.out]
        exact ⟨rfl, ((HRD.out.drewN _).put_err 4).1, (drewN_grown _ _ _).trans ((HRD.out.drewN _).put_err 4).2⟩
      · have d4 : decide ((1099511627776 : Int) < (v : Int)) = false := by simp; omega
        by_cases h5 : most < (v : Int)
        · have HO := Lib.hid (show numOut l at_ 0 most = (0, at_, 4) from by
            unfold numOut
            rw [if_neg (by simp), if_neg (by rw [← HER.out]; simpa using h3), if_pos (by rw [← HV.out]; exact .inr h5)])
          have d5 : decide (most < (v : Int)) = true := by simpa using h5
          clear h3 h4 h5
          go_enter Tryd.func50, Tryd.ntmps50
          go_wp2_with fail
          refine HRY.out.mono ?_
          rintro e wx ⟨rfl, rfl⟩
          rw [show ((0 : Int) == 0) = true from rfl]
          go_wp2_with fail
          go_quiet (first | (go_at_call 71; refine Calls.quiet_of_same (HF.out _)))
          go_wp2_with fail
          go_ret
          rw [HO.out]
          exact ⟨rfl, ((HRD.out.drewN _).put_err 4).1, (drewN_grown _ _ _).trans ((HRD.out.drewN _).put_err 4).2⟩
        · have HO := Lib.hid (show numOut l at_ 0 most = (v, at_ + sz, 0) from by
            unfold numOut
            rw [if_neg (by simp), if_neg (by rw [← HER.out]; simpa using h3), if_neg (by rw [← HV.out]; omega), ← HV.out, ← HSZ.out])
          have d5 : decide (most < (v : Int)) = false := by simp; omega
          clear h4 h5
          subst h3
          clear d3 d3n
          go_enter Tryd.func50, Tryd.ntmps50
          go_wp2_with fail
          refine HRY.out.mono ?_
          rintro e wx ⟨rfl, rfl⟩
          rw [show ((0 : Int) == 0) = true from rfl]
          go_wp2_with fail
          go_quiet (first | (go_at_call 71; refine Calls.quiet_of_same (HF.out _)))
          go_wp2_with fail
          go_ret
          rw [HO.out]
          exact ⟨rfl, ((HRD.out.drewN _).put_at (at_ + sz)).1, (drewN_grown _ _ _).trans ((HRD.out.drewN _).put_at (at_ + sz)).2⟩
    · have HO := Lib.hid (show numOut l at_ 0 most = (0, at_, (er : Int)) from by
        unfold numOut
        rw [if_neg (by simp), if_pos (by rw [← HER.out]; exact h3), ← HER.out])
      have d3 : ((er : Int) == 0) = false := by simp; omega
      have d3n : ((er : Int) != 0) = true := by simp; omega
      have HE3 := Lib.hid h3
      clear h3
      go_enter Tryd.func50, Tryd.ntmps50
      go_wp2_with fail
      refine HRY.out.mono ?_
      rintro e wx ⟨rfl, rfl⟩
      rw [show ((0 : Int) == 0) = true from rfl]
      go_wp2_with fail
      go_quiet (first | (go_at_call 71; refine Calls.quiet_of_same (HF.out _)))
      go_wp2_with fail
      go_ret
      rw [HO.out]
      exact ⟨rfl, ((HRD.out.drewN _).put_err er).1, (drewN_grown _ _ _).trans ((HRD.out.drewN _).put_err er).2⟩
  · have hd : (err == 0) = false := by simpa using he
    have HO := Lib.hid (show numOut l at_ err most = (0, at_, err) from by unfold numOut; rw [if_pos he])
    clear he h0 h1 h2 f1 f2 hs
    go_enter Tryd.func50, Tryd.ntmps50
    go_wp2_with fail
    refine HRY.out.mono ?_
    rintro e wx ⟨rfl, rfl⟩
    rw [hd]
    go_wp2
    go_ret
    rw [HO.out]
    exact ⟨rfl, HRD.out, World.grownBy.refl w _⟩
end Go.Proofs.YticdpfjajkfheaaDoor
