/- octet's Reader: what each method returns, and what it leaves. -/
import Derived.Test.YtgpbglmlakildaaE4
import Derived.Handy
import Derived.Test.YtgpbglmlakildaaE7
import Derived.Test.YtgpbglmlakildaaE1
import Derived.Test.YtgpbglmlakildaaE3
import Derived.Laws.StructEq
namespace Go.Proofs.Ytgpbglmlakildaa
set_option linter.unusedVariables false
open Go.RowKit OctM

/-- A reader at block g: its bytes lie below g; how many are taken; its error. -/
def Rd (w : World) (base g : Nat) (l : List UInt8) (at_ : Nat) (err : Int) : Prop :=
  ∃ A c, l.length ≤ c ∧ c ≤ maxLen ∧ Own w base 93 (.slice (some ⟨g, 0, none⟩) 3 3) [.slice A l.length c, .int .i64 at_, .int .i64 err] ∧ Sees w g A (bvs l)
theorem Rd.block {w : World} {base g : Nat} {l : List UInt8} {at_ : Nat} {err : Int} (h : Rd w base g l at_ err) : base ≤ g ∧ g < w.heap.size := by
  obtain ⟨A, c, h1, h2, h3, h4⟩ := h
  exact h3.lt g rfl

set_option maxHeartbeats 800000 in
theorem rd_new (A : Option Addr) (n c : Nat) (l : List UInt8) (w : World) (hn : l.length = n) (hs : Sees w w.heap.size A (bvs l)) (hm : n ≤ 1048576) :
    Calls Try.prog 35 #[.slice A n c] w fun e w' => ∃ g, e = .returned (.pointer (some ⟨g, 0, none⟩)) ∧ Rd w' w.heap.size g l 0 0 ∧ Below w.heap.size w w' := by
  have HF := Lib.hid (oct_fresh A n c l 0 w hn hs hm (by omega))
  have HN := Lib.hid hn
  clear hn hs
  go_enter Try.func35, Try.ntmps35
  go_wp2_with fail
  refine HF.out.mono ?_
  rintro e w1 ⟨A1, c1, rfl, o1, b1⟩
  have s1 := o1.sees
  have k1 := o1.cap
  go_wp2_with fail
  go_ret
  refine ⟨w1.heap.size, rfl, ⟨A1, c1, by rw [HN.out]; exact k1.1, k1.2, ?_, s1.alloc (Nat.le_refl _) _⟩, b1.alloc b1.size _⟩
  have h := own_lit w1 w.heap.size 93 #[.slice A1 n c1, .int .i64 0, .int .i64 0] b1.size (by simp [maxLen])
  rw [HN.out]
  exact h

theorem rd_ready (base g : Nat) (l : List UInt8) (at_ : Nat) (err : Int) (w : World) (h : Rd w base g l at_ err) :
    Calls Try.prog 95 #[.pointer (some ⟨g, 0, none⟩)] w fun e w' => e = .returned (.bool (err == 0)) ∧ w = w' := by
  obtain ⟨A, c, hlc, hcm, ho, hs⟩ := h
  have h2 := ho.cell 2 (by simp)
  simp only [List.getElem_cons_succ, List.getElem_cons_zero] at h2
  clear ho hs
  go_enter Try.func95, Try.ntmps95
  go_wp2_with fail
  go_ret
  exact ⟨rfl, rfl⟩
theorem rd_err (base g : Nat) (l : List UInt8) (at_ : Nat) (err : Int) (w : World) (h : Rd w base g l at_ err) :
    Calls Try.prog 38 #[.pointer (some ⟨g, 0, none⟩)] w fun e w' => e = .returned (.int .i64 err) ∧ w = w' := by
  obtain ⟨A, c, hlc, hcm, ho, hs⟩ := h
  have h2 := ho.cell 2 (by simp)
  simp only [List.getElem_cons_succ, List.getElem_cons_zero] at h2
  clear ho hs
  go_enter Try.func38, Try.ntmps38
  go_wp2_with fail
  go_ret
  exact ⟨rfl, rfl⟩
theorem rd_left (base g : Nat) (l : List UInt8) (at_ : Nat) (err : Int) (w : World) (h : Rd w base g l at_ err) (ha : at_ ≤ l.length) (hm : l.length ≤ 2097152) :
    Calls Try.prog 39 #[.pointer (some ⟨g, 0, none⟩)] w fun e w' => e = .returned (.int .i64 ((l.length : Int) - at_)) ∧ (∃ k, w' = w.drewN k) := by
  obtain ⟨A, c, hlc, hcm, ho, hs⟩ := h
  have h0 := ho.cell 0 (by simp)
  have h1 := ho.cell 1 (by simp)
  simp only [List.getElem_cons_succ, List.getElem_cons_zero] at h0 h1
  clear ho hs
  go_enter Try.func39, Try.ntmps39
  go_wp2_with fail
  go_quiet (fail)
  go_wp2
  go_ret
  exact ⟨rfl, _, rfl⟩

theorem drewN_grown (w : World) (k : Nat) (row : Option Nat) : w.grownBy (w.drewN k) row := ⟨rfl, rfl, rfl, Nat.le_refl _, fun _ _ _ => rfl⟩
theorem Rd.drewN {w : World} {base g : Nat} {l : List UInt8} {at_ : Nat} {err : Int} (h : Rd w base g l at_ err) (k : Nat) : Rd (w.drewN k) base g l at_ err := by
  obtain ⟨A, c, h1, h2, h3, h4⟩ := h
  exact ⟨A, c, h1, h2, h3.drewN k, h4.drewN k⟩
theorem Rd.put_err {w : World} {base g : Nat} {l : List UInt8} {at_ : Nat} {err : Int} (h : Rd w base g l at_ err) (e : Int) :
    Rd (w.setCell ⟨g, 2, none⟩ (.int .i64 e)) base g l at_ e ∧ w.grownBy (w.setCell ⟨g, 2, none⟩ (.int .i64 e)) (some g) := by
  obtain ⟨A, c, h1, h2, h3, h4⟩ := h
  have h5 := World.ownsRow.stored (h3 : w.ownsRow _ _ _ _ _ _) 2 (.int .i64 e)
  exact ⟨⟨A, c, h1, h2, h5.1, h4.setCell (Nat.le_refl _) _⟩, h5.2⟩
theorem Rd.put_at {w : World} {base g : Nat} {l : List UInt8} {at_ : Nat} {err : Int} (h : Rd w base g l at_ err) (n : Nat) :
    Rd (w.setCell ⟨g, 1, none⟩ (.int .i64 n)) base g l n err ∧ w.grownBy (w.setCell ⟨g, 1, none⟩ (.int .i64 n)) (some g) := by
  obtain ⟨A, c, h1, h2, h3, h4⟩ := h
  have h5 := World.ownsRow.stored (h3 : w.ownsRow _ _ _ _ _ _) 1 (.int .i64 n)
  exact ⟨⟨A, c, h1, h2, h5.1, h4.setCell (Nat.le_refl _) _⟩, h5.2⟩

/-- What taking a number gives: the number, how many bytes are taken then, the error then. -/
def numOut (l : List UInt8) (at_ : Nat) (err most : Int) : Nat × Nat × Int :=
  if err ≠ 0 then (0, at_, err)
  else if (scan (l.drop at_) 0 0).2.2 ≠ 0 then (0, at_, ((scan (l.drop at_) 0 0).2.2 : Nat))
  else if 1099511627776 < ((scan (l.drop at_) 0 0).1 : Int) ∨ most < ((scan (l.drop at_) 0 0).1 : Int) then (0, at_, 4)
  else ((scan (l.drop at_) 0 0).1, at_ + (scan (l.drop at_) 0 0).2.1, 0)
theorem scan_size : ∀ (l : List UInt8) (i v : Nat), (scan l i v).2.1 ≤ i + l.length
  | [], i, v => by unfold scan; split <;> simp
  | c :: l, i, v => by
    unfold scan
    have := scan_size l (i + 1) (v + c.toNat % 128 * 128 ^ i)
    split
    · simp
    · split
      · split <;> simp
      · simp; omega

set_option maxHeartbeats 1600000 in
theorem rd_num (base g : Nat) (l : List UInt8) (at_ : Nat) (err most : Int) (w : World) (h : Rd w base g l at_ err) (ha : at_ ≤ l.length) (hm : l.length ≤ 2097152) :
    Calls Try.prog 69 #[.pointer (some ⟨g, 0, none⟩), .int .i64 most] w fun e w' =>
      e = .returned (.int .i64 ((numOut l at_ err most).1 : Nat)) ∧ Rd w' base g l (numOut l at_ err most).2.1 (numOut l at_ err most).2.2 ∧ w.grownBy w' (some g) := by
  obtain ⟨i0, hi, hz0, hz1, hz2⟩ := oct_parts
  have HRD := Lib.hid h
  have HRY := Lib.hid (rd_ready base g l at_ err w h)
  obtain ⟨A, c, hlc, hcm, ho, hs⟩ := h
  have h0 := ho.cell 0 (by simp)
  have h1 := ho.cell 1 (by simp)
  have h2 := ho.cell 2 (by simp)
  have f1 := ho.frozen 1
  have f2 := ho.frozen 2
  simp only [List.getElem_cons_succ, List.getElem_cons_zero] at h0 h1 h2
  clear ho
  by_cases he : err = 0
  · subst he
    obtain ⟨A2, hcut, hs2⟩ := cut_fact (P := Try.prog) 44 5 i0 Try.underlying44 hi hz1 hs l.length (l.length - at_) at_ c (at_ : Int) .i64 (bvs_length l) (by omega) rfl hlc
    rw [show (bvs l).drop at_ = bvs (l.drop at_) from by simp [bvs]] at hs2
    have HL := Lib.hid (show (l.drop at_).length = l.length - at_ from by simp)
    obtain ⟨q, hq⟩ : ∃ q, q = l.length - at_ := ⟨_, rfl⟩
    rw [← hq] at hcut HL
    have hql : q + at_ = l.length := by omega
    clear hq
    obtain ⟨cc, hcc⟩ : ∃ cc, cc = c - at_ := ⟨_, rfl⟩
    rw [← hcc] at hcut
    clear hcc
    obtain ⟨v, hv⟩ : ∃ v, v = (scan (l.drop at_) 0 0).1 := ⟨_, rfl⟩
    obtain ⟨sz, hsz⟩ : ∃ sz, sz = (scan (l.drop at_) 0 0).2.1 := ⟨_, rfl⟩
    obtain ⟨er, her⟩ : ∃ er, er = (scan (l.drop at_) 0 0).2.2 := ⟨_, rfl⟩
    have hszl : sz ≤ q := by
      have := scan_size (l.drop at_) 0 0
      rw [← hsz, HL.out] at this
      omega
    have HF := Lib.hid (fun k : Nat => (oct_first A2 q cc (l.drop at_) (w.drewN k) g HL.out (hs2.drewN k) (by omega)).mono (fun _ _ h => (⟨h.1, h.2.symm⟩ : _ ∧ _)))
    rw [← hv, ← hsz, ← her] at HF
    have HV := Lib.hid hv
    have HSZ := Lib.hid hsz
    have HER := Lib.hid her
    clear hv hsz her hs hs2
    by_cases h3 : er = 0
    · have d3 : ((er : Int) == 0) = true := by simp; omega
      have d3n : ((er : Int) != 0) = false := by simp; omega
      have HE3 := Lib.hid h3
      by_cases h4 : 1099511627776 < (v : Int)
      · have HO := Lib.hid (show numOut l at_ 0 most = (0, at_, 4) from by
          unfold numOut
          rw [if_neg (by simp), if_neg (by rw [← HER.out]; simpa using h3), if_pos (by rw [← HV.out]; exact .inl h4)])
        have d4 : decide ((1099511627776 : Int) < (v : Int)) = true := by simpa using h4
        clear h3 h4
        go_enter Try.func69, Try.ntmps69
        go_wp2_with fail
        refine HRY.out.mono ?_
        rintro e wx ⟨rfl, rfl⟩
        rw [show ((0 : Int) == 0) = true from rfl]
        go_wp2_with fail
        go_quiet (first | (go_at_call 96; refine Calls.quiet_of_same (HF.out _)))
        go_wp2_with fail
        go_ret
        rw [HO.out]
        exact ⟨rfl, ((HRD.out.drewN _).put_err 4).1, (drewN_grown _ _ _).trans ((HRD.out.drewN _).put_err 4).2⟩
      · have d4 : decide ((1099511627776 : Int) < (v : Int)) = false := by simp; omega
        by_cases h5 : most < (v : Int)
        · have HO := Lib.hid (show numOut l at_ 0 most = (0, at_, 4) from by
            unfold numOut
            rw [if_neg (by simp), if_neg (by rw [← HER.out]; simpa using h3), if_pos (by rw [← HV.out]; exact .inr h5)])
          have d5 : decide (most < (v : Int)) = true := by simpa using h5
          clear h3 h4 h5
          go_enter Try.func69, Try.ntmps69
          go_wp2_with fail
          refine HRY.out.mono ?_
          rintro e wx ⟨rfl, rfl⟩
          rw [show ((0 : Int) == 0) = true from rfl]
          go_wp2_with fail
          go_quiet (first | (go_at_call 96; refine Calls.quiet_of_same (HF.out _)))
          go_wp2_with fail
          go_ret
          rw [HO.out]
          exact ⟨rfl, ((HRD.out.drewN _).put_err 4).1, (drewN_grown _ _ _).trans ((HRD.out.drewN _).put_err 4).2⟩
        · have HO := Lib.hid (show numOut l at_ 0 most = (v, at_ + sz, 0) from by
            unfold numOut
            rw [if_neg (by simp), if_neg (by rw [← HER.out]; simpa using h3), if_neg (by rw [← HV.out]; omega), ← HV.out, ← HSZ.out])
          have d5 : decide (most < (v : Int)) = false := by simp; omega
          clear h4 h5
          subst h3
          clear d3 d3n
          go_enter Try.func69, Try.ntmps69
          go_wp2_with fail
          refine HRY.out.mono ?_
          rintro e wx ⟨rfl, rfl⟩
          rw [show ((0 : Int) == 0) = true from rfl]
          go_wp2_with fail
          go_quiet (first | (go_at_call 96; refine Calls.quiet_of_same (HF.out _)))
          go_wp2_with fail
          go_ret
          rw [HO.out]
          exact ⟨rfl, ((HRD.out.drewN _).put_at (at_ + sz)).1, (drewN_grown _ _ _).trans ((HRD.out.drewN _).put_at (at_ + sz)).2⟩
    · have HO := Lib.hid (show numOut l at_ 0 most = (0, at_, (er : Int)) from by
        unfold numOut
        rw [if_neg (by simp), if_pos (by rw [← HER.out]; exact h3), ← HER.out])
      have d3 : ((er : Int) == 0) = false := by simp; omega
      have d3n : ((er : Int) != 0) = true := by simp; omega
      have HE3 := Lib.hid h3
      clear h3
      go_enter Try.func69, Try.ntmps69
      go_wp2_with fail
      refine HRY.out.mono ?_
      rintro e wx ⟨rfl, rfl⟩
      rw [show ((0 : Int) == 0) = true from rfl]
      go_wp2_with fail
      go_quiet (first | (go_at_call 96; refine Calls.quiet_of_same (HF.out _)))
      go_wp2_with fail
      go_ret
      rw [HO.out]
      exact ⟨rfl, ((HRD.out.drewN _).put_err er).1, (drewN_grown _ _ _).trans ((HRD.out.drewN _).put_err er).2⟩
  · have hd : (err == 0) = false := by simpa using he
    have HO := Lib.hid (show numOut l at_ err most = (0, at_, err) from by unfold numOut; rw [if_pos he])
    clear he h0 h1 h2 f1 f2 hs
    go_enter Try.func69, Try.ntmps69
    go_wp2_with fail
    refine HRY.out.mono ?_
    rintro e wx ⟨rfl, rfl⟩
    rw [hd]
    go_wp2
    go_ret
    rw [HO.out]
    exact ⟨rfl, HRD.out, World.grownBy.refl w _⟩
end Go.Proofs.Ytgpbglmlakildaa

/- octet's Reader: texts and truths. -/
namespace Go.Proofs.Ytgpbglmlakildaa
set_option linter.unusedVariables false
open Go.RowKit OctM

/-- s[k:k+m]: what the cut is, under one name. -/
theorem cut2_fact {P : Program} (t e : TypeId) (i : TypeInfo) (ht : P.underlying t = some (.slice e)) (hi : P.info? e = some i) (hsz : i.size = 1) {w : World} {B : Nat} {A : Option Addr} {xs : List Value} (h : Sees w B A xs)
    (n k m c : Nat) (K H : Int) (kl kh : IntKind) (hn : xs.length = n) (hkm : k + m ≤ n) (hK : K = (k : Int)) (hH : H = ((k + m : Nat) : Int)) (hc : n ≤ c) :
    ∃ A2, (∀ wx, (Instr.slice t (.slice A n c) (some (.int kl K)) (some (.int kh H)) none).run P wx = .ok (.slice A2 m (c - k)) wx) ∧ Sees w B A2 ((xs.drop k).take m) := by
  refine ⟨if c = k then A else A.map (·.add k), fun wx => ?_, (h.cut (by omega)).take m⟩
  have he : P.elem t = e := by simp [Program.elem, ht]
  have ht' : P.underlying t = some (.slice (P.elem t)) := by rw [he]; exact ht
  rw [run_slice_lh wx t A n c ht' kl kh K H (by omega) (by omega) (by omega), he]
  simp [sizeOf, typeInfo, hi, hsz, sliced, hK, hH]
  try omega

/-- What a reader's block holds. -/
theorem Rd.facts {w : World} {base g : Nat} {l : List UInt8} {at_ : Nat} {err : Int} (h : Rd w base g l at_ err) :
    ∃ A c, l.length ≤ c ∧ c ≤ maxLen ∧ w.cell? ⟨g, 0, none⟩ = some (.slice A l.length c) ∧ w.cell? ⟨g, 1, none⟩ = some (.int .i64 at_) ∧ w.cell? ⟨g, 2, none⟩ = some (.int .i64 err) ∧
      w.frozen? ⟨g, 1, none⟩ = false ∧ w.frozen? ⟨g, 2, none⟩ = false ∧ Sees w g A (bvs l) := by
  obtain ⟨A, c, hlc, hcm, ho, hs⟩ := h
  have h0 := ho.cell 0 (by simp)
  have h1 := ho.cell 1 (by simp)
  have h2 := ho.cell 2 (by simp)
  simp only [List.getElem_cons_succ, List.getElem_cons_zero] at h0 h1 h2
  exact ⟨A, c, hlc, hcm, h0, h1, h2, ho.frozen 1, ho.frozen 2, hs⟩

theorem numOut_at (l : List UInt8) (at_ : Nat) (err most : Int) (ha : at_ ≤ l.length) : (numOut l at_ err most).2.1 ≤ l.length := by
  have := scan_size (l.drop at_) 0 0
  rw [List.length_drop] at this
  unfold numOut
  split
  · exact ha
  · split
    · exact ha
    · split
      · exact ha
      · simp; omega

/-- What taking a truth gives. -/
def flagOut (l : List UInt8) (at_ : Nat) (err : Int) : Bool × Nat × Int :=
  if err ≠ 0 then (false, at_, err)
  else if 1 < (numOut l at_ 0 1099511627776).1 then (false, at_, 3)
  else (decide ((numOut l at_ 0 1099511627776).1 = 1), (numOut l at_ 0 1099511627776).2)

end Go.Proofs.Ytgpbglmlakildaa

/- octet's Reader: a text. -/
namespace Go.Proofs.Ytgpbglmlakildaa
set_option linter.unusedVariables false
open Go.RowKit OctM

/-- What taking a text gives. -/
def strOut (l : List UInt8) (at_ : Nat) (err most : Int) : List UInt8 × Nat × Int :=
  if err ≠ 0 then ([], at_, err)
  else if (numOut l at_ 0 most).2.2 ≠ 0 then ([], (numOut l at_ 0 most).2)
  else if l.length < (numOut l at_ 0 most).2.1 + (numOut l at_ 0 most).1 then ([], at_, 2)
  else ((l.drop (numOut l at_ 0 most).2.1).take (numOut l at_ 0 most).1, (numOut l at_ 0 most).2.1 + (numOut l at_ 0 most).1, 0)

set_option maxHeartbeats 1600000 in
theorem rd_str (base g : Nat) (l : List UInt8) (at_ : Nat) (err most : Int) (w : World) (h : Rd w base g l at_ err) (ha : at_ ≤ l.length) (hm : l.length ≤ 2097152) :
    Calls Try.prog 115 #[.pointer (some ⟨g, 0, none⟩), .int .i64 most] w fun e w' =>
      e = .returned (.string (str (strOut l at_ err most).1)) ∧ Rd w' base g l (strOut l at_ err most).2.1 (strOut l at_ err most).2.2 ∧ w.grownBy w' (some g) := by
  obtain ⟨i0, hi, hz0, hz1, hz2⟩ := oct_parts
  have HRD := Lib.hid h
  have HRY := Lib.hid (rd_ready base g l at_ err w h)
  by_cases he : err = 0
  · subst he
    have HNUM := Lib.hid (rd_num base g l at_ 0 most w h ha hm)
    have hna := numOut_at l at_ 0 most ha
    obtain ⟨A, c, hlc, hcm, h0, h1, h2, f1, f2, hs⟩ := h.facts
    clear h hs hlc hcm
    obtain ⟨o, ho⟩ : ∃ o, o = numOut l at_ 0 most := ⟨_, rfl⟩
    have HFO := Lib.hid (show strOut l at_ 0 most = if o.2.2 ≠ 0 then ([], o.2) else if l.length < o.2.1 + o.1 then ([], at_, 2) else ((l.drop o.2.1).take o.1, o.2.1 + o.1, 0) from by unfold strOut; rw [if_neg (by simp), ← ho])
    rw [← ho] at HNUM hna
    clear ho
    obtain ⟨v, a1, e1⟩ := o
    simp only at HFO HNUM hna
    by_cases h3 : e1 = 0
    · subst h3
      by_cases h4 : l.length < a1 + v
      · have HO := Lib.hid (show strOut l at_ 0 most = ([], at_, 2) from by rw [HFO.out, if_neg (by simp), if_pos h4])
        have d4 : decide ((l.length : Int) - (a1 : Int) < (v : Int)) = true := by simp; omega
        clear h4
        go_enter Try.func115, Try.ntmps115
        go_wp2_with fail
        refine HRY.out.mono ?_
        rintro e wx ⟨rfl, rfl⟩
        rw [show ((0 : Int) == 0) = true from rfl]
        go_wp2_with fail
        refine HNUM.out.mono ?_
        rintro e w1 ⟨rfl, rd1, g1⟩
        clear h0 h1 h2 f1 f2
        obtain ⟨A, c, hlc, hcm, h0, h1, h2, f1, f2, hs⟩ := rd1.facts
        have HR1 := Lib.hid rd1
        clear rd1 hs hlc hcm
        go_wp2_with fail
        refine (rd_left base g l a1 0 w1 HR1.out hna hm).mono ?_
        rintro e w2 ⟨rfl, nk, rfl⟩
        go_wp2_with fail
        go_ret
        rw [HO.out]
        exact ⟨rfl, (((HR1.out.drewN nk).put_at at_).1.put_err 2).1, ((g1.trans (drewN_grown _ _ _)).trans ((HR1.out.drewN nk).put_at at_).2).trans (((HR1.out.drewN nk).put_at at_).1.put_err 2).2⟩
      · have HO := Lib.hid (show strOut l at_ 0 most = ((l.drop a1).take v, a1 + v, 0) from by rw [HFO.out, if_neg (by simp), if_neg h4])
        have d4 : decide ((l.length : Int) - (a1 : Int) < (v : Int)) = false := by simp; omega
        have hav : a1 + v ≤ l.length := by omega
        clear h4
        go_enter Try.func115, Try.ntmps115
        go_wp2_with fail
        refine HRY.out.mono ?_
        rintro e wx ⟨rfl, rfl⟩
        rw [show ((0 : Int) == 0) = true from rfl]
        go_wp2_with fail
        refine HNUM.out.mono ?_
        rintro e w1 ⟨rfl, rd1, g1⟩
        clear h0 h1 h2 f1 f2
        obtain ⟨A, c, hlc, hcm, h0, h1, h2, f1, f2, hs⟩ := rd1.facts
        have HR1 := Lib.hid rd1
        clear rd1
        obtain ⟨A2, hcut, hs2⟩ := cut2_fact (P := Try.prog) 44 5 i0 Try.underlying44 hi hz1 hs l.length a1 v c (a1 : Int) ((a1 : Int) + (v : Int)) .i64 .i64 (bvs_length l) hav rfl (by simp) hlc
        rw [show ((bvs l).drop a1).take v = bvs ((l.drop a1).take v) from by simp [bvs]] at hs2
        have HL := Lib.hid (show ((l.drop a1).take v).length = v from by rw [List.length_take, List.length_drop]; omega)
        obtain ⟨cc, hcc⟩ : ∃ cc, cc = c - a1 := ⟨_, rfl⟩
        rw [← hcc] at hcut
        have hstr := fun k : Nat => run_str (P := Try.prog) (w1.drewN k) g 44 5 9 Try.underlying44 Try.underlying5 Try.underlying9 A2 v cc ((l.drop a1).take v) HL.out (hs2.drewN k)
        obtain ⟨t, ht⟩ : ∃ t, t = str ((l.drop a1).take v) := ⟨_, rfl⟩
        rw [← ht] at hstr
        have HT := Lib.hid ht
        clear hcc hs hs2 hlc hcm ht
        go_wp2_with fail
        refine (rd_left base g l a1 0 w1 HR1.out hna hm).mono ?_
        rintro e w2 ⟨rfl, nk, rfl⟩
        go_wp2_with fail
        go_quiet (fail)
        go_wp2_with fail
        go_ret
        rw [HO.out, ← HT.out]
        exact ⟨rfl, ((HR1.out.drewN _).put_at (a1 + v)).1, (g1.trans (drewN_grown _ _ _)).trans ((HR1.out.drewN _).put_at (a1 + v)).2⟩
    · have HO := Lib.hid (show strOut l at_ 0 most = ([], a1, e1) from by rw [HFO.out, if_pos h3])
      have d4 : (e1 == 0) = false := by simpa using h3
      have d5 : (e1 != 0) = true := by simpa using h3
      clear h3
      go_enter Try.func115, Try.ntmps115
      go_wp2_with fail
      refine HRY.out.mono ?_
      rintro e wx ⟨rfl, rfl⟩
      rw [show ((0 : Int) == 0) = true from rfl]
      go_wp2_with fail
      refine HNUM.out.mono ?_
      rintro e w1 ⟨rfl, rd1, g1⟩
      clear h0 h1 h2 f1 f2
      obtain ⟨A, c, hlc, hcm, h0, h1, h2, f1, f2, hs⟩ := rd1.facts
      have HR1 := Lib.hid rd1
      clear rd1 hs hlc hcm
      go_wp2_with fail
      go_ret
      rw [HO.out]
      exact ⟨rfl, HR1.out, g1⟩
  · have hd : (err == 0) = false := by simpa using he
    have HO := Lib.hid (show strOut l at_ err most = ([], at_, err) from by unfold strOut; rw [if_pos he])
    clear he h
    go_enter Try.func115, Try.ntmps115
    go_wp2_with fail
    refine HRY.out.mono ?_
    rintro e wx ⟨rfl, rfl⟩
    rw [hd]
    go_wp2
    go_ret
    rw [HO.out]
    exact ⟨rfl, HRD.out, World.grownBy.refl w _⟩
end Go.Proofs.Ytgpbglmlakildaa

/- octet's Reader: Fail, End; and of no reader. -/
namespace Go.Proofs.Ytgpbglmlakildaa
set_option linter.unusedVariables false
open Go.RowKit OctM

/-- The error once another one is noted. -/
def failOut (err e : Int) : Int := if err = 0 then e else err
theorem rd_fail (base g : Nat) (l : List UInt8) (at_ : Nat) (err e0 : Int) (w : World) (h : Rd w base g l at_ err) :
    Calls Try.prog 70 #[.pointer (some ⟨g, 0, none⟩), .int .i64 e0] w fun e w' => e = .returned (.tuple #[]) ∧ Rd w' base g l at_ (failOut err e0) ∧ w.grownBy w' (some g) := by
  have HRD := Lib.hid h
  have HRY := Lib.hid (rd_ready base g l at_ err w h)
  obtain ⟨A, c, hlc, hcm, h0, h1, h2, f1, f2, hs⟩ := h.facts
  clear h hs hlc hcm
  by_cases he : err = 0
  · have hd : (err == 0) = true := by simpa using he
    have HO := Lib.hid (show failOut err e0 = e0 from if_pos he)
    clear he
    go_enter Try.func70, Try.ntmps70
    go_wp2_with fail
    refine HRY.out.mono ?_
    rintro e wx ⟨rfl, rfl⟩
    rw [hd]
    go_wp2_with fail
    go_returns
    rw [HO.out]
    exact ⟨rfl, (HRD.out.put_err e0).1, (HRD.out.put_err e0).2⟩
  · have hd : (err == 0) = false := by simpa using he
    have HO := Lib.hid (show failOut err e0 = err from if_neg he)
    clear he
    go_enter Try.func70, Try.ntmps70
    go_wp2_with fail
    refine HRY.out.mono ?_
    rintro e wx ⟨rfl, rfl⟩
    rw [hd]
    go_wp2_with fail
    go_returns
    rw [HO.out]
    exact ⟨rfl, HRD.out, World.grownBy.refl w _⟩

/-- The first error, or that bytes are left. -/
def endOut (n at_ : Nat) (err : Int) : Int := if err ≠ 0 then err else if at_ < n then 3 else 0
end Go.Proofs.Ytgpbglmlakildaa

/- octet's Reader: what each method returns where there is no reader. -/
namespace Go.Proofs.Ytgpbglmlakildaa
set_option linter.unusedVariables false
open Go.RowKit OctM

theorem nil_ready (w : World) : Calls Try.prog 95 #[.pointer none] w fun e w' => e = .returned (.bool false) ∧ w = w' := by
  go_enter Try.func95, Try.ntmps95
  go_wp2_with fail
  go_returns
  exact ⟨rfl, rfl⟩
theorem nil_num (w : World) (most : Int) : Calls Try.prog 69 #[.pointer none, .int .i64 most] w fun e w' => e = .returned (.int .i64 0) ∧ w = w' := by
  go_enter Try.func69, Try.ntmps69
  go_wp2_with fail
  refine (nil_ready _).mono ?_
  rintro e wx ⟨rfl, rfl⟩
  go_wp2_with fail
  go_returns
  exact ⟨rfl, rfl⟩
theorem nil_str (w : World) (most : Int) : Calls Try.prog 115 #[.pointer none, .int .i64 most] w fun e w' => e = .returned (.string (str [])) ∧ w = w' := by
  go_enter Try.func115, Try.ntmps115
  go_wp2_with fail
  refine (nil_ready _).mono ?_
  rintro e wx ⟨rfl, rfl⟩
  go_wp2_with fail
  go_returns
  exact ⟨rfl, rfl⟩
theorem nil_left (w : World) : Calls Try.prog 39 #[.pointer none] w fun e w' => e = .returned (.int .i64 0) ∧ w = w' := by
  go_enter Try.func39, Try.ntmps39
  go_wp2_with fail
  go_returns
  exact ⟨rfl, rfl⟩
theorem nil_err (w : World) : Calls Try.prog 38 #[.pointer none] w fun e w' => e = .returned (.int .i64 1) ∧ w = w' := by
  go_enter Try.func38, Try.ntmps38
  go_wp2_with fail
  go_returns
  exact ⟨rfl, rfl⟩
theorem nil_fail (w : World) (most : Int) : Calls Try.prog 70 #[.pointer none, .int .i64 most] w fun e w' => e = .returned (.tuple #[]) ∧ w = w' := by
  go_enter Try.func70, Try.ntmps70
  go_wp2_with fail
  refine (nil_ready _).mono ?_
  rintro e wx ⟨rfl, rfl⟩
  go_wp2_with fail
  go_returns
  exact ⟨rfl, rfl⟩
end Go.Proofs.Ytgpbglmlakildaa

/- The document's reader: what each method returns, and what it leaves. -/
namespace Go.Proofs.Ytgpbglmlakildaa
set_option linter.unusedVariables false
open Go.RowKit OctM

/-- The document's reader at block g: what is left, and the error. -/
def Rr (w : World) (base g : Nat) (l : List UInt8) (err : Int) : Prop :=
  Own w base 52 (.slice (some ⟨g, 0, none⟩) 2 2) [.string (str l), .int .i64 err]
theorem Rr.facts {w : World} {base g : Nat} {l : List UInt8} {err : Int} (h : Rr w base g l err) :
    w.cell? ⟨g, 0, none⟩ = some (.string (str l)) ∧ w.cell? ⟨g, 1, none⟩ = some (.int .i64 err) ∧ w.frozen? ⟨g, 0, none⟩ = false ∧ w.frozen? ⟨g, 1, none⟩ = false := by
  have h0 := Own.cell h 0 (by simp)
  have h1 := Own.cell h 1 (by simp)
  simp only [List.getElem_cons_succ, List.getElem_cons_zero] at h0 h1
  exact ⟨h0, h1, Own.frozen h 0, Own.frozen h 1⟩
theorem Rr.drewN {w : World} {base g : Nat} {l : List UInt8} {err : Int} (h : Rr w base g l err) (k : Nat) : Rr (w.drewN k) base g l err := Own.drewN h k
theorem Rr.put_err {w : World} {base g : Nat} {l : List UInt8} {err : Int} (h : Rr w base g l err) (e : Int) :
    Rr (w.setCell ⟨g, 1, none⟩ (.int .i64 e)) base g l e ∧ w.grownBy (w.setCell ⟨g, 1, none⟩ (.int .i64 e)) (some g) :=
  World.ownsRow.stored (h : w.ownsRow _ _ _ _ _ _) 1 (.int .i64 e)
theorem Rr.put_str {w : World} {base g : Nat} {l : List UInt8} {err : Int} (h : Rr w base g l err) (l' : List UInt8) :
    Rr (w.setCell ⟨g, 0, none⟩ (.string (str l'))) base g l' err ∧ w.grownBy (w.setCell ⟨g, 0, none⟩ (.string (str l'))) (some g) :=
  World.ownsRow.stored (h : w.ownsRow _ _ _ _ _ _) 0 (.string (str l'))
theorem rr_fail (base g : Nat) (l : List UInt8) (err e0 : Int) (w : World) (h : Rr w base g l err) :
    Calls Try.prog 73 #[.pointer (some ⟨g, 0, none⟩), .int .i64 e0] w fun e w' => e = .returned (.tuple #[]) ∧ Rr w' base g l (failOut err e0) ∧ w.grownBy w' (some g) := by
  have HRD := Lib.hid h
  obtain ⟨h0, h1, f0, f1⟩ := h.facts
  clear h
  by_cases he : err = 0
  · have hd : (err == 0) = true := by simpa using he
    have HO := Lib.hid (show failOut err e0 = e0 from if_pos he)
    clear he
    go_enter Try.func73, Try.ntmps73
    go_wp2_with fail
    go_returns
    rw [HO.out]
    exact ⟨rfl, (HRD.out.put_err e0).1, (HRD.out.put_err e0).2⟩
  · have hd : (err == 0) = false := by simpa using he
    have HO := Lib.hid (show failOut err e0 = err from if_neg he)
    clear he
    go_enter Try.func73, Try.ntmps73
    go_wp2_with fail
    go_returns
    rw [HO.out]
    exact ⟨rfl, HRD.out, World.grownBy.refl w _⟩

theorem str_cut (l : List UInt8) (k : Nat) : (str l).extract k (str l).size = str (l.drop k) := by
  apply ByteArray.ext
  have hsz : (str l).size = l.length := str_size l
  rw [hsz]
  apply Array.ext'
  simp [str, ByteArray.data_extract, List.take_of_length_le]
theorem nextOut_size (l : List UInt8) (most : Int) : (nextOut l most).2.1 ≤ l.length := by
  have := scan_size l 0 0
  unfold nextOut
  split
  · simp
  · split
    · simp
    · omega

/-- What the document's Num gives: the number, what is left, the error. -/
def rnumOut (l : List UInt8) (err most : Int) : Nat × List UInt8 × Int :=
  if err ≠ 0 then (0, l, err) else ((nextOut l most).1, l.drop (nextOut l most).2.1, ((nextOut l most).2.2 : Nat))
set_option maxHeartbeats 800000 in
theorem rr_num (base g : Nat) (l : List UInt8) (err most : Int) (w : World) (h : Rr w base g l err) (hm : l.length ≤ 2097152) :
    Calls Try.prog 72 #[.pointer (some ⟨g, 0, none⟩), .int .i64 most] w fun e w' =>
      e = .returned (.int .i64 ((rnumOut l err most).1 : Nat)) ∧ Rr w' base g (rnumOut l err most).2.1 (rnumOut l err most).2.2 ∧ w.grownBy w' (some g) := by
  have HRD := Lib.hid h
  obtain ⟨h0, h1, f0, f1⟩ := h.facts
  have hsz := str_size l
  clear h
  by_cases he : err = 0
  · have hd : (err != 0) = false := by simpa using he
    have HNX := Lib.hid (fun wx : World => ref_next l most wx hm)
    have hns := nextOut_size l most
    have HO := Lib.hid (show rnumOut l err most = ((nextOut l most).1, l.drop (nextOut l most).2.1, (((nextOut l most).2.2 : Nat) : Int)) from by unfold rnumOut; rw [if_neg (by simpa using he)])
    obtain ⟨o, ho⟩ : ∃ o, o = nextOut l most := ⟨_, rfl⟩
    rw [← ho] at HNX HO hns
    obtain ⟨v, n, er⟩ := o
    simp only at HNX HO hns
    have HC := Lib.hid (str_cut l n)
    clear he ho
    go_enter Try.func72, Try.ntmps72
    go_wp2_with fail
    refine (HNX.out _).mono ?_
    rintro e wx ⟨rfl, rfl⟩
    go_wp2_with fail
    go_ret
    rw [HO.out, show (str l).extract n l.length = str (l.drop n) from by rw [← HC.out, hsz]]
    exact ⟨rfl, ((HRD.out.put_err er).1.put_str (l.drop n)).1, (HRD.out.put_err er).2.trans ((HRD.out.put_err er).1.put_str (l.drop n)).2⟩
  · have hd : (err != 0) = true := by simpa using he
    have HO := Lib.hid (show rnumOut l err most = (0, l, err) from by unfold rnumOut; rw [if_pos he])
    clear he
    go_enter Try.func72, Try.ntmps72
    go_wp2_with fail
    go_ret
    rw [HO.out]
    exact ⟨rfl, HRD.out, World.grownBy.refl w _⟩
end Go.Proofs.Ytgpbglmlakildaa

/- The document's reader: Flag, End. -/
namespace Go.Proofs.Ytgpbglmlakildaa
set_option linter.unusedVariables false
open Go.RowKit OctM

/-- What the document's Flag gives. -/
def rflagOut (l : List UInt8) (err : Int) : Bool × List UInt8 × Int :=
  if err ≠ 0 then (false, l, err)
  else if (nextOut l 1099511627776).2.2 ≠ 0 then (false, l, ((nextOut l 1099511627776).2.2 : Nat))
  else if 1 < (nextOut l 1099511627776).1 then (false, l, 3)
  else (decide ((nextOut l 1099511627776).1 = 1), l.drop (nextOut l 1099511627776).2.1, 0)
end Go.Proofs.Ytgpbglmlakildaa

/- The document's reader: Str. -/
namespace Go.Proofs.Ytgpbglmlakildaa
set_option linter.unusedVariables false
open Go.RowKit OctM

theorem str_mid (l : List UInt8) (a b : Nat) : (str l).extract a (a + b) = str ((l.drop a).take b) := by
  apply ByteArray.ext
  apply Array.ext'
  simp [str, ByteArray.data_extract]
/-- What the document's Str gives. -/
def rstrOut (l : List UInt8) (err most : Int) : List UInt8 × List UInt8 × Int :=
  if err ≠ 0 then ([], l, err)
  else if (nextOut l most).2.2 ≠ 0 then ([], l, ((nextOut l most).2.2 : Nat))
  else if l.length < (nextOut l most).2.1 + (nextOut l most).1 then ([], l, 2)
  else ((l.drop (nextOut l most).2.1).take (nextOut l most).1, l.drop ((nextOut l most).2.1 + (nextOut l most).1), 0)
set_option maxHeartbeats 800000 in
theorem rr_str (base g : Nat) (l : List UInt8) (err most : Int) (w : World) (h : Rr w base g l err) (hm : l.length ≤ 2097152) :
    Calls Try.prog 116 #[.pointer (some ⟨g, 0, none⟩), .int .i64 most] w fun e w' =>
      e = .returned (.string (str (rstrOut l err most).1)) ∧ Rr w' base g (rstrOut l err most).2.1 (rstrOut l err most).2.2 ∧ w.grownBy w' (some g) := by
  have HRD := Lib.hid h
  obtain ⟨h0, h1, f0, f1⟩ := h.facts
  have hsz := str_size l
  clear h
  by_cases he : err = 0
  · have hd : (err != 0) = false := by simpa using he
    have HE := Lib.hid he
    have HNX := Lib.hid (fun wx : World => ref_next l most wx hm)
    have hns := nextOut_size l most
    have HFO := Lib.hid (show rstrOut l err most = if (nextOut l most).2.2 ≠ 0 then ([], l, (((nextOut l most).2.2 : Nat) : Int))
      else if l.length < (nextOut l most).2.1 + (nextOut l most).1 then ([], l, 2) else ((l.drop (nextOut l most).2.1).take (nextOut l most).1, l.drop ((nextOut l most).2.1 + (nextOut l most).1), 0) from by unfold rstrOut; rw [if_neg (by simpa using he)])
    obtain ⟨o, ho⟩ : ∃ o, o = nextOut l most := ⟨_, rfl⟩
    rw [← ho] at HNX HFO hns
    obtain ⟨v, n, er⟩ := o
    simp only at HNX HFO hns
    clear he ho
    by_cases h3 : er = 0
    · have d3 : ((er : Int) == 0) = true := by simp; omega
      have d3n : ((er : Int) != 0) = false := by simp; omega
      by_cases h4 : l.length < n + v
      · have HO := Lib.hid (show rstrOut l err most = ([], l, 2) from by rw [HFO.out, if_neg (by simpa using h3), if_pos h4])
        have d4 : decide ((l.length : Int) - (n : Int) < (v : Int)) = true := by simp; omega
        clear h3 h4
        go_enter Try.func116, Try.ntmps116
        go_wp2_with fail
        refine (HNX.out _).mono ?_
        rintro e wx ⟨rfl, rfl⟩
        go_wp2_with fail
        go_ret
        rw [HO.out]
        exact ⟨rfl, (HRD.out.put_err 2).1, (HRD.out.put_err 2).2⟩
      · have HO := Lib.hid (show rstrOut l err most = ((l.drop n).take v, l.drop (n + v), 0) from by rw [HFO.out, if_neg (by simpa using h3), if_neg h4])
        have d4 : decide ((l.length : Int) - (n : Int) < (v : Int)) = false := by simp; omega
        have hnv : n + v ≤ l.length := by omega
        have hb1 : (n : Int) + (v : Int) ≤ (l.length : Int) := by omega
        have hb2 : (n : Int) ≤ (n : Int) + (v : Int) := by omega
        have HC := Lib.hid (str_cut l (n + v))
        have HM := Lib.hid (str_mid l n v)
        clear h3 h4
        go_enter Try.func116, Try.ntmps116
        go_wp2_with fail
        refine (HNX.out _).mono ?_
        rintro e wx ⟨rfl, rfl⟩
        go_wp2_with fail
        go_ret
        rw [HO.out]
        have e1 : (str l).extract ((n : Int) + (v : Int)).toNat l.length = str (l.drop (n + v)) := by rw [← HC.out, hsz]; congr 1
        have e2 : (str l).extract n ((n : Int) + (v : Int)).toNat = str ((l.drop n).take v) := by rw [← HM.out]; congr 1
        have hr := HRD.out
        rw [HE.out] at hr
        first
          | (rw [e1, e2]; exact ⟨rfl, (hr.put_str (l.drop (n + v))).1, (hr.put_str (l.drop (n + v))).2⟩)
          | (rw [HM.out, show (str l).extract (n + v) l.length = str (l.drop (n + v)) from by rw [← HC.out, hsz]]; exact ⟨rfl, (hr.put_str (l.drop (n + v))).1, (hr.put_str (l.drop (n + v))).2⟩)
    · have HO := Lib.hid (show rstrOut l err most = ([], l, (er : Int)) from by rw [HFO.out, if_pos h3])
      have d3 : ((er : Int) == 0) = false := by simp; omega
      have d3n : ((er : Int) != 0) = true := by simp; omega
      clear h3
      go_enter Try.func116, Try.ntmps116
      go_wp2_with fail
      refine (HNX.out _).mono ?_
      rintro e wx ⟨rfl, rfl⟩
      go_wp2_with fail
      go_ret
      rw [HO.out]
      exact ⟨rfl, (HRD.out.put_err er).1, (HRD.out.put_err er).2⟩
  · have hd : (err != 0) = true := by simpa using he
    have HO := Lib.hid (show rstrOut l err most = ([], l, err) from by unfold rstrOut; rw [if_pos he])
    clear he
    go_enter Try.func116, Try.ntmps116
    go_wp2_with fail
    go_ret
    rw [HO.out]
    exact ⟨rfl, HRD.out, World.grownBy.refl w _⟩
end Go.Proofs.Ytgpbglmlakildaa

/- The document's reader: End. -/
namespace Go.Proofs.Ytgpbglmlakildaa
set_option linter.unusedVariables false
open Go.RowKit OctM

end Go.Proofs.Ytgpbglmlakildaa

/- The program's reader and the document's answer alike. -/
namespace Go.Proofs.Ytgpbglmlakildaa
set_option linter.unusedVariables false
open Go.RowKit OctM

theorem next_num (l : List UInt8) (at_ : Nat) (most : Int) :
    nextOut (l.drop at_) most = ((numOut l at_ 0 most).1, (numOut l at_ 0 most).2.1 - at_, (numOut l at_ 0 most).2.2.toNat) ∧ at_ ≤ (numOut l at_ 0 most).2.1 ∧ 0 ≤ (numOut l at_ 0 most).2.2 ∧
    ((numOut l at_ 0 most).2.2 ≠ 0 → (numOut l at_ 0 most).1 = 0 ∧ (numOut l at_ 0 most).2.1 = at_) := by
  unfold nextOut numOut
  rw [if_neg (show ¬ ((0 : Int) ≠ 0) by simp)]
  generalize scan (l.drop at_) 0 0 = s
  obtain ⟨v, n, e⟩ := s
  by_cases h1 : e = 0
  · subst h1
    by_cases h2 : 1099511627776 < (v : Int) ∨ most < (v : Int)
    · simp [h2]
    · simp [h2]
  · simp [h1]
theorem same_num (l : List UInt8) (at_ : Nat) (err most : Int) :
    rnumOut (l.drop at_) err most = ((numOut l at_ err most).1, l.drop (numOut l at_ err most).2.1, (numOut l at_ err most).2.2) := by
  by_cases he : err = 0
  · subst he
    obtain ⟨h1, h2, h3, h4⟩ := next_num l at_ most
    unfold rnumOut
    rw [if_neg (by simp), h1]
    generalize numOut l at_ 0 most = o at *
    obtain ⟨v, a, e⟩ := o
    simp only at *
    rw [List.drop_drop, show at_ + (a - at_) = a by omega, Int.toNat_of_nonneg h3]
  · unfold rnumOut numOut
    rw [if_pos he, if_pos he]
theorem same_flag (l : List UInt8) (at_ : Nat) (err : Int) :
    rflagOut (l.drop at_) err = ((flagOut l at_ err).1, l.drop (flagOut l at_ err).2.1, (flagOut l at_ err).2.2) := by
  by_cases he : err = 0
  · subst he
    obtain ⟨h1, h2, h3, h4⟩ := next_num l at_ 1099511627776
    unfold rflagOut flagOut
    simp only [ne_eq, not_true_eq_false, if_false]
    rw [h1]
    generalize numOut l at_ 0 1099511627776 = o at *
    obtain ⟨v, a, e⟩ := o
    simp only at *
    by_cases h5 : e = 0
    · subst h5
      simp only [Int.toNat_zero, not_true_eq_false, if_false]
      by_cases h6 : 1 < v
      · simp [h6]
      · rw [if_neg h6, if_neg h6, List.drop_drop, show at_ + (a - at_) = a by omega]
    · obtain ⟨rfl, rfl⟩ := h4 h5
      rw [if_pos (by omega)]
      simp [Int.toNat_of_nonneg h3]
  · unfold rflagOut flagOut
    rw [if_pos he, if_pos he]
theorem same_str (l : List UInt8) (at_ : Nat) (err most : Int) (ha : at_ ≤ l.length) :
    rstrOut (l.drop at_) err most = ((strOut l at_ err most).1, l.drop (strOut l at_ err most).2.1, (strOut l at_ err most).2.2) := by
  by_cases he : err = 0
  · subst he
    obtain ⟨h1, h2, h3, h4⟩ := next_num l at_ most
    unfold rstrOut strOut
    simp only [ne_eq, not_true_eq_false, if_false]
    rw [h1]
    generalize numOut l at_ 0 most = o at *
    obtain ⟨v, a, e⟩ := o
    simp only at *
    by_cases h5 : e = 0
    · subst h5
      simp only [Int.toNat_zero, not_true_eq_false, if_false]
      rw [List.length_drop]
      by_cases h6 : l.length < a + v
      · rw [if_pos (by omega), if_pos h6]
      · rw [if_neg (by omega), if_neg h6, List.drop_drop, List.drop_drop, show at_ + (a - at_) = a by omega, show at_ + (a - at_ + v) = a + v by omega]
    · obtain ⟨rfl, rfl⟩ := h4 h5
      rw [if_pos (by omega), if_pos h5]
      simp [Int.toNat_of_nonneg h3]
  · unfold rstrOut strOut
    rw [if_pos he, if_pos he]
theorem same_end (l : List UInt8) (at_ : Nat) (err : Int) (ha : at_ ≤ l.length) : endOut (l.drop at_).length 0 err = endOut l.length at_ err := by
  unfold endOut
  rw [List.length_drop]
  by_cases h : at_ < l.length
  · rw [if_pos (show 0 < l.length - at_ by omega), if_pos h]
  · rw [if_neg (show ¬ 0 < l.length - at_ by omega), if_neg h]
end Go.Proofs.Ytgpbglmlakildaa

/- What each frame of this seat asks once. -/
namespace Go.Proofs.Ytgpbglmlakildaa
theorem own : ownKnob Try.prog.godebug = none := by kernel_rfl
theorem laidOut : laidOutB Try.prog = true := by kernel_rfl
theorem boolT : Try.prog.underlying 4 = some .bool := Try.underlying4
end Go.Proofs.Ytgpbglmlakildaa

/- OctetBack: what was put is read, whatever stands behind it: for every input. No condition. -/
namespace Go.Proofs.Ytgpbglmlakildaa
set_option linter.unusedVariables false
open Go.ChangeShapes Go.WideShapes Go.ChangeAt Go.RowKit OctM
open Go.ChangeMaps (open_string shut_string)

theorem num_put (pre rest : List UInt8) (n : Nat) (most : Int) (hn : n ≤ 1099511627776) (hm : (n : Int) ≤ most) :
    numOut (pre ++ (enc n ++ rest)) pre.length 0 most = (n, pre.length + (enc n).length, 0) := by
  unfold numOut
  rw [List.drop_left, scan_put n hn]
  rw [if_neg (by simp), if_neg (by simp), if_neg (by simp; omega)]
theorem str_put (pre t rest : List UInt8) (most : Int) (hn : t.length ≤ 1099511627776) (hm : (t.length : Int) ≤ most) :
    strOut (pre ++ (enc t.length ++ (t ++ rest))) pre.length 0 most = (t, pre.length + (enc t.length).length + t.length, 0) := by
  unfold strOut
  rw [num_put pre (t ++ rest) t.length most hn hm]
  rw [if_neg (by simp), if_neg (by simp), if_neg (by simp; omega)]
  have e1 : pre ++ (enc t.length ++ (t ++ rest)) = (pre ++ enc t.length) ++ (t ++ rest) := by simp
  have e2 : pre.length + (enc t.length).length = (pre ++ enc t.length).length := by simp
  simp only [e1, e2, List.drop_left, List.take_left]
theorem flag_put (pre rest : List UInt8) (b : Bool) :
    flagOut (pre ++ (enc (truth b) ++ rest)) pre.length 0 = (b, pre.length + (enc (truth b)).length, 0) := by
  unfold flagOut
  rw [num_put pre rest (truth b) 1099511627776 (by cases b <;> simp [truth]) (by cases b <;> simp [truth])]
  rw [if_neg (by simp), if_neg (by cases b <;> simp [truth])]
  cases b <;> simp [truth]

theorem awake_num : numOut [128, 0] 0 0 9 = (0, 0, 3) := by
  simp [numOut, scan]
theorem enc300 : enc (held 300) = [172, 2] := by
  rw [show held 300 = 300 from by simp [held]; rfl, enc_high (by omega), enc_low (by omega)]
  rfl

theorem Rd.below {w w' : World} {base g : Nat} {l : List UInt8} {at_ : Nat} {err : Int} (h : Rd w base g l at_ err) (hb : Below w.heap.size w w') : Rd w' base g l at_ err := by
  have hg := h.block.2
  obtain ⟨A, c, h1, h2, h3, h4⟩ := h
  refine ⟨A, c, h1, h2, ?_, h4.below (hb.mono (Nat.le_of_lt hg))⟩
  refine ⟨h3.1, ?_⟩
  rcases h3.2 with ⟨hv, _⟩ | ⟨g', cap, cur, hv, hb', hh, h5⟩
  · cases hv
  · have e1 : g = g' := by injection hv with hv; injection hv with hv; injection hv
    subst e1
    exact .inr ⟨g, cap, cur, hv, hb', by rw [hb.block g hg]; exact hh, h5⟩

theorem sees_on {w w' : World} {A : Option Addr} {xs : List Value} (h : Sees w w.heap.size A xs) (hb : Below w.heap.size w w') : Sees w' w'.heap.size A xs := (h.below hb).more hb.size
theorem on_below {w w1 w2 : World} (h : Below w.heap.size w w1) (h2 : Below w1.heap.size w1 w2) : Below w.heap.size w w2 := h.trans (h2.mono h.size)
theorem grown_on {w w1 w2 : World} {base g : Nat} {l : List UInt8} {a : Nat} {e : Int} (h : Below w.heap.size w w1) (hr : Rd w1 base g l a e) (hb : w.heap.size ≤ base) (hg : w1.grownBy w2 (some g)) : Below w.heap.size w w2 :=
  h.grown hg h.size (fun k hk => by cases hk; have := hr.block.1; omega)

end Go.Proofs.Ytgpbglmlakildaa

/- A list of pairs of integers that comes in: what the frame gives of it. -/
namespace Go.Proofs.Ytgpbglmlakildaa
set_option linter.unusedVariables false
open Go.ChangeShapes Go.WideShapes Go.ChangeAt Go.RowKit

/-- A slice of pairs, seen as a list. -/
def SeesP (w : World) (B : Nat) (A : Option Addr) (l : List (Int × Int)) : Prop :=
  0 < l.length → ∃ b o, A = some ⟨b, o, none⟩ ∧ b < B ∧ ∀ j (hj : j < l.length), w.cell? ⟨b, o + j * 2, none⟩ = some (.int .i64 l[j].1) ∧ w.cell? ⟨b, o + j * 2 + 1, none⟩ = some (.int .i64 l[j].2)
theorem SeesP.below {w w' : World} {B : Nat} {A : Option Addr} {l : List (Int × Int)} (h : SeesP w B A l) (hb : Below B w w') : SeesP w' B A l := fun h0 => by
  obtain ⟨b, o, e, hlt, hc⟩ := h h0
  exact ⟨b, o, e, hlt, fun j hj => ⟨(hb.cell (p := ⟨b, o + j * 2, none⟩) hlt).trans (hc j hj).1, (hb.cell (p := ⟨b, o + j * 2 + 1, none⟩) hlt).trans (hc j hj).2⟩⟩

/-- The pair that a datum is. -/
def pairOf {H : Type} : DataW H → Int × Int
  | .agg [.lit (.int _ a), .lit (.int _ b)] => (a, b)
  | _ => (0, 0)
theorem open_pairs {H : Type} {enc : TypeId × Value → H} {P : Program} {t e : TypeId} {f0 f1 : Field} {W : World} {v : Value} {d : DataW H} {ps : List MemPlace}
    (ht : P.underlying t = some (.slice e)) (hs : P.underlying e = some (.struct #[f0, f1])) (hC : P.cellsOf e = 2)
    (h0 : P.underlying f0.type = some (.int .i64)) (o0 : f0.offset = 0) (c0 : P.cellsOf f0.type = 1) (h1 : P.underlying f1.type = some (.int .i64)) (o1 : f1.offset = 1) (c1 : P.cellsOf f1.type = 1)
    {r : Reach} {base : Nat} (hv : Value.okWide P W r base t v) (h : DataW.Trod enc P W 0 (fun _ => true) true t v d ps) :
    ∃ A n c, ∃ l : List (Int × Int), v = .slice A n c ∧ n ≤ c ∧ c ≤ maxLen ∧ l.length = n ∧ SeesP W W.heap.size A l := by
  obtain ⟨A, n, c, rfl⟩ := okWide_slice ht hv
  obtain ⟨fuel, hf⟩ := h
  have hlt := DataW.trod_lt fuel _ _ _ hf
  rcases DataW.trod_slice ht hf with ⟨hcs, hx⟩ | ⟨x, len, cap, elems, rest, m, _, hcs, hx, hb, hl, hm, hlen, hel, _⟩
  · simp [Value.cells] at hcs
    obtain ⟨rfl, rfl, rfl⟩ := hcs
    exact ⟨none, 0, 0, [], rfl, Nat.le_refl _, by simp [maxLen], rfl, fun h => absurd h (by simp)⟩
  · simp [Value.cells] at hcs
    obtain ⟨rfl, rfl, rfl⟩ := hcs
    refine ⟨some x, n, c, elems.map (fun y => pairOf y.1), rfl, hl, hm, by simp [hlen], fun hpos => ?_⟩
    have each : ∀ j (hj : j < n), ∃ a b, elems[j]? = some (.agg [.lit (.int .i64 a), .lit (.int .i64 b)], []) ∧ W.cell? ((x.add (j * 2)).add 0) = some (.int .i64 a) ∧ W.cell? ((x.add (j * 2)).add 1) = some (.int .i64 b) := by
      intro j hj
      have hE := hel j hj
      have hg : elems[j]? = some (elems[j]'(by omega)) := List.getElem?_eq_getElem (by omega)
      rw [hg, hC, Option.bind_eq_some_iff] at hE
      obtain ⟨cs', hcs', hy⟩ := hE
      obtain ⟨y0, y1, k, hxx, hcl, t0, t1⟩ := trod_struct2 hs hy
      rw [o0, c0] at t0
      rw [o1, c1] at t1
      obtain ⟨a, e0, ex0, _⟩ := DataW.trod_int h0 t0
      obtain ⟨b, e1, ex1, _⟩ := DataW.trod_int h1 t1
      rw [hC] at hcl
      match cs', hcl with
      | [u0, u1], _ =>
        simp at e0 e1
        subst e0 e1
        have hc := World.cells?_some hcs'
        exact ⟨a, b, by rw [hg, hxx, ex0, ex1]; rfl, hc.2.2 0 (by omega), hc.2.2 1 (by omega)⟩
    have hpn : 0 < n := by simpa [hlen] using hpos
    obtain ⟨a0, b0, _, hz0, _⟩ := each 0 hpn
    obtain ⟨bk, off, spot⟩ := x
    have hspot : spot = none := by simpa [Addr.add] using World.cell?_spot hz0
    subst hspot
    refine ⟨bk, off, rfl, ?_, fun j hj => ?_⟩
    · simp only [Prod.mk.injEq] at hx
      obtain ⟨_, rfl⟩ := hx
      have := hlt (.cell bk off) (by simp [MemPlace.row, hC]; omega)
      simpa [MemPlace.block] using this
    · simp [hlen] at hj
      obtain ⟨a, b, he, ha, hb'⟩ := each j hj
      rw [add_at, add_at, Nat.add_zero] at ha
      rw [add_at, add_at] at hb'
      have hg : elems[j]? = some (elems[j]'(by omega)) := List.getElem?_eq_getElem (by omega)
      rw [hg, Option.some.injEq] at he
      rw [ha, hb']
      simp [he, pairOf]
end Go.Proofs.Ytgpbglmlakildaa

/- Two readers beside one another: the program's, and the document's, at the same place. -/
namespace Go.Proofs.Ytgpbglmlakildaa
set_option linter.unusedVariables false
open Go.ChangeShapes Go.WideShapes Go.ChangeAt Go.RowKit OctM

theorem grown_none {w w' : World} (h : Below w.heap.size w w') (row : Option Nat) : w.grownBy w' row := ⟨h.os, h.tape, h.output, h.size, fun k hk _ => h.block k hk⟩
theorem Own.laterO {w w' : World} {base : Nat} {e : TypeId} {v : Value} {xs : List Value} (h : Own w base e v xs) (hb : Below w.heap.size w w') : Own w' base e v xs := by
  refine h.kept (grown_none hb none) ?_
  rcases v.ownBlock with _ | g
  · exact .inl rfl
  · exact .inr (by simp)
theorem Rd.later {w w' : World} {base g : Nat} {l : List UInt8} {a : Nat} {e : Int} (h : Rd w base g l a e) (hb : Below w.heap.size w w') : Rd w' base g l a e := by
  have hg := h.block.2
  obtain ⟨A, c, h1, h2, h3, h4⟩ := h
  exact ⟨A, c, h1, h2, h3.laterO hb, h4.below (hb.mono (Nat.le_of_lt hg))⟩
theorem Rr.later {w w' : World} {base g : Nat} {l : List UInt8} {e : Int} (h : Rr w base g l e) (hb : Below w.heap.size w w') : Rr w' base g l e := Own.laterO h hb
theorem Rr.block {w : World} {base g : Nat} {l : List UInt8} {e : Int} (h : Rr w base g l e) : base ≤ g ∧ g < w.heap.size := Own.lt h g rfl
theorem Rd.other {w w' : World} {base g m : Nat} {l : List UInt8} {a : Nat} {e : Int} (h : Rd w base g l a e) (hg : w.grownBy w' (some m)) (hm : g < m) : Rd w' base g l a e := by
  have hlt := h.block.2
  obtain ⟨A, c, h1, h2, h3, h4⟩ := h
  exact ⟨A, c, h1, h2, h3.kept hg (.inr (by simp [Value.ownBlock]; omega)), h4.grown hg (Nat.le_of_lt hlt) (fun k hk => by cases hk; omega)⟩
theorem Rr.other {w w' : World} {base g m : Nat} {l : List UInt8} {e : Int} (h : Rr w base g l e) (hg : w.grownBy w' (some m)) (hm : m < g) : Rr w' base g l e :=
  Own.kept h hg (.inr (by simp [Value.ownBlock]; omega))

/-- Both readers, and what was there before them as it was. -/
def Two (W w : World) (gr gm : Nat) (l : List UInt8) (a : Nat) (e : Int) (l' : List UInt8) (e' : Int) : Prop :=
  Rd w W.heap.size gr l a e ∧ Rr w W.heap.size gm l' e' ∧ gr < gm ∧ Below W.heap.size W w
theorem Two.later {W w w' : World} {gr gm : Nat} {l : List UInt8} {a : Nat} {e : Int} {l' : List UInt8} {e' : Int} (h : Two W w gr gm l a e l' e') (hb : Below w.heap.size w w') : Two W w' gr gm l a e l' e' :=
  ⟨h.1.later hb, h.2.1.later hb, h.2.2.1, on_below h.2.2.2 hb⟩
theorem Two.drewN {W w : World} {gr gm : Nat} {l : List UInt8} {a : Nat} {e : Int} {l' : List UInt8} {e' : Int} (h : Two W w gr gm l a e l' e') (k : Nat) : Two W (w.drewN k) gr gm l a e l' e' :=
  h.later (below_drewN (Below.refl _ _) k)
theorem Two.first {W w w' : World} {gr gm : Nat} {l : List UInt8} {a a2 : Nat} {e e2 : Int} {l' : List UInt8} {e' : Int} (h : Two W w gr gm l a e l' e') (hr : Rd w' W.heap.size gr l a2 e2) (hg : w.grownBy w' (some gr)) : Two W w' gr gm l a2 e2 l' e' :=
  ⟨hr, h.2.1.other hg h.2.2.1, h.2.2.1, h.2.2.2.grown hg h.2.2.2.size (fun k hk => by cases hk; exact h.1.block.1)⟩
theorem Two.second {W w w' : World} {gr gm : Nat} {l : List UInt8} {a : Nat} {e : Int} {l' l2 : List UInt8} {e' e2 : Int} (h : Two W w gr gm l a e l' e') (hr : Rr w' W.heap.size gm l2 e2) (hg : w.grownBy w' (some gm)) : Two W w' gr gm l a e l2 e2 :=
  ⟨h.1.other hg h.2.2.1, hr, h.2.2.1, h.2.2.2.grown hg h.2.2.2.size (fun k hk => by cases hk; exact h.2.1.block.1)⟩

/-- Both at the same place. -/
def Same2 (W w : World) (gr gm : Nat) (l : List UInt8) (a : Nat) (e : Int) : Prop := Two W w gr gm l a e (l.drop a) e ∧ a ≤ l.length ∧ l.length ≤ 2000

theorem strOut_at (l : List UInt8) (a : Nat) (e m : Int) (h : a ≤ l.length) : (strOut l a e m).2.1 ≤ l.length := by
  have h2 := numOut_at l a 0 m h
  unfold strOut
  split
  · exact h
  · split
    · assumption
    · split
      · exact h
      · simp; omega
theorem flagOut_at (l : List UInt8) (a : Nat) (e : Int) (h : a ≤ l.length) : (flagOut l a e).2.1 ≤ l.length := by
  have h2 := numOut_at l a 0 1099511627776 h
  unfold flagOut
  split
  · exact h
  · split
    · exact h
    · assumption
end Go.Proofs.Ytgpbglmlakildaa

/- Two readers beside one another: each read, by one and by the other. -/
namespace Go.Proofs.Ytgpbglmlakildaa
set_option linter.unusedVariables false
open Go.RowKit OctM

section
variable {W w : World} {gr gm : Nat} {l : List UInt8} {a : Nat} {e : Int} {l' : List UInt8} {e' : Int}
theorem two_num1 (y : Int) (T : Two W w gr gm l a e l' e') (ha : a ≤ l.length) (hm : l.length ≤ 2000) :
    Calls Try.prog 69 #[.pointer (some ⟨gr, 0, none⟩), .int .i64 y] w fun x w' => x = .returned (.int .i64 ((numOut l a e y).1 : Nat)) ∧ Two W w' gr gm l (numOut l a e y).2.1 (numOut l a e y).2.2 l' e' :=
  (rd_num _ gr l a e y w T.1 ha (by omega)).mono fun x w' h => ⟨h.1, T.first h.2.1 h.2.2⟩
theorem two_num2 (y : Int) {a2 : Nat} {e2 : Int} (T : Two W w gr gm l a2 e2 (l.drop a) e) (hm : l.length ≤ 2000) :
    Calls Try.prog 72 #[.pointer (some ⟨gm, 0, none⟩), .int .i64 y] w fun x w' => x = .returned (.int .i64 ((numOut l a e y).1 : Nat)) ∧ Two W w' gr gm l a2 e2 (l.drop (numOut l a e y).2.1) (numOut l a e y).2.2 :=
  (rr_num _ gm (l.drop a) e y w T.2.1 (by simp; omega)).mono fun x w' h => by
    rw [same_num] at h
    exact ⟨h.1, T.second h.2.1 h.2.2⟩
theorem two_str1 (y : Int) (T : Two W w gr gm l a e l' e') (ha : a ≤ l.length) (hm : l.length ≤ 2000) :
    Calls Try.prog 115 #[.pointer (some ⟨gr, 0, none⟩), .int .i64 y] w fun x w' => x = .returned (.string (str (strOut l a e y).1)) ∧ Two W w' gr gm l (strOut l a e y).2.1 (strOut l a e y).2.2 l' e' :=
  (rd_str _ gr l a e y w T.1 ha (by omega)).mono fun x w' h => ⟨h.1, T.first h.2.1 h.2.2⟩
theorem two_str2 (y : Int) {a2 : Nat} {e2 : Int} (T : Two W w gr gm l a2 e2 (l.drop a) e) (ha : a ≤ l.length) (hm : l.length ≤ 2000) :
    Calls Try.prog 116 #[.pointer (some ⟨gm, 0, none⟩), .int .i64 y] w fun x w' => x = .returned (.string (str (strOut l a e y).1)) ∧ Two W w' gr gm l a2 e2 (l.drop (strOut l a e y).2.1) (strOut l a e y).2.2 :=
  (rr_str _ gm (l.drop a) e y w T.2.1 (by simp; omega)).mono fun x w' h => by
    rw [same_str _ _ _ _ ha] at h
    exact ⟨h.1, T.second h.2.1 h.2.2⟩
theorem two_fail1 (y : Int) (T : Two W w gr gm l a e l' e') :
    Calls Try.prog 70 #[.pointer (some ⟨gr, 0, none⟩), .int .i64 y] w fun x w' => x = .returned (.tuple #[]) ∧ Two W w' gr gm l a (failOut e y) l' e' :=
  (rd_fail _ gr l a e y w T.1).mono fun x w' h => ⟨h.1, T.first h.2.1 h.2.2⟩
theorem two_fail2 (y : Int) (T : Two W w gr gm l a e l' e') :
    Calls Try.prog 73 #[.pointer (some ⟨gm, 0, none⟩), .int .i64 y] w fun x w' => x = .returned (.tuple #[]) ∧ Two W w' gr gm l a e l' (failOut e' y) :=
  (rr_fail _ gm l' e' y w T.2.1).mono fun x w' h => ⟨h.1, T.second h.2.1 h.2.2⟩
theorem drewN_below (w : World) (k : Nat) : Below w.heap.size w (w.drewN k) := below_drewN (Below.refl _ _) k
theorem two_left (T : Two W w gr gm l a e l' e') (ha : a ≤ l.length) (hm : l.length ≤ 2000) (q : Nat) (hq : q = l.length - a) :
    Calls Try.prog 39 #[.pointer (some ⟨gr, 0, none⟩)] w fun x w' => x = .returned (.int .i64 (q : Int)) ∧ Below w.heap.size w w' :=
  (rd_left _ gr l a e w T.1 ha (by omega)).mono fun x w' ⟨h, k, hk⟩ => ⟨by rw [h, hq]; congr 2; omega, hk ▸ drewN_below w k⟩
theorem two_err (T : Two W w gr gm l a e l' e') :
    Calls Try.prog 38 #[.pointer (some ⟨gr, 0, none⟩)] w fun x w' => x = .returned (.int .i64 e) ∧ Below w.heap.size w w' :=
  (rd_err _ gr l a e w T.1).mono fun x w' ⟨h, hk⟩ => ⟨h, hk ▸ Below.refl _ _⟩
theorem two_cells (T : Two W w gr gm l a e l' e') : w.cell? ⟨gm, 0, none⟩ = some (.string (str l')) ∧ w.cell? ⟨gm, 1, none⟩ = some (.int .i64 e') := ⟨T.2.1.facts.1, T.2.1.facts.2.1⟩
end
end Go.Proofs.Ytgpbglmlakildaa

/- Loads of whole structs under guards, == and != of structs, of values: general. -/
namespace Go.Proofs.Ytgpbglmlakildaa
set_option linter.unusedVariables false
open Go Go.RowKit

section
variable {P : Program} {ops : Array Oper} {rest : List Oper} {op : Oper} {a : Act} {w : World} {Q : Exit → Act → World → Prop}
end

section
variable {P : Program} {ops : Array Oper} {rest : List Oper} {op : Oper} {a : Act} {w : World} {Q : Exit → Act → World → Prop}
end

end Go.Proofs.Ytgpbglmlakildaa

/- What memory becomes where a call writes its own blocks; a result that lies in a block: general. -/
namespace Go.Proofs.Ytgpbglmlakildaa
set_option linter.unusedVariables false
open Go Go.RowKit

theorem tok_results {P : Program} {fn : Func} {q : Tmp} {ty : TypeId} (h : fn.results = #[.cell q ty]) (tmps : Array Value) (w : World) (g : Nat) (cs : List Value) (d : TypeDesc)
    (hq : tmps.getD q undef = .pointer (some ⟨g, 0, none⟩)) (hB : Blk w g cs)
    (hu : P.underlying ty = some d) (hd : (match d with | .struct _ | .array _ _ => true | _ => false) = true) (hi : (P.info? ty).map (·.size) = some cs.length) :
    (results fn tmps).run P w = .ok (.agg cs.toArray) w := by
  obtain ⟨t, hB⟩ := hB
  exact results_cell_row h tmps w g t cs.toArray (0, 0) d hq hB hu hd (by simpa using hi)
theorem grown_set1 (w : World) (b j : Nat) (v : Value) : w.grownBy (w.setCell ⟨b, j, none⟩ v) (some b) :=
  ⟨rfl, rfl, rfl, by simp [World.setCell], fun k _ hk => Below.heap_setCell _ _ _ k (fun e => hk (by rw [e]))⟩
theorem Blk.wholeT {w : World} {g : Nat} {cs ds : List Value} (h : Blk w g cs) (hl : ds.length = cs.length) : Blk (w.setCells g 0 ds) g ds := by
  have h2 := h.sets ds 0 (by omega)
  rw [List.take_zero, List.nil_append, List.drop_eq_nil_of_le (by omega), List.append_nil] at h2
  exact h2
theorem grown_sets4 (b : Nat) : ∀ (vs : List Value) (o : Nat) (w : World), w.grownBy (w.setCells b o vs) (some b)
  | [], _, w => World.grownBy.refl w _
  | v :: vs, o, w => (grown_set1 w b o v).trans (grown_sets4 b vs (o + 1) _)
theorem grown_new {a b c : World} {row : Option Nat} {m : Nat} (h : a.grownBy b row) (k : b.grownBy c (some m)) (hm : a.heap.size ≤ m) : a.grownBy c row :=
  ⟨k.os.trans h.os, k.tape.trans h.tape, k.output.trans h.output, Nat.le_trans h.size k.size, fun i hi hr => (k.block i (Nat.lt_of_lt_of_le hi h.size) (by simp; omega)).trans (h.block i hi hr)⟩

end Go.Proofs.Ytgpbglmlakildaa
