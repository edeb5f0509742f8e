/- octet's Reader: texts and truths. -/
import Derived.Test.YtgnkkbgphghioaaOctC
namespace Go.Proofs.Ytgnkkbgphghioaa
set_option linter.unusedVariables false
open Go.RowKit OctM

/-- s[k:k+m]: what the cut is, under one name. -/
theorem cut2_fact {P : Program} (t e : TypeId) (i : TypeInfo) (ht : P.underlying t = some (.slice e)) (hi : P.info? e = some i) (hsz : i.size = 1) {w : World} {B : Nat} {A : Option Addr} {xs : List Value} (h : Sees w B A xs)
    (n k m c : Nat) (K H : Int) (kl kh : IntKind) (hn : xs.length = n) (hkm : k + m ≤ n) (hK : K = (k : Int)) (hH : H = ((k + m : Nat) : Int)) (hc : n ≤ c) :
    ∃ A2, (∀ wx, (Instr.slice t (.slice A n c) (some (.int kl K)) (some (.int kh H)) none).run P wx = .ok (.slice A2 m (c - k)) wx) ∧ Sees w B A2 ((xs.drop k).take m) := by
  refine ⟨if c = k then A else A.map (·.add k), fun wx => ?_, (h.cut (by omega)).take m⟩
  have he : P.elem t = e := by simp [Program.elem, ht]
  have ht' : P.underlying t = some (.slice (P.elem t)) := by rw [he]; exact ht
  rw [run_slice_lh wx t A n c ht' kl kh K H (by omega) (by omega) (by omega), he]
  simp [sizeOf, typeInfo, hi, hsz, sliced, hK, hH]
  try omega

/-- What a reader's block holds. -/
theorem Rd.facts {w : World} {base g : Nat} {l : List UInt8} {at_ : Nat} {err : Int} (h : Rd w base g l at_ err) :
    ∃ A c, l.length ≤ c ∧ c ≤ maxLen ∧ w.cell? ⟨g, 0, none⟩ = some (.slice A l.length c) ∧ w.cell? ⟨g, 1, none⟩ = some (.int .i64 at_) ∧ w.cell? ⟨g, 2, none⟩ = some (.int .i64 err) ∧
      w.frozen? ⟨g, 1, none⟩ = false ∧ w.frozen? ⟨g, 2, none⟩ = false ∧ Sees w g A (bvs l) := by
  obtain ⟨A, c, hlc, hcm, ho, hs⟩ := h
  have h0 := ho.cell 0 (by simp)
  have h1 := ho.cell 1 (by simp)
  have h2 := ho.cell 2 (by simp)
  simp only [List.getElem_cons_succ, List.getElem_cons_zero] at h0 h1 h2
  exact ⟨A, c, hlc, hcm, h0, h1, h2, ho.frozen 1, ho.frozen 2, hs⟩

theorem numOut_at (l : List UInt8) (at_ : Nat) (err most : Int) (ha : at_ ≤ l.length) : (numOut l at_ err most).2.1 ≤ l.length := by
  have := scan_size (l.drop at_) 0 0
  rw [List.length_drop] at this
  unfold numOut
  split
  · exact ha
  · split
    · exact ha
    · split
      · exact ha
      · simp; omega

/-- What taking a truth gives. -/
def flagOut (l : List UInt8) (at_ : Nat) (err : Int) : Bool × Nat × Int :=
  if err ≠ 0 then (false, at_, err)
  else if 1 < (numOut l at_ 0 1099511627776).1 then (false, at_, 3)
  else (decide ((numOut l at_ 0 1099511627776).1 = 1), (numOut l at_ 0 1099511627776).2)

set_option maxHeartbeats 1600000 in
theorem rd_flag (base g : Nat) (l : List UInt8) (at_ : Nat) (err : Int) (w : World) (h : Rd w base g l at_ err) (ha : at_ ≤ l.length) (hm : l.length ≤ 2097152) :
    Calls Try.prog 25 #[.pointer (some ⟨g, 0, none⟩)] w fun e w' =>
      e = .returned (.bool (flagOut l at_ err).1) ∧ Rd w' base g l (flagOut l at_ err).2.1 (flagOut l at_ err).2.2 ∧ w.grownBy w' (some g) := by
  have HRD := Lib.hid h
  have HRY := Lib.hid (rd_ready base g l at_ err w h)
  by_cases he : err = 0
  · subst he
    have HNUM := Lib.hid (rd_num base g l at_ 0 1099511627776 w h ha hm)
    obtain ⟨A, c, hlc, hcm, h0, h1, h2, f1, f2, hs⟩ := h.facts
    have hlt := h.block.2
    clear h hs hlc hcm
    obtain ⟨o, ho⟩ : ∃ o, o = numOut l at_ 0 1099511627776 := ⟨_, rfl⟩
    have HFO := Lib.hid (show flagOut l at_ 0 = if 1 < o.1 then (false, at_, 3) else (decide (o.1 = 1), o.2) from by unfold flagOut; rw [if_neg (by simp), ← ho])
    rw [← ho] at HNUM
    clear ho
    obtain ⟨v, a1, e1⟩ := o
    simp only at HFO HNUM
    by_cases h4 : 1 < v
    · have HO := Lib.hid (show flagOut l at_ 0 = (false, at_, 3) from by rw [HFO.out, if_pos h4])
      have d4 : decide ((1 : Int) < (v : Int)) = true := by simp; omega
      have d4' : decide (1 < v) = true := by simpa using h4
      clear h4
      go_enter Try.func25, Try.ntmps25
      go_wp2_with fail
      refine HRY.out.mono ?_
      rintro e wx ⟨rfl, rfl⟩
      rw [show ((0 : Int) == 0) = true from rfl]
      go_wp2_with fail
      refine HNUM.out.mono ?_
      rintro e w1 ⟨rfl, rd1, g1⟩
      clear h0 h1 h2 f1 f2
      obtain ⟨A, c, hlc, hcm, h0, h1, h2, f1, f2, hs⟩ := rd1.facts
      have HR1 := Lib.hid rd1
      clear rd1 hs hlc hcm
      go_wp2_with fail
      go_ret
      rw [HO.out]
      exact ⟨rfl, ((HR1.out.put_at at_).1.put_err 3).1, (g1.trans (HR1.out.put_at at_).2).trans ((HR1.out.put_at at_).1.put_err 3).2⟩
    · have HO := Lib.hid (show flagOut l at_ 0 = (decide (v = 1), a1, e1) from by rw [HFO.out, if_neg h4])
      have d4 : decide ((1 : Int) < (v : Int)) = false := by simp; omega
      have d4' : decide (1 < v) = false := by simpa using h4
      have hveq : ((v : Int) == 1) = decide (v = 1) := by
        rw [Bool.eq_iff_iff]; simp; omega
      clear h4
      go_enter Try.func25, Try.ntmps25
      go_wp2_with fail
      refine HRY.out.mono ?_
      rintro e wx ⟨rfl, rfl⟩
      rw [show ((0 : Int) == 0) = true from rfl]
      go_wp2_with fail
      refine HNUM.out.mono ?_
      rintro e w1 ⟨rfl, rd1, g1⟩
      have HR1 := Lib.hid rd1
      clear rd1 h0 h1 h2 f1 f2
      go_wp2_with fail
      go_ret
      rw [HO.out]
      exact ⟨by first | rfl | simp [hveq], HR1.out, g1⟩
  · have hd : (err == 0) = false := by simpa using he
    have HO := Lib.hid (show flagOut l at_ err = (false, at_, err) from by unfold flagOut; rw [if_pos he])
    clear he h
    go_enter Try.func25, Try.ntmps25
    go_wp2_with fail
    refine HRY.out.mono ?_
    rintro e wx ⟨rfl, rfl⟩
    rw [hd]
    go_wp2
    go_ret
    rw [HO.out]
    exact ⟨rfl, HRD.out, World.grownBy.refl w _⟩
end Go.Proofs.Ytgnkkbgphghioaa
