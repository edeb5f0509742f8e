/- The document's reader: what each method returns, and what it leaves. -/
import Derived.Test.YticdpfjajkfheaaDoorOctQ
import Derived.Test.YticdpfjajkfheaaDoorOctG
namespace Go.Proofs.YticdpfjajkfheaaDoor
set_option linter.unusedVariables false
open Go.RowKit OctM

/-- The document's reader at block g: what is left, and the error. -/
def Rr (w : World) (base g : Nat) (l : List UInt8) (err : Int) : Prop :=
  Own w base 56 (.slice (some ⟨g, 0, none⟩) 2 2) [.string (str l), .int .i64 err]
theorem Rr.facts {w : World} {base g : Nat} {l : List UInt8} {err : Int} (h : Rr w base g l err) :
    w.cell? ⟨g, 0, none⟩ = some (.string (str l)) ∧ w.cell? ⟨g, 1, none⟩ = some (.int .i64 err) ∧ w.frozen? ⟨g, 0, none⟩ = false ∧ w.frozen? ⟨g, 1, none⟩ = false := by
  have h0 := Own.cell h 0 (by simp)
  have h1 := Own.cell h 1 (by simp)
  simp only [List.getElem_cons_succ, List.getElem_cons_zero] at h0 h1
  exact ⟨h0, h1, Own.frozen h 0, Own.frozen h 1⟩
theorem Rr.drewN {w : World} {base g : Nat} {l : List UInt8} {err : Int} (h : Rr w base g l err) (k : Nat) : Rr (w.drewN k) base g l err := Own.drewN h k
theorem Rr.put_err {w : World} {base g : Nat} {l : List UInt8} {err : Int} (h : Rr w base g l err) (e : Int) :
    Rr (w.setCell ⟨g, 1, none⟩ (.int .i64 e)) base g l e ∧ w.grownBy (w.setCell ⟨g, 1, none⟩ (.int .i64 e)) (some g) :=
  World.ownsRow.stored (h : w.ownsRow _ _ _ _ _ _) 1 (.int .i64 e)
theorem Rr.put_str {w : World} {base g : Nat} {l : List UInt8} {err : Int} (h : Rr w base g l err) (l' : List UInt8) :
    Rr (w.setCell ⟨g, 0, none⟩ (.string (str l'))) base g l' err ∧ w.grownBy (w.setCell ⟨g, 0, none⟩ (.string (str l'))) (some g) :=
  World.ownsRow.stored (h : w.ownsRow _ _ _ _ _ _) 0 (.string (str l'))
theorem rr_fail (base g : Nat) (l : List UInt8) (err e0 : Int) (w : World) (h : Rr w base g l err) :
    Calls Tryd.prog 73 #[.pointer (some ⟨g, 0, none⟩), .int .i64 e0] w fun e w' => e = .returned (.tuple #[]) ∧ Rr w' base g l (failOut err e0) ∧ w.grownBy w' (some g) := by
  have HRD := Lib.hid h
  obtain ⟨h0, h1, f0, f1⟩ := h.facts
  clear h
  by_cases he : err = 0
  · have hd : (err == 0) = true := by simpa using he
    have HO := Lib.hid (show failOut err e0 = e0 from if_pos he)
    clear he
    go_enter Tryd.func73, Tryd.ntmps73
    go_wp2_with fail
    go_returns
    rw [HO.out]
    exact ⟨rfl, (HRD.out.put_err e0).1, (HRD.out.put_err e0).2⟩
  · have hd : (err == 0) = false := by simpa using he
    have HO := Lib.hid (show failOut err e0 = err from if_neg he)
    clear he
    go_enter Tryd.func73, Tryd.ntmps73
    go_wp2_with fail
    go_returns
    rw [HO.out]
    exact ⟨rfl, HRD.out, World.grownBy.refl w _⟩

theorem str_cut (l : List UInt8) (k : Nat) : (str l).extract k (str l).size = str (l.drop k) := by
  apply ByteArray.ext
  have hsz : (str l).size = l.length := str_size l
  rw [hsz]
  apply Array.ext'
  simp [str, ByteArray.data_extract, List.take_of_length_le]
theorem nextOut_size (l : List UInt8) (most : Int) : (nextOut l most).2.1 ≤ l.length := by
  have := scan_size l 0 0
  unfold nextOut
  split
  · simp
  · split
    · simp
    · omega

/-- What the document's Num gives: the number, what is left, the error. -/
def rnumOut (l : List UInt8) (err most : Int) : Nat × List UInt8 × Int :=
  if err ≠ 0 then (0, l, err) else ((nextOut l most).1, l.drop (nextOut l most).2.1, ((nextOut l most).2.2 : Nat))
set_option maxHeartbeats 800000 in
theorem rr_num (base g : Nat) (l : List UInt8) (err most : Int) (w : World) (h : Rr w base g l err) (hm : l.length ≤ 2097152) :
    Calls Tryd.prog 52 #[.pointer (some ⟨g, 0, none⟩), .int .i64 most] w fun e w' =>
      e = .returned (.int .i64 ((rnumOut l err most).1 : Nat)) ∧ Rr w' base g (rnumOut l err most).2.1 (rnumOut l err most).2.2 ∧ w.grownBy w' (some g) := by
  have HRD := Lib.hid h
  obtain ⟨h0, h1, f0, f1⟩ := h.facts
  have hsz := str_size l
  clear h
  by_cases he : err = 0
  · have hd : (err != 0) = false := by simpa using he
    have HNX := Lib.hid (fun wx : World => ref_next l most wx hm)
    have hns := nextOut_size l most
    have HO := Lib.hid (show rnumOut l err most = ((nextOut l most).1, l.drop (nextOut l most).2.1, (((nextOut l most).2.2 : Nat) : Int)) from by unfold rnumOut; rw [if_neg (by simpa using he)])
    obtain ⟨o, ho⟩ : ∃ o, o = nextOut l most := ⟨_, rfl⟩
    rw [← ho] at HNX HO hns
    obtain ⟨v, n, er⟩ := o
    simp only at HNX HO hns
    have HC := Lib.hid (str_cut l n)
    clear he ho
    go_enter Tryd.func52, Tryd.ntmps52
    go_wp2_with fail
    refine (HNX.out _).mono ?_
    rintro e wx ⟨rfl, rfl⟩
    go_wp2_with fail
    go_ret
    rw [HO.out, show (str l).extract n l.length = str (l.drop n) from by rw [← HC.out, hsz]]
    exact ⟨rfl, ((HRD.out.put_err er).1.put_str (l.drop n)).1, (HRD.out.put_err er).2.trans ((HRD.out.put_err er).1.put_str (l.drop n)).2⟩
  · have hd : (err != 0) = true := by simpa using he
    have HO := Lib.hid (show rnumOut l err most = (0, l, err) from by unfold rnumOut; rw [if_pos he])
    clear he
    go_enter Tryd.func52, Tryd.ntmps52
    go_wp2_with fail
    go_ret
    rw [HO.out]
    exact ⟨rfl, HRD.out, World.grownBy.refl w _⟩
end Go.Proofs.YticdpfjajkfheaaDoor
