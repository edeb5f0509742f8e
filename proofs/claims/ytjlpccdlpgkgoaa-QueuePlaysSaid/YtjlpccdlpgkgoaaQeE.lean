/- Acts: a card and a patch that is pushed, or what is done; which acts are not looked at. -/
import Derived.Test.YtjlpccdlpgkgoaaQeD
namespace Go.Proofs.Ytjlpccdlpgkgoaa
set_option linter.unusedVariables false
set_option linter.unusedSimpArgs false
open Go Go.RowKit Go.Shelf BitM

/-- An act: its kind; the card's number, version, labels, fields; the patch's mask, labels, fields. -/
abbrev Ac := Int × Int × Int × BitVec 32 × List V3 × BitVec 32 × BitVec 32 × List V3
def acCard (a : Ac) : List Value := ccells a.2.1 a.2.2.1 (a.2.2.2.1.toNat : Int) a.2.2.2.2.1
def acPatch (a : Ac) : List Value := pcells (a.2.2.2.2.2.1.toNat : Int) (a.2.2.2.2.2.2.1.toNat : Int) a.2.2.2.2.2.2.2
def acc (a : Ac) : List Value := [.int .i64 a.1] ++ (acCard a ++ acPatch a)
def acs (l : List Ac) : List Value := l.flatMap acc
def WholeA (l : List Ac) : Prop := ∀ a ∈ l, a.2.2.2.2.1.length = 8 ∧ a.2.2.2.2.2.2.2.length = 8
theorem acc_len {a : Ac} (h : a.2.2.2.2.1.length = 8 ∧ a.2.2.2.2.2.2.2.length = 8) : (acc a).length = 54 := by
  unfold acc acCard acPatch
  rw [List.length_append, List.length_append, ccells_len _ _ _ h.1, pcells_len _ _ h.2]
  rfl
theorem acs_len {l : List Ac} (h : WholeA l) : (acs l).length = l.length * 54 := fm_len l (fun a ha => acc_len (h a ha))
theorem range_mid {w : World} {b o j : Nat} {pre ds post : List Value} (h : w.rangeAt b o (pre ++ (ds ++ post))) (hj : pre.length = j) : w.rangeAt b (o + j) ds := fun i v hv => by
  rw [Nat.add_assoc]
  refine h (j + i) v ?_
  have hi : i < ds.length := (List.getElem?_eq_some_iff.1 hv).1
  rw [List.getElem?_append_right (by omega), show j + i - pre.length = i by omega, List.getElem?_append_left hi]
  exact hv
/-- What an act's cells are. -/
structure ActAt (w : World) (b o : Nat) (a : Ac) : Prop where
  kind : w.cell? ⟨b, o, none⟩ = some (.int .i64 a.1)
  id : w.cell? ⟨b, o + 1, none⟩ = some (.int .i64 a.2.1)
  ver : w.cell? ⟨b, o + 2, none⟩ = some (.int .i64 a.2.2.1)
  card : w.rangeAt b (o + 1) (acCard a)
  patch : w.rangeAt b (o + 28) (acPatch a)
  cf : w.rangeAt b (o + 4) (fcells a.2.2.2.2.1)
  pf : w.rangeAt b (o + 30) (fcells a.2.2.2.2.2.2.2)
theorem sees_ac {w : World} {B : Nat} {A : Option Addr} {l : List Ac} (hs : Sees w B A (acs l)) (h : WholeA l) (k : Nat) (hk : k < l.length) : ∃ b o, A = some ⟨b, o, none⟩ ∧ b < B ∧ ActAt w b (o + k * 54) l[k] := by
  obtain ⟨b, o, e, hb, hr⟩ := sees_fm hs (fun a ha => acc_len (h a ha)) (by decide) k hk
  have hw := h _ (List.getElem_mem hk)
  generalize l[k] = a at hr hw
  have hcl : (acCard a).length = 27 := ccells_len _ _ _ hw.1
  refine ⟨b, o, e, hb, hr 0 _ rfl, hr 1 _ rfl, hr 2 _ rfl, range_mid (pre := [.int .i64 a.1]) hr rfl, ?_, ?_, ?_⟩
  · refine range_mid (pre := [.int .i64 a.1] ++ acCard a) (ds := acPatch a) (post := []) ?_ (by rw [List.length_append, hcl]; rfl)
    rw [List.append_nil, List.append_assoc]
    exact hr
  · exact range_mid (pre := [.int .i64 a.1, .int .i64 a.2.1, .int .i64 a.2.2.1, .int .u32 (a.2.2.2.1.toNat : Int)]) (ds := fcells a.2.2.2.2.1) (post := acPatch a) hr rfl
  · refine range_mid (pre := [.int .i64 a.1] ++ (acCard a ++ [.int .u32 (a.2.2.2.2.2.1.toNat : Int), .int .u32 (a.2.2.2.2.2.2.1.toNat : Int)])) (ds := fcells a.2.2.2.2.2.2.2) (post := []) ?_ (by rw [List.length_append, List.length_append, hcl]; rfl)
    rw [List.append_nil, List.append_assoc, List.append_assoc]
    exact hr
theorem info_fl8 : (Try.prog.info? 30).map (·.size) = some 24 := by kernel_rfl
/-- Is an act one that is not looked at? -/
def bad (a : Ac) : Bool := tooLong a.2.2.2.2.1 || (tooLong a.2.2.2.2.2.2.2 || (decide (a.2.2.1 < 0) || decide (1099511627776 < a.2.2.1)))
def skipv (l : List Ac) : Bool := decide (60 < l.length) || l.any bad
theorem skipv_no {l : List Ac} (h : skipv l = false) : l.length ≤ 60 ∧ ∀ a ∈ l, 0 ≤ a.2.2.1 ∧ a.2.2.1 ≤ 1099511627776 := by
  unfold skipv at h
  rw [Bool.or_eq_false_iff] at h
  refine ⟨by simpa using h.1, fun a ha => ?_⟩
  have := List.any_eq_false.1 h.2 a ha
  unfold bad at this
  simp at this
  omega
theorem any_step {α : Type} (p : α → Bool) (l : List α) (k : Nat) (h : k < l.length) (hk : (l.take k).any p = false) : (l.take (k + 1)).any p = p l[k] ∧ (p l[k] = true → l.any p = true) := by
  refine ⟨by rw [List.take_succ_eq_append_getElem h, List.any_append, hk]; simp, fun hp => List.any_eq_true.2 ⟨_, List.getElem_mem h, hp⟩⟩
set_option maxRecDepth 100000 in
set_option maxHeartbeats 6400000 in
theorem skip_any (A : Option Addr) (n c : Nat) (l : List Ac) (w : World) (hn : l.length = n) (hw : WholeA l) (hs : Sees w w.heap.size A (acs l)) :
    Calls Try.prog 5 #[.slice A n c] w fun e w' => e = .returned (.bool (skipv l)) ∧ Below w.heap.size w w' := by
  have hu := Try.underlying30
  by_cases h60 : 60 < n
  · have HR : Hid (skipv l = true) := Lib.hid (by unfold skipv; rw [hn, decide_eq_true h60]; rfl)
    have d0 : decide ((60 : Int) < (n : Int)) = true := by simp; omega
    clear hs hn hw
    go_enter Try.func5, Try.ntmps5
    go_wp2_with fail
    go_ret
    exact ⟨by rw [HR.out]; rfl, Below.refl _ _⟩
  · have d0 : decide ((60 : Int) < (n : Int)) = false := by simp; omega
    have HR : Hid (skipv l = l.any bad) := Lib.hid (by unfold skipv; rw [hn, decide_eq_false h60]; rfl)
    have HN := Lib.hid hn
    have HW := Lib.hid hw
    have HS := Lib.hid (fun wx (h : Below w.heap.size w wx) => sees_ac (hs.below h) hw)
    have hn31 : n ≤ 60 := by omega
    obtain ⟨R, hR⟩ : ∃ R, R = skipv l := ⟨_, rfl⟩
    rw [← hR] at HR ⊢
    clear hR hn h60 hw hs
    go_enter Try.func5, Try.ntmps5
    go_wp2_with fail
    go_loopw [3] (fun i wr => ∃ k : Nat, k ≤ n ∧ i = .int .i64 k ∧ Hid ((l.take k).any bad = false) ∧ Hid (Below w.heap.size w wr)) (fun i _ => n - (intOf i).toNat)
    case atStart => exact ⟨0, by omega, rfl, Lib.hid rfl, Lib.hid (Below.refl _ _)⟩
    case round =>
      obtain ⟨k, hk, rfl, HK, HB⟩ := hrel
      by_cases hlt : k < n
      · have hkl : k < l.length := by rw [HN.out]; exact hlt
        have d1 : decide ((k : Int) < (n : Int)) = true := by simp; omega
        have hki : (k : Int) < (n : Int) := by omega
        obtain ⟨b, o, rfl, hb, hat⟩ := HS.out wr HB.out k hkl
        have HAT := Lib.hid (fun wx (h : Below w.heap.size w wx) => (HS.out wx h k hkl))
        obtain ⟨HN2, HTR⟩ := any_step bad l k hkl HK.out
        have hwk := HW.out _ (List.getElem_mem hkl)
        obtain ⟨a, ha⟩ : ∃ a, a = l[k] := ⟨_, rfl⟩
        rw [← ha] at hat HN2 HTR hwk HAT
        have HN2' := Lib.hid HN2
        have HTR' := Lib.hid (fun h => HR.out.trans (HTR h))
        have HL1 := Lib.hid (fun wx => large_any a.2.2.2.2.1 wx hwk.1)
        have HL2 := Lib.hid (fun wx => large_any a.2.2.2.2.2.2.2 wx hwk.2)
        have HF1 : Hid ((fcells a.2.2.2.2.1).length = 24) := Lib.hid (by rw [fcells_len, hwk.1])
        have HF2 : Hid ((fcells a.2.2.2.2.2.2.2).length = 24) := Lib.hid (by rw [fcells_len, hwk.2])
        have r1 := hat.cf
        have HBAD : Hid (bad a = (tooLong a.2.2.2.2.1 || (tooLong a.2.2.2.2.2.2.2 || (decide (a.2.2.1 < 0) || decide (1099511627776 < a.2.2.1))))) := Lib.hid rfl
        clear HN2 HTR ha hat hwk
        go_wp2_with (first
          | (refine wpList_load_mid rfl 30 (.tmp 17) rfl b (o + k * 54 + 4) rfl (fcells a.2.2.2.2.1) _ r1 hu rfl (by rw [HF1.out]; exact info_fl8) ?_
             clear r1)
          | fail)
        refine (HL1.out _).mono ?_
        rintro e w1 ⟨rfl, hb1⟩
        have HB1 := Lib.hid (HB.out.trans (hb1.mono HB.out.size))
        clear hb1
        cases ht1 : tooLong a.2.2.2.2.1
        · obtain ⟨b2, o2, e2, _, hat⟩ := HAT.out w1 HB1.out
          injection e2 with e2
          injection e2 with e2 e3
          subst e2
          subst e3
          have r2 := hat.pf
          clear hat
          go_wp2_with (first
            | (refine wpList_load_g (by rfl) 30 (.tmp 25) rfl b (o + k * 54 + 30) rfl (fcells a.2.2.2.2.2.2.2) _ r2 hu rfl (by rw [HF2.out]; exact info_fl8) ?_
               clear r2)
            | fail)
          refine (HL2.out _).mono ?_
          rintro e w2 ⟨rfl, hb2⟩
          have HB2 := Lib.hid (HB1.out.trans (hb2.mono HB1.out.size))
          clear hb2
          cases ht2 : tooLong a.2.2.2.2.2.2.2
          · obtain ⟨b2, o2, e2, _, hat⟩ := HAT.out w2 HB2.out
            injection e2 with e2
            injection e2 with e2 e3
            subst e2
            subst e3
            have cv := hat.ver
            clear hat
            by_cases hv0 : a.2.2.1 < 0
            · have dv : decide (a.2.2.1 < 0) = true := decide_eq_true hv0
              have HRR : Hid (R = true) := Lib.hid (HTR'.out (by rw [HBAD.out, ht1, ht2, dv]; rfl))
              go_wp2_with fail
              go_ret
              exact ⟨by rw [HRR.out]; rfl, HB2.out⟩
            · have dv : decide (a.2.2.1 < 0) = false := decide_eq_false hv0
              by_cases hv1 : 1099511627776 < a.2.2.1
              · have dw : decide ((1099511627776 : Int) < a.2.2.1) = true := decide_eq_true hv1
                have HRR : Hid (R = true) := Lib.hid (HTR'.out (by rw [HBAD.out, ht1, ht2, dv, dw]; rfl))
                go_wp2_with fail
                go_ret
                exact ⟨by rw [HRR.out]; rfl, HB2.out⟩
              · have dw : decide ((1099511627776 : Int) < a.2.2.1) = false := decide_eq_false hv1
                have HK2 : Hid ((l.take (k + 1)).any bad = false) := Lib.hid (HN2'.out.trans (by rw [HBAD.out, ht1, ht2, dv, dw]; rfl))
                go_wp2_with fail
                go_roundw
                case rel => exact ⟨k + 1, by omega, by go_num, HK2, HB2⟩
                case measure => simp [intOf]; omega
          · have HRR : Hid (R = true) := Lib.hid (HTR'.out (by rw [HBAD.out, ht1, ht2]; rfl))
            go_wp2_with fail
            go_ret
            exact ⟨by rw [HRR.out]; rfl, HB2.out⟩
        · have HRR : Hid (R = true) := Lib.hid (HTR'.out (by rw [HBAD.out, ht1]; rfl))
          go_wp2_with fail
          go_ret
          exact ⟨by rw [HRR.out]; rfl, HB1.out⟩
      · obtain rfl : k = n := by omega
        have d1 : decide ((k : Int) < (k : Int)) = false := by simp
        have HRR : Hid (R = false) := Lib.hid (by
          have := HK.out
          rw [List.take_of_length_le (by rw [HN.out]; exact Nat.le_refl _)] at this
          rw [HR.out, this])
        go_wp2_with fail
        go_ret
        exact ⟨by rw [HRR.out]; rfl, HB.out⟩
end Go.Proofs.Ytjlpccdlpgkgoaa
