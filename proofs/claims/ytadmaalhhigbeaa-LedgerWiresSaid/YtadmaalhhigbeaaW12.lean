/- Filters as bytes: what predwire.Put returns. -/
import Derived.Test.YtadmaalhhigbeaaW11
import Derived.Test.YtadmaalhhigbeaaW9
import Derived.Handy
import Derived.Test.YtadmaalhhigbeaaW1
namespace Go.Proofs.Ytadmaalhhigbeaa
set_option linter.unusedVariables false
set_option linter.unusedSimpArgs false
open Go Go.RowKit OctM

set_option maxRecDepth 100000 in
set_option maxHeartbeats 6400000 in
theorem put_nodes (AB : Option Addr) (nb cb : Nat) (lb : List UInt8) (A : Option Addr) (n c : Nat) (l : List Nd) (w : World) (hnb : lb.length = nb) (hsb : Sees w w.heap.size AB (bvs lb)) (hmb : nb ≤ 10000) (hn : l.length = n) (hs : Sees w w.heap.size A (ncs l)) :
    Calls Try.prog 42 #[.slice AB nb cb, .slice A n c] w (GivesBytes w (lb ++ lbs l)) := by
  have HC := Lib.hid (lcheck_any A n c l w hn hs)
  by_cases hok : lchk l = 0
  · rw [hok] at HC
    have hu := Try.underlying71
    have huv := Try.underlying69
    have hn31 : n ≤ 31 := by rw [← hn]; exact (lchk_ok hok).1
    have HB : Hid (lb ++ lbs l = lb ++ (enc (held (n : Int)) ++ l.flatMap nbs)) := Lib.hid (by unfold lbs; rw [if_pos hok, hn])
    obtain ⟨R, hR⟩ : ∃ R, R = lb ++ lbs l := ⟨_, rfl⟩
    rw [← hR] at HB ⊢
    have HN := Lib.hid hn
    have HNB := Lib.hid hnb
    have HS := Lib.hid (show Sees w w.heap.size A (ncs l) from hs)
    have HSB := Lib.hid (show Sees w w.heap.size AB (bvs lb) from hsb)
    have HNUM0 := Lib.hid (fun wx : World => oct_num none 0 0 [] (n : Int) wx rfl Sees.nil_ (by omega))
    obtain ⟨r0, hr0⟩ : ∃ r, r = [] ++ enc (held (n : Int)) := ⟨_, rfl⟩
    rw [← hr0] at HNUM0
    have hr06 : r0.length ≤ 6 := by rw [hr0, List.nil_append]; exact held_len _
    have HR0 : Hid (r0 = enc (held (n : Int))) := Lib.hid (by rw [hr0]; rfl)
    clear hR hok hn hnb hs hsb hr0
    go_enter Try.func42, Try.ntmps42
    go_wp2_with fail
    refine HC.out.mono ?_
    rintro e w1 ⟨rfl, hb1⟩
    clear HC
    go_wp2_with fail
    refine (HNUM0.out _).mono ?_
    rintro e w2 ⟨A2, c2, rfl, o2, b2⟩
    have hbw := hb1.trans (b2.mono hb1.size)
    have hs2 := o2.sees
    obtain ⟨n2, hn2⟩ : ∃ n, n = r0.length := ⟨_, rfl⟩
    rw [← hn2]
    have HN2 := Lib.hid hn2.symm
    have hn26 : n2 ≤ 6 := by rw [hn2]; exact hr06
    clear o2 b2 hb1 hn2 hr06
    go_wp2_with fail
    go_loopw [20, 5] (fun i v wr => ∃ (k la : Nat) (acc : List UInt8), k ≤ n ∧ i = .int .i64 k ∧ (∃ A1 c1, v = .slice A1 la c1 ∧ Sees wr wr.heap.size A1 (bvs acc)) ∧ Hid (acc.length = la) ∧ la ≤ 6 + 52 * k ∧ Hid (acc = r0 ++ (l.take k).flatMap nbs) ∧ Below w.heap.size w wr) (fun i _ _ => n - (intOf i).toNat)
    case atStart => exact ⟨0, n2, r0, Nat.zero_le _, rfl, ⟨A2, c2, rfl, hs2⟩, HN2, by omega, Lib.hid (by simp), hbw⟩
    case round =>
      obtain ⟨k, la, acc, hk, rfl, ⟨A1, c1, rfl, hsa⟩, HLA, hla, HACC, hbr⟩ := hrel
      clear hbw hs2
      by_cases hlt : k < n
      · have hkl : k < l.length := by rw [HN.out]; exact hlt
        have d1 : decide ((k : Int) < (n : Int)) = true := by simp; omega
        obtain ⟨b, o, rfl, hb, hcc, hc2, hrg⟩ := sees_node (HS.out.below hbr) k hkl
        clear hcc hc2
        have HSTEP := Lib.hid (nbs_take l k hkl)
        have BN := Blk.new wr (ncells zn) 71
        have TH := BN.there 0 5 (by rw [ncells_len]; exact Nat.le_refl 5)
        have FIN := BN.sets (ncells l[k]) 0 (by rw [ncells_len, ncells_len]; exact Nat.le_refl 5)
        have e1 : (ncells zn).take 0 ++ ncells l[k] ++ (ncells zn).drop (0 + (ncells l[k]).length) = ncells l[k] := by simp [ncells]
        rw [e1] at FIN
        have HB2 := below_sets hbr.size (ncells l[k]) 0 (hbr.alloc hbr.size (.cells (ncells zn).toArray 71))
        have HBR := below_sets (Nat.le_refl wr.heap.size) (ncells l[k]) 0 ((Below.refl wr.heap.size wr).alloc (Nat.le_refl _) (.cells (ncells zn).toArray 71))
        have HONE := Lib.hid (show ∀ v ∈ ncells l[k], v.oneCell' = true from fun v hv => ncs_one [l[k]] v (by simpa [ncs] using hv))
        obtain ⟨⟨op, m, v0, v1, v2⟩, hnd⟩ : ∃ nd, nd = l[k] := ⟨_, rfl⟩
        have HNBS : Hid (nbs l[k] = enc (held op) ++ ((if hasN op = true then enc (held m) else []) ++ (if hasV op = true then vbs (v0, v1, v2) else []))) := Lib.hid (by rw [← hnd]; rfl)
        obtain ⟨nc, hnc⟩ : ∃ nc, nc = ncells l[k] := ⟨_, rfl⟩
        have HSZ := Lib.hid (show nc.length = 5 by rw [hnc]; rfl)
        have HNC : Hid (nc = [.int .i64 op, .int .i64 m, .int .i64 v0, .int .i64 v1, .string v2]) := Lib.hid (by rw [hnc, ← hnd]; rfl)
        rw [← hnc] at hrg FIN HB2 HBR HONE
        clear e1 hnc BN hnd
        rw [zc5] at TH HB2 HBR FIN
        rw [HNC.out] at FIN
        have hsa2 := (hsa.below HBR).more HBR.size
        obtain ⟨W2, hW2⟩ : ∃ W2, W2 = (wr.alloc (.cells #[.int .i64 0, .int .i64 0, .int .i64 0, .int .i64 0, .string ⟨#[]⟩] 71)).setCells wr.heap.size 0 nc := ⟨_, rfl⟩
        have HW2 := Lib.hid hW2
        have FIN2 : Blk W2 wr.heap.size [.int .i64 op, .int .i64 m, .int .i64 v0, .int .i64 v1, .string v2] := by rw [hW2, HNC.out]; exact FIN
        have HB3 : Below w.heap.size w W2 := by rw [hW2]; exact HB2
        have hsa3 : Sees W2 W2.heap.size A1 (bvs acc) := by rw [hW2]; exact hsa2
        obtain ⟨b1, hb1⟩ : ∃ b, b = hasN op := ⟨_, rfl⟩
        obtain ⟨b2, hb2⟩ : ∃ b, b = hasV op := ⟨_, rfl⟩
        have HM := Lib.hid (fun wx : World => most_any op wx)
        have HH := Lib.hid (fun wx : World => pholds_any op wx)
        rw [← hb1] at HM HNBS
        rw [← hb2] at HH HNBS
        obtain ⟨mm, hmm⟩ : ∃ mm, mm = npm op := ⟨_, rfl⟩
        rw [← hmm] at HM
        -- what is put in turn
        obtain ⟨x1, hx1⟩ : ∃ x, x = acc ++ enc (held op) := ⟨_, rfl⟩
        have hx1l : x1.length ≤ la + 6 := by rw [hx1, List.length_append, HLA.out]; have := held_len op; omega
        have HX1 := Lib.hid hx1
        have HN1 := Lib.hid (fun (wx : World) (AX : Option Addr) (cX : Nat) (h : Sees wx wx.heap.size AX (bvs acc)) => oct_num AX la cX acc op wx HLA.out h (by omega))
        rw [← hx1] at HN1
        obtain ⟨p1, hp1⟩ : ∃ p, p = x1.length := ⟨_, rfl⟩
        have HP1 := Lib.hid hp1.symm
        rw [← hp1] at hx1l
        clear hb1 hb2 hmm hx1 hW2 FIN HB2 HBR hsa2 hp1
        go_wp2_with (first
          | (refine wpList_load_mid rfl 71 (.tmp 22) rfl b (o + k * 5) rfl nc _ hrg hu rfl (by rw [HSZ.out]; exact info_node) ?_)
          | (refine wpList_store_mid rfl 71 (.tmp 7) (.tmp 23) rfl wr.heap.size 0 nc.toArray rfl rfl (by simpa [HSZ.out] using TH) (by simpa [HSZ.out] using info_node) (all_oneCell_toArray HONE.out) ?_
             rw [show (wr.alloc (.cells #[.int .i64 0, .int .i64 0, .int .i64 0, .int .i64 0, .string ⟨#[]⟩] 71)).setCells wr.heap.size 0 nc.toArray.toList = W2 from HW2.out.symm]
             have q0 := FIN2.cell (j := 0) rfl)
          | fail)
        refine (HN1.out _ _ _ hsa3).mono ?_
        rintro e w3 ⟨A3, c3, rfl, o3, b3⟩
        have hb3 := HB3.trans (b3.mono HB3.size)
        have F3 := FIN2.later b3
        have s3 := o3.sees
        have q0 := F3.cell (j := 0) rfl
        have q1 := F3.cell (j := 1) rfl
        rw [HP1.out]
        clear o3 b3 HB3 FIN2 hsa3 TH hrg HN1 hsa
        go_wp2_with fail
        refine (HM.out _).mono ?_
        rintro e w' ⟨rfl, rfl⟩
        cases b1 with
        | false =>
          go_wp2_with fail
          refine (HH.out _).mono ?_
          rintro e w' ⟨rfl, rfl⟩
          cases b2 with
          | false =>
            go_wp2_with fail
            go_roundw
            case rel => exact ⟨k + 1, p1, x1, by omega, by go_num, ⟨_, _, rfl, s3⟩, HP1, by omega, Lib.hid (by rw [HSTEP.out, HNBS.out, ← List.append_assoc, ← HACC.out]; simp only [HX1.out, List.append_assoc, List.append_nil, if_true, if_false, reduceCtorEq, List.nil_append, Bool.false_eq_true, ite_true, ite_false]), hb3⟩
            case measure => simp [intOf]; omega
          | true =>
            obtain ⟨x3, hx3⟩ : ∃ x, x = x1 ++ vbs (v0, v1, v2) := ⟨_, rfl⟩
            have hx3l : x3.length ≤ p1 + 40 := by rw [hx3, List.length_append, HP1.out]; have := vbs_len (v0, v1, v2); omega
            have HX3 := Lib.hid hx3
            have HN3 := Lib.hid (putval_any v0 v1 v2 A3 p1 c3 x1 _ HP1.out s3 (by omega))
            rw [← hx3] at HN3
            obtain ⟨p3, hp3⟩ : ∃ p, p = x3.length := ⟨_, rfl⟩
            have HP3 := Lib.hid hp3.symm
            rw [← hp3] at hx3l
            have RV := F3.range 2 [.int .i64 v0, .int .i64 v1, .string v2] rfl
            clear hx3 hp3
            go_wp2_with (first
              | (refine wpList_load_mid rfl 69 (.tmp 43) rfl wr.heap.size 2 rfl [.int .i64 v0, .int .i64 v1, .string v2] _ RV huv rfl info_val3 ?_)
              | fail)
            refine HN3.out.mono ?_
            rintro e w5 ⟨A5, c5, rfl, o5, b5⟩
            have hb5 := hb3.trans (b5.mono hb3.size)
            have s5 := o5.sees
            rw [HP3.out]
            clear o5 b5 RV HN3
            go_wp2_with fail
            go_roundw
            case rel => exact ⟨k + 1, p3, x3, by omega, by go_num, ⟨_, _, rfl, s5⟩, HP3, by omega, Lib.hid (by rw [HSTEP.out, HNBS.out, ← List.append_assoc, ← HACC.out]; simp only [HX1.out, HX3.out, List.append_assoc, List.append_nil, if_true, if_false, reduceCtorEq, List.nil_append, Bool.false_eq_true, ite_true, ite_false]), hb5⟩
            case measure => simp [intOf]; omega
        | true =>
          obtain ⟨x2, hx2⟩ : ∃ x, x = x1 ++ enc (held m) := ⟨_, rfl⟩
          have hx2l : x2.length ≤ p1 + 6 := by rw [hx2, List.length_append, HP1.out]; have := held_len m; omega
          have HX2 := Lib.hid hx2
          have HN4 := Lib.hid (oct_num A3 p1 c3 x1 m _ HP1.out s3 (by omega))
          rw [← hx2] at HN4
          obtain ⟨p2, hp2⟩ : ∃ p, p = x2.length := ⟨_, rfl⟩
          have HP2 := Lib.hid hp2.symm
          rw [← hp2] at hx2l
          clear hx2 hp2
          go_wp2_with fail
          refine HN4.out.mono ?_
          rintro e w4 ⟨A4, c4, rfl, o4, b4⟩
          have hb4 := hb3.trans (b4.mono hb3.size)
          have F4 := F3.later b4
          have s4 := o4.sees
          have q0 := F4.cell (j := 0) rfl
          rw [HP2.out]
          clear o4 b4 HN4 q1 s3
          go_wp2_with fail
          refine (HH.out _).mono ?_
          rintro e w' ⟨rfl, rfl⟩
          cases b2 with
          | false =>
            go_wp2_with fail
            go_roundw
            case rel => exact ⟨k + 1, p2, x2, by omega, by go_num, ⟨_, _, rfl, s4⟩, HP2, by omega, Lib.hid (by rw [HSTEP.out, HNBS.out, ← List.append_assoc, ← HACC.out]; simp only [HX1.out, HX2.out, List.append_assoc, List.append_nil, if_true, if_false, reduceCtorEq, List.nil_append, Bool.false_eq_true, ite_true, ite_false]), hb4⟩
            case measure => simp [intOf]; omega
          | true =>
            obtain ⟨x3, hx3⟩ : ∃ x, x = x2 ++ vbs (v0, v1, v2) := ⟨_, rfl⟩
            have hx3l : x3.length ≤ p2 + 40 := by rw [hx3, List.length_append, HP2.out]; have := vbs_len (v0, v1, v2); omega
            have HX3 := Lib.hid hx3
            have HN3 := Lib.hid (putval_any v0 v1 v2 A4 p2 c4 x2 _ HP2.out s4 (by omega))
            rw [← hx3] at HN3
            obtain ⟨p3, hp3⟩ : ∃ p, p = x3.length := ⟨_, rfl⟩
            have HP3 := Lib.hid hp3.symm
            rw [← hp3] at hx3l
            have RV := F4.range 2 [.int .i64 v0, .int .i64 v1, .string v2] rfl
            clear hx3 hp3
            go_wp2_with (first
              | (refine wpList_load_mid rfl 69 (.tmp 43) rfl wr.heap.size 2 rfl [.int .i64 v0, .int .i64 v1, .string v2] _ RV huv rfl info_val3 ?_)
              | fail)
            refine HN3.out.mono ?_
            rintro e w5 ⟨A5, c5, rfl, o5, b5⟩
            have hb5 := hb4.trans (b5.mono hb4.size)
            have s5 := o5.sees
            rw [HP3.out]
            clear o5 b5 RV HN3
            go_wp2_with fail
            go_roundw
            case rel => exact ⟨k + 1, p3, x3, by omega, by go_num, ⟨_, _, rfl, s5⟩, HP3, by omega, Lib.hid (by rw [HSTEP.out, HNBS.out, ← List.append_assoc, ← HACC.out]; simp only [HX1.out, HX2.out, HX3.out, List.append_assoc, List.append_nil, if_true, if_false, reduceCtorEq, List.nil_append, Bool.false_eq_true, ite_true, ite_false]), hb5⟩
            case measure => simp [intOf]; omega
      · obtain rfl : k = n := by omega
        have HA2 : Hid (lb ++ acc = R) := Lib.hid (by rw [HACC.out, HB.out, HR0.out, List.take_of_length_le (by rw [HN.out]; exact Nat.le_refl _)])
        have hsA : Sees wr wr.heap.size AB (bvs lb) := (HSB.out.below hbr).more hbr.size
        have HCC := Lib.hid (concat_any wr.heap.size 2 2 [lb, acc] (wr.alloc (.cells #[.slice AB nb cb, .slice A1 la c1] 27)) rfl (by simp) (flat2 27 HNB.out HLA.out hsA hsa) (by omega) (by have h1 := HNB.out; have h2 := HLA.out; simp; omega))
        have HFL2 : Hid ([lb, acc].flatten = R) := Lib.hid (by rw [← HA2.out]; simp)
        rw [HFL2.out] at HCC
        have hbw2 := hbr.alloc hbr.size (.cells #[.slice AB nb cb, .slice A1 la c1] 27)
        clear hsA hsa
        go_wp2_with fail
        refine HCC.out.mono ?_
        rintro e w7 ⟨A7, c7, rfl, o7, b7⟩
        go_wp2_with fail
        go_ret
        exact ⟨A7, c7, rfl, o7.lower hbw2.size, hbw2.trans (b7.mono hbw2.size)⟩
  · have HB : Hid (lb ++ lbs l = lb) := Lib.hid (by unfold lbs; rw [if_neg hok]; simp)
    rw [HB.out]
    obtain ⟨er, her⟩ : ∃ er, er = lchk l := ⟨_, rfl⟩
    rw [← her] at HC hok
    have be : (er != 0) = true := by simp [hok]
    have HCL := Lib.hid (fun (wx : World) (hb : Below w.heap.size w wx) => clone_any AB nb cb lb wx hnb ((hsb.below hb).more hb.size) (by omega))
    obtain ⟨q, hq⟩ : ∃ q, q = lb.length := ⟨_, rfl⟩
    clear HB her hok hn hs hnb hsb
    go_enter Try.func42, Try.ntmps42
    go_wp2_with fail
    refine HC.out.mono ?_
    rintro e w1 ⟨rfl, hb1⟩
    clear HC
    go_wp2_with fail
    refine (HCL.out _ hb1).mono ?_
    rintro e w7 ⟨A7, c7, rfl, o7, b7⟩
    have HO := Lib.hid o7
    clear o7
    go_wp2_with fail
    go_ret
    exact ⟨A7, c7, rfl, HO.out.lower hb1.size, hb1.trans (b7.mono hb1.size)⟩
end Go.Proofs.Ytadmaalhhigbeaa

/- What taking a number off a text gives, as the document says it: mathematics alone. -/
namespace Go.Proofs.Ytadmaalhhigbeaa.OctM
/-- The value of the first n bytes, seven bits each. -/
def val (l : List UInt8) : Nat → Nat
  | 0 => 0
  | n + 1 => val l n + (l.getD n 0).toNat % 128 * 128 ^ n
theorem scan_run (l : List UInt8) : ∀ n, n ≤ 6 → n ≤ l.length → (∀ j, j < n → 128 ≤ (l.getD j 0).toNat) → scan l 0 0 = scan (l.drop n) n (val l n)
  | 0, _, _, _ => rfl
  | n + 1, h6, hl, ha => by
    rw [scan_run l n (by omega) (by omega) (fun j hj => ha j (by omega))]
    have hd : l.drop n = l[n] :: l.drop (n + 1) := List.drop_eq_getElem_cons (by omega)
    have hg : l.getD n 0 = l[n] := by simp [List.getD, List.getElem?_eq_getElem (show n < l.length by omega)]
    have h1 := ha n (by omega)
    rw [hg] at h1
    rw [hd, scan, if_neg (by omega), if_neg (by omega), val, hg]
/-- What the document's next gives. -/
def nextOut (l : List UInt8) (most : Int) : Nat × Nat × Nat :=
  if (scan l 0 0).2.2 ≠ 0 then (0, 0, (scan l 0 0).2.2)
  else if 1099511627776 < ((scan l 0 0).1 : Int) ∨ most < ((scan l 0 0).1 : Int) then (0, 0, 4)
  else scan l 0 0
theorem next_six (l : List UInt8) (most : Int) (hl : 6 ≤ l.length) (ha : ∀ j, j < 6 → 128 ≤ (l.getD j 0).toNat) : nextOut l most = (0, 0, 3) := by
  have h := scan_run l 6 (Nat.le_refl _) hl ha
  have h2 : scan (l.drop 6) 6 (val l 6) = (0, 0, 3) := by
    cases l.drop 6 with
    | nil => simp [scan]
    | cons c r => simp [scan]
  unfold nextOut
  rw [h, h2]; simp
theorem next_short (l : List UInt8) (most : Int) (hl : l.length < 6) (ha : ∀ j, j < l.length → 128 ≤ (l.getD j 0).toNat) : nextOut l most = (0, 0, 2) := by
  have h := scan_run l l.length (by omega) (Nat.le_refl _) ha
  rw [List.drop_length] at h
  have h2 : scan ([] : List UInt8) l.length (val l l.length) = (0, 0, 2) := by simp [scan]; omega
  unfold nextOut
  rw [h, h2]; simp
theorem next_low (l : List UInt8) (n : Nat) (h6 : n < 6) (hl : n < l.length) (ha : ∀ j, j < n → 128 ≤ (l.getD j 0).toNat) (hn : (l.getD n 0).toNat < 128) :
    scan l 0 0 = if (l.getD n 0).toNat = 0 ∧ 0 < n then (0, 0, 3) else (val l (n + 1), n + 1, 0) := by
  rw [scan_run l n (by omega) (by omega) ha]
  have hd : l.drop n = l[n] :: l.drop (n + 1) := List.drop_eq_getElem_cons hl
  have hg : l.getD n 0 = l[n] := by simp [List.getD, List.getElem?_eq_getElem hl]
  rw [hg] at hn ⊢
  rw [hd, scan, if_neg (by omega), if_pos hn, val, hg]
end Go.Proofs.Ytadmaalhhigbeaa.OctM

/- The document's next: what it returns. -/
namespace Go.Proofs.Ytadmaalhhigbeaa
set_option linter.unusedVariables false
open Go.RowKit OctM

theorem getD_str (l : List UInt8) (k : Nat) (h : k < (str l).size) : (str l)[k] = l.getD k 0 := by
  rw [str_get]
  have : k < l.length := by rw [← str_size]; exact h
  simp [List.getD, List.getElem?_eq_getElem this]

set_option maxRecDepth 8000 in
set_option maxHeartbeats 1600000 in
theorem ref_next (l : List UInt8) (most : Int) (w : World) (hm : l.length ≤ 2097152) :
    Calls Try.prog 83 #[.string (str l), .int .i64 most] w fun e w' =>
      e = .returned (.tuple #[.int .i64 ((nextOut l most).1 : Nat), .int .i64 ((nextOut l most).2.1 : Nat), .int .i64 ((nextOut l most).2.2 : Nat)]) ∧ w = w' := by
  have hsz := str_size l
  go_enter Try.func83, Try.ntmps83
  go_wp2_with fail
  go_loop [7] (fun i => ∃ k : Nat, k ≤ 6 ∧ k ≤ l.length ∧ i = .int .i64 k ∧ (∀ j, j < k → 128 ≤ (l.getD j 0).toNat)) (fun i => 6 - (intOf i).toNat)
  case atStart => exact ⟨0, Nat.zero_le _, Nat.zero_le _, rfl, fun j h => absurd h (Nat.not_lt_zero j)⟩
  case round =>
    obtain ⟨k, hk6, hkl, rfl, ha⟩ := hrel
    have HA := Lib.hid ha
    clear ha
    by_cases h6 : k < 6
    · have d6 : decide ((k : Int) < 6) = true := by simp; omega
      by_cases hl : k < l.length
      · have dl : decide ((k : Int) < (l.length : Int)) = true := by simp; omega
        have hks : k < (str l).size := by rw [hsz]; exact hl
        by_cases hx : 128 ≤ (l.getD k 0).toNat
        · have dx : decide ((128 : Int) ≤ ((str l)[k].toNat : Int)) = true := by rw [getD_str]; exact decide_eq_true (by omega)
          have HX := Lib.hid hx
          clear hx
          go_wp2_with fail
          go_round
          case rel => exact ⟨k + 1, by omega, by omega, by go_num, fun j hj => by
            by_cases e : j = k
            · rw [e]; exact HX.out
            · exact HA.out j (by omega)⟩
          case measure => simp [intOf]; try omega
        · have dx : decide ((128 : Int) ≤ ((str l)[k].toNat : Int)) = false := by rw [getD_str]; exact decide_eq_false (by omega)
          have hlow := next_low l k h6 hl HA.out (by omega)
          have hk7 : k < 7 := by omega
          by_cases hz : (l.getD k 0).toNat = 0 ∧ 0 < k
          · have HR := Lib.hid (show nextOut l most = (0, 0, 3) from by unfold nextOut; rw [hlow, if_pos hz]; simp)
            have dz : (((str l)[k].toNat : Int) == 0) = true := by rw [getD_str, hz.1]; rfl
            have dk : decide ((0 : Int) < (k : Int)) = true := by simp; omega
            have dk' : decide (0 < k) = true := by simp; omega
            have he6 : ((k : Int) == 6) = false := by simp; omega
            have hel : ((k : Int) == (l.length : Int)) = false := by simp; omega
            have HX := Lib.hid hx
            have HZ := Lib.hid hz
            clear hx hz hlow
            go_wp2_with fail
            go_ret3
            exact ⟨by rw [HR.out]; rfl, rfl⟩
          · have HNO := Lib.hid (show nextOut l most = if 1099511627776 < (val l (k + 1) : Int) ∨ most < (val l (k + 1) : Int) then (0, 0, 4) else (val l (k + 1), k + 1, 0) from by unfold nextOut; rw [hlow, if_neg hz]; simp)
            have he6 : ((k : Int) == 6) = false := by simp; omega
            have hel : ((k : Int) == (l.length : Int)) = false := by simp; omega
            have hk5 : k ≤ 5 := by omega
            by_cases hk0 : 0 < k
            · have dk : decide ((0 : Int) < (k : Int)) = true := by simp; omega
              have dk' : decide (0 < k) = true := by simp; omega
              have dz : (((str l)[k].toNat : Int) == 0) = false := by
                rw [getD_str]
                have : (l.getD k 0).toNat ≠ 0 := fun h => hz ⟨h, hk0⟩
                rw [beq_eq_false_iff_ne]; omega
              have HX := Lib.hid hx
              have HZ := Lib.hid hz
              clear hx hz hlow
              go_wp2_with fail
              go_loop [8, 9] (fun v i => ∃ r u : Nat, r ≤ k + 1 ∧ v = .int .i64 u ∧ i = .int .i64 ((r : Int) - 1) ∧ val l (k + 1) = val l r + u * 128 ^ r ∧ u < 128 ^ (k + 1 - r)) (fun _ i => ((intOf i) + 1).toNat)
              case atStart => exact ⟨k + 1, 0, Nat.le_refl _, rfl, by simp, by simp, by simp⟩
              case round =>
                obtain ⟨r, u, hrk, rfl, rfl, hv, hu⟩ := hrel
                have HV := Lib.hid hv
                have HU := Lib.hid hu
                clear hv
                by_cases hr0 : r = 0
                · subst hr0
                  have HW := Lib.hid (show val l (k + 1) = u from by rw [HV.out]; simp [val])
                  have HNO2 := Lib.hid (show nextOut l most = if 1099511627776 < (u : Int) ∨ most < (u : Int) then (0, 0, 4) else (u, k + 1, 0) from by rw [HNO.out, HW.out])
                  clear hu
                  by_cases hb : 1099511627776 < (u : Int)
                  · have HR := Lib.hid (show nextOut l most = (0, 0, 4) from by rw [HNO2.out, if_pos (.inl hb)])
                    have db : decide ((1099511627776 : Int) < (u : Int)) = true := decide_eq_true hb
                    clear hb
                    go_wp2_with fail
                    go_ret3
                    exact ⟨by rw [HR.out]; rfl, rfl⟩
                  · have db : decide ((1099511627776 : Int) < (u : Int)) = false := decide_eq_false hb
                    by_cases hb2 : most < (u : Int)
                    · have HR := Lib.hid (show nextOut l most = (0, 0, 4) from by rw [HNO2.out, if_pos (.inr hb2)])
                      have db2 : decide (most < (u : Int)) = true := decide_eq_true hb2
                      clear hb hb2
                      go_wp2_with fail
                      go_ret3
                      exact ⟨by rw [HR.out]; rfl, rfl⟩
                    · have HR := Lib.hid (show nextOut l most = (u, k + 1, 0) from by rw [HNO2.out, if_neg (by omega)])
                      have db2 : decide (most < (u : Int)) = false := decide_eq_false hb2
                      clear hb hb2
                      go_wp2_with fail
                      go_ret3
                      exact ⟨by rw [HR.out]; rfl, rfl⟩
                · obtain ⟨q, rfl⟩ : ∃ q, r = q + 1 := ⟨r - 1, by omega⟩
                  have hub : u < 34359738368 := Nat.lt_of_lt_of_le hu (Nat.le_trans (Nat.pow_le_pow_right (by omega) (show k + 1 - (q + 1) ≤ 5 by omega)) (by decide))
                  have hqs : q < (str l).size := by rw [hsz]; omega
                  have dq : decide ((0 : Int) ≤ ((q + 1 : Nat) : Int) - 1) = true := by simp; try omega
                  have hqe : ((q + 1 : Nat) : Int) - 1 = (q : Int) := by omega
                  rw [hqe]
                  have hxq := (str l)[q].toNat_lt
                  have HQ := Lib.hid (getD_str l q hqs)
                  clear hu hr0
                  go_wp2_with fail
                  go_round
                  case rel =>
                    refine ⟨q, u * 128 + (l.getD q 0).toNat % 128, by omega, by rw [← HQ.out]; go_num, by go_num, ?_, ?_⟩
                    · rw [HV.out, val, Nat.pow_succ, Nat.add_mul]; 
                      have : u * (128 ^ q * 128) = u * 128 * 128 ^ q := by rw [Nat.mul_comm (128 ^ q), Nat.mul_assoc]
                      omega
                    · have e : k + 1 - q = (k + 1 - (q + 1)) + 1 := by omega
                      have := HU.out
                      rw [e, Nat.pow_succ]
                      omega
                  case measure => simp [intOf]
            · have dk : decide ((0 : Int) < (k : Int)) = false := by simp; omega
              have dk' : decide (0 < k) = false := by simp; omega
              have HX := Lib.hid hx
              have HZ := Lib.hid hz
              clear hx hz hlow
              go_wp2_with fail
              go_loop [8, 9] (fun v i => ∃ r u : Nat, r ≤ k + 1 ∧ v = .int .i64 u ∧ i = .int .i64 ((r : Int) - 1) ∧ val l (k + 1) = val l r + u * 128 ^ r ∧ u < 128 ^ (k + 1 - r)) (fun _ i => ((intOf i) + 1).toNat)
              case atStart => exact ⟨k + 1, 0, Nat.le_refl _, rfl, by simp, by simp, by simp⟩
              case round =>
                obtain ⟨r, u, hrk, rfl, rfl, hv, hu⟩ := hrel
                have HV := Lib.hid hv
                have HU := Lib.hid hu
                clear hv
                by_cases hr0 : r = 0
                · subst hr0
                  have HW := Lib.hid (show val l (k + 1) = u from by rw [HV.out]; simp [val])
                  have HNO2 := Lib.hid (show nextOut l most = if 1099511627776 < (u : Int) ∨ most < (u : Int) then (0, 0, 4) else (u, k + 1, 0) from by rw [HNO.out, HW.out])
                  clear hu
                  by_cases hb : 1099511627776 < (u : Int)
                  · have HR := Lib.hid (show nextOut l most = (0, 0, 4) from by rw [HNO2.out, if_pos (.inl hb)])
                    have db : decide ((1099511627776 : Int) < (u : Int)) = true := decide_eq_true hb
                    clear hb
                    go_wp2_with fail
                    go_ret3
                    exact ⟨by rw [HR.out]; rfl, rfl⟩
                  · have db : decide ((1099511627776 : Int) < (u : Int)) = false := decide_eq_false hb
                    by_cases hb2 : most < (u : Int)
                    · have HR := Lib.hid (show nextOut l most = (0, 0, 4) from by rw [HNO2.out, if_pos (.inr hb2)])
                      have db2 : decide (most < (u : Int)) = true := decide_eq_true hb2
                      clear hb hb2
                      go_wp2_with fail
                      go_ret3
                      exact ⟨by rw [HR.out]; rfl, rfl⟩
                    · have HR := Lib.hid (show nextOut l most = (u, k + 1, 0) from by rw [HNO2.out, if_neg (by omega)])
                      have db2 : decide (most < (u : Int)) = false := decide_eq_false hb2
                      clear hb hb2
                      go_wp2_with fail
                      go_ret3
                      exact ⟨by rw [HR.out]; rfl, rfl⟩
                · obtain ⟨q, rfl⟩ : ∃ q, r = q + 1 := ⟨r - 1, by omega⟩
                  have hub : u < 34359738368 := Nat.lt_of_lt_of_le hu (Nat.le_trans (Nat.pow_le_pow_right (by omega) (show k + 1 - (q + 1) ≤ 5 by omega)) (by decide))
                  have hqs : q < (str l).size := by rw [hsz]; omega
                  have dq : decide ((0 : Int) ≤ ((q + 1 : Nat) : Int) - 1) = true := by simp; try omega
                  have hqe : ((q + 1 : Nat) : Int) - 1 = (q : Int) := by omega
                  rw [hqe]
                  have hxq := (str l)[q].toNat_lt
                  have HQ := Lib.hid (getD_str l q hqs)
                  clear hu hr0
                  go_wp2_with fail
                  go_round
                  case rel =>
                    refine ⟨q, u * 128 + (l.getD q 0).toNat % 128, by omega, by rw [← HQ.out]; go_num, by go_num, ?_, ?_⟩
                    · rw [HV.out, val, Nat.pow_succ, Nat.add_mul]; 
                      have : u * (128 ^ q * 128) = u * 128 * 128 ^ q := by rw [Nat.mul_comm (128 ^ q), Nat.mul_assoc]
                      omega
                    · have e : k + 1 - q = (k + 1 - (q + 1)) + 1 := by omega
                      have := HU.out
                      rw [e, Nat.pow_succ]
                      omega
                  case measure => simp [intOf]
      · have HR := Lib.hid (next_short l most (by omega) (fun j hj => HA.out j (by omega)))
        obtain rfl : k = l.length := by omega
        have he6 : ((l.length : Int) == 6) = false := by simp; omega
        go_wp2_with fail
        go_ret3
        exact ⟨by rw [HR.out]; rfl, rfl⟩
    · obtain rfl : k = 6 := by omega
      have HR := Lib.hid (next_six l most hkl HA.out)
      go_wp2_with fail
      go_ret3
      exact ⟨by rw [HR.out]; rfl, rfl⟩
end Go.Proofs.Ytadmaalhhigbeaa

/- octet's Reader: what each method returns, and what it leaves. -/
namespace Go.Proofs.Ytadmaalhhigbeaa
set_option linter.unusedVariables false
open Go.RowKit OctM

/-- A reader at block g: its bytes lie below g; how many are taken; its error. -/
def Rd (w : World) (base g : Nat) (l : List UInt8) (at_ : Nat) (err : Int) : Prop :=
  ∃ A c, l.length ≤ c ∧ c ≤ maxLen ∧ Own w base 86 (.slice (some ⟨g, 0, none⟩) 3 3) [.slice A l.length c, .int .i64 at_, .int .i64 err] ∧ Sees w g A (bvs l)
theorem Rd.block {w : World} {base g : Nat} {l : List UInt8} {at_ : Nat} {err : Int} (h : Rd w base g l at_ err) : base ≤ g ∧ g < w.heap.size := by
  obtain ⟨A, c, h1, h2, h3, h4⟩ := h
  exact h3.lt g rfl

set_option maxHeartbeats 800000 in
theorem rd_new (A : Option Addr) (n c : Nat) (l : List UInt8) (w : World) (hn : l.length = n) (hs : Sees w w.heap.size A (bvs l)) (hm : n ≤ 1048576) :
    Calls Try.prog 15 #[.slice A n c] w fun e w' => ∃ g, e = .returned (.pointer (some ⟨g, 0, none⟩)) ∧ Rd w' w.heap.size g l 0 0 ∧ Below w.heap.size w w' := by
  have HF := Lib.hid (oct_fresh A n c l 0 w hn hs hm (by omega))
  have HN := Lib.hid hn
  clear hn hs
  go_enter Try.func15, Try.ntmps15
  go_wp2_with fail
  refine HF.out.mono ?_
  rintro e w1 ⟨A1, c1, rfl, o1, b1⟩
  have s1 := o1.sees
  have k1 := o1.cap
  go_wp2_with fail
  go_ret
  refine ⟨w1.heap.size, rfl, ⟨A1, c1, by rw [HN.out]; exact k1.1, k1.2, ?_, s1.alloc (Nat.le_refl _) _⟩, b1.alloc b1.size _⟩
  have h := own_lit w1 w.heap.size 86 #[.slice A1 n c1, .int .i64 0, .int .i64 0] b1.size (by simp [maxLen])
  rw [HN.out]
  exact h

theorem rd_ready (base g : Nat) (l : List UInt8) (at_ : Nat) (err : Int) (w : World) (h : Rd w base g l at_ err) :
    Calls Try.prog 80 #[.pointer (some ⟨g, 0, none⟩)] w fun e w' => e = .returned (.bool (err == 0)) ∧ w = w' := by
  obtain ⟨A, c, hlc, hcm, ho, hs⟩ := h
  have h2 := ho.cell 2 (by simp)
  simp only [List.getElem_cons_succ, List.getElem_cons_zero] at h2
  clear ho hs
  go_enter Try.func80, Try.ntmps80
  go_wp2_with fail
  go_ret
  exact ⟨rfl, rfl⟩
theorem rd_err (base g : Nat) (l : List UInt8) (at_ : Nat) (err : Int) (w : World) (h : Rd w base g l at_ err) :
    Calls Try.prog 18 #[.pointer (some ⟨g, 0, none⟩)] w fun e w' => e = .returned (.int .i64 err) ∧ w = w' := by
  obtain ⟨A, c, hlc, hcm, ho, hs⟩ := h
  have h2 := ho.cell 2 (by simp)
  simp only [List.getElem_cons_succ, List.getElem_cons_zero] at h2
  clear ho hs
  go_enter Try.func18, Try.ntmps18
  go_wp2_with fail
  go_ret
  exact ⟨rfl, rfl⟩
theorem rd_left (base g : Nat) (l : List UInt8) (at_ : Nat) (err : Int) (w : World) (h : Rd w base g l at_ err) (ha : at_ ≤ l.length) (hm : l.length ≤ 2097152) :
    Calls Try.prog 19 #[.pointer (some ⟨g, 0, none⟩)] w fun e w' => e = .returned (.int .i64 ((l.length : Int) - at_)) ∧ (∃ k, w' = w.drewN k) := by
  obtain ⟨A, c, hlc, hcm, ho, hs⟩ := h
  have h0 := ho.cell 0 (by simp)
  have h1 := ho.cell 1 (by simp)
  simp only [List.getElem_cons_succ, List.getElem_cons_zero] at h0 h1
  clear ho hs
  go_enter Try.func19, Try.ntmps19
  go_wp2_with fail
  go_quiet (fail)
  go_wp2
  go_ret
  exact ⟨rfl, _, rfl⟩

theorem drewN_grown (w : World) (k : Nat) (row : Option Nat) : w.grownBy (w.drewN k) row := ⟨rfl, rfl, rfl, Nat.le_refl _, fun _ _ _ => rfl⟩
theorem Rd.drewN {w : World} {base g : Nat} {l : List UInt8} {at_ : Nat} {err : Int} (h : Rd w base g l at_ err) (k : Nat) : Rd (w.drewN k) base g l at_ err := by
  obtain ⟨A, c, h1, h2, h3, h4⟩ := h
  exact ⟨A, c, h1, h2, h3.drewN k, h4.drewN k⟩
theorem Rd.put_err {w : World} {base g : Nat} {l : List UInt8} {at_ : Nat} {err : Int} (h : Rd w base g l at_ err) (e : Int) :
    Rd (w.setCell ⟨g, 2, none⟩ (.int .i64 e)) base g l at_ e ∧ w.grownBy (w.setCell ⟨g, 2, none⟩ (.int .i64 e)) (some g) := by
  obtain ⟨A, c, h1, h2, h3, h4⟩ := h
  have h5 := World.ownsRow.stored (h3 : w.ownsRow _ _ _ _ _ _) 2 (.int .i64 e)
  exact ⟨⟨A, c, h1, h2, h5.1, h4.setCell (Nat.le_refl _) _⟩, h5.2⟩
theorem Rd.put_at {w : World} {base g : Nat} {l : List UInt8} {at_ : Nat} {err : Int} (h : Rd w base g l at_ err) (n : Nat) :
    Rd (w.setCell ⟨g, 1, none⟩ (.int .i64 n)) base g l n err ∧ w.grownBy (w.setCell ⟨g, 1, none⟩ (.int .i64 n)) (some g) := by
  obtain ⟨A, c, h1, h2, h3, h4⟩ := h
  have h5 := World.ownsRow.stored (h3 : w.ownsRow _ _ _ _ _ _) 1 (.int .i64 n)
  exact ⟨⟨A, c, h1, h2, h5.1, h4.setCell (Nat.le_refl _) _⟩, h5.2⟩

/-- What taking a number gives: the number, how many bytes are taken then, the error then. -/
def numOut (l : List UInt8) (at_ : Nat) (err most : Int) : Nat × Nat × Int :=
  if err ≠ 0 then (0, at_, err)
  else if (scan (l.drop at_) 0 0).2.2 ≠ 0 then (0, at_, ((scan (l.drop at_) 0 0).2.2 : Nat))
  else if 1099511627776 < ((scan (l.drop at_) 0 0).1 : Int) ∨ most < ((scan (l.drop at_) 0 0).1 : Int) then (0, at_, 4)
  else ((scan (l.drop at_) 0 0).1, at_ + (scan (l.drop at_) 0 0).2.1, 0)
theorem scan_size : ∀ (l : List UInt8) (i v : Nat), (scan l i v).2.1 ≤ i + l.length
  | [], i, v => by unfold scan; split <;> simp
  | c :: l, i, v => by
    unfold scan
    have := scan_size l (i + 1) (v + c.toNat % 128 * 128 ^ i)
    split
    · simp
    · split
      · split <;> simp
      · simp; omega

set_option maxHeartbeats 1600000 in
theorem rd_num (base g : Nat) (l : List UInt8) (at_ : Nat) (err most : Int) (w : World) (h : Rd w base g l at_ err) (ha : at_ ≤ l.length) (hm : l.length ≤ 2097152) :
    Calls Try.prog 50 #[.pointer (some ⟨g, 0, none⟩), .int .i64 most] w fun e w' =>
      e = .returned (.int .i64 ((numOut l at_ err most).1 : Nat)) ∧ Rd w' base g l (numOut l at_ err most).2.1 (numOut l at_ err most).2.2 ∧ w.grownBy w' (some g) := by
  obtain ⟨i0, hi, hz0, hz1, hz2⟩ := oct_parts
  have HRD := Lib.hid h
  have HRY := Lib.hid (rd_ready base g l at_ err w h)
  obtain ⟨A, c, hlc, hcm, ho, hs⟩ := h
  have h0 := ho.cell 0 (by simp)
  have h1 := ho.cell 1 (by simp)
  have h2 := ho.cell 2 (by simp)
  have f1 := ho.frozen 1
  have f2 := ho.frozen 2
  simp only [List.getElem_cons_succ, List.getElem_cons_zero] at h0 h1 h2
  clear ho
  by_cases he : err = 0
  · subst he
    obtain ⟨A2, hcut, hs2⟩ := cut_fact (P := Try.prog) 27 5 i0 Try.underlying27 hi hz1 hs l.length (l.length - at_) at_ c (at_ : Int) .i64 (bvs_length l) (by omega) rfl hlc
    rw [show (bvs l).drop at_ = bvs (l.drop at_) from by simp [bvs]] at hs2
    have HL := Lib.hid (show (l.drop at_).length = l.length - at_ from by simp)
    obtain ⟨q, hq⟩ : ∃ q, q = l.length - at_ := ⟨_, rfl⟩
    rw [← hq] at hcut HL
    have hql : q + at_ = l.length := by omega
    clear hq
    obtain ⟨cc, hcc⟩ : ∃ cc, cc = c - at_ := ⟨_, rfl⟩
    rw [← hcc] at hcut
    clear hcc
    obtain ⟨v, hv⟩ : ∃ v, v = (scan (l.drop at_) 0 0).1 := ⟨_, rfl⟩
    obtain ⟨sz, hsz⟩ : ∃ sz, sz = (scan (l.drop at_) 0 0).2.1 := ⟨_, rfl⟩
    obtain ⟨er, her⟩ : ∃ er, er = (scan (l.drop at_) 0 0).2.2 := ⟨_, rfl⟩
    have hszl : sz ≤ q := by
      have := scan_size (l.drop at_) 0 0
      rw [← hsz, HL.out] at this
      omega
    have HF := Lib.hid (fun k : Nat => (oct_first A2 q cc (l.drop at_) (w.drewN k) g HL.out (hs2.drewN k) (by omega)).mono (fun _ _ h => (⟨h.1, h.2.symm⟩ : _ ∧ _)))
    rw [← hv, ← hsz, ← her] at HF
    have HV := Lib.hid hv
    have HSZ := Lib.hid hsz
    have HER := Lib.hid her
    clear hv hsz her hs hs2
    by_cases h3 : er = 0
    · have d3 : ((er : Int) == 0) = true := by simp; omega
      have d3n : ((er : Int) != 0) = false := by simp; omega
      have HE3 := Lib.hid h3
      by_cases h4 : 1099511627776 < (v : Int)
      · have HO := Lib.hid (show numOut l at_ 0 most = (0, at_, 4) from by
          unfold numOut
          rw [if_neg (by simp), if_neg (by rw [← HER.out]; simpa using h3), if_pos (by rw [← HV.out]; exact .inl h4)])
        have d4 : decide ((1099511627776 : Int) < (v : Int)) = true := by simpa using h4
        clear h3 h4
        go_enter Try.func50, Try.ntmps50
        go_wp2_with fail
        refine HRY.out.mono ?_
        rintro e wx ⟨rfl, rfl⟩
        rw [show ((0 : Int) == 0) = true from rfl]
        go_wp2_with fail
        go_quiet (first | (go_at_call 81; refine Calls.quiet_of_same (HF.out _)))
        go_wp2_with fail
        go_ret
        rw [HO.out]
        exact ⟨rfl, ((HRD.out.drewN _).put_err 4).1, (drewN_grown _ _ _).trans ((HRD.out.drewN _).put_err 4).2⟩
      · have d4 : decide ((1099511627776 : Int) < (v : Int)) = false := by simp; omega
        by_cases h5 : most < (v : Int)
        · have HO := Lib.hid (show numOut l at_ 0 most = (0, at_, 4) from by
            unfold numOut
            rw [if_neg (by simp), if_neg (by rw [← HER.out]; simpa using h3), if_pos (by rw [← HV.out]; exact .inr h5)])
          have d5 : decide (most < (v : Int)) = true := by simpa using h5
          clear h3 h4 h5
          go_enter Try.func50, Try.ntmps50
          go_wp2_with fail
          refine HRY.out.mono ?_
          rintro e wx ⟨rfl, rfl⟩
          rw [show ((0 : Int) == 0) = true from rfl]
          go_wp2_with fail
          go_quiet (first | (go_at_call 81; refine Calls.quiet_of_same (HF.out _)))
          go_wp2_with fail
          go_ret
          rw [HO.out]
          exact ⟨rfl, ((HRD.out.drewN _).put_err 4).1, (drewN_grown _ _ _).trans ((HRD.out.drewN _).put_err 4).2⟩
        · have HO := Lib.hid (show numOut l at_ 0 most = (v, at_ + sz, 0) from by
            unfold numOut
            rw [if_neg (by simp), if_neg (by rw [← HER.out]; simpa using h3), if_neg (by rw [← HV.out]; omega), ← HV.out, ← HSZ.out])
          have d5 : decide (most < (v : Int)) = false := by simp; omega
          clear h4 h5
          subst h3
          clear d3 d3n
          go_enter Try.func50, Try.ntmps50
          go_wp2_with fail
          refine HRY.out.mono ?_
          rintro e wx ⟨rfl, rfl⟩
          rw [show ((0 : Int) == 0) = true from rfl]
          go_wp2_with fail
          go_quiet (first | (go_at_call 81; refine Calls.quiet_of_same (HF.out _)))
          go_wp2_with fail
          go_ret
          rw [HO.out]
          exact ⟨rfl, ((HRD.out.drewN _).put_at (at_ + sz)).1, (drewN_grown _ _ _).trans ((HRD.out.drewN _).put_at (at_ + sz)).2⟩
    · have HO := Lib.hid (show numOut l at_ 0 most = (0, at_, (er : Int)) from by
        unfold numOut
        rw [if_neg (by simp), if_pos (by rw [← HER.out]; exact h3), ← HER.out])
      have d3 : ((er : Int) == 0) = false := by simp; omega
      have d3n : ((er : Int) != 0) = true := by simp; omega
      have HE3 := Lib.hid h3
      clear h3
      go_enter Try.func50, Try.ntmps50
      go_wp2_with fail
      refine HRY.out.mono ?_
      rintro e wx ⟨rfl, rfl⟩
      rw [show ((0 : Int) == 0) = true from rfl]
      go_wp2_with fail
      go_quiet (first | (go_at_call 81; refine Calls.quiet_of_same (HF.out _)))
      go_wp2_with fail
      go_ret
      rw [HO.out]
      exact ⟨rfl, ((HRD.out.drewN _).put_err er).1, (drewN_grown _ _ _).trans ((HRD.out.drewN _).put_err er).2⟩
  · have hd : (err == 0) = false := by simpa using he
    have HO := Lib.hid (show numOut l at_ err most = (0, at_, err) from by unfold numOut; rw [if_pos he])
    clear he h0 h1 h2 f1 f2 hs
    go_enter Try.func50, Try.ntmps50
    go_wp2_with fail
    refine HRY.out.mono ?_
    rintro e wx ⟨rfl, rfl⟩
    rw [hd]
    go_wp2
    go_ret
    rw [HO.out]
    exact ⟨rfl, HRD.out, World.grownBy.refl w _⟩
end Go.Proofs.Ytadmaalhhigbeaa

/- octet's Reader: texts and truths. -/
namespace Go.Proofs.Ytadmaalhhigbeaa
set_option linter.unusedVariables false
open Go.RowKit OctM

/-- s[k:k+m]: what the cut is, under one name. -/
theorem cut2_fact {P : Program} (t e : TypeId) (i : TypeInfo) (ht : P.underlying t = some (.slice e)) (hi : P.info? e = some i) (hsz : i.size = 1) {w : World} {B : Nat} {A : Option Addr} {xs : List Value} (h : Sees w B A xs)
    (n k m c : Nat) (K H : Int) (kl kh : IntKind) (hn : xs.length = n) (hkm : k + m ≤ n) (hK : K = (k : Int)) (hH : H = ((k + m : Nat) : Int)) (hc : n ≤ c) :
    ∃ A2, (∀ wx, (Instr.slice t (.slice A n c) (some (.int kl K)) (some (.int kh H)) none).run P wx = .ok (.slice A2 m (c - k)) wx) ∧ Sees w B A2 ((xs.drop k).take m) := by
  refine ⟨if c = k then A else A.map (·.add k), fun wx => ?_, (h.cut (by omega)).take m⟩
  have he : P.elem t = e := by simp [Program.elem, ht]
  have ht' : P.underlying t = some (.slice (P.elem t)) := by rw [he]; exact ht
  rw [run_slice_lh wx t A n c ht' kl kh K H (by omega) (by omega) (by omega), he]
  simp [sizeOf, typeInfo, hi, hsz, sliced, hK, hH]
  try omega

/-- What a reader's block holds. -/
theorem Rd.facts {w : World} {base g : Nat} {l : List UInt8} {at_ : Nat} {err : Int} (h : Rd w base g l at_ err) :
    ∃ A c, l.length ≤ c ∧ c ≤ maxLen ∧ w.cell? ⟨g, 0, none⟩ = some (.slice A l.length c) ∧ w.cell? ⟨g, 1, none⟩ = some (.int .i64 at_) ∧ w.cell? ⟨g, 2, none⟩ = some (.int .i64 err) ∧
      w.frozen? ⟨g, 1, none⟩ = false ∧ w.frozen? ⟨g, 2, none⟩ = false ∧ Sees w g A (bvs l) := by
  obtain ⟨A, c, hlc, hcm, ho, hs⟩ := h
  have h0 := ho.cell 0 (by simp)
  have h1 := ho.cell 1 (by simp)
  have h2 := ho.cell 2 (by simp)
  simp only [List.getElem_cons_succ, List.getElem_cons_zero] at h0 h1 h2
  exact ⟨A, c, hlc, hcm, h0, h1, h2, ho.frozen 1, ho.frozen 2, hs⟩

theorem numOut_at (l : List UInt8) (at_ : Nat) (err most : Int) (ha : at_ ≤ l.length) : (numOut l at_ err most).2.1 ≤ l.length := by
  have := scan_size (l.drop at_) 0 0
  rw [List.length_drop] at this
  unfold numOut
  split
  · exact ha
  · split
    · exact ha
    · split
      · exact ha
      · simp; omega

/-- What taking a truth gives. -/
def flagOut (l : List UInt8) (at_ : Nat) (err : Int) : Bool × Nat × Int :=
  if err ≠ 0 then (false, at_, err)
  else if 1 < (numOut l at_ 0 1099511627776).1 then (false, at_, 3)
  else (decide ((numOut l at_ 0 1099511627776).1 = 1), (numOut l at_ 0 1099511627776).2)

end Go.Proofs.Ytadmaalhhigbeaa

/- octet's Reader: a text. -/
namespace Go.Proofs.Ytadmaalhhigbeaa
set_option linter.unusedVariables false
open Go.RowKit OctM

/-- What taking a text gives. -/
def strOut (l : List UInt8) (at_ : Nat) (err most : Int) : List UInt8 × Nat × Int :=
  if err ≠ 0 then ([], at_, err)
  else if (numOut l at_ 0 most).2.2 ≠ 0 then ([], (numOut l at_ 0 most).2)
  else if l.length < (numOut l at_ 0 most).2.1 + (numOut l at_ 0 most).1 then ([], at_, 2)
  else ((l.drop (numOut l at_ 0 most).2.1).take (numOut l at_ 0 most).1, (numOut l at_ 0 most).2.1 + (numOut l at_ 0 most).1, 0)

set_option maxHeartbeats 1600000 in
theorem rd_str (base g : Nat) (l : List UInt8) (at_ : Nat) (err most : Int) (w : World) (h : Rd w base g l at_ err) (ha : at_ ≤ l.length) (hm : l.length ≤ 2097152) :
    Calls Try.prog 104 #[.pointer (some ⟨g, 0, none⟩), .int .i64 most] w fun e w' =>
      e = .returned (.string (str (strOut l at_ err most).1)) ∧ Rd w' base g l (strOut l at_ err most).2.1 (strOut l at_ err most).2.2 ∧ w.grownBy w' (some g) := by
  obtain ⟨i0, hi, hz0, hz1, hz2⟩ := oct_parts
  have HRD := Lib.hid h
  have HRY := Lib.hid (rd_ready base g l at_ err w h)
  by_cases he : err = 0
  · subst he
    have HNUM := Lib.hid (rd_num base g l at_ 0 most w h ha hm)
    have hna := numOut_at l at_ 0 most ha
    obtain ⟨A, c, hlc, hcm, h0, h1, h2, f1, f2, hs⟩ := h.facts
    clear h hs hlc hcm
    obtain ⟨o, ho⟩ : ∃ o, o = numOut l at_ 0 most := ⟨_, rfl⟩
    have HFO := Lib.hid (show strOut l at_ 0 most = if o.2.2 ≠ 0 then ([], o.2) else if l.length < o.2.1 + o.1 then ([], at_, 2) else ((l.drop o.2.1).take o.1, o.2.1 + o.1, 0) from by unfold strOut; rw [if_neg (by simp), ← ho])
    rw [← ho] at HNUM hna
    clear ho
    obtain ⟨v, a1, e1⟩ := o
    simp only at HFO HNUM hna
    by_cases h3 : e1 = 0
    · subst h3
      by_cases h4 : l.length < a1 + v
      · have HO := Lib.hid (show strOut l at_ 0 most = ([], at_, 2) from by rw [HFO.out, if_neg (by simp), if_pos h4])
        have d4 : decide ((l.length : Int) - (a1 : Int) < (v : Int)) = true := by simp; omega
        clear h4
        go_enter Try.func104, Try.ntmps104
        go_wp2_with fail
        refine HRY.out.mono ?_
        rintro e wx ⟨rfl, rfl⟩
        rw [show ((0 : Int) == 0) = true from rfl]
        go_wp2_with fail
        refine HNUM.out.mono ?_
        rintro e w1 ⟨rfl, rd1, g1⟩
        clear h0 h1 h2 f1 f2
        obtain ⟨A, c, hlc, hcm, h0, h1, h2, f1, f2, hs⟩ := rd1.facts
        have HR1 := Lib.hid rd1
        clear rd1 hs hlc hcm
        go_wp2_with fail
        refine (rd_left base g l a1 0 w1 HR1.out hna hm).mono ?_
        rintro e w2 ⟨rfl, nk, rfl⟩
        go_wp2_with fail
        go_ret
        rw [HO.out]
        exact ⟨rfl, (((HR1.out.drewN nk).put_at at_).1.put_err 2).1, ((g1.trans (drewN_grown _ _ _)).trans ((HR1.out.drewN nk).put_at at_).2).trans (((HR1.out.drewN nk).put_at at_).1.put_err 2).2⟩
      · have HO := Lib.hid (show strOut l at_ 0 most = ((l.drop a1).take v, a1 + v, 0) from by rw [HFO.out, if_neg (by simp), if_neg h4])
        have d4 : decide ((l.length : Int) - (a1 : Int) < (v : Int)) = false := by simp; omega
        have hav : a1 + v ≤ l.length := by omega
        clear h4
        go_enter Try.func104, Try.ntmps104
        go_wp2_with fail
        refine HRY.out.mono ?_
        rintro e wx ⟨rfl, rfl⟩
        rw [show ((0 : Int) == 0) = true from rfl]
        go_wp2_with fail
        refine HNUM.out.mono ?_
        rintro e w1 ⟨rfl, rd1, g1⟩
        clear h0 h1 h2 f1 f2
        obtain ⟨A, c, hlc, hcm, h0, h1, h2, f1, f2, hs⟩ := rd1.facts
        have HR1 := Lib.hid rd1
        clear rd1
        obtain ⟨A2, hcut, hs2⟩ := cut2_fact (P := Try.prog) 27 5 i0 Try.underlying27 hi hz1 hs l.length a1 v c (a1 : Int) ((a1 : Int) + (v : Int)) .i64 .i64 (bvs_length l) hav rfl (by simp) hlc
        rw [show ((bvs l).drop a1).take v = bvs ((l.drop a1).take v) from by simp [bvs]] at hs2
        have HL := Lib.hid (show ((l.drop a1).take v).length = v from by rw [List.length_take, List.length_drop]; omega)
        obtain ⟨cc, hcc⟩ : ∃ cc, cc = c - a1 := ⟨_, rfl⟩
        rw [← hcc] at hcut
        have hstr := fun k : Nat => run_str (P := Try.prog) (w1.drewN k) g 27 5 9 Try.underlying27 Try.underlying5 Try.underlying9 A2 v cc ((l.drop a1).take v) HL.out (hs2.drewN k)
        obtain ⟨t, ht⟩ : ∃ t, t = str ((l.drop a1).take v) := ⟨_, rfl⟩
        rw [← ht] at hstr
        have HT := Lib.hid ht
        clear hcc hs hs2 hlc hcm ht
        go_wp2_with fail
        refine (rd_left base g l a1 0 w1 HR1.out hna hm).mono ?_
        rintro e w2 ⟨rfl, nk, rfl⟩
        go_wp2_with fail
        go_quiet (fail)
        go_wp2_with fail
        go_ret
        rw [HO.out, ← HT.out]
        exact ⟨rfl, ((HR1.out.drewN _).put_at (a1 + v)).1, (g1.trans (drewN_grown _ _ _)).trans ((HR1.out.drewN _).put_at (a1 + v)).2⟩
    · have HO := Lib.hid (show strOut l at_ 0 most = ([], a1, e1) from by rw [HFO.out, if_pos h3])
      have d4 : (e1 == 0) = false := by simpa using h3
      have d5 : (e1 != 0) = true := by simpa using h3
      clear h3
      go_enter Try.func104, Try.ntmps104
      go_wp2_with fail
      refine HRY.out.mono ?_
      rintro e wx ⟨rfl, rfl⟩
      rw [show ((0 : Int) == 0) = true from rfl]
      go_wp2_with fail
      refine HNUM.out.mono ?_
      rintro e w1 ⟨rfl, rd1, g1⟩
      clear h0 h1 h2 f1 f2
      obtain ⟨A, c, hlc, hcm, h0, h1, h2, f1, f2, hs⟩ := rd1.facts
      have HR1 := Lib.hid rd1
      clear rd1 hs hlc hcm
      go_wp2_with fail
      go_ret
      rw [HO.out]
      exact ⟨rfl, HR1.out, g1⟩
  · have hd : (err == 0) = false := by simpa using he
    have HO := Lib.hid (show strOut l at_ err most = ([], at_, err) from by unfold strOut; rw [if_pos he])
    clear he h
    go_enter Try.func104, Try.ntmps104
    go_wp2_with fail
    refine HRY.out.mono ?_
    rintro e wx ⟨rfl, rfl⟩
    rw [hd]
    go_wp2
    go_ret
    rw [HO.out]
    exact ⟨rfl, HRD.out, World.grownBy.refl w _⟩
end Go.Proofs.Ytadmaalhhigbeaa

/- octet's Reader: Fail, End; and of no reader. -/
namespace Go.Proofs.Ytadmaalhhigbeaa
set_option linter.unusedVariables false
open Go.RowKit OctM

/-- The error once another one is noted. -/
def failOut (err e : Int) : Int := if err = 0 then e else err
theorem rd_fail (base g : Nat) (l : List UInt8) (at_ : Nat) (err e0 : Int) (w : World) (h : Rd w base g l at_ err) :
    Calls Try.prog 51 #[.pointer (some ⟨g, 0, none⟩), .int .i64 e0] w fun e w' => e = .returned (.tuple #[]) ∧ Rd w' base g l at_ (failOut err e0) ∧ w.grownBy w' (some g) := by
  have HRD := Lib.hid h
  have HRY := Lib.hid (rd_ready base g l at_ err w h)
  obtain ⟨A, c, hlc, hcm, h0, h1, h2, f1, f2, hs⟩ := h.facts
  clear h hs hlc hcm
  by_cases he : err = 0
  · have hd : (err == 0) = true := by simpa using he
    have HO := Lib.hid (show failOut err e0 = e0 from if_pos he)
    clear he
    go_enter Try.func51, Try.ntmps51
    go_wp2_with fail
    refine HRY.out.mono ?_
    rintro e wx ⟨rfl, rfl⟩
    rw [hd]
    go_wp2_with fail
    go_returns
    rw [HO.out]
    exact ⟨rfl, (HRD.out.put_err e0).1, (HRD.out.put_err e0).2⟩
  · have hd : (err == 0) = false := by simpa using he
    have HO := Lib.hid (show failOut err e0 = err from if_neg he)
    clear he
    go_enter Try.func51, Try.ntmps51
    go_wp2_with fail
    refine HRY.out.mono ?_
    rintro e wx ⟨rfl, rfl⟩
    rw [hd]
    go_wp2_with fail
    go_returns
    rw [HO.out]
    exact ⟨rfl, HRD.out, World.grownBy.refl w _⟩

/-- The first error, or that bytes are left. -/
def endOut (n at_ : Nat) (err : Int) : Int := if err ≠ 0 then err else if at_ < n then 3 else 0
end Go.Proofs.Ytadmaalhhigbeaa

/- octet's Reader: what each method returns where there is no reader. -/
namespace Go.Proofs.Ytadmaalhhigbeaa
set_option linter.unusedVariables false
open Go.RowKit OctM

theorem nil_ready (w : World) : Calls Try.prog 80 #[.pointer none] w fun e w' => e = .returned (.bool false) ∧ w = w' := by
  go_enter Try.func80, Try.ntmps80
  go_wp2_with fail
  go_returns
  exact ⟨rfl, rfl⟩
theorem nil_num (w : World) (most : Int) : Calls Try.prog 50 #[.pointer none, .int .i64 most] w fun e w' => e = .returned (.int .i64 0) ∧ w = w' := by
  go_enter Try.func50, Try.ntmps50
  go_wp2_with fail
  refine (nil_ready _).mono ?_
  rintro e wx ⟨rfl, rfl⟩
  go_wp2_with fail
  go_returns
  exact ⟨rfl, rfl⟩
theorem nil_str (w : World) (most : Int) : Calls Try.prog 104 #[.pointer none, .int .i64 most] w fun e w' => e = .returned (.string (str [])) ∧ w = w' := by
  go_enter Try.func104, Try.ntmps104
  go_wp2_with fail
  refine (nil_ready _).mono ?_
  rintro e wx ⟨rfl, rfl⟩
  go_wp2_with fail
  go_returns
  exact ⟨rfl, rfl⟩
theorem nil_left (w : World) : Calls Try.prog 19 #[.pointer none] w fun e w' => e = .returned (.int .i64 0) ∧ w = w' := by
  go_enter Try.func19, Try.ntmps19
  go_wp2_with fail
  go_returns
  exact ⟨rfl, rfl⟩
theorem nil_err (w : World) : Calls Try.prog 18 #[.pointer none] w fun e w' => e = .returned (.int .i64 1) ∧ w = w' := by
  go_enter Try.func18, Try.ntmps18
  go_wp2_with fail
  go_returns
  exact ⟨rfl, rfl⟩
theorem nil_fail (w : World) (most : Int) : Calls Try.prog 51 #[.pointer none, .int .i64 most] w fun e w' => e = .returned (.tuple #[]) ∧ w = w' := by
  go_enter Try.func51, Try.ntmps51
  go_wp2_with fail
  refine (nil_ready _).mono ?_
  rintro e wx ⟨rfl, rfl⟩
  go_wp2_with fail
  go_returns
  exact ⟨rfl, rfl⟩
end Go.Proofs.Ytadmaalhhigbeaa

/- The document's reader: what each method returns, and what it leaves. -/
namespace Go.Proofs.Ytadmaalhhigbeaa
set_option linter.unusedVariables false
open Go.RowKit OctM

/-- The document's reader at block g: what is left, and the error. -/
def Rr (w : World) (base g : Nat) (l : List UInt8) (err : Int) : Prop :=
  Own w base 38 (.slice (some ⟨g, 0, none⟩) 2 2) [.string (str l), .int .i64 err]
theorem Rr.facts {w : World} {base g : Nat} {l : List UInt8} {err : Int} (h : Rr w base g l err) :
    w.cell? ⟨g, 0, none⟩ = some (.string (str l)) ∧ w.cell? ⟨g, 1, none⟩ = some (.int .i64 err) ∧ w.frozen? ⟨g, 0, none⟩ = false ∧ w.frozen? ⟨g, 1, none⟩ = false := by
  have h0 := Own.cell h 0 (by simp)
  have h1 := Own.cell h 1 (by simp)
  simp only [List.getElem_cons_succ, List.getElem_cons_zero] at h0 h1
  exact ⟨h0, h1, Own.frozen h 0, Own.frozen h 1⟩
theorem Rr.drewN {w : World} {base g : Nat} {l : List UInt8} {err : Int} (h : Rr w base g l err) (k : Nat) : Rr (w.drewN k) base g l err := Own.drewN h k
theorem Rr.put_err {w : World} {base g : Nat} {l : List UInt8} {err : Int} (h : Rr w base g l err) (e : Int) :
    Rr (w.setCell ⟨g, 1, none⟩ (.int .i64 e)) base g l e ∧ w.grownBy (w.setCell ⟨g, 1, none⟩ (.int .i64 e)) (some g) :=
  World.ownsRow.stored (h : w.ownsRow _ _ _ _ _ _) 1 (.int .i64 e)
theorem Rr.put_str {w : World} {base g : Nat} {l : List UInt8} {err : Int} (h : Rr w base g l err) (l' : List UInt8) :
    Rr (w.setCell ⟨g, 0, none⟩ (.string (str l'))) base g l' err ∧ w.grownBy (w.setCell ⟨g, 0, none⟩ (.string (str l'))) (some g) :=
  World.ownsRow.stored (h : w.ownsRow _ _ _ _ _ _) 0 (.string (str l'))
theorem rr_fail (base g : Nat) (l : List UInt8) (err e0 : Int) (w : World) (h : Rr w base g l err) :
    Calls Try.prog 54 #[.pointer (some ⟨g, 0, none⟩), .int .i64 e0] w fun e w' => e = .returned (.tuple #[]) ∧ Rr w' base g l (failOut err e0) ∧ w.grownBy w' (some g) := by
  have HRD := Lib.hid h
  obtain ⟨h0, h1, f0, f1⟩ := h.facts
  clear h
  by_cases he : err = 0
  · have hd : (err == 0) = true := by simpa using he
    have HO := Lib.hid (show failOut err e0 = e0 from if_pos he)
    clear he
    go_enter Try.func54, Try.ntmps54
    go_wp2_with fail
    go_returns
    rw [HO.out]
    exact ⟨rfl, (HRD.out.put_err e0).1, (HRD.out.put_err e0).2⟩
  · have hd : (err == 0) = false := by simpa using he
    have HO := Lib.hid (show failOut err e0 = err from if_neg he)
    clear he
    go_enter Try.func54, Try.ntmps54
    go_wp2_with fail
    go_returns
    rw [HO.out]
    exact ⟨rfl, HRD.out, World.grownBy.refl w _⟩

theorem str_cut (l : List UInt8) (k : Nat) : (str l).extract k (str l).size = str (l.drop k) := by
  apply ByteArray.ext
  have hsz : (str l).size = l.length := str_size l
  rw [hsz]
  apply Array.ext'
  simp [str, ByteArray.data_extract, List.take_of_length_le]
theorem nextOut_size (l : List UInt8) (most : Int) : (nextOut l most).2.1 ≤ l.length := by
  have := scan_size l 0 0
  unfold nextOut
  split
  · simp
  · split
    · simp
    · omega

/-- What the document's Num gives: the number, what is left, the error. -/
def rnumOut (l : List UInt8) (err most : Int) : Nat × List UInt8 × Int :=
  if err ≠ 0 then (0, l, err) else ((nextOut l most).1, l.drop (nextOut l most).2.1, ((nextOut l most).2.2 : Nat))
set_option maxHeartbeats 800000 in
theorem rr_num (base g : Nat) (l : List UInt8) (err most : Int) (w : World) (h : Rr w base g l err) (hm : l.length ≤ 2097152) :
    Calls Try.prog 53 #[.pointer (some ⟨g, 0, none⟩), .int .i64 most] w fun e w' =>
      e = .returned (.int .i64 ((rnumOut l err most).1 : Nat)) ∧ Rr w' base g (rnumOut l err most).2.1 (rnumOut l err most).2.2 ∧ w.grownBy w' (some g) := by
  have HRD := Lib.hid h
  obtain ⟨h0, h1, f0, f1⟩ := h.facts
  have hsz := str_size l
  clear h
  by_cases he : err = 0
  · have hd : (err != 0) = false := by simpa using he
    have HNX := Lib.hid (fun wx : World => ref_next l most wx hm)
    have hns := nextOut_size l most
    have HO := Lib.hid (show rnumOut l err most = ((nextOut l most).1, l.drop (nextOut l most).2.1, (((nextOut l most).2.2 : Nat) : Int)) from by unfold rnumOut; rw [if_neg (by simpa using he)])
    obtain ⟨o, ho⟩ : ∃ o, o = nextOut l most := ⟨_, rfl⟩
    rw [← ho] at HNX HO hns
    obtain ⟨v, n, er⟩ := o
    simp only at HNX HO hns
    have HC := Lib.hid (str_cut l n)
    clear he ho
    go_enter Try.func53, Try.ntmps53
    go_wp2_with fail
    refine (HNX.out _).mono ?_
    rintro e wx ⟨rfl, rfl⟩
    go_wp2_with fail
    go_ret
    rw [HO.out, show (str l).extract n l.length = str (l.drop n) from by rw [← HC.out, hsz]]
    exact ⟨rfl, ((HRD.out.put_err er).1.put_str (l.drop n)).1, (HRD.out.put_err er).2.trans ((HRD.out.put_err er).1.put_str (l.drop n)).2⟩
  · have hd : (err != 0) = true := by simpa using he
    have HO := Lib.hid (show rnumOut l err most = (0, l, err) from by unfold rnumOut; rw [if_pos he])
    clear he
    go_enter Try.func53, Try.ntmps53
    go_wp2_with fail
    go_ret
    rw [HO.out]
    exact ⟨rfl, HRD.out, World.grownBy.refl w _⟩
end Go.Proofs.Ytadmaalhhigbeaa

/- The document's reader: Flag, End. -/
namespace Go.Proofs.Ytadmaalhhigbeaa
set_option linter.unusedVariables false
open Go.RowKit OctM

/-- What the document's Flag gives. -/
def rflagOut (l : List UInt8) (err : Int) : Bool × List UInt8 × Int :=
  if err ≠ 0 then (false, l, err)
  else if (nextOut l 1099511627776).2.2 ≠ 0 then (false, l, ((nextOut l 1099511627776).2.2 : Nat))
  else if 1 < (nextOut l 1099511627776).1 then (false, l, 3)
  else (decide ((nextOut l 1099511627776).1 = 1), l.drop (nextOut l 1099511627776).2.1, 0)
end Go.Proofs.Ytadmaalhhigbeaa

/- The document's reader: Str. -/
namespace Go.Proofs.Ytadmaalhhigbeaa
set_option linter.unusedVariables false
open Go.RowKit OctM

theorem str_mid (l : List UInt8) (a b : Nat) : (str l).extract a (a + b) = str ((l.drop a).take b) := by
  apply ByteArray.ext
  apply Array.ext'
  simp [str, ByteArray.data_extract]
/-- What the document's Str gives. -/
def rstrOut (l : List UInt8) (err most : Int) : List UInt8 × List UInt8 × Int :=
  if err ≠ 0 then ([], l, err)
  else if (nextOut l most).2.2 ≠ 0 then ([], l, ((nextOut l most).2.2 : Nat))
  else if l.length < (nextOut l most).2.1 + (nextOut l most).1 then ([], l, 2)
  else ((l.drop (nextOut l most).2.1).take (nextOut l most).1, l.drop ((nextOut l most).2.1 + (nextOut l most).1), 0)
set_option maxHeartbeats 800000 in
theorem rr_str (base g : Nat) (l : List UInt8) (err most : Int) (w : World) (h : Rr w base g l err) (hm : l.length ≤ 2097152) :
    Calls Try.prog 105 #[.pointer (some ⟨g, 0, none⟩), .int .i64 most] w fun e w' =>
      e = .returned (.string (str (rstrOut l err most).1)) ∧ Rr w' base g (rstrOut l err most).2.1 (rstrOut l err most).2.2 ∧ w.grownBy w' (some g) := by
  have HRD := Lib.hid h
  obtain ⟨h0, h1, f0, f1⟩ := h.facts
  have hsz := str_size l
  clear h
  by_cases he : err = 0
  · have hd : (err != 0) = false := by simpa using he
    have HE := Lib.hid he
    have HNX := Lib.hid (fun wx : World => ref_next l most wx hm)
    have hns := nextOut_size l most
    have HFO := Lib.hid (show rstrOut l err most = if (nextOut l most).2.2 ≠ 0 then ([], l, (((nextOut l most).2.2 : Nat) : Int))
      else if l.length < (nextOut l most).2.1 + (nextOut l most).1 then ([], l, 2) else ((l.drop (nextOut l most).2.1).take (nextOut l most).1, l.drop ((nextOut l most).2.1 + (nextOut l most).1), 0) from by unfold rstrOut; rw [if_neg (by simpa using he)])
    obtain ⟨o, ho⟩ : ∃ o, o = nextOut l most := ⟨_, rfl⟩
    rw [← ho] at HNX HFO hns
    obtain ⟨v, n, er⟩ := o
    simp only at HNX HFO hns
    clear he ho
    by_cases h3 : er = 0
    · have d3 : ((er : Int) == 0) = true := by simp; omega
      have d3n : ((er : Int) != 0) = false := by simp; omega
      by_cases h4 : l.length < n + v
      · have HO := Lib.hid (show rstrOut l err most = ([], l, 2) from by rw [HFO.out, if_neg (by simpa using h3), if_pos h4])
        have d4 : decide ((l.length : Int) - (n : Int) < (v : Int)) = true := by simp; omega
        clear h3 h4
        go_enter Try.func105, Try.ntmps105
        go_wp2_with fail
        refine (HNX.out _).mono ?_
        rintro e wx ⟨rfl, rfl⟩
        go_wp2_with fail
        go_ret
        rw [HO.out]
        exact ⟨rfl, (HRD.out.put_err 2).1, (HRD.out.put_err 2).2⟩
      · have HO := Lib.hid (show rstrOut l err most = ((l.drop n).take v, l.drop (n + v), 0) from by rw [HFO.out, if_neg (by simpa using h3), if_neg h4])
        have d4 : decide ((l.length : Int) - (n : Int) < (v : Int)) = false := by simp; omega
        have hnv : n + v ≤ l.length := by omega
        have hb1 : (n : Int) + (v : Int) ≤ (l.length : Int) := by omega
        have hb2 : (n : Int) ≤ (n : Int) + (v : Int) := by omega
        have HC := Lib.hid (str_cut l (n + v))
        have HM := Lib.hid (str_mid l n v)
        clear h3 h4
        go_enter Try.func105, Try.ntmps105
        go_wp2_with fail
        refine (HNX.out _).mono ?_
        rintro e wx ⟨rfl, rfl⟩
        go_wp2_with fail
        go_ret
        rw [HO.out]
        have e1 : (str l).extract ((n : Int) + (v : Int)).toNat l.length = str (l.drop (n + v)) := by rw [← HC.out, hsz]; congr 1
        have e2 : (str l).extract n ((n : Int) + (v : Int)).toNat = str ((l.drop n).take v) := by rw [← HM.out]; congr 1
        have hr := HRD.out
        rw [HE.out] at hr
        first
          | (rw [e1, e2]; exact ⟨rfl, (hr.put_str (l.drop (n + v))).1, (hr.put_str (l.drop (n + v))).2⟩)
          | (rw [HM.out, show (str l).extract (n + v) l.length = str (l.drop (n + v)) from by rw [← HC.out, hsz]]; exact ⟨rfl, (hr.put_str (l.drop (n + v))).1, (hr.put_str (l.drop (n + v))).2⟩)
    · have HO := Lib.hid (show rstrOut l err most = ([], l, (er : Int)) from by rw [HFO.out, if_pos h3])
      have d3 : ((er : Int) == 0) = false := by simp; omega
      have d3n : ((er : Int) != 0) = true := by simp; omega
      clear h3
      go_enter Try.func105, Try.ntmps105
      go_wp2_with fail
      refine (HNX.out _).mono ?_
      rintro e wx ⟨rfl, rfl⟩
      go_wp2_with fail
      go_ret
      rw [HO.out]
      exact ⟨rfl, (HRD.out.put_err er).1, (HRD.out.put_err er).2⟩
  · have hd : (err != 0) = true := by simpa using he
    have HO := Lib.hid (show rstrOut l err most = ([], l, err) from by unfold rstrOut; rw [if_pos he])
    clear he
    go_enter Try.func105, Try.ntmps105
    go_wp2_with fail
    go_ret
    rw [HO.out]
    exact ⟨rfl, HRD.out, World.grownBy.refl w _⟩
end Go.Proofs.Ytadmaalhhigbeaa

/- The document's reader: End. -/
namespace Go.Proofs.Ytadmaalhhigbeaa
set_option linter.unusedVariables false
open Go.RowKit OctM

end Go.Proofs.Ytadmaalhhigbeaa

/- The program's reader and the document's answer alike. -/
namespace Go.Proofs.Ytadmaalhhigbeaa
set_option linter.unusedVariables false
open Go.RowKit OctM

theorem next_num (l : List UInt8) (at_ : Nat) (most : Int) :
    nextOut (l.drop at_) most = ((numOut l at_ 0 most).1, (numOut l at_ 0 most).2.1 - at_, (numOut l at_ 0 most).2.2.toNat) ∧ at_ ≤ (numOut l at_ 0 most).2.1 ∧ 0 ≤ (numOut l at_ 0 most).2.2 ∧
    ((numOut l at_ 0 most).2.2 ≠ 0 → (numOut l at_ 0 most).1 = 0 ∧ (numOut l at_ 0 most).2.1 = at_) := by
  unfold nextOut numOut
  rw [if_neg (show ¬ ((0 : Int) ≠ 0) by simp)]
  generalize scan (l.drop at_) 0 0 = s
  obtain ⟨v, n, e⟩ := s
  by_cases h1 : e = 0
  · subst h1
    by_cases h2 : 1099511627776 < (v : Int) ∨ most < (v : Int)
    · simp [h2]
    · simp [h2]
  · simp [h1]
theorem same_num (l : List UInt8) (at_ : Nat) (err most : Int) :
    rnumOut (l.drop at_) err most = ((numOut l at_ err most).1, l.drop (numOut l at_ err most).2.1, (numOut l at_ err most).2.2) := by
  by_cases he : err = 0
  · subst he
    obtain ⟨h1, h2, h3, h4⟩ := next_num l at_ most
    unfold rnumOut
    rw [if_neg (by simp), h1]
    generalize numOut l at_ 0 most = o at *
    obtain ⟨v, a, e⟩ := o
    simp only at *
    rw [List.drop_drop, show at_ + (a - at_) = a by omega, Int.toNat_of_nonneg h3]
  · unfold rnumOut numOut
    rw [if_pos he, if_pos he]
theorem same_flag (l : List UInt8) (at_ : Nat) (err : Int) :
    rflagOut (l.drop at_) err = ((flagOut l at_ err).1, l.drop (flagOut l at_ err).2.1, (flagOut l at_ err).2.2) := by
  by_cases he : err = 0
  · subst he
    obtain ⟨h1, h2, h3, h4⟩ := next_num l at_ 1099511627776
    unfold rflagOut flagOut
    simp only [ne_eq, not_true_eq_false, if_false]
    rw [h1]
    generalize numOut l at_ 0 1099511627776 = o at *
    obtain ⟨v, a, e⟩ := o
    simp only at *
    by_cases h5 : e = 0
    · subst h5
      simp only [Int.toNat_zero, not_true_eq_false, if_false]
      by_cases h6 : 1 < v
      · simp [h6]
      · rw [if_neg h6, if_neg h6, List.drop_drop, show at_ + (a - at_) = a by omega]
    · obtain ⟨rfl, rfl⟩ := h4 h5
      rw [if_pos (by omega)]
      simp [Int.toNat_of_nonneg h3]
  · unfold rflagOut flagOut
    rw [if_pos he, if_pos he]
theorem same_str (l : List UInt8) (at_ : Nat) (err most : Int) (ha : at_ ≤ l.length) :
    rstrOut (l.drop at_) err most = ((strOut l at_ err most).1, l.drop (strOut l at_ err most).2.1, (strOut l at_ err most).2.2) := by
  by_cases he : err = 0
  · subst he
    obtain ⟨h1, h2, h3, h4⟩ := next_num l at_ most
    unfold rstrOut strOut
    simp only [ne_eq, not_true_eq_false, if_false]
    rw [h1]
    generalize numOut l at_ 0 most = o at *
    obtain ⟨v, a, e⟩ := o
    simp only at *
    by_cases h5 : e = 0
    · subst h5
      simp only [Int.toNat_zero, not_true_eq_false, if_false]
      rw [List.length_drop]
      by_cases h6 : l.length < a + v
      · rw [if_pos (by omega), if_pos h6]
      · rw [if_neg (by omega), if_neg h6, List.drop_drop, List.drop_drop, show at_ + (a - at_) = a by omega, show at_ + (a - at_ + v) = a + v by omega]
    · obtain ⟨rfl, rfl⟩ := h4 h5
      rw [if_pos (by omega), if_pos h5]
      simp [Int.toNat_of_nonneg h3]
  · unfold rstrOut strOut
    rw [if_pos he, if_pos he]
theorem same_end (l : List UInt8) (at_ : Nat) (err : Int) (ha : at_ ≤ l.length) : endOut (l.drop at_).length 0 err = endOut l.length at_ err := by
  unfold endOut
  rw [List.length_drop]
  by_cases h : at_ < l.length
  · rw [if_pos (show 0 < l.length - at_ by omega), if_pos h]
  · rw [if_neg (show ¬ 0 < l.length - at_ by omega), if_neg h]
end Go.Proofs.Ytadmaalhhigbeaa

/- What each frame of this seat asks once. -/
namespace Go.Proofs.Ytadmaalhhigbeaa
theorem own : ownKnob Try.prog.godebug = none := by kernel_rfl
theorem laidOut : laidOutB Try.prog = true := by kernel_rfl
theorem boolT : Try.prog.underlying 4 = some .bool := Try.underlying4
end Go.Proofs.Ytadmaalhhigbeaa
