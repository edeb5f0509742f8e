/- The walks of MaskTells, MaskTexts, MaskBack. -/
import Derived.Test.YtgdidamjgaegkaaDoorTxtC
import Derived.Test.YtgdidamjgaegkaaDoorDoor
namespace Go.Proofs.YtgdidamjgaegkaaDoor
set_option linter.unusedVariables false
open Go Go.RowKit BitM MskM

def MaxAt (m : Int) (w : World) : Prop := w.cell? ⟨0, 0, none⟩ = some (.int .i64 m)
theorem MaxAt.later {m : Int} {w w' : World} (h : MaxAt m w) (hb : Below w.heap.size w w') : MaxAt m w' := max_later (B := 0) h hb

set_option maxRecDepth 100000 in
set_option maxHeartbeats 1600000 in
theorem maw_any (mm : Int) (w : World) (hmm : MaxAt mm w) : Calls Tryd.prog 51 #[] w fun e w' => e = .returned (.bool true) ∧ Below w.heap.size w w' := by
  have HR := Lib.hid (mread_any { data := #[108, 44, 48] } mm w (by decide) hmm)
  have hm1 : mout ({ data := #[108, 44, 48] } : ByteArray).data.toList = (0, false) := by decide +kernel
  rw [hm1] at HR
  have HMK := Lib.hid (fun wx : World => make_any true (some ⟨wx.heap.size, 0, none⟩) 2 2 [3, 0] (wx.alloc (.cells #[.int .i64 3, .int .i64 0] 3)) (wx.heap.size + 1) rfl (sees_lit wx #[.int .i64 3, .int .i64 0] 3 (0, 0) _ rfl) (by omega))
  have hm2 : (((mkm true [3, 0]).toNat : Nat) : Int) = 265 := by decide +kernel
  rw [hm2] at HMK
  have HSH := Lib.hid (fun wx : World => mshow_any 265#32 wx)
  have hm3 : (((265#32 : BitVec 32).toNat : Nat) : Int) = 265 := rfl
  have hm4 : str (mtx (265#32 : BitVec 32).toNat) = { data := #[48, 44, 51, 44, 108] } := by
    have : mtx (265#32 : BitVec 32).toNat = [48, 44, 51, 44, 108] := by decide +kernel
    rw [this]; rfl
  rw [hm3, hm4] at HSH
  clear hm1 hm2 hm3 hm4 hmm
  go_enter Tryd.func51, Tryd.ntmps51
  go_wp2_with fail
  refine HR.out.mono ?_
  rintro e w1 ⟨rfl, hb1⟩
  go_wp2_with fail
  refine (HMK.out _).mono ?_
  rintro e w2 ⟨rfl, rfl⟩
  go_wp2_with fail
  refine (HSH.out _).mono ?_
  rintro e w3 ⟨rfl, hb3⟩
  have hb2 := hb1.alloc hb1.size (.cells #[.int .i64 3, .int .i64 0] 3)
  have hb4 := hb2.trans (hb3.mono hb2.size)
  go_wp2_with fail
  go_ret
  exact ⟨rfl, hb4⟩

theorem low_has (x : BitVec 32) (k : Nat) (hk : k < 32) : has (x &&& 255#32) (k : Int) = (has x (k : Int) && decide (k < 8)) := by
  rw [has_and_255]; congr 1; rw [decide_eq_decide]; omega
theorem flds_eq (x : BitVec 32) : flds x = lst x 8 := by
  have h1 : ∀ j, j ≤ 24 → lst (x &&& 255#32) (8 + j) = lst (x &&& 255#32) 8 := by
    intro j
    induction j with
    | zero => intro _; rfl
    | succ j ih =>
      intro hj
      rw [show 8 + (j + 1) = (8 + j) + 1 by omega, lst_succ, ih (by omega), low_has x (8 + j) (by omega), decide_eq_false (by omega), Bool.and_false]
      simp
  have h2 : ∀ k, k ≤ 8 → lst (x &&& 255#32) k = lst x k := by
    intro k
    induction k with
    | zero => intro _; rfl
    | succ k ih =>
      intro hk
      rw [lst_succ, lst_succ, ih (by omega), low_has x k (by omega), decide_eq_true (by omega), Bool.and_true]
  unfold flds
  rw [h1 24 (by omega), h2 8 (by omega)]
theorem both_eq (x y : BitVec 32) (h : x.toNat ≤ 511) : both x y 9 = x &&& y := by
  apply BitM.ext
  intro n
  by_cases hn : 0 ≤ n ∧ n < 32
  · obtain ⟨k, rfl⟩ := Int.eq_ofNat_of_zero_le hn.1
    have hk : k < 32 := by omega
    rw [has_both x y 9 k hk, has_in (x &&& y) hk, BitVec.getLsbD_and, ← has_in x hk, ← has_in y hk]
    by_cases h9 : k < 9
    · rw [decide_eq_true h9, Bool.true_and]
    · have hx : has x (k : Int) = false := by
        rw [has_in x hk]
        exact (le_511 x).1 (decide_eq_true h) k (by omega) hk
      rw [hx]; simp
  · rw [has_out _ hn, has_out _ hn]

theorem awend (mm : Int) (w : World) (hmm : MaxAt mm w) {w0 : World} (hb : Below w0.heap.size w0 w) : Calls Tryd.prog 51 #[] w fun e w' => e = .returned (.bool true) ∧ Below w0.heap.size w0 w' :=
  (maw_any mm w hmm).mono fun e w' ⟨h1, h2⟩ => ⟨h1, hb.trans (h2.mono hb.size)⟩

set_option maxRecDepth 100000 in
set_option maxHeartbeats 3200000 in
theorem walk_mtells (x y : BitVec 32) (A : Option Addr) (n c : Nat) (l : List Int) (mm : Int) (w : World) (hn : l.length = n) (hs : Sees w w.heap.size A (ivs l)) (hm : n ≤ maxLen) (hmm : MaxAt mm w) :
    Calls Tryd.prog 10 #[.int .u32 (x.toNat : Int), .int .u32 (y.toNat : Int), .slice A n c] w fun e w' => e = .returned (.bool true) ∧ Below w.heap.size w w' := by
  unfold maxLen at hm
  have HAW := Lib.hid (fun (wx : World) (hb : Below w.heap.size w wx) => awend mm wx (hmm.later hb) hb)
  by_cases h200 : 200 < n
  · have h2 : (200 : Int) < (n : Int) := by omega
    clear hs hn hmm
    go_enter Tryd.func10, Tryd.ntmps10
    go_wp2_with fail
    refine (HAW.out _ (Below.refl _ _)).mono ?_
    rintro e w1 ⟨rfl, hb⟩
    go_wp2_with fail
    go_ret
    exact ⟨rfl, hb⟩
  · have h2 : (n : Int) ≤ 200 := by omega
    have HC1 := Lib.hid (fun wx : World => mcheck_any x wx)
    have HC2 := Lib.hid (fun wx : World => rmcheck_any x wx)
    have HC3 := Lib.hid (fun wx : World => rmcheck_any y wx)
    have HM1 := Lib.hid (fun wx : World => fun hb : Below w.heap.size w wx => make_any ((x.toNat : Int) % 2 == 1) A n c l wx w.heap.size hn (hs.below hb) (by omega))
    have HM2 := Lib.hid (fun wx : World => fun hb : Below w.heap.size w wx => rmake_any ((x.toNat : Int) % 2 == 1) A n c l wx w.heap.size hn (hs.below hb) (by omega))
    have HF1 := Lib.hid (fun wx : World => fields_any x wx)
    have HF2 := Lib.hid (fun wx : World => rfields_any x wx)
    have HFL := flds_len x
    rw [← flds_eq] at HF2
    have HL1 := Lib.hid (fun wx : World => labels_any x wx)
    have HL2 := Lib.hid (fun wx : World => rlabels_any x wx)
    have HR1 := Lib.hid (fun wx : World => mrest_any x wx)
    have HR2 := Lib.hid (fun wx : World => rrest_any x wx)
    have HB1 := Lib.hid (fun wx : World => mboth_any x y wx)
    have HB2 := Lib.hid (fun wx : World => rboth_any x y wx)
    have HBE := Lib.hid (both_eq x y)
    have HX := Lib.hid (show (x.toNat ≤ 511) ↔ decide (x.toNat ≤ 511) = true from by simp)
    obtain ⟨mk, hmk⟩ : ∃ mk, mk = (mkm ((x.toNat : Int) % 2 == 1) l).toNat := ⟨_, rfl⟩
    rw [← hmk] at HM1 HM2
    obtain ⟨f, hf⟩ : ∃ f, f = flds x := ⟨_, rfl⟩
    rw [← hf] at HF1 HF2 HFL
    obtain ⟨fn, hfn⟩ : ∃ fn, fn = f.length := ⟨_, rfl⟩
    have HFN := Lib.hid hfn
    rw [← hfn] at HF1 HFL
    obtain ⟨lb, hlb⟩ : ∃ lb, lb = has x 8 := ⟨_, rfl⟩
    rw [← hlb] at HL1 HL2
    obtain ⟨rs, hrs⟩ : ∃ rs, rs = (511#32 &&& ~~~x).toNat := ⟨_, rfl⟩
    rw [← hrs] at HR1 HR2
    obtain ⟨cx, hcx⟩ : ∃ cx, cx = decide (x.toNat ≤ 511) := ⟨_, rfl⟩
    rw [← hcx] at HC1 HC2 HX
    obtain ⟨cy, hcy⟩ : ∃ cy, cy = decide (y.toNat ≤ 511) := ⟨_, rfl⟩
    rw [← hcy] at HC3
    have hxl := x.isLt
    obtain ⟨X, hX⟩ : ∃ X, X = x.toNat := ⟨_, rfl⟩
    rw [← hX] at HC1 HC2 HM1 HM2 HF1 HF2 HL1 HL2 HR1 HR2 HB1 HB2 HX HBE hxl ⊢
    obtain ⟨Y, hY⟩ : ∃ Y, Y = y.toNat := ⟨_, rfl⟩
    rw [← hY] at HC3 HB1 HB2 ⊢
    clear hmk hf hfn hlb hrs hcx hcy hX hY hs hn h200 hmm
    go_enter Tryd.func10, Tryd.ntmps10
    go_wp2_with fail
    refine (HC1.out _).mono ?_
    rintro e w1 ⟨rfl, rfl⟩
    go_wp2_with fail
    refine (HC2.out _).mono ?_
    rintro e w1 ⟨rfl, rfl⟩
    go_wp2_with fail
    refine (HM1.out _ (Below.refl _ _)).mono ?_
    rintro e w1 ⟨rfl, rfl⟩
    go_wp2_with fail
    refine (HM2.out _ (Below.refl _ _)).mono ?_
    rintro e w1 ⟨rfl, rfl⟩
    go_wp2_with fail
    refine (HF1.out _).mono ?_
    rintro e w1 ⟨A1, c1, rfl, ho1, hb1⟩
    go_wp2_with fail
    refine (HF2.out _).mono ?_
    rintro e w2 ⟨A2, c2, rfl, ho2, hb2⟩
    rw [← HFN.out] at ho2 ⊢
    have HI := Lib.hid (ints_any A1 A2 fn c1 c2 f w2 w2.heap.size HFN.out.symm ((ho1.sees.below hb2).more hb2.size) ho2.sees (Nat.le_refl _) (by omega))
    have hb3 := hb1.trans (hb2.mono hb1.size)
    clear ho1 ho2
    go_wp2_with fail
    refine HI.out.mono ?_
    rintro e w3 ⟨rfl, hb4⟩
    have hb5 := hb3.trans (hb4.mono hb3.size)
    clear hb1 hb2 hb3 hb4
    go_wp2_with fail
    refine (HL1.out _).mono ?_
    rintro e w4 ⟨rfl, rfl⟩
    go_wp2_with fail
    refine (HL2.out _).mono ?_
    rintro e w4 ⟨rfl, rfl⟩
    go_wp2_with fail
    refine (HR1.out _).mono ?_
    rintro e w4 ⟨rfl, rfl⟩
    go_wp2_with fail
    refine (HR2.out _).mono ?_
    rintro e w4 ⟨rfl, rfl⟩
    cases cx with
    | false =>
      go_wp2_with fail
      refine (HC2.out _).mono ?_
      rintro e w4 ⟨rfl, rfl⟩
      go_wp2_with fail
      refine (HAW.out _ hb5).mono ?_
      rintro e w5 ⟨rfl, hb⟩
      go_wp2_with fail
      go_ret
      exact ⟨rfl, hb⟩
    | true =>
      rw [HBE.out (HX.out.2 rfl)] at HB2
      cases cy with
      | false =>
        go_wp2_with fail
        refine (HC2.out _).mono ?_
        rintro e w4 ⟨rfl, rfl⟩
        go_wp2_with fail
        refine (HC3.out _).mono ?_
        rintro e w4 ⟨rfl, rfl⟩
        go_wp2_with fail
        refine (HAW.out _ hb5).mono ?_
        rintro e w5 ⟨rfl, hb⟩
        go_wp2_with fail
        go_ret
        exact ⟨rfl, hb⟩
      | true =>
        go_wp2_with fail
        refine (HC2.out _).mono ?_
        rintro e w4 ⟨rfl, rfl⟩
        go_wp2_with fail
        refine (HC3.out _).mono ?_
        rintro e w4 ⟨rfl, rfl⟩
        go_wp2_with fail
        refine (HB1.out _).mono ?_
        rintro e w4 ⟨rfl, rfl⟩
        go_wp2_with fail
        refine (HB2.out _).mono ?_
        rintro e w4 ⟨rfl, rfl⟩
        go_wp2_with fail
        refine (HAW.out _ hb5).mono ?_
        rintro e w5 ⟨rfl, hb⟩
        go_wp2_with fail
        go_ret
        exact ⟨rfl, hb⟩

set_option maxRecDepth 100000 in
set_option maxHeartbeats 3200000 in
theorem walk_mtexts (x : BitVec 32) (t : ByteArray) (mm : Int) (w : World) (hs : t.size < 4294967281) (hmm : MaxAt mm w) :
    Calls Tryd.prog 11 #[.int .u32 (x.toNat : Int), .string t] w fun e w' => e = .returned (.bool true) ∧ Below w.heap.size w w' := by
  have HAW := Lib.hid (fun (wx : World) (hb : Below w.heap.size w wx) => awend mm wx (hmm.later hb) hb)
  have HR1 := Lib.hid (mread_any t mm w hs hmm)
  have HR2 := Lib.hid (fun wx : World => rmread_any t wx)
  have HS1 := Lib.hid (fun wx : World => mshow_any x wx)
  have HS2 := Lib.hid (fun wx : World => rmshow_any x wx)
  obtain ⟨v, hv⟩ : ∃ v, v = (mout t.data.toList).1 := ⟨_, rfl⟩
  obtain ⟨ok, hok⟩ : ∃ ok, ok = (mout t.data.toList).2 := ⟨_, rfl⟩
  rw [← hv, ← hok] at HR1 HR2
  obtain ⟨u, hu⟩ : ∃ u, u = str (mtx x.toNat) := ⟨_, rfl⟩
  rw [← hu] at HS1 HS2
  obtain ⟨X, hX⟩ : ∃ X, X = x.toNat := ⟨_, rfl⟩
  rw [← hX] at HS1 HS2 ⊢
  clear hv hok hu hX hs hmm
  go_enter Tryd.func11, Tryd.ntmps11
  go_wp2_with fail
  refine HR1.out.mono ?_
  rintro e w1 ⟨rfl, hb1⟩
  go_wp2_with fail
  refine (HR2.out _).mono ?_
  rintro e w2 ⟨rfl, hb⟩
  have hb2 := hb1.trans (hb.mono hb1.size)
  clear hb hb1
  go_wp2_with fail
  refine (HS1.out _).mono ?_
  rintro e w3 ⟨rfl, hb⟩
  have hb3 := hb2.trans (hb.mono hb2.size)
  clear hb hb2
  go_wp2_with fail
  refine (HS2.out _).mono ?_
  rintro e w4 ⟨rfl, hb⟩
  have hb4 := hb3.trans (hb.mono hb3.size)
  clear hb hb3
  go_wp2_with fail
  refine (HAW.out _ hb4).mono ?_
  rintro e w5 ⟨rfl, hb⟩
  go_wp2_with fail
  go_ret
  exact ⟨rfl, hb⟩

theorem back_fin : ∀ m, m < 512 → (mkm (has (BitVec.ofNat 32 m) 8) (lst (BitVec.ofNat 32 m) 8)).toNat = m ∧ (BitVec.ofNat 32 m &&& (511#32 &&& ~~~BitVec.ofNat 32 m)) = 0#32 ∧ (511#32 &&& ~~~(511#32 &&& ~~~BitVec.ofNat 32 m)).toNat = m := by decide +kernel

set_option maxRecDepth 100000 in
set_option maxHeartbeats 3200000 in
theorem walk_mback (x : BitVec 32) (mm : Int) (w : World) (hmm : MaxAt mm w) :
    Calls Tryd.prog 12 #[.int .u32 (x.toNat : Int)] w fun e w' => e = .returned (.bool true) ∧ Below w.heap.size w w' := by
  have HAW := Lib.hid (fun (wx : World) (hb : Below w.heap.size w wx) => awend mm wx (hmm.later hb) hb)
  have HC1 := Lib.hid (fun wx : World => mcheck_any x wx)
  have HC2 := Lib.hid (fun wx : World => rmcheck_any x wx)
  by_cases h : x.toNat ≤ 511
  · rw [decide_eq_true h] at HC1 HC2
    obtain ⟨f1, f2, f3⟩ := back_fin x.toNat (by omega)
    rw [BitVec.ofNat_toNat, BitVec.setWidth_eq] at f1 f2 f3
    have HS := Lib.hid (fun wx : World => mshow_any x wx)
    have HR := Lib.hid (fun (wx : World) (hb : Below w.heap.size w wx) => mread_any (str (mtx x.toNat)) mm wx (by rw [str_size]; have := mtx_len x.toNat (by omega); omega) (hmm.later hb))
    have hmo : mout (str (mtx x.toNat)).data.toList = (x.toNat, true) := by
      show mout (mtx x.toNat) = _
      unfold mout
      rw [mrd_mtx x.toNat (by omega)]
    rw [hmo] at HR
    have HL := Lib.hid (fun wx : World => labels_any x wx)
    have HF := Lib.hid (fun wx : World => fields_any x wx)
    have HFL := flds_len x
    have HM := Lib.hid (fun (A : Option Addr) (n c : Nat) (wx : World) (hn : (flds x).length = n) (hs : Sees wx wx.heap.size A (ivs (flds x))) (h : n ≤ 65536) => make_any (has x 8) A n c (flds x) wx wx.heap.size hn hs h)
    rw [flds_eq, f1] at HM
    rw [flds_eq] at HF HFL
    have HT := Lib.hid (fun wx : World => mrest_any x wx)
    have HT2 := Lib.hid (fun wx : World => mrest_any (511#32 &&& ~~~x) wx)
    rw [f3] at HT2
    have HB := Lib.hid (fun wx : World => mboth_any x (511#32 &&& ~~~x) wx)
    rw [f2] at HB
    have e0 : (((0#32 : BitVec 32).toNat : Nat) : Int) = 0 := rfl
    rw [e0] at HB
    obtain ⟨r, hr⟩ : ∃ r, r = (511#32 &&& ~~~x).toNat := ⟨_, rfl⟩
    rw [← hr] at HT HT2 HB
    obtain ⟨f, hf⟩ : ∃ f, f = lst x 8 := ⟨_, rfl⟩
    rw [← hf] at HF HM HFL
    obtain ⟨fn, hfn⟩ : ∃ fn, fn = f.length := ⟨_, rfl⟩
    have HFN := Lib.hid hfn
    rw [← hfn] at HF HFL
    obtain ⟨lb, hlb⟩ : ∃ lb, lb = has x 8 := ⟨_, rfl⟩
    rw [← hlb] at HL HM
    obtain ⟨u, hu⟩ : ∃ u, u = str (mtx x.toNat) := ⟨_, rfl⟩
    rw [← hu] at HS HR
    obtain ⟨X, hX⟩ : ∃ X, X = x.toNat := ⟨_, rfl⟩
    rw [← hX] at HC1 HC2 HS HR HL HF HM HT HT2 HB ⊢
    clear hr hf hfn hlb hu hX f1 f2 f3 hmo h e0 hmm
    go_enter Tryd.func12, Tryd.ntmps12
    go_wp2_with fail
    refine (HC2.out _).mono ?_
    rintro e w1 ⟨rfl, rfl⟩
    go_wp2_with fail
    refine (HS.out _).mono ?_
    rintro e w1 ⟨rfl, hb1⟩
    have HRX := Lib.hid (HR.out _ hb1)
    go_wp2_with fail
    refine HRX.out.mono ?_
    rintro e w2 ⟨rfl, hb⟩
    have hb2 := hb1.trans (hb.mono hb1.size)
    clear hb hb1
    go_wp2_with fail
    refine (HL.out _).mono ?_
    rintro e w3 ⟨rfl, rfl⟩
    go_wp2_with fail
    refine (HF.out _).mono ?_
    rintro e w3 ⟨A, c, rfl, ho, hb⟩
    have hb3 := hb2.trans (hb.mono hb2.size)
    have HMX := Lib.hid (HM.out A fn c w3 HFN.out.symm ho.sees (by omega))
    clear hb hb2 ho
    go_wp2_with fail
    refine HMX.out.mono ?_
    rintro e w4 ⟨rfl, rfl⟩
    go_wp2_with fail
    refine (HT.out _).mono ?_
    rintro e w4 ⟨rfl, rfl⟩
    go_wp2_with fail
    refine (HB.out _).mono ?_
    rintro e w4 ⟨rfl, rfl⟩
    go_wp2_with fail
    refine (HT.out _).mono ?_
    rintro e w4 ⟨rfl, rfl⟩
    go_wp2_with fail
    refine (HT2.out _).mono ?_
    rintro e w4 ⟨rfl, rfl⟩
    go_wp2_with fail
    refine (HAW.out _ hb3).mono ?_
    rintro e w5 ⟨rfl, hb⟩
    go_wp2_with fail
    go_ret
    exact ⟨rfl, hb⟩
  · rw [decide_eq_false h] at HC1 HC2
    clear hmm h
    go_enter Tryd.func12, Tryd.ntmps12
    go_wp2_with fail
    refine (HC2.out _).mono ?_
    rintro e w1 ⟨rfl, rfl⟩
    go_wp2_with fail
    refine (HC1.out _).mono ?_
    rintro e w1 ⟨rfl, rfl⟩
    go_wp2_with fail
    refine (HAW.out _ (Below.refl _ _)).mono ?_
    rintro e w5 ⟨rfl, hb⟩
    go_wp2_with fail
    go_ret
    exact ⟨rfl, hb⟩
end Go.Proofs.YtgdidamjgaegkaaDoor
