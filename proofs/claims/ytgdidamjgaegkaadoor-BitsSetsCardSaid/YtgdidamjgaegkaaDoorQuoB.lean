/- Texts of numbers, of values: what each returns, where Go's table of powers stands as laid. -/
import Derived.Test.YtgdidamjgaegkaaDoorQuoA
import Derived.Test.YtgdidamjgaegkaaDoorShelf
import Derived.Lib.LaidTab
namespace Go.Proofs.YtgdidamjgaegkaaDoor
set_option linter.unusedVariables false
open Go Go.RowKit BitM ValM

def Tab (w : World) : Prop := Lib.TabIs Tryd.prog w "internal/strconv.uint64pow10" .u64 Lib.pow10Tab
theorem Tab.later {w w' : World} (h : Tab w) (hb : Below w.heap.size w w') : Tab w' := by
  unfold Tab Lib.TabIs World.var? at h ⊢
  cases hg : Tryd.prog.globalNamed "internal/strconv.uint64pow10" with
  | none => rw [hg] at h; cases h
  | some g =>
    rw [hg] at h
    simp only [Option.bind_some] at h ⊢
    have hlt : g < w.heap.size := by
      rcases Nat.lt_or_ge g w.heap.size with h' | h'
      · exact h'
      · rw [Array.getElem?_eq_none h'] at h; cases h
    rw [hb.block g hlt]
    exact h
theorem below_grow {w w2 : World} (h : ∃ k os, w2 = «Sort».grow (w.drewN k) os) : Below w.heap.size w w2 := by
  obtain ⟨k, os, rfl⟩ := h
  refine ⟨rfl, rfl, rfl, ?_, fun j hj => ?_⟩
  · show w.heap.size ≤ (w.heap ++ os).size
    rw [Array.size_append]; omega
  · show (w.heap ++ os)[j]? = w.heap[j]?
    exact Array.getElem?_append_left hj
theorem tens_any (n : Int) (w : World) (h0 : -9223372036854775808 ≤ n) (h1 : n ≤ 9223372036854775807) (ht : Tab w) : Calls Tryd.prog 30 #[.int .i64 n] w fun e w' => e = .returned (.string (str (Lib.itoa n))) ∧ Below w.heap.size w w' := by
  have HI := Lib.hid (Tryd.strconv_Itoa n h0 h1 w ht)
  have HE : Hid ((⟨(Lib.itoa n).toArray⟩ : ByteArray) = str (Lib.itoa n)) := Lib.hid rfl
  rw [HE.out] at HI
  clear HE
  obtain ⟨u, hu⟩ : ∃ u, u = str (Lib.itoa n) := ⟨_, rfl⟩
  rw [← hu] at HI ⊢
  clear hu ht
  go_enter Tryd.func30, Tryd.ntmps30
  go_wp2_with fail
  refine HI.out.mono ?_
  rintro e w1 ⟨rfl, hg⟩
  have hb := below_grow hg
  clear hg
  go_wp2_with fail
  go_ret
  exact ⟨rfl, hb⟩

/-- A value's text. -/
def vshow (v : V3) : List UInt8 := if vchk v = false then [] else if v.1 = 1 then Lib.itoa v.2.1 else if v.1 = 2 then quo v.2.2.data.toList else [45]
theorem vchk_num (n : Int) (s : ByteArray) (h : vchk (1, n, s) = true) : 0 ≤ n ∧ n ≤ 1099511627776 ∧ s = empty := by
  unfold vchk at h; simpa using h
theorem vchk_txt (n : Int) (s : ByteArray) (h : vchk (2, n, s) = true) : n = 0 ∧ s.size ≤ 24 := by
  unfold vchk at h; simpa using h
theorem vchk_nil (n : Int) (s : ByteArray) (h : vchk (0, n, s) = true) : n = 0 ∧ s = empty := by
  unfold vchk at h; simpa using h
theorem vchk_kind (k n : Int) (s : ByteArray) (h : vchk (k, n, s) = true) : k = 0 ∨ k = 1 ∨ k = 2 := by
  unfold vchk at h
  by_cases h0 : k = 0
  · exact .inl h0
  · by_cases h1 : k = 1
    · exact .inr (.inl h1)
    · by_cases h2 : k = 2
      · exact .inr (.inr h2)
      · simp [h0, h1, h2] at h

set_option maxRecDepth 100000 in
set_option maxHeartbeats 1600000 in
theorem vshow_any (v : V3) (w : World) (ht : Tab w) : Calls Tryd.prog 49 #[.agg (vcells v).toArray] w fun e w' => e = .returned (.string (str (vshow v))) ∧ Below w.heap.size w w' := by
  obtain ⟨k, n, s⟩ := v
  have HK := Lib.hid (fun wx : World => (show Calls Tryd.prog 35 #[.agg (vcells (k, n, s)).toArray] wx fun e w' => e = .returned (.bool (vchk (k, n, s))) ∧ Below wx.heap.size wx w' from vcheck_any k n s wx))
  have HV : Hid (vshow (k, n, s) = if vchk (k, n, s) = false then [] else if k = 1 then Lib.itoa n else if k = 2 then quo s.data.toList else [45]) := Lib.hid rfl
  have HT := Lib.hid ht
  have hu := Tryd.underlying43
  have B0 := Blk.new w (vcells (k, n, s)) 43
  have hb := (Below.refl w.heap.size w).alloc (Nat.le_refl _) (.cells (vcells (k, n, s)).toArray 43)
  have R0 := B0.valR
  obtain ⟨u, hu2⟩ : ∃ u, u = str (vshow (k, n, s)) := ⟨_, rfl⟩
  rw [← hu2]
  have HU := Lib.hid hu2
  have HCK : Hid (vchk (k, n, s) = vchk (k, n, s)) := Lib.hid rfl
  have hn1 := vchk_num n s
  have hn2 := vchk_txt n s
  have hn3 := vchk_kind k n s
  have HN1 := Lib.hid hn1
  have HN2 := Lib.hid hn2
  have HN3 := Lib.hid hn3
  obtain ⟨ca, hca⟩ : ∃ ca, ca = (vcells (k, n, s)).toArray := ⟨_, rfl⟩
  rw [← hca] at R0 B0 hb ⊢
  clear hca hu2 HCK hn1 hn2 hn3 ht
  cases hck : vchk (k, n, s)
  · rw [hck] at HK HV
    have HX : Hid (u = ⟨#[]⟩) := Lib.hid (by rw [HU.out, HV.out, if_pos rfl]; rfl)
    clear hck
    go_enter Tryd.func49, Tryd.ntmps49
    go_wp2_with (first
      | (refine wpList_load_mid rfl 43 (.tmp 1) rfl w.heap.size 0 rfl (vcells (k, n, s)) _ R0 hu rfl info_val ?_))
    refine (HK.out _).mono ?_
    rintro e w1 ⟨rfl, hb1⟩
    have hb2 := hb.trans (hb1.mono hb.size)
    clear B0 R0 hb1 hb
    go_wp2_with fail
    go_ret
    exact ⟨by rw [HX.out]; rfl, hb2⟩
  · rw [hck] at HK HV
    have HKD := Lib.hid (HN3.out hck)
    have HCH := Lib.hid hck
    clear hck
    rcases HKD.out with rfl | rfl | rfl
    · have HX : Hid (u = ⟨#[45]⟩) := Lib.hid (by rw [HU.out, HV.out]; rfl)
      go_enter Tryd.func49, Tryd.ntmps49
      go_wp2_with (first
        | (refine wpList_load_mid rfl 43 (.tmp 1) rfl w.heap.size 0 rfl (vcells (0, n, s)) _ R0 hu rfl info_val ?_))
      refine (HK.out _).mono ?_
      rintro e w1 ⟨rfl, hb1⟩
      have B1 := B0.later hb1
      obtain ⟨p0, p1, p2⟩ := B1.val
      have hb2 := hb.trans (hb1.mono hb.size)
      clear B0 R0 hb1 hb
      go_wp2_with fail
      go_ret
      exact ⟨by rw [HX.out]; rfl, hb2⟩
    · have HX : Hid (u = str (Lib.itoa n)) := Lib.hid (by rw [HU.out, HV.out]; rfl)
      have HC := Lib.hid (fun (wx : World) (hb : Below w.heap.size w wx) => tens_any n wx (by have := HN1.out HCH.out; omega) (by have := HN1.out HCH.out; omega) (HT.out.later hb))
      rw [← HX.out] at HC
      go_enter Tryd.func49, Tryd.ntmps49
      go_wp2_with (first
        | (refine wpList_load_mid rfl 43 (.tmp 1) rfl w.heap.size 0 rfl (vcells (1, n, s)) _ R0 hu rfl info_val ?_))
      refine (HK.out _).mono ?_
      rintro e w1 ⟨rfl, hb1⟩
      have B1 := B0.later hb1
      obtain ⟨p0, p1, p2⟩ := B1.val
      have hb2 := hb.trans (hb1.mono hb.size)
      clear B0 R0 hb1 hb
      go_wp2_with fail
      refine (HC.out _ hb2).mono ?_
      rintro e w2 ⟨rfl, hb3⟩
      have hb4 := hb2.trans (hb3.mono hb2.size)
      clear p0 p1 p2 hb2
      go_wp2_with fail
      go_ret
      exact ⟨rfl, hb4⟩
    · have HX : Hid (u = str (quo s.data.toList)) := Lib.hid (by rw [HU.out, HV.out]; rfl)
      have HC := Lib.hid (fun (wx : World) => quote_any s wx (by have := HN2.out HCH.out; omega))
      rw [← HX.out] at HC
      go_enter Tryd.func49, Tryd.ntmps49
      go_wp2_with (first
        | (refine wpList_load_mid rfl 43 (.tmp 1) rfl w.heap.size 0 rfl (vcells (2, n, s)) _ R0 hu rfl info_val ?_))
      refine (HK.out _).mono ?_
      rintro e w1 ⟨rfl, hb1⟩
      have B1 := B0.later hb1
      obtain ⟨p0, p1, p2⟩ := B1.val
      have hb2 := hb.trans (hb1.mono hb.size)
      clear B0 R0 hb1 hb
      go_wp2_with fail
      refine (HC.out _).mono ?_
      rintro e w2 ⟨rfl, hb3⟩
      have hb4 := hb2.trans (hb3.mono hb2.size)
      clear p0 p1 p2 hb2
      go_wp2_with fail
      go_ret
      exact ⟨rfl, hb4⟩
end Go.Proofs.YtgdidamjgaegkaaDoor
