/- Values as bytes: slices.Clone of bytes, PutValue, and the document's. -/
import Derived.Test.YticdpfjajkfheaaCardA
import Derived.Test.YticdpfjajkfheaaCardF
import Derived.Test.YticdpfjajkfheaaOctA
import Derived.Test.YticdpfjajkfheaaOctP
import Derived.Test.YticdpfjajkfheaaTail
import Derived.RangeFuncOwn
namespace Go.Proofs.Yticdpfjajkfheaa
set_option linter.unusedVariables false
open Go Go.RowKit OctM

theorem clone_any (A : Option Addr) (n c : Nat) (l : List UInt8) (w : World) (hn : l.length = n) (hs : Sees w w.heap.size A (bvs l)) (hsz : n ≤ 1048576) :
    Calls Try.prog 28 #[.slice A n c] w (GivesBytes w l) := by
  obtain ⟨i0, hi, hz0, hz1, hz2⟩ := oct_parts
  subst hn
  rcases A with _ | ad
  · have hl : l = [] := by
      rcases l with _ | ⟨x, l⟩
      · rfl
      · obtain ⟨b, o, h, _⟩ := hs (by simp [bvs])
        cases h
    subst hl
    have hq := fun wx => Lib.run_eql_slice_nil (P := Try.prog) wx 30 5 none 0 c 0 0 Try.underlying30
    go_enter Try.func28, Try.ntmps28
    go_wp2
    go_ret
    exact ⟨none, 0, rfl, Own.nil_ _ _ _, Below.refl _ _⟩
  · have hq := fun wx => Lib.run_eql_slice_nil (P := Try.prog) wx 30 5 (some ad) l.length c 0 0 Try.underlying30
    go_enter Try.func28, Try.ntmps28
    go_wp2_with (first
      | (at_builtin
         refine wpList_app _ rfl (.tmp 5) (.tmp 6) _ rfl w.heap.size 5 i0 _ 1 Try.underlying30 hi hz0 hz1 hz2 rfl (.slice (some ⟨w.heap.size, 0, none⟩) 0 0) [] 0 rfl rfl (own_lit w w.heap.size 5 #[] (Nat.le_refl _) (by simp [maxLen])) w.heap.size (some ad) c (bvs l) l.length rfl (bvs_length l) (hs.alloc (Nat.le_refl _) _) (bvs_one l) (by simp [maxLen]; omega) (by omega) (by simp) ?_
         intro A1 c1 w1 hown1 hb1 hg1 hat1; simp only [Nat.zero_add, List.nil_append] at hown1 hat1)
      | fail)
    go_ret
    exact ⟨A1, c1, rfl, hown1, ((Below.refl _ _).alloc (Nat.le_refl _) _).trans hb1⟩


/-- A value's bytes. -/
def vbs (v : V3) : List UInt8 := if vchk v = false then [] else if v.1 = 1 then enc 1 ++ enc (held v.2.1) else if v.1 = 2 then enc 2 ++ (enc v.2.2.data.toList.length ++ v.2.2.data.toList) else enc 0
theorem str_self (t : ByteArray) : str t.data.toList = t := by
  apply ByteArray.ext
  apply Array.ext'
  rfl
theorem vchk_kind {k n : Int} {s : ByteArray} (h : vchk (k, n, s) = true) : (k = 0 ∨ k = 1 ∨ k = 2) ∧ (k = 2 → s.size ≤ 24) := by
  by_cases h0 : k = 0
  · exact ⟨.inl h0, fun e => by omega⟩
  · by_cases h1 : k = 1
    · exact ⟨.inr (.inl h1), fun e => by omega⟩
    · by_cases h2 : k = 2
      · subst h2
        rw [vchk_2] at h
        exact ⟨.inr (.inr rfl), fun _ => (of_decide_eq_true h).2⟩
      · rw [vchk_3 n s h0 h1 h2] at h; cases h

theorem cell_lt {w : World} {p : Addr} {v : Value} (h : w.cell? p = some v) : p.block < w.heap.size := by
  obtain ⟨o, ho, _⟩ := cells_of_cell h
  exact (Array.getElem?_eq_some_iff.1 ho).1

set_option maxRecDepth 100000 in
set_option maxHeartbeats 3200000 in
theorem putval_any (k z : Int) (s : ByteArray) (A : Option Addr) (n c : Nat) (l : List UInt8) (w : World) (hn : l.length = n) (hs : Sees w w.heap.size A (bvs l)) (hm : n ≤ 100000) :
    Calls Try.prog 9 #[.slice A n c, .agg #[.int .i64 k, .int .i64 z, .string s]] w (GivesBytes w (l ++ vbs (k, z, s))) := by
  have HV := Lib.hid (fun wx : World => vcheck_any k z s wx)
  have HCL := Lib.hid (fun (wx : World) (hb : Below w.heap.size w wx) => clone_any A n c l wx hn ((hs.below hb).more hb.size) (by omega))
  have HNU := Lib.hid (fun (y : Int) (wx : World) (hb : Below w.heap.size w wx) => oct_num A n c l y wx hn ((hs.below hb).more hb.size) (by omega))
  have HN := Lib.hid hn
  clear hn hs
  have B0 := Blk.new w (vcells (k, z, s)) 24
  have hb0 : Below w.heap.size w (w.alloc (.cells #[.int .i64 k, .int .i64 z, .string s] 24)) := (Below.refl _ w).alloc (Nat.le_refl _) _
  have RG : (w.alloc (.cells #[.int .i64 k, .int .i64 z, .string s] 24)).rangeAt w.heap.size 0 (vcells (k, z, s)) := B0.range 0 _ rfl
  have C0 := Lib.hid (fun (wx : World) (hb : Below (w.alloc (.cells #[.int .i64 k, .int .i64 z, .string s] 24)).heap.size (w.alloc (.cells #[.int .i64 k, .int .i64 z, .string s] 24)) wx) => (show wx.cell? ⟨w.heap.size, 0, none⟩ = some (.int .i64 k) from (B0.later hb).cell (j := 0) rfl))
  have C1 := Lib.hid (fun (wx : World) (hb : Below (w.alloc (.cells #[.int .i64 k, .int .i64 z, .string s] 24)).heap.size (w.alloc (.cells #[.int .i64 k, .int .i64 z, .string s] 24)) wx) => (show wx.cell? ⟨w.heap.size, 1, none⟩ = some (.int .i64 z) from (B0.later hb).cell (j := 1) rfl))
  have C2 := Lib.hid (fun (wx : World) (hb : Below (w.alloc (.cells #[.int .i64 k, .int .i64 z, .string s] 24)).heap.size (w.alloc (.cells #[.int .i64 k, .int .i64 z, .string s] 24)) wx) => (show wx.cell? ⟨w.heap.size, 2, none⟩ = some (.string s) from (B0.later hb).cell (j := 2) rfl))
  have hu := Try.underlying24
  clear B0
  obtain ⟨ok, hok⟩ : ∃ b, b = vchk (k, z, s) := ⟨_, rfl⟩
  rw [← hok] at HV
  cases ok
  · have HB : Hid (l ++ vbs (k, z, s) = l) := Lib.hid (by unfold vbs; rw [if_pos hok.symm]; simp)
    rw [HB.out]
    clear HB hok
    go_enter Try.func9, Try.ntmps9
    go_wp2_with (first
      | (refine wpList_load_mid rfl 24 (.tmp 3) rfl w.heap.size 0 rfl (vcells (k, z, s)) _ RG hu rfl info_val ?_)
      | fail)
    refine (HV.out _).mono ?_
    rintro e w1 ⟨rfl, hb1⟩
    have c0 := C0.out w1 hb1
    have c1 := C1.out w1 hb1
    have c2 := C2.out w1 hb1
    have hbw := hb0.trans (hb1.mono (Nat.le_trans (Nat.le_refl _) (by simp)))
    clear RG hb1 hb0
    clear c0 c1 c2
    go_wp2_with fail
    refine (HCL.out _ hbw).mono ?_
    rintro e w2 ⟨A2, c2, rfl, ho, hb2⟩
    go_wp2_with fail
    go_ret
    exact ⟨A2, c2, rfl, ho.lower hbw.size, hbw.trans (hb2.mono hbw.size)⟩
  · obtain ⟨hk, hs24⟩ := vchk_kind hok.symm
    have HVB : Hid (vbs (k, z, s) = if k = 1 then enc 1 ++ enc (held z) else if k = 2 then enc 2 ++ (enc s.data.toList.length ++ s.data.toList) else enc 0) := Lib.hid (by unfold vbs; rw [if_neg (by rw [← hok]; simp)])
    clear hok
    rcases hk with rfl | rfl | rfl
    · obtain ⟨r1, hr1⟩ : ∃ r, r = l ++ enc (held 0) := ⟨_, rfl⟩
      have hrl : r1.length ≤ n + 6 := by rw [hr1, List.length_append, HN.out]; have := held_len 0; omega
      have HNU1 := Lib.hid (HNU.out 0)
      rw [← hr1] at HNU1
      have HB : Hid (l ++ vbs (0, z, s) = r1) := Lib.hid (by rw [HVB.out, if_neg (by decide), if_neg (by decide), hr1]; rfl)
      rw [HB.out]
      clear HB HVB HNU hr1 HCL
      go_enter Try.func9, Try.ntmps9
      go_wp2_with (first
        | (refine wpList_load_mid rfl 24 (.tmp 3) rfl w.heap.size 0 rfl (vcells (0, z, s)) _ RG hu rfl info_val ?_)
        | fail)
      refine (HV.out _).mono ?_
      rintro e w1 ⟨rfl, hb1⟩
      have c0 := C0.out w1 hb1
      have c1 := C1.out w1 hb1
      have c2 := C2.out w1 hb1
      have hbw := hb0.trans (hb1.mono (Nat.le_trans (Nat.le_refl _) (by simp)))
      clear RG hb1 hb0
      go_wp2_with fail
      refine (HNU1.out _ hbw).mono ?_
      rintro e w2 ⟨A2, d2, rfl, ho, hb2⟩
      replace c1 : w2.cell? ⟨w.heap.size, 1, none⟩ = some (.int .i64 z) := (hb2.cell (p := ⟨w.heap.size, 1, none⟩) (cell_lt c1)).trans c1
      replace c2 : w2.cell? ⟨w.heap.size, 2, none⟩ = some (.string s) := (hb2.cell (p := ⟨w.heap.size, 2, none⟩) (cell_lt c2)).trans c2
      replace c0 : w2.cell? ⟨w.heap.size, 0, none⟩ = some (.int .i64 0) := (hb2.cell (p := ⟨w.heap.size, 0, none⟩) (cell_lt c0)).trans c0
      have hws := hbw.size
      replace hbw := hbw.trans (hb2.mono hbw.size)
      clear hb2
      clear c1 c2
      go_wp2_with fail
      go_ret
      exact ⟨A2, d2, rfl, ho.lower hws, hbw⟩
    · obtain ⟨r1, hr1⟩ : ∃ r, r = l ++ enc (held 1) := ⟨_, rfl⟩
      have hrl : r1.length ≤ n + 6 := by rw [hr1, List.length_append, HN.out]; have := held_len 1; omega
      have HNU1 := Lib.hid (HNU.out 1)
      rw [← hr1] at HNU1
      obtain ⟨r2, hr2⟩ : ∃ r, r = r1 ++ enc (held z) := ⟨_, rfl⟩
      have HB : Hid (l ++ vbs (1, z, s) = r2) := Lib.hid (by rw [HVB.out, if_pos rfl, hr2, hr1, List.append_assoc]; rfl)
      rw [HB.out]
      clear HB HVB HNU hr1 HCL
      go_enter Try.func9, Try.ntmps9
      go_wp2_with (first
        | (refine wpList_load_mid rfl 24 (.tmp 3) rfl w.heap.size 0 rfl (vcells (1, z, s)) _ RG hu rfl info_val ?_)
        | fail)
      refine (HV.out _).mono ?_
      rintro e w1 ⟨rfl, hb1⟩
      have c0 := C0.out w1 hb1
      have c1 := C1.out w1 hb1
      have c2 := C2.out w1 hb1
      have hbw := hb0.trans (hb1.mono (Nat.le_trans (Nat.le_refl _) (by simp)))
      clear RG hb1 hb0
      go_wp2_with fail
      refine (HNU1.out _ hbw).mono ?_
      rintro e w2 ⟨A2, d2, rfl, ho, hb2⟩
      replace c1 : w2.cell? ⟨w.heap.size, 1, none⟩ = some (.int .i64 z) := (hb2.cell (p := ⟨w.heap.size, 1, none⟩) (cell_lt c1)).trans c1
      replace c2 : w2.cell? ⟨w.heap.size, 2, none⟩ = some (.string s) := (hb2.cell (p := ⟨w.heap.size, 2, none⟩) (cell_lt c2)).trans c2
      replace c0 : w2.cell? ⟨w.heap.size, 0, none⟩ = some (.int .i64 1) := (hb2.cell (p := ⟨w.heap.size, 0, none⟩) (cell_lt c0)).trans c0
      have hws := hbw.size
      replace hbw := hbw.trans (hb2.mono hbw.size)
      clear hb2
      have HN2 := Lib.hid (oct_num A2 r1.length d2 r1 z w2 rfl ho.sees (by omega))
      rw [← hr2] at HN2
      clear hr2 ho
      go_wp2_with fail
      refine HN2.out.mono ?_
      rintro e w3 ⟨A3, d3, rfl, ho3, hb3⟩
      go_wp2_with fail
      go_ret
      exact ⟨A3, d3, rfl, ho3.lower hbw.size, hbw.trans (hb3.mono hbw.size)⟩
    · obtain ⟨r1, hr1⟩ : ∃ r, r = l ++ enc (held 2) := ⟨_, rfl⟩
      have hrl : r1.length ≤ n + 6 := by rw [hr1, List.length_append, HN.out]; have := held_len 2; omega
      have HNU1 := Lib.hid (HNU.out 2)
      rw [← hr1] at HNU1
      have ht24 : s.data.toList.length ≤ 24 := by have := hs24 rfl; simpa using this
      obtain ⟨r2, hr2⟩ : ∃ r, r = r1 ++ (enc s.data.toList.length ++ s.data.toList) := ⟨_, rfl⟩
      have HB : Hid (l ++ vbs (2, z, s) = r2) := Lib.hid (by rw [HVB.out, if_neg (by decide), if_pos rfl, hr2, hr1, List.append_assoc]; rfl)
      rw [HB.out]
      clear HB HVB HNU hr1 HCL
      go_enter Try.func9, Try.ntmps9
      go_wp2_with (first
        | (refine wpList_load_mid rfl 24 (.tmp 3) rfl w.heap.size 0 rfl (vcells (2, z, s)) _ RG hu rfl info_val ?_)
        | fail)
      refine (HV.out _).mono ?_
      rintro e w1 ⟨rfl, hb1⟩
      have c0 := C0.out w1 hb1
      have c1 := C1.out w1 hb1
      have c2 := C2.out w1 hb1
      have hbw := hb0.trans (hb1.mono (Nat.le_trans (Nat.le_refl _) (by simp)))
      clear RG hb1 hb0
      go_wp2_with fail
      refine (HNU1.out _ hbw).mono ?_
      rintro e w2 ⟨A2, d2, rfl, ho, hb2⟩
      replace c1 : w2.cell? ⟨w.heap.size, 1, none⟩ = some (.int .i64 z) := (hb2.cell (p := ⟨w.heap.size, 1, none⟩) (cell_lt c1)).trans c1
      replace c2 : w2.cell? ⟨w.heap.size, 2, none⟩ = some (.string s) := (hb2.cell (p := ⟨w.heap.size, 2, none⟩) (cell_lt c2)).trans c2
      replace c0 : w2.cell? ⟨w.heap.size, 0, none⟩ = some (.int .i64 2) := (hb2.cell (p := ⟨w.heap.size, 0, none⟩) (cell_lt c0)).trans c0
      have hws := hbw.size
      replace hbw := hbw.trans (hb2.mono hbw.size)
      clear hb2
      have HN2 := Lib.hid (oct_str A2 r1.length d2 r1 s.data.toList s.data.toList.length w2 rfl ho.sees (by omega) rfl (by omega))
      rw [← hr2, str_self] at HN2
      clear hr2 ho ht24
      go_wp2_with fail
      refine HN2.out.mono ?_
      rintro e w3 ⟨A3, d3, rfl, ho3, hb3⟩
      go_wp2_with fail
      go_ret
      exact ⟨A3, d3, rfl, ho3.lower hbw.size, hbw.trans (hb3.mono hbw.size)⟩

set_option maxRecDepth 100000 in
set_option maxHeartbeats 3200000 in
theorem rputval_any (k z : Int) (s : ByteArray) (w : World) :
    Calls Try.prog 10 #[.agg #[.int .i64 k, .int .i64 z, .string s]] w fun e w' => e = .returned (.string (str (vbs (k, z, s)))) ∧ Below w.heap.size w w' := by
  have HV := Lib.hid (fun wx : World => rvcheck_any k z s wx)
  have B0 := Blk.new w (vcells (k, z, s)) 24
  have hb0 : Below w.heap.size w (w.alloc (.cells #[.int .i64 k, .int .i64 z, .string s] 24)) := (Below.refl _ w).alloc (Nat.le_refl _) _
  have RG : (w.alloc (.cells #[.int .i64 k, .int .i64 z, .string s] 24)).rangeAt w.heap.size 0 (vcells (k, z, s)) := B0.range 0 _ rfl
  have C0 := Lib.hid (fun (wx : World) (hb : Below (w.alloc (.cells #[.int .i64 k, .int .i64 z, .string s] 24)).heap.size (w.alloc (.cells #[.int .i64 k, .int .i64 z, .string s] 24)) wx) => (show wx.cell? ⟨w.heap.size, 0, none⟩ = some (.int .i64 k) from (B0.later hb).cell (j := 0) rfl))
  have C1 := Lib.hid (fun (wx : World) (hb : Below (w.alloc (.cells #[.int .i64 k, .int .i64 z, .string s] 24)).heap.size (w.alloc (.cells #[.int .i64 k, .int .i64 z, .string s] 24)) wx) => (show wx.cell? ⟨w.heap.size, 1, none⟩ = some (.int .i64 z) from (B0.later hb).cell (j := 1) rfl))
  have C2 := Lib.hid (fun (wx : World) (hb : Below (w.alloc (.cells #[.int .i64 k, .int .i64 z, .string s] 24)).heap.size (w.alloc (.cells #[.int .i64 k, .int .i64 z, .string s] 24)) wx) => (show wx.cell? ⟨w.heap.size, 2, none⟩ = some (.string s) from (B0.later hb).cell (j := 2) rfl))
  have hu := Try.underlying24
  clear B0
  obtain ⟨ok, hok⟩ : ∃ b, b = vchk (k, z, s) := ⟨_, rfl⟩
  rw [← hok] at HV
  cases ok
  · have HB : Hid (str (vbs (k, z, s)) = ⟨#[]⟩) := Lib.hid (by unfold vbs; rw [if_pos hok.symm]; rfl)
    rw [HB.out]
    clear HB hok
    go_enter Try.func10, Try.ntmps10
    go_wp2_with (first
      | (refine wpList_load_mid rfl 24 (.tmp 1) rfl w.heap.size 0 rfl (vcells (k, z, s)) _ RG hu rfl info_val ?_)
      | fail)
    refine (HV.out _).mono ?_
    rintro e w1 ⟨rfl, hb1⟩
    have c0 := C0.out w1 hb1
    have c1 : ∀ kk : LW w1, kk.val.cell? ⟨w.heap.size, 1, none⟩ = some (.int .i64 z) := fun kk => (kk.le.cell (p := ⟨w.heap.size, 1, none⟩) (cell_lt (C1.out w1 hb1))).trans (C1.out w1 hb1)
    have c2 : ∀ kk : LW w1, kk.val.cell? ⟨w.heap.size, 2, none⟩ = some (.string s) := fun kk => (kk.le.cell (p := ⟨w.heap.size, 2, none⟩) (cell_lt (C2.out w1 hb1))).trans (C2.out w1 hb1)
    have hbw := hb0.trans (hb1.mono (Nat.le_trans (Nat.le_refl _) (by simp)))
    clear RG hb1 hb0
    go_wp2_with fail
    go_ret
    exact ⟨rfl, hbw⟩
  · obtain ⟨hk, hs24⟩ := vchk_kind hok.symm
    have HVB : Hid (vbs (k, z, s) = if k = 1 then enc 1 ++ enc (held z) else if k = 2 then enc 2 ++ (enc s.data.toList.length ++ s.data.toList) else enc 0) := Lib.hid (by unfold vbs; rw [if_neg (by rw [← hok]; simp)])
    clear hok
    rcases hk with rfl | rfl | rfl
    · have HB : Hid (vbs (0, z, s) = enc (held 0)) := Lib.hid (by rw [HVB.out, if_neg (by decide), if_neg (by decide)]; rfl)
      have HN0 := Lib.hid (fun wx : World => ref_num 0 wx)
      obtain ⟨r1, hr1⟩ : ∃ r, r = str (enc (held 0)) := ⟨_, rfl⟩
      rw [HB.out]
      rw [← hr1] at HN0 ⊢
      clear HB HVB hr1
      go_enter Try.func10, Try.ntmps10
      go_wp2_with (first
        | (refine wpList_load_mid rfl 24 (.tmp 1) rfl w.heap.size 0 rfl (vcells (0, z, s)) _ RG hu rfl info_val ?_)
        | fail)
      refine (HV.out _).mono ?_
      rintro e w1 ⟨rfl, hb1⟩
      have c0 := C0.out w1 hb1
      have c1 : ∀ kk : LW w1, kk.val.cell? ⟨w.heap.size, 1, none⟩ = some (.int .i64 z) := fun kk => (kk.le.cell (p := ⟨w.heap.size, 1, none⟩) (cell_lt (C1.out w1 hb1))).trans (C1.out w1 hb1)
      have c2 : ∀ kk : LW w1, kk.val.cell? ⟨w.heap.size, 2, none⟩ = some (.string s) := fun kk => (kk.le.cell (p := ⟨w.heap.size, 2, none⟩) (cell_lt (C2.out w1 hb1))).trans (C2.out w1 hb1)
      have hbw := hb0.trans (hb1.mono (Nat.le_trans (Nat.le_refl _) (by simp)))
      clear RG hb1 hb0
      go_wp2_with fail
      refine (HN0.out _).mono ?_
      rintro e w2 ⟨rfl, hb2⟩
      go_wp2_with fail
      go_ret
      exact ⟨rfl, hbw.trans (hb2.mono hbw.size)⟩
    · have HB : Hid (vbs (1, z, s) = enc (held 1) ++ enc (held z)) := Lib.hid (by rw [HVB.out, if_pos rfl]; rfl)
      have HN0 := Lib.hid (fun wx : World => ref_num 1 wx)
      have HN1 := Lib.hid (fun wx : World => ref_num z wx)
      obtain ⟨r1, hr1⟩ : ∃ r, r = str (enc (held 1)) := ⟨_, rfl⟩
      obtain ⟨r2, hr2⟩ : ∃ r, r = str (enc (held z)) := ⟨_, rfl⟩
      have hz1 : r1.size ≤ 6 := by rw [hr1, str_size]; exact held_len 1
      have hz2 : r2.size ≤ 30 := by rw [hr2, str_size]; have := held_len z; omega
      have HC : Hid (str (vbs (1, z, s)) = r1 ++ r2) := Lib.hid (by rw [HB.out, hr1, hr2]; first | exact (str_append _ _).symm | exact str_append _ _)
      rw [← hr1] at HN0
      rw [← hr2] at HN1
      obtain ⟨R, hR⟩ : ∃ R, R = str (vbs (1, z, s)) := ⟨_, rfl⟩
      rw [← hR] at HC ⊢
      clear HB HVB hr1 hr2 hR
      go_enter Try.func10, Try.ntmps10
      go_wp2_with (first
        | (refine wpList_load_mid rfl 24 (.tmp 1) rfl w.heap.size 0 rfl (vcells (1, z, s)) _ RG hu rfl info_val ?_)
        | fail)
      refine (HV.out _).mono ?_
      rintro e w1 ⟨rfl, hb1⟩
      have c0 := C0.out w1 hb1
      have c1 : ∀ kk : LW w1, kk.val.cell? ⟨w.heap.size, 1, none⟩ = some (.int .i64 z) := fun kk => (kk.le.cell (p := ⟨w.heap.size, 1, none⟩) (cell_lt (C1.out w1 hb1))).trans (C1.out w1 hb1)
      have c2 : ∀ kk : LW w1, kk.val.cell? ⟨w.heap.size, 2, none⟩ = some (.string s) := fun kk => (kk.le.cell (p := ⟨w.heap.size, 2, none⟩) (cell_lt (C2.out w1 hb1))).trans (C2.out w1 hb1)
      have hbw := hb0.trans (hb1.mono (Nat.le_trans (Nat.le_refl _) (by simp)))
      clear RG hb1 hb0
      go_wp2_with fail
      refine wp_region_steady [] 23 (by kernel_rfl) (by kernel_rfl) (by kernel_rfl) (by rfl) ?_
      refine wpG_call (by rfl) (by rfl) 31 #[.int .i64 1] (.string r1) (by intro _; simp [go_sem]) (by kernel_rfl) (fun w1 hl => HN0.out w1) ?_
      simp only [Act.put, List.setIfInBounds_toArray, List.set_cons_zero, List.set_cons_succ]
      iterate 2 (refine wpG_quiet (by rfl) (by rfl) (by rfl) (fun K hK => ?_); go_big_quiet_op; refine hK _ ?_; clear hK K)
      refine wpG_call (by rfl) (by rfl) 31 #[.int .i64 z] (.string r2) (by intro _; simp [go_sem]) (by kernel_rfl) (fun w1 hl => HN1.out w1) ?_
      simp only [Act.put, List.setIfInBounds_toArray, List.set_cons_zero, List.set_cons_succ]
      iterate 2 (refine wpG_quiet (by rfl) (by rfl) (by rfl) (fun K hK => ?_); go_big_quiet_op; refine hK _ ?_; clear hK K)
      refine wpG_nil fun w2 hl _ => ?_
      go_wp2_with fail
      go_ret
      exact ⟨by rw [HC.out]; rfl, hbw.trans (hl.mono hbw.size)⟩
    · have HB : Hid (vbs (2, z, s) = enc (held 2) ++ (enc s.data.toList.length ++ s.data.toList)) := Lib.hid (by rw [HVB.out, if_neg (by decide), if_pos rfl]; rfl)
      have ht24 : s.data.toList.length ≤ 24 := by have := hs24 rfl; simpa using this
      have HN0 := Lib.hid (fun wx : World => ref_num 2 wx)
      have HN1 := Lib.hid (fun wx : World => ref_str s.data.toList wx (by omega))
      rw [str_self] at HN1
      obtain ⟨r1, hr1⟩ : ∃ r, r = str (enc (held 2)) := ⟨_, rfl⟩
      obtain ⟨r2, hr2⟩ : ∃ r, r = str (enc s.data.toList.length ++ s.data.toList) := ⟨_, rfl⟩
      have hz1 : r1.size ≤ 6 := by rw [hr1, str_size]; exact held_len 2
      have hz2 : r2.size ≤ 31 := by
        rw [hr2, str_size, List.length_append]
        have h1 := enc_len 0 s.data.toList.length (by omega)
        omega
      have HC : Hid (str (vbs (2, z, s)) = r1 ++ r2) := Lib.hid (by rw [HB.out, hr1, hr2]; first | exact (str_append _ _).symm | exact str_append _ _)
      rw [← hr1] at HN0
      rw [← hr2] at HN1
      obtain ⟨R, hR⟩ : ∃ R, R = str (vbs (2, z, s)) := ⟨_, rfl⟩
      rw [← hR] at HC ⊢
      clear HB HVB hr1 hr2 hR ht24
      go_enter Try.func10, Try.ntmps10
      go_wp2_with (first
        | (refine wpList_load_mid rfl 24 (.tmp 1) rfl w.heap.size 0 rfl (vcells (2, z, s)) _ RG hu rfl info_val ?_)
        | fail)
      refine (HV.out _).mono ?_
      rintro e w1 ⟨rfl, hb1⟩
      have c0 := C0.out w1 hb1
      have c1 : ∀ kk : LW w1, kk.val.cell? ⟨w.heap.size, 1, none⟩ = some (.int .i64 z) := fun kk => (kk.le.cell (p := ⟨w.heap.size, 1, none⟩) (cell_lt (C1.out w1 hb1))).trans (C1.out w1 hb1)
      have c2 : ∀ kk : LW w1, kk.val.cell? ⟨w.heap.size, 2, none⟩ = some (.string s) := fun kk => (kk.le.cell (p := ⟨w.heap.size, 2, none⟩) (cell_lt (C2.out w1 hb1))).trans (C2.out w1 hb1)
      have hbw := hb0.trans (hb1.mono (Nat.le_trans (Nat.le_refl _) (by simp)))
      clear RG hb1 hb0
      go_wp2_with fail
      refine wp_region_steady [] 23 (by kernel_rfl) (by kernel_rfl) (by kernel_rfl) (by rfl) ?_
      refine wpG_call (by rfl) (by rfl) 31 #[.int .i64 2] (.string r1) (by intro _; simp [go_sem]) (by kernel_rfl) (fun w1 hl => HN0.out w1) ?_
      simp only [Act.put, List.setIfInBounds_toArray, List.set_cons_zero, List.set_cons_succ]
      iterate 2 (refine wpG_quiet (by rfl) (by rfl) (by rfl) (fun K hK => ?_); go_big_quiet_op; refine hK _ ?_; clear hK K)
      refine wpG_call (by rfl) (by rfl) 32 #[.string s] (.string r2) (by intro _; simp [go_sem]) (by kernel_rfl) (fun w1 hl => HN1.out w1) ?_
      simp only [Act.put, List.setIfInBounds_toArray, List.set_cons_zero, List.set_cons_succ]
      iterate 2 (refine wpG_quiet (by rfl) (by rfl) (by rfl) (fun K hK => ?_); go_big_quiet_op; refine hK _ ?_; clear hK K)
      refine wpG_nil fun w2 hl _ => ?_
      go_wp2_with fail
      go_ret
      exact ⟨by rw [HC.out]; rfl, hbw.trans (hl.mono hbw.size)⟩
end Go.Proofs.Yticdpfjajkfheaa
