/- Values as bytes: slices.Clone of bytes, PutValue, and the document's. -/
import Derived.Test.YtadmaalhhigbeaaW1
import Derived.Test.YtadmaalhhigbeaaW9
import Derived.Test.YtadmaalhhigbeaaW10
import Derived.Test.YtadmaalhhigbeaaW3
import Derived.RangeFuncOwn
import Derived.Test.YtadmaalhhigbeaaW2
import Derived.Lib.AppendZeros
import Derived.Test.YtadmaalhhigbeaaW8
namespace Go.Proofs.Ytadmaalhhigbeaa
set_option linter.unusedVariables false
open Go Go.RowKit OctM

theorem clone_any (A : Option Addr) (n c : Nat) (l : List UInt8) (w : World) (hn : l.length = n) (hs : Sees w w.heap.size A (bvs l)) (hsz : n ≤ 1048576) :
    Calls Try.prog 39 #[.slice A n c] w (GivesBytes w l) := by
  obtain ⟨i0, hi, hz0, hz1, hz2⟩ := oct_parts
  subst hn
  rcases A with _ | ad
  · have hl : l = [] := by
      rcases l with _ | ⟨x, l⟩
      · rfl
      · obtain ⟨b, o, h, _⟩ := hs (by simp [bvs])
        cases h
    subst hl
    have hq := fun wx => Lib.run_eql_slice_nil (P := Try.prog) wx 27 5 none 0 c 0 0 Try.underlying27
    go_enter Try.func39, Try.ntmps39
    go_wp2
    go_ret
    exact ⟨none, 0, rfl, Own.nil_ _ _ _, Below.refl _ _⟩
  · have hq := fun wx => Lib.run_eql_slice_nil (P := Try.prog) wx 27 5 (some ad) l.length c 0 0 Try.underlying27
    go_enter Try.func39, Try.ntmps39
    go_wp2_with (first
      | (at_builtin
         refine wpList_app _ rfl (.tmp 5) (.tmp 6) _ rfl w.heap.size 5 i0 _ 1 Try.underlying27 hi hz0 hz1 hz2 rfl (.slice (some ⟨w.heap.size, 0, none⟩) 0 0) [] 0 rfl rfl (own_lit w w.heap.size 5 #[] (Nat.le_refl _) (by simp [maxLen])) w.heap.size (some ad) c (bvs l) l.length rfl (bvs_length l) (hs.alloc (Nat.le_refl _) _) (bvs_one l) (by simp [maxLen]; omega) (by omega) (by simp) ?_
         intro A1 c1 w1 hown1 hb1 hg1 hat1; simp only [Nat.zero_add, List.nil_append] at hown1 hat1)
      | fail)
    go_ret
    exact ⟨A1, c1, rfl, hown1, ((Below.refl _ _).alloc (Nat.le_refl _) _).trans hb1⟩


/-- A value's bytes. -/
def vbs (v : V3) : List UInt8 := if vchk v = false then [] else if v.1 = 1 then enc 1 ++ enc (held v.2.1) else if v.1 = 2 then enc 2 ++ (enc v.2.2.data.toList.length ++ v.2.2.data.toList) else enc 0
theorem str_self (t : ByteArray) : str t.data.toList = t := by
  apply ByteArray.ext
  apply Array.ext'
  rfl
theorem vchk_kind {k n : Int} {s : ByteArray} (h : vchk (k, n, s) = true) : (k = 0 ∨ k = 1 ∨ k = 2) ∧ (k = 2 → s.size ≤ 24) := by
  by_cases h0 : k = 0
  · exact ⟨.inl h0, fun e => by omega⟩
  · by_cases h1 : k = 1
    · exact ⟨.inr (.inl h1), fun e => by omega⟩
    · by_cases h2 : k = 2
      · subst h2
        rw [vchk_2] at h
        exact ⟨.inr (.inr rfl), fun _ => (of_decide_eq_true h).2⟩
      · rw [vchk_3 n s h0 h1 h2] at h; cases h

theorem cell_lt {w : World} {p : Addr} {v : Value} (h : w.cell? p = some v) : p.block < w.heap.size := by
  obtain ⟨o, ho, _⟩ := cells_of_cell h
  exact (Array.getElem?_eq_some_iff.1 ho).1

set_option maxRecDepth 100000 in
set_option maxHeartbeats 3200000 in
theorem putval_any (k z : Int) (s : ByteArray) (A : Option Addr) (n c : Nat) (l : List UInt8) (w : World) (hn : l.length = n) (hs : Sees w w.heap.size A (bvs l)) (hm : n ≤ 100000) :
    Calls Try.prog 72 #[.slice A n c, .agg #[.int .i64 k, .int .i64 z, .string s]] w (GivesBytes w (l ++ vbs (k, z, s))) := by
  have HV := Lib.hid (fun wx : World => vcheck_any k z s wx)
  have HCL := Lib.hid (fun (wx : World) (hb : Below w.heap.size w wx) => clone_any A n c l wx hn ((hs.below hb).more hb.size) (by omega))
  have HNU := Lib.hid (fun (y : Int) (wx : World) (hb : Below w.heap.size w wx) => oct_num A n c l y wx hn ((hs.below hb).more hb.size) (by omega))
  have HN := Lib.hid hn
  clear hn hs
  have B0 := Blk.new w (vcells (k, z, s)) 69
  have hb0 : Below w.heap.size w (w.alloc (.cells #[.int .i64 k, .int .i64 z, .string s] 69)) := (Below.refl _ w).alloc (Nat.le_refl _) _
  have RG : (w.alloc (.cells #[.int .i64 k, .int .i64 z, .string s] 69)).rangeAt w.heap.size 0 (vcells (k, z, s)) := B0.range 0 _ rfl
  have C0 := Lib.hid (fun (wx : World) (hb : Below (w.alloc (.cells #[.int .i64 k, .int .i64 z, .string s] 69)).heap.size (w.alloc (.cells #[.int .i64 k, .int .i64 z, .string s] 69)) wx) => (show wx.cell? ⟨w.heap.size, 0, none⟩ = some (.int .i64 k) from (B0.later hb).cell (j := 0) rfl))
  have C1 := Lib.hid (fun (wx : World) (hb : Below (w.alloc (.cells #[.int .i64 k, .int .i64 z, .string s] 69)).heap.size (w.alloc (.cells #[.int .i64 k, .int .i64 z, .string s] 69)) wx) => (show wx.cell? ⟨w.heap.size, 1, none⟩ = some (.int .i64 z) from (B0.later hb).cell (j := 1) rfl))
  have C2 := Lib.hid (fun (wx : World) (hb : Below (w.alloc (.cells #[.int .i64 k, .int .i64 z, .string s] 69)).heap.size (w.alloc (.cells #[.int .i64 k, .int .i64 z, .string s] 69)) wx) => (show wx.cell? ⟨w.heap.size, 2, none⟩ = some (.string s) from (B0.later hb).cell (j := 2) rfl))
  have hu := Try.underlying69
  clear B0
  obtain ⟨ok, hok⟩ : ∃ b, b = vchk (k, z, s) := ⟨_, rfl⟩
  rw [← hok] at HV
  cases ok
  · have HB : Hid (l ++ vbs (k, z, s) = l) := Lib.hid (by unfold vbs; rw [if_pos hok.symm]; simp)
    rw [HB.out]
    clear HB hok
    go_enter Try.func72, Try.ntmps72
    go_wp2_with (first
      | (refine wpList_load_mid rfl 69 (.tmp 3) rfl w.heap.size 0 rfl (vcells (k, z, s)) _ RG hu rfl info_val ?_)
      | fail)
    refine (HV.out _).mono ?_
    rintro e w1 ⟨rfl, hb1⟩
    have c0 := C0.out w1 hb1
    have c1 := C1.out w1 hb1
    have c2 := C2.out w1 hb1
    have hbw := hb0.trans (hb1.mono (Nat.le_trans (Nat.le_refl _) (by simp)))
    clear RG hb1 hb0
    clear c0 c1 c2
    go_wp2_with fail
    refine (HCL.out _ hbw).mono ?_
    rintro e w2 ⟨A2, c2, rfl, ho, hb2⟩
    go_wp2_with fail
    go_ret
    exact ⟨A2, c2, rfl, ho.lower hbw.size, hbw.trans (hb2.mono hbw.size)⟩
  · obtain ⟨hk, hs24⟩ := vchk_kind hok.symm
    have HVB : Hid (vbs (k, z, s) = if k = 1 then enc 1 ++ enc (held z) else if k = 2 then enc 2 ++ (enc s.data.toList.length ++ s.data.toList) else enc 0) := Lib.hid (by unfold vbs; rw [if_neg (by rw [← hok]; simp)])
    clear hok
    rcases hk with rfl | rfl | rfl
    · obtain ⟨r1, hr1⟩ : ∃ r, r = l ++ enc (held 0) := ⟨_, rfl⟩
      have hrl : r1.length ≤ n + 6 := by rw [hr1, List.length_append, HN.out]; have := held_len 0; omega
      have HNU1 := Lib.hid (HNU.out 0)
      rw [← hr1] at HNU1
      have HB : Hid (l ++ vbs (0, z, s) = r1) := Lib.hid (by rw [HVB.out, if_neg (by decide), if_neg (by decide), hr1]; rfl)
      rw [HB.out]
      clear HB HVB HNU hr1 HCL
      go_enter Try.func72, Try.ntmps72
      go_wp2_with (first
        | (refine wpList_load_mid rfl 69 (.tmp 3) rfl w.heap.size 0 rfl (vcells (0, z, s)) _ RG hu rfl info_val ?_)
        | fail)
      refine (HV.out _).mono ?_
      rintro e w1 ⟨rfl, hb1⟩
      have c0 := C0.out w1 hb1
      have c1 := C1.out w1 hb1
      have c2 := C2.out w1 hb1
      have hbw := hb0.trans (hb1.mono (Nat.le_trans (Nat.le_refl _) (by simp)))
      clear RG hb1 hb0
      go_wp2_with fail
      refine (HNU1.out _ hbw).mono ?_
      rintro e w2 ⟨A2, d2, rfl, ho, hb2⟩
      replace c1 : w2.cell? ⟨w.heap.size, 1, none⟩ = some (.int .i64 z) := (hb2.cell (p := ⟨w.heap.size, 1, none⟩) (cell_lt c1)).trans c1
      replace c2 : w2.cell? ⟨w.heap.size, 2, none⟩ = some (.string s) := (hb2.cell (p := ⟨w.heap.size, 2, none⟩) (cell_lt c2)).trans c2
      replace c0 : w2.cell? ⟨w.heap.size, 0, none⟩ = some (.int .i64 0) := (hb2.cell (p := ⟨w.heap.size, 0, none⟩) (cell_lt c0)).trans c0
      have hws := hbw.size
      replace hbw := hbw.trans (hb2.mono hbw.size)
      clear hb2
      clear c1 c2
      go_wp2_with fail
      go_ret
      exact ⟨A2, d2, rfl, ho.lower hws, hbw⟩
    · obtain ⟨r1, hr1⟩ : ∃ r, r = l ++ enc (held 1) := ⟨_, rfl⟩
      have hrl : r1.length ≤ n + 6 := by rw [hr1, List.length_append, HN.out]; have := held_len 1; omega
      have HNU1 := Lib.hid (HNU.out 1)
      rw [← hr1] at HNU1
      obtain ⟨r2, hr2⟩ : ∃ r, r = r1 ++ enc (held z) := ⟨_, rfl⟩
      have HB : Hid (l ++ vbs (1, z, s) = r2) := Lib.hid (by rw [HVB.out, if_pos rfl, hr2, hr1, List.append_assoc]; rfl)
      rw [HB.out]
      clear HB HVB HNU hr1 HCL
      go_enter Try.func72, Try.ntmps72
      go_wp2_with (first
        | (refine wpList_load_mid rfl 69 (.tmp 3) rfl w.heap.size 0 rfl (vcells (1, z, s)) _ RG hu rfl info_val ?_)
        | fail)
      refine (HV.out _).mono ?_
      rintro e w1 ⟨rfl, hb1⟩
      have c0 := C0.out w1 hb1
      have c1 := C1.out w1 hb1
      have c2 := C2.out w1 hb1
      have hbw := hb0.trans (hb1.mono (Nat.le_trans (Nat.le_refl _) (by simp)))
      clear RG hb1 hb0
      go_wp2_with fail
      refine (HNU1.out _ hbw).mono ?_
      rintro e w2 ⟨A2, d2, rfl, ho, hb2⟩
      replace c1 : w2.cell? ⟨w.heap.size, 1, none⟩ = some (.int .i64 z) := (hb2.cell (p := ⟨w.heap.size, 1, none⟩) (cell_lt c1)).trans c1
      replace c2 : w2.cell? ⟨w.heap.size, 2, none⟩ = some (.string s) := (hb2.cell (p := ⟨w.heap.size, 2, none⟩) (cell_lt c2)).trans c2
      replace c0 : w2.cell? ⟨w.heap.size, 0, none⟩ = some (.int .i64 1) := (hb2.cell (p := ⟨w.heap.size, 0, none⟩) (cell_lt c0)).trans c0
      have hws := hbw.size
      replace hbw := hbw.trans (hb2.mono hbw.size)
      clear hb2
      have HN2 := Lib.hid (oct_num A2 r1.length d2 r1 z w2 rfl ho.sees (by omega))
      rw [← hr2] at HN2
      clear hr2 ho
      go_wp2_with fail
      refine HN2.out.mono ?_
      rintro e w3 ⟨A3, d3, rfl, ho3, hb3⟩
      go_wp2_with fail
      go_ret
      exact ⟨A3, d3, rfl, ho3.lower hbw.size, hbw.trans (hb3.mono hbw.size)⟩
    · obtain ⟨r1, hr1⟩ : ∃ r, r = l ++ enc (held 2) := ⟨_, rfl⟩
      have hrl : r1.length ≤ n + 6 := by rw [hr1, List.length_append, HN.out]; have := held_len 2; omega
      have HNU1 := Lib.hid (HNU.out 2)
      rw [← hr1] at HNU1
      have ht24 : s.data.toList.length ≤ 24 := by have := hs24 rfl; simpa using this
      obtain ⟨r2, hr2⟩ : ∃ r, r = r1 ++ (enc s.data.toList.length ++ s.data.toList) := ⟨_, rfl⟩
      have HB : Hid (l ++ vbs (2, z, s) = r2) := Lib.hid (by rw [HVB.out, if_neg (by decide), if_pos rfl, hr2, hr1, List.append_assoc]; rfl)
      rw [HB.out]
      clear HB HVB HNU hr1 HCL
      go_enter Try.func72, Try.ntmps72
      go_wp2_with (first
        | (refine wpList_load_mid rfl 69 (.tmp 3) rfl w.heap.size 0 rfl (vcells (2, z, s)) _ RG hu rfl info_val ?_)
        | fail)
      refine (HV.out _).mono ?_
      rintro e w1 ⟨rfl, hb1⟩
      have c0 := C0.out w1 hb1
      have c1 := C1.out w1 hb1
      have c2 := C2.out w1 hb1
      have hbw := hb0.trans (hb1.mono (Nat.le_trans (Nat.le_refl _) (by simp)))
      clear RG hb1 hb0
      go_wp2_with fail
      refine (HNU1.out _ hbw).mono ?_
      rintro e w2 ⟨A2, d2, rfl, ho, hb2⟩
      replace c1 : w2.cell? ⟨w.heap.size, 1, none⟩ = some (.int .i64 z) := (hb2.cell (p := ⟨w.heap.size, 1, none⟩) (cell_lt c1)).trans c1
      replace c2 : w2.cell? ⟨w.heap.size, 2, none⟩ = some (.string s) := (hb2.cell (p := ⟨w.heap.size, 2, none⟩) (cell_lt c2)).trans c2
      replace c0 : w2.cell? ⟨w.heap.size, 0, none⟩ = some (.int .i64 2) := (hb2.cell (p := ⟨w.heap.size, 0, none⟩) (cell_lt c0)).trans c0
      have hws := hbw.size
      replace hbw := hbw.trans (hb2.mono hbw.size)
      clear hb2
      have HN2 := Lib.hid (oct_str A2 r1.length d2 r1 s.data.toList s.data.toList.length w2 rfl ho.sees (by omega) rfl (by omega))
      rw [← hr2, str_self] at HN2
      clear hr2 ho ht24
      go_wp2_with fail
      refine HN2.out.mono ?_
      rintro e w3 ⟨A3, d3, rfl, ho3, hb3⟩
      go_wp2_with fail
      go_ret
      exact ⟨A3, d3, rfl, ho3.lower hbw.size, hbw.trans (hb3.mono hbw.size)⟩

set_option maxRecDepth 100000 in
set_option maxHeartbeats 3200000 in
theorem rputval_any (k z : Int) (s : ByteArray) (w : World) :
    Calls Try.prog 74 #[.agg #[.int .i64 k, .int .i64 z, .string s]] w fun e w' => e = .returned (.string (str (vbs (k, z, s)))) ∧ Below w.heap.size w w' := by
  have HV := Lib.hid (fun wx : World => rvcheck_any k z s wx)
  have B0 := Blk.new w (vcells (k, z, s)) 69
  have hb0 : Below w.heap.size w (w.alloc (.cells #[.int .i64 k, .int .i64 z, .string s] 69)) := (Below.refl _ w).alloc (Nat.le_refl _) _
  have RG : (w.alloc (.cells #[.int .i64 k, .int .i64 z, .string s] 69)).rangeAt w.heap.size 0 (vcells (k, z, s)) := B0.range 0 _ rfl
  have C0 := Lib.hid (fun (wx : World) (hb : Below (w.alloc (.cells #[.int .i64 k, .int .i64 z, .string s] 69)).heap.size (w.alloc (.cells #[.int .i64 k, .int .i64 z, .string s] 69)) wx) => (show wx.cell? ⟨w.heap.size, 0, none⟩ = some (.int .i64 k) from (B0.later hb).cell (j := 0) rfl))
  have C1 := Lib.hid (fun (wx : World) (hb : Below (w.alloc (.cells #[.int .i64 k, .int .i64 z, .string s] 69)).heap.size (w.alloc (.cells #[.int .i64 k, .int .i64 z, .string s] 69)) wx) => (show wx.cell? ⟨w.heap.size, 1, none⟩ = some (.int .i64 z) from (B0.later hb).cell (j := 1) rfl))
  have C2 := Lib.hid (fun (wx : World) (hb : Below (w.alloc (.cells #[.int .i64 k, .int .i64 z, .string s] 69)).heap.size (w.alloc (.cells #[.int .i64 k, .int .i64 z, .string s] 69)) wx) => (show wx.cell? ⟨w.heap.size, 2, none⟩ = some (.string s) from (B0.later hb).cell (j := 2) rfl))
  have hu := Try.underlying69
  clear B0
  obtain ⟨ok, hok⟩ : ∃ b, b = vchk (k, z, s) := ⟨_, rfl⟩
  rw [← hok] at HV
  cases ok
  · have HB : Hid (str (vbs (k, z, s)) = ⟨#[]⟩) := Lib.hid (by unfold vbs; rw [if_pos hok.symm]; rfl)
    rw [HB.out]
    clear HB hok
    go_enter Try.func74, Try.ntmps74
    go_wp2_with (first
      | (refine wpList_load_mid rfl 69 (.tmp 1) rfl w.heap.size 0 rfl (vcells (k, z, s)) _ RG hu rfl info_val ?_)
      | fail)
    refine (HV.out _).mono ?_
    rintro e w1 ⟨rfl, hb1⟩
    have c0 := C0.out w1 hb1
    have c1 : ∀ kk : LW w1, kk.val.cell? ⟨w.heap.size, 1, none⟩ = some (.int .i64 z) := fun kk => (kk.le.cell (p := ⟨w.heap.size, 1, none⟩) (cell_lt (C1.out w1 hb1))).trans (C1.out w1 hb1)
    have c2 : ∀ kk : LW w1, kk.val.cell? ⟨w.heap.size, 2, none⟩ = some (.string s) := fun kk => (kk.le.cell (p := ⟨w.heap.size, 2, none⟩) (cell_lt (C2.out w1 hb1))).trans (C2.out w1 hb1)
    have hbw := hb0.trans (hb1.mono (Nat.le_trans (Nat.le_refl _) (by simp)))
    clear RG hb1 hb0
    go_wp2_with fail
    go_ret
    exact ⟨rfl, hbw⟩
  · obtain ⟨hk, hs24⟩ := vchk_kind hok.symm
    have HVB : Hid (vbs (k, z, s) = if k = 1 then enc 1 ++ enc (held z) else if k = 2 then enc 2 ++ (enc s.data.toList.length ++ s.data.toList) else enc 0) := Lib.hid (by unfold vbs; rw [if_neg (by rw [← hok]; simp)])
    clear hok
    rcases hk with rfl | rfl | rfl
    · have HB : Hid (vbs (0, z, s) = enc (held 0)) := Lib.hid (by rw [HVB.out, if_neg (by decide), if_neg (by decide)]; rfl)
      have HN0 := Lib.hid (fun wx : World => ref_num 0 wx)
      obtain ⟨r1, hr1⟩ : ∃ r, r = str (enc (held 0)) := ⟨_, rfl⟩
      rw [HB.out]
      rw [← hr1] at HN0 ⊢
      clear HB HVB hr1
      go_enter Try.func74, Try.ntmps74
      go_wp2_with (first
        | (refine wpList_load_mid rfl 69 (.tmp 1) rfl w.heap.size 0 rfl (vcells (0, z, s)) _ RG hu rfl info_val ?_)
        | fail)
      refine (HV.out _).mono ?_
      rintro e w1 ⟨rfl, hb1⟩
      have c0 := C0.out w1 hb1
      have c1 : ∀ kk : LW w1, kk.val.cell? ⟨w.heap.size, 1, none⟩ = some (.int .i64 z) := fun kk => (kk.le.cell (p := ⟨w.heap.size, 1, none⟩) (cell_lt (C1.out w1 hb1))).trans (C1.out w1 hb1)
      have c2 : ∀ kk : LW w1, kk.val.cell? ⟨w.heap.size, 2, none⟩ = some (.string s) := fun kk => (kk.le.cell (p := ⟨w.heap.size, 2, none⟩) (cell_lt (C2.out w1 hb1))).trans (C2.out w1 hb1)
      have hbw := hb0.trans (hb1.mono (Nat.le_trans (Nat.le_refl _) (by simp)))
      clear RG hb1 hb0
      go_wp2_with fail
      refine (HN0.out _).mono ?_
      rintro e w2 ⟨rfl, hb2⟩
      go_wp2_with fail
      go_ret
      exact ⟨rfl, hbw.trans (hb2.mono hbw.size)⟩
    · have HB : Hid (vbs (1, z, s) = enc (held 1) ++ enc (held z)) := Lib.hid (by rw [HVB.out, if_pos rfl]; rfl)
      have HN0 := Lib.hid (fun wx : World => ref_num 1 wx)
      have HN1 := Lib.hid (fun wx : World => ref_num z wx)
      obtain ⟨r1, hr1⟩ : ∃ r, r = str (enc (held 1)) := ⟨_, rfl⟩
      obtain ⟨r2, hr2⟩ : ∃ r, r = str (enc (held z)) := ⟨_, rfl⟩
      have hz1 : r1.size ≤ 6 := by rw [hr1, str_size]; exact held_len 1
      have hz2 : r2.size ≤ 30 := by rw [hr2, str_size]; have := held_len z; omega
      have HC : Hid (str (vbs (1, z, s)) = r1 ++ r2) := Lib.hid (by rw [HB.out, hr1, hr2]; first | exact (str_append _ _).symm | exact str_append _ _)
      rw [← hr1] at HN0
      rw [← hr2] at HN1
      obtain ⟨R, hR⟩ : ∃ R, R = str (vbs (1, z, s)) := ⟨_, rfl⟩
      rw [← hR] at HC ⊢
      clear HB HVB hr1 hr2 hR
      go_enter Try.func74, Try.ntmps74
      go_wp2_with (first
        | (refine wpList_load_mid rfl 69 (.tmp 1) rfl w.heap.size 0 rfl (vcells (1, z, s)) _ RG hu rfl info_val ?_)
        | fail)
      refine (HV.out _).mono ?_
      rintro e w1 ⟨rfl, hb1⟩
      have c0 := C0.out w1 hb1
      have c1 : ∀ kk : LW w1, kk.val.cell? ⟨w.heap.size, 1, none⟩ = some (.int .i64 z) := fun kk => (kk.le.cell (p := ⟨w.heap.size, 1, none⟩) (cell_lt (C1.out w1 hb1))).trans (C1.out w1 hb1)
      have c2 : ∀ kk : LW w1, kk.val.cell? ⟨w.heap.size, 2, none⟩ = some (.string s) := fun kk => (kk.le.cell (p := ⟨w.heap.size, 2, none⟩) (cell_lt (C2.out w1 hb1))).trans (C2.out w1 hb1)
      have hbw := hb0.trans (hb1.mono (Nat.le_trans (Nat.le_refl _) (by simp)))
      clear RG hb1 hb0
      go_wp2_with fail
      refine wp_region_steady [] 23 (by kernel_rfl) (by kernel_rfl) (by kernel_rfl) (by rfl) ?_
      refine wpG_call (by rfl) (by rfl) 44 #[.int .i64 1] (.string r1) (by intro _; simp [go_sem]) (by kernel_rfl) (fun w1 hl => HN0.out w1) ?_
      simp only [Act.put, List.setIfInBounds_toArray, List.set_cons_zero, List.set_cons_succ]
      iterate 2 (refine wpG_quiet (by rfl) (by rfl) (by rfl) (fun K hK => ?_); go_big_quiet_op; refine hK _ ?_; clear hK K)
      refine wpG_call (by rfl) (by rfl) 44 #[.int .i64 z] (.string r2) (by intro _; simp [go_sem]) (by kernel_rfl) (fun w1 hl => HN1.out w1) ?_
      simp only [Act.put, List.setIfInBounds_toArray, List.set_cons_zero, List.set_cons_succ]
      iterate 2 (refine wpG_quiet (by rfl) (by rfl) (by rfl) (fun K hK => ?_); go_big_quiet_op; refine hK _ ?_; clear hK K)
      refine wpG_nil fun w2 hl _ => ?_
      go_wp2_with fail
      go_ret
      exact ⟨by rw [HC.out]; rfl, hbw.trans (hl.mono hbw.size)⟩
    · have HB : Hid (vbs (2, z, s) = enc (held 2) ++ (enc s.data.toList.length ++ s.data.toList)) := Lib.hid (by rw [HVB.out, if_neg (by decide), if_pos rfl]; rfl)
      have ht24 : s.data.toList.length ≤ 24 := by have := hs24 rfl; simpa using this
      have HN0 := Lib.hid (fun wx : World => ref_num 2 wx)
      have HN1 := Lib.hid (fun wx : World => ref_str s.data.toList wx (by omega))
      rw [str_self] at HN1
      obtain ⟨r1, hr1⟩ : ∃ r, r = str (enc (held 2)) := ⟨_, rfl⟩
      obtain ⟨r2, hr2⟩ : ∃ r, r = str (enc s.data.toList.length ++ s.data.toList) := ⟨_, rfl⟩
      have hz1 : r1.size ≤ 6 := by rw [hr1, str_size]; exact held_len 2
      have hz2 : r2.size ≤ 31 := by
        rw [hr2, str_size, List.length_append]
        have h1 := enc_len 0 s.data.toList.length (by omega)
        omega
      have HC : Hid (str (vbs (2, z, s)) = r1 ++ r2) := Lib.hid (by rw [HB.out, hr1, hr2]; first | exact (str_append _ _).symm | exact str_append _ _)
      rw [← hr1] at HN0
      rw [← hr2] at HN1
      obtain ⟨R, hR⟩ : ∃ R, R = str (vbs (2, z, s)) := ⟨_, rfl⟩
      rw [← hR] at HC ⊢
      clear HB HVB hr1 hr2 hR ht24
      go_enter Try.func74, Try.ntmps74
      go_wp2_with (first
        | (refine wpList_load_mid rfl 69 (.tmp 1) rfl w.heap.size 0 rfl (vcells (2, z, s)) _ RG hu rfl info_val ?_)
        | fail)
      refine (HV.out _).mono ?_
      rintro e w1 ⟨rfl, hb1⟩
      have c0 := C0.out w1 hb1
      have c1 : ∀ kk : LW w1, kk.val.cell? ⟨w.heap.size, 1, none⟩ = some (.int .i64 z) := fun kk => (kk.le.cell (p := ⟨w.heap.size, 1, none⟩) (cell_lt (C1.out w1 hb1))).trans (C1.out w1 hb1)
      have c2 : ∀ kk : LW w1, kk.val.cell? ⟨w.heap.size, 2, none⟩ = some (.string s) := fun kk => (kk.le.cell (p := ⟨w.heap.size, 2, none⟩) (cell_lt (C2.out w1 hb1))).trans (C2.out w1 hb1)
      have hbw := hb0.trans (hb1.mono (Nat.le_trans (Nat.le_refl _) (by simp)))
      clear RG hb1 hb0
      go_wp2_with fail
      refine wp_region_steady [] 23 (by kernel_rfl) (by kernel_rfl) (by kernel_rfl) (by rfl) ?_
      refine wpG_call (by rfl) (by rfl) 44 #[.int .i64 2] (.string r1) (by intro _; simp [go_sem]) (by kernel_rfl) (fun w1 hl => HN0.out w1) ?_
      simp only [Act.put, List.setIfInBounds_toArray, List.set_cons_zero, List.set_cons_succ]
      iterate 2 (refine wpG_quiet (by rfl) (by rfl) (by rfl) (fun K hK => ?_); go_big_quiet_op; refine hK _ ?_; clear hK K)
      refine wpG_call (by rfl) (by rfl) 96 #[.string s] (.string r2) (by intro _; simp [go_sem]) (by kernel_rfl) (fun w1 hl => HN1.out w1) ?_
      simp only [Act.put, List.setIfInBounds_toArray, List.set_cons_zero, List.set_cons_succ]
      iterate 2 (refine wpG_quiet (by rfl) (by rfl) (by rfl) (fun K hK => ?_); go_big_quiet_op; refine hK _ ?_; clear hK K)
      refine wpG_nil fun w2 hl _ => ?_
      go_wp2_with fail
      go_ret
      exact ⟨by rw [HC.out]; rfl, hbw.trans (hl.mono hbw.size)⟩
end Go.Proofs.Ytadmaalhhigbeaa

/- slices.Grow and slices.Concat of bytes; a mask's values as bytes: what each returns. -/
namespace Go.Proofs.Ytadmaalhhigbeaa
set_option linter.unusedVariables false
open Go Go.RowKit BitM OctM

set_option maxRecDepth 100000 in
set_option maxHeartbeats 1600000 in
theorem grow_any (n : Nat) (w : World) (hn : n ≤ 100000) : Calls Try.prog 73 #[.slice none 0 0, .int .i64 (n : Int)] w fun e w' =>
    ∃ A c, e = .returned (.slice A 0 c) ∧ Own w' w.heap.size 5 (.slice A 0 c) [] ∧ Below w.heap.size w w' := by
  obtain ⟨i0, hi, hz0, hz1, hz2⟩ := oct_parts
  by_cases h0 : n = 0
  · subst h0
    go_enter Try.func73, Try.ntmps73
    go_wp2_with fail
    go_ret
    exact ⟨none, 0, rfl, Own.nil_ _ _ _, Below.refl _ _⟩
  · have hp : 0 < n := by omega
    have hpi : (0 : Int) < (n : Int) := by omega
    clear h0
    go_enter Try.func73, Try.ntmps73
    go_wp2_with (first
      | (at_builtin
         refine Lib.wpList_append_run _ rfl (.tmp 20) (.tmp 21) _ _ rfl _ _ rfl rfl _ _ (Lib.run_append_nil_zeros w 27 3 _ 5 i0 (.int .u8 0) .i64 .i64 Try.underlying27 Try.underlying3 hi hz0 n hp (by omega) (by omega) (by rw [hz2]; omega)) ?_)
      | fail)
    obtain ⟨G, hG⟩ : ∃ G, G = grownCap w n 0 5 := ⟨_, rfl⟩
    have hge : n ≤ G := by rw [hG]; exact grownCap_ge w n 0 _
    have hle : G ≤ maxLen := by rw [hG]; exact grownCap_le_maxLen w n 0 _ (by unfold maxLen; omega)
    rw [← hG]
    go_ret
    refine ⟨_, _, rfl, ⟨rfl, .inr ⟨w.heap.size, G, _, rfl, Nat.le_refl _, heap_alloc_new w.drew _, Nat.zero_le _, hle, ?_, rfl⟩⟩, (Below.refl w.heap.size w).drew.alloc (Nat.le_refl _) _⟩
    rw [Array.size_append, size_zeroCells, size_zeroCells]
    show n * 1 + (G - n) * 1 = G * 1
    omega

def FlatAt (w : World) (g : Nat) (ls : List (List UInt8)) : Prop := ∀ (k : Nat) (h : k < ls.length), ∃ A c, w.cell? ⟨g, k, none⟩ = some (.slice A ls[k].length c) ∧ Sees w w.heap.size A (bvs ls[k])
theorem FlatAt.below {w w' : World} {g : Nat} {ls : List (List UInt8)} (h : FlatAt w g ls) (hg : g < w.heap.size) (hb : Below w.heap.size w w') : FlatAt w' g ls := fun k hk => by
  obtain ⟨A, c, h1, h2⟩ := h k hk
  exact ⟨A, c, (hb.cell (p := ⟨g, k, none⟩) hg).trans h1, (h2.below hb).more hb.size⟩
theorem flat_take {ls : List (List UInt8)} {k : Nat} (h : k < ls.length) : (ls.take (k + 1)).flatten = (ls.take k).flatten ++ ls[k] := by
  rw [List.take_succ_eq_append_getElem h, List.flatten_append]; simp
theorem flat_le {ls : List (List UInt8)} (k : Nat) : (ls.take k).flatten.length ≤ ls.flatten.length := by
  conv => rhs; rw [← List.take_append_drop k ls, List.flatten_append, List.length_append]
  omega

set_option maxRecDepth 100000 in
set_option maxHeartbeats 3200000 in
theorem concat_any (g N c0 : Nat) (ls : List (List UInt8)) (w : World) (hN : ls.length = N) (hg : g < w.heap.size) (hf : FlatAt w g ls) (hN9 : N ≤ 100000) (hm : ls.flatten.length ≤ 100000) :
    Calls Try.prog 43 #[.slice (some ⟨g, 0, none⟩) N c0] w (GivesBytes w ls.flatten) := by
  obtain ⟨i0, hi, hz0, hz1, hz2⟩ := oct_parts
  have HF := Lib.hid (fun (wx : World) (hb : Below w.heap.size w wx) => hf.below hg hb)
  have HN := Lib.hid hN
  have HM := Lib.hid hm
  obtain ⟨R, hR⟩ : ∃ R, R = ls.flatten := ⟨_, rfl⟩
  have HR := Lib.hid hR
  rw [← hR]
  clear hf hN hm hR
  go_enter Try.func43, Try.ntmps43
  go_wp2_with fail
  go_loop [3, 11] (fun s i => ∃ k tot : Nat, k ≤ N ∧ i = .int .i64 k ∧ s = .int .i64 tot ∧ tot ≤ 100000 ∧ Hid (tot = (ls.take k).flatten.length)) (fun _ i => N - (intOf i).toNat)
  case atStart => exact ⟨0, 0, Nat.zero_le _, rfl, rfl, by omega, Lib.hid rfl⟩
  case round =>
    obtain ⟨k, tot, hk, rfl, rfl, ht, HT⟩ := hrel
    by_cases hlt : k < N
    · have hkl : k < ls.length := by rw [HN.out]; exact hlt
      obtain ⟨Ak, ck, hc, hs⟩ := HF.out w (Below.refl _ _) k hkl
      have HT2 : Hid (tot + ls[k].length = (ls.take (k + 1)).flatten.length) := Lib.hid (by rw [flat_take hkl, List.length_append, ← HT.out])
      have ht2 : tot + ls[k].length ≤ 100000 := by rw [HT2.out]; exact Nat.le_trans (flat_le _) HM.out
      obtain ⟨nk, hnk⟩ : ∃ nk, nk = ls[k].length := ⟨_, rfl⟩
      rw [← hnk] at hc HT2 ht2
      have hki : (k : Int) < (N : Int) := by omega
      clear hnk hs hkl
      go_wp2_with fail
      go_round
      case rel => exact ⟨k + 1, tot + nk, by omega, by go_num, by go_num, ht2, HT2⟩
      case measure => simp [intOf]; omega
    · obtain rfl : k = N := by omega
      have HTT : Hid (tot = R.length) := Lib.hid (by rw [HT.out, HR.out, ← HN.out, List.take_length])
      clear HT
      have HG := Lib.hid (grow_any tot w (by omega))
      go_wp2_with fail
      refine HG.out.mono ?_
      rintro e w1 ⟨A1, c1, rfl, hown1, hb1⟩
      go_wp2_with fail
      go_loopw [6, 27] (fun v i wr => ∃ (j la : Nat) (acc : List UInt8), j ≤ k ∧ i = .int .i64 j ∧ (∃ A2 c2, v = .slice A2 la c2 ∧ Own wr w.heap.size 5 (.slice A2 la c2) (bvs acc)) ∧ Hid (acc.length = la) ∧ la ≤ 100000 ∧ Hid (acc = (ls.take j).flatten) ∧ Below w.heap.size w wr) (fun _ i _ => k - (intOf i).toNat)
      case atStart => exact ⟨0, 0, [], Nat.zero_le _, rfl, ⟨A1, c1, rfl, hown1⟩, Lib.hid rfl, by omega, Lib.hid rfl, hb1⟩
      case round =>
        obtain ⟨j, la, acc, hj, rfl, ⟨A2, c2, rfl, hown⟩, HLA, hla, HACC, hbr⟩ := hrel
        by_cases hlt2 : j < k
        · have hkl : j < ls.length := by rw [HN.out]; exact hlt2
          obtain ⟨Ak, ck, hc, hs⟩ := HF.out wr hbr j hkl
          have HA2 : Hid (acc ++ ls[j] = (ls.take (j + 1)).flatten) := Lib.hid (by rw [flat_take hkl, ← HACC.out])
          have ht2 : la + ls[j].length ≤ 100000 := by rw [← HLA.out, ← List.length_append, HA2.out]; exact Nat.le_trans (flat_le _) HM.out
          obtain ⟨lk, hlk⟩ : ∃ lk, lk = ls[j] := ⟨_, rfl⟩
          rw [← hlk] at hc HA2 ht2 hs
          obtain ⟨nk, hnk⟩ : ∃ nk, nk = lk.length := ⟨_, rfl⟩
          rw [← hnk] at hc ht2
          have HNK := Lib.hid hnk
          have hki : (j : Int) < (k : Int) := by omega
          clear hnk hlk hkl
          go_wp2_with (first
            | (at_builtin
               refine wpList_app _ rfl (.tmp 31) (.tmp 32) _ rfl w.heap.size 5 i0 _ 1 Try.underlying27 hi hz0 hz1 hz2 rfl (.slice A2 la c2) (bvs acc) la rfl (by rw [bvs_length, HLA.out]) hown wr.heap.size Ak ck (bvs lk) nk rfl (by rw [bvs_length, HNK.out]) hs (bvs_one _) (by simp [maxLen]; omega) (by omega) hbr.size ?_
               intro A3 c3 w3 hown3 hb3 hg3 hat3
               rw [← bvs_append] at hown3
               have hbr3 := hbr.trans hb3
               clear hg3 hat3 hb3 hown hbr)
            | fail)
          go_roundw
          case rel => exact ⟨j + 1, la + nk, acc ++ lk, by omega, by go_num, ⟨A3, c3, rfl, hown3⟩, Lib.hid (by rw [List.length_append, HLA.out, HNK.out]), ht2, HA2, hbr3⟩
          case measure => simp [intOf]; omega
        · obtain rfl : j = k := by omega
          have HA2 : Hid (acc = R) := Lib.hid (by rw [HACC.out, HR.out, ← HN.out, List.take_length])
          go_wp2_with fail
          go_ret
          rw [HA2.out] at hown
          have hl : R.length = la := by rw [← HA2.out]; exact HLA.out
          rw [← hl] at hown
          exact ⟨A2, c2, by rw [hl]; rfl, hown, hbr⟩
end Go.Proofs.Ytadmaalhhigbeaa

/- A mask's values as bytes: what cardwire.putValues returns. -/
namespace Go.Proofs.Ytadmaalhhigbeaa
set_option linter.unusedVariables false
open Go Go.RowKit BitM OctM

/-- Bytes that are seen. -/
def SeesBytes (w : World) (xs : List UInt8) : Ending → World → Prop := fun e w' => ∃ A' c', e = .returned (.slice A' xs.length c') ∧ Sees w' w'.heap.size A' (bvs xs) ∧ Below w.heap.size w w'
/-- The bytes of the values of some fields. -/
def fbs (L : List Int) (f : List V3) : List UInt8 := L.flatMap fun i => vbs (f.getD i.toNat zv)
theorem fbs_snoc (L : List Int) (i : Int) (f : List V3) : fbs (L ++ [i]) f = fbs L f ++ vbs (f.getD i.toNat zv) := by simp [fbs]
theorem vbs_len (v : V3) : (vbs v).length ≤ 40 := by
  obtain ⟨k, z, s⟩ := v
  unfold vbs
  split
  · simp
  · rename_i h
    have hv : vchk (k, z, s) = true := by simpa using h
    split
    · rw [List.length_append]
      have h1 := held_len z
      have h2 := held_len 1
      have : enc 1 = enc (held 1) := rfl
      rw [this]
      show (enc (held 1)).length + (enc (held z)).length ≤ 40
      omega
    · split
      · rename_i h1 h2
        have h24 := (vchk_kind hv).2 h2
        have hl : s.data.toList.length = s.size := by simp
        have e1 := enc_len 0 s.data.toList.length (by omega)
        have e2 := held_len 2
        have : enc 2 = enc (held 2) := rfl
        rw [this, List.length_append, List.length_append]
        show (enc (held 2)).length + ((enc s.data.toList.length).length + s.data.toList.length) ≤ 40
        omega
      · have h2 := held_len 0
        have : enc 0 = enc (held 0) := rfl
        rw [this]; omega

end Go.Proofs.Ytadmaalhhigbeaa

/- Filters as bytes: mathematics; which kinds have a number, a value: what each returns. -/
namespace Go.Proofs.Ytadmaalhhigbeaa
set_option linter.unusedVariables false
set_option linter.unusedSimpArgs false
open Go Go.RowKit OctM

def hasN (op : Int) : Bool := decide (3 ≤ op ∧ op ≤ 9)
def hasV (op : Int) : Bool := decide (6 ≤ op ∧ op ≤ 9)
/-- The greatest number of a kind. -/
def npm (op : Int) : Int := if op = 3 ∨ op = 4 then 15 else if hasN op = true then 7 else 0
/-- A node's bytes. -/
def nbs (n : Nd) : List UInt8 := enc (held n.1) ++ ((if hasN n.1 = true then enc (held n.2.1) else []) ++ (if hasV n.1 = true then vbs n.2.2 else []))
/-- A filter's bytes. -/
def lbs (l : List Nd) : List UInt8 := if lchk l = 0 then enc (held (l.length : Int)) ++ l.flatMap nbs else []
theorem nbs_len (n : Nd) : (nbs n).length ≤ 52 := by
  unfold nbs
  have h1 := held_len n.1
  have h2 := held_len n.2.1
  have h3 := vbs_len n.2.2
  simp only [List.length_append]
  have g1 : (if hasN n.1 = true then enc (held n.2.1) else []).length ≤ 6 := by split <;> simp_all
  have g2 : (if hasV n.1 = true then vbs n.2.2 else []).length ≤ 40 := by split <;> simp_all
  omega
theorem nbs_flat (l : List Nd) : (l.flatMap nbs).length ≤ 52 * l.length := by
  induction l with
  | nil => simp
  | cons n l ih =>
    have := nbs_len n
    simp only [List.flatMap_cons, List.length_append, List.length_cons]
    omega
theorem nbs_take (l : List Nd) (k : Nat) (hk : k < l.length) : (l.take (k + 1)).flatMap nbs = (l.take k).flatMap nbs ++ nbs l[k] := by
  rw [List.take_succ_eq_append_getElem hk, List.flatMap_append]
  simp
theorem lbs_len (l : List Nd) : (lbs l).length ≤ 1618 := by
  unfold lbs
  split
  · rename_i h
    have h1 := (lchk_ok h).1
    have h2 := held_len (l.length : Int)
    have h3 := nbs_flat l
    rw [List.length_append]
    omega
  · simp

set_option maxRecDepth 100000 in
set_option maxHeartbeats 1600000 in
theorem most_any (op : Int) (w : World) : Calls Try.prog 70 #[.int .i64 op] w fun e w' => e = .returned (.tuple #[.int .i64 (npm op), .bool (hasN op)]) ∧ w = w' := by
  by_cases h3 : op = 3
  · subst h3; go_enter Try.func70, Try.ntmps70; go_wp2; exact bodyPost_ret (results_tmp2 rfl _ _ _) rfl ⟨rfl, rfl⟩
  by_cases h4 : op = 4
  · subst h4; go_enter Try.func70, Try.ntmps70; go_wp2; exact bodyPost_ret (results_tmp2 rfl _ _ _) rfl ⟨rfl, rfl⟩
  by_cases h5 : op = 5
  · subst h5; go_enter Try.func70, Try.ntmps70; go_wp2; exact bodyPost_ret (results_tmp2 rfl _ _ _) rfl ⟨rfl, rfl⟩
  by_cases h6 : op = 6
  · subst h6; go_enter Try.func70, Try.ntmps70; go_wp2; exact bodyPost_ret (results_tmp2 rfl _ _ _) rfl ⟨rfl, rfl⟩
  by_cases h7 : op = 7
  · subst h7; go_enter Try.func70, Try.ntmps70; go_wp2; exact bodyPost_ret (results_tmp2 rfl _ _ _) rfl ⟨rfl, rfl⟩
  by_cases h8 : op = 8
  · subst h8; go_enter Try.func70, Try.ntmps70; go_wp2; exact bodyPost_ret (results_tmp2 rfl _ _ _) rfl ⟨rfl, rfl⟩
  by_cases h9 : op = 9
  · subst h9; go_enter Try.func70, Try.ntmps70; go_wp2; exact bodyPost_ret (results_tmp2 rfl _ _ _) rfl ⟨rfl, rfl⟩
  have hN : hasN op = false := by unfold hasN; exact decide_eq_false (by omega)
  have hR : Hid (npm op = 0 ∧ hasN op = false) := Lib.hid ⟨by unfold npm; rw [if_neg (by omega), hN]; rfl, hN⟩
  have b3 : (op == 3) = false := by simpa using h3
  have b4 : (op == 4) = false := by simpa using h4
  have b5 : (op == 5) = false := by simpa using h5
  have b6 : (op == 6) = false := by simpa using h6
  have b7 : (op == 7) = false := by simpa using h7
  have b8 : (op == 8) = false := by simpa using h8
  have b9 : (op == 9) = false := by simpa using h9
  clear h3 h4 h5 h6 h7 h8 h9 hN
  go_enter Try.func70, Try.ntmps70
  go_wp2
  exact bodyPost_ret (results_tmp2 rfl _ _ _) rfl ⟨by rw [hR.out.1, hR.out.2]; rfl, rfl⟩
set_option maxRecDepth 100000 in
set_option maxHeartbeats 1600000 in
theorem pholds_any (op : Int) (w : World) : Calls Try.prog 71 #[.int .i64 op] w fun e w' => e = .returned (.bool (hasV op)) ∧ w = w' := by
  by_cases h6 : 6 ≤ op
  · by_cases h9 : op ≤ 9
    · have hR : Hid (hasV op = true) := Lib.hid (by unfold hasV; exact decide_eq_true ⟨h6, h9⟩)
      have d1 : decide (6 ≤ op) = true := by simpa using h6
      have d2 : decide (op ≤ 9) = true := by simpa using h9
      clear h6 h9
      go_enter Try.func71, Try.ntmps71
      go_wp2
      go_ret
      exact ⟨by rw [hR.out]; rfl, rfl⟩
    · have hR : Hid (hasV op = false) := Lib.hid (by unfold hasV; exact decide_eq_false (by omega))
      have d1 : decide (6 ≤ op) = true := by simpa using h6
      have d2 : decide (op ≤ 9) = false := by simpa using h9
      clear h6 h9
      go_enter Try.func71, Try.ntmps71
      go_wp2
      go_ret
      exact ⟨by rw [hR.out]; rfl, rfl⟩
  · have hR : Hid (hasV op = false) := Lib.hid (by unfold hasV; exact decide_eq_false (by omega))
    have d1 : decide (6 ≤ op) = false := by simpa using h6
    clear h6
    go_enter Try.func71, Try.ntmps71
    go_wp2
    go_ret
    exact ⟨by rw [hR.out]; rfl, rfl⟩
end Go.Proofs.Ytadmaalhhigbeaa

/- Cards: what a mask shows of a card; a new card: what each returns. -/
namespace Go.Proofs.Ytadmaalhhigbeaa
set_option linter.unusedVariables false
open Go Go.RowKit BitM

theorem Blk.fieldsC {w : World} {g : Nat} {id ver lab : Int} {f : List V3} (h : Blk w g (ccells id ver lab f)) : w.rangeAt g 3 (fcells f) := by
  refine h.range 3 _ ?_
  unfold ccells
  rw [List.drop_append_of_le_length (by simp), List.drop_eq_nil_of_le (by simp), List.nil_append, List.take_length]
theorem Blk.fieldsP {w : World} {g : Nat} {m lab : Int} {f : List V3} (h : Blk w g (pcells m lab f)) : w.rangeAt g 2 (fcells f) := by
  refine h.range 2 _ ?_
  unfold pcells
  rw [List.drop_append_of_le_length (by simp), List.drop_eq_nil_of_le (by simp), List.nil_append, List.take_length]
theorem Blk.wholeC {w : World} {g : Nat} {cs : List Value} (h : Blk w g cs) : w.rangeAt g 0 cs := h.range 0 cs (by rw [List.drop_zero, List.take_length])
theorem Blk.putFields {w : World} {g : Nat} {id ver lab : Int} {f h : List V3} (hB : Blk w g (ccells id ver lab f)) (hf : f.length = 8) (hh : h.length = 8) :
    Blk (w.setCells g 3 (fcells h)) g (ccells id ver lab h) := by
  have hl : (fcells h).length = 24 := by rw [fcells_len, hh]
  have h2 := hB.sets (fcells h) 3 (by rw [ccells_len id ver lab hf, hl]; omega)
  rw [hl, List.drop_eq_nil_of_le (by rw [ccells_len id ver lab hf]; omega), List.append_nil] at h2
  exact h2

end Go.Proofs.Ytadmaalhhigbeaa

/- Cards: what is unlike in two cards: what it returns. -/
namespace Go.Proofs.Ytadmaalhhigbeaa
set_option linter.unusedVariables false
open Go Go.RowKit BitM

section
variable {P : Program} {ops : Array Oper} {rest : List Oper} {op : Oper} {a : Act} {w : World} {Q : Exit → Act → World → Prop}
end

theorem Own.onward {w w' : World} {base : Nat} {e : TypeId} {v : Value} {xs : List Value} (h : Own w base e v xs) (hb : Below w.heap.size w w') : Own w' base e v xs := by
  refine ⟨h.1, h.2.imp id ?_⟩
  rintro ⟨g, cap, cur, h1, h2, h3, h4⟩
  exact ⟨g, cap, cur, h1, h2, (hb.block g (Array.getElem?_eq_some_iff.1 h3).1).trans h3, h4⟩

/-- Which of the first k fields are unlike. -/
def unl (f g : List V3) (k : Nat) : List Int := ((List.range k).filter fun i => decide (f.getD i zv ≠ g.getD i zv)).map fun i : Nat => (i : Int)
theorem unl_succ (f g : List V3) (k : Nat) : unl f g (k + 1) = unl f g k ++ if f.getD k zv ≠ g.getD k zv then [(k : Int)] else [] := by
  unfold unl
  rw [List.range_succ, List.filter_append, List.map_append]
  by_cases h : f.getD k zv = g.getD k zv
  · rw [List.filter_cons_of_neg (by rw [decide_eq_false (fun hn => hn h)]; exact Bool.false_ne_true), if_neg (fun hn => hn h)]; rfl
  · rw [List.filter_cons_of_pos (by rw [decide_eq_true h]), if_pos h]; rfl
theorem unl_len (f g : List V3) (k : Nat) : (unl f g k).length ≤ k := by
  unfold unl
  rw [List.length_map]
  exact Nat.le_trans (List.length_filter_le _ _) (by simp)
theorem mem_unl (f g : List V3) (k : Nat) (n : Int) : n ∈ unl f g k ↔ ∃ i : Nat, i < k ∧ n = (i : Int) ∧ f.getD i zv ≠ g.getD i zv := by
  unfold unl
  simp only [List.mem_map, List.mem_filter, List.mem_range, decide_eq_true_eq]
  constructor
  · rintro ⟨i, ⟨h1, h2⟩, rfl⟩; exact ⟨i, h1, rfl, h2⟩
  · rintro ⟨i, h1, rfl, h2⟩; exact ⟨i, ⟨h1, h2⟩, rfl⟩
/-- The mask of what is unlike. -/
def dmask (lab : Int) (f : List V3) (lab' : Int) (g : List V3) : BitVec 32 := mkm (decide (lab ≠ lab')) (unl f g 8)
theorem dmask_same (lab : Int) (f : List V3) : dmask lab f lab f = 0#32 := by
  have h : unl f f 8 = [] := by
    apply List.eq_nil_iff_forall_not_mem.2
    intro n hn
    obtain ⟨i, _, _, h⟩ := (mem_unl f f 8 n).1 hn
    exact h rfl
  unfold dmask mkm
  rw [h]
  simp [ofl]

theorem range3 {w : World} {g o : Nat} {v : V3} (h : w.cell? ⟨g, o, none⟩ = some (.int .i64 v.1) ∧ w.cell? ⟨g, o + 1, none⟩ = some (.int .i64 v.2.1) ∧ w.cell? ⟨g, o + 2, none⟩ = some (.string v.2.2)) : w.rangeAt g o (vcells v) := fun j u hj => by
  unfold vcells at hj
  match j with
  | 0 => simp at hj; subst hj; exact h.1
  | 1 => simp at hj; subst hj; exact h.2.1
  | 2 => simp at hj; subst hj; exact h.2.2
  | j + 3 => simp at hj
end Go.Proofs.Ytadmaalhhigbeaa

/- Cards: a new card: what it returns. -/
namespace Go.Proofs.Ytadmaalhhigbeaa
set_option linter.unusedVariables false
open Go Go.RowKit BitM

theorem zcid (id : Int) : (ccells id 0 0 zeros).toArray = #[Value.int .i64 id, .int .i64 0, .int .u32 0, .int .i64 0, .int .i64 0, .string { data := #[] }, .int .i64 0, .int .i64 0, .string { data := #[] }, .int .i64 0, .int .i64 0, .string { data := #[] }, .int .i64 0, .int .i64 0, .string { data := #[] }, .int .i64 0, .int .i64 0, .string { data := #[] }, .int .i64 0, .int .i64 0, .string { data := #[] }, .int .i64 0, .int .i64 0, .string { data := #[] }, .int .i64 0, .int .i64 0, .string { data := #[] }] := rfl

end Go.Proofs.Ytadmaalhhigbeaa

/- CardMerges: whether the layer is awake. -/
namespace Go.Proofs.Ytadmaalhhigbeaa
set_option linter.unusedVariables false
open Go Go.RowKit BitM

/-- The patch that awake writes. -/
def awf : List V3 := (1, 7, ⟨#[]⟩) :: List.replicate 7 zv
theorem aw_p : #[Value.int .u32 1, .int .u32 0, .int .i64 1, .int .i64 7, .string { data := #[] }, .int .i64 0, .int .i64 0, .string { data := #[] }, .int .i64 0, .int .i64 0, .string { data := #[] }, .int .i64 0, .int .i64 0, .string { data := #[] }, .int .i64 0, .int .i64 0, .string { data := #[] }, .int .i64 0, .int .i64 0, .string { data := #[] }, .int .i64 0, .int .i64 0, .string { data := #[] }, .int .i64 0, .int .i64 0, .string { data := #[] }] = (pcells (((1#32 : BitVec 32).toNat : Nat) : Int) 0 awf).toArray := rfl
theorem aw_mix : mix (fun i => has 1#32 (i : Int)) awf zeros = awf := by decide
theorem aw_mix2 : mix (fun i => has 2#32 (i : Int)) awf zeros = zeros := by decide
theorem aw_zc : (ccells 1 1 0 zeros).toArray = #[Value.int .i64 1, .int .i64 1, .int .u32 0, .int .i64 0, .int .i64 0, .string { data := #[] }, .int .i64 0, .int .i64 0, .string { data := #[] }, .int .i64 0, .int .i64 0, .string { data := #[] }, .int .i64 0, .int .i64 0, .string { data := #[] }, .int .i64 0, .int .i64 0, .string { data := #[] }, .int .i64 0, .int .i64 0, .string { data := #[] }, .int .i64 0, .int .i64 0, .string { data := #[] }, .int .i64 0, .int .i64 0, .string { data := #[] }] := rfl

end Go.Proofs.Ytadmaalhhigbeaa

/- CardMerges: what a merge leaves alone: the masks. -/
namespace Go.Proofs.Ytadmaalhhigbeaa
set_option linter.unusedVariables false
open Go Go.RowKit BitM

theorem has_mkm (b : Bool) (l : List Int) (n : Int) : has (mkm b l) n = ((decide (0 ≤ n ∧ n < 8) && decide (n ∈ l)) || (b && decide (n = 8))) := by
  have h0 : has (ofl l &&& 255#32) n = (decide (0 ≤ n ∧ n < 8) && decide (n ∈ l)) := by
    rw [has_and_255, has_ofl]
    by_cases h1 : 0 ≤ n ∧ n < 8
    · rw [decide_eq_true h1, decide_eq_true (show 0 ≤ n ∧ n < 32 by omega), decide_eq_true h1.2]; simp
    · rw [decide_eq_false h1]
      by_cases h2 : n < 8
      · rw [decide_eq_false (show ¬ (0 ≤ n ∧ n < 32) by omega)]; simp
      · rw [decide_eq_false h2]; simp
  unfold mkm
  cases b
  · simp only [Bool.false_eq_true, if_false, Bool.false_and, Bool.or_false]
    rw [show (ofl l &&& 255#32) ||| 0#32 = ofl l &&& 255#32 by simp, h0]
  · simp only [if_true, Bool.true_and]
    rw [show (ofl l &&& 255#32) ||| 256#32 = put (ofl l &&& 255#32) 8 from rfl, has_put, h0]
    by_cases h : n = 8
    · subst h; simp
    · rw [decide_eq_false (show ¬ ((8 : Int) = n) from fun e => h e.symm), decide_eq_false h]; simp
theorem mix_getD (p : Nat → Bool) (a c : List V3) (i : Nat) (h : i < 8) : (mix p a c).getD i zv = if p i then a.getD i zv else c.getD i zv := by
  have hl : i < (mix p a c).length := by rw [mix_len]; exact h
  rw [List.getD_eq_getElem?_getD, List.getElem?_eq_getElem hl, Option.getD_some, mix_get]
theorem dmask_within (x : BitVec 32) (lab pl : Int) (C P : List V3) :
    decide (∀ i : Nat, i < 32 → has (dmask lab C (if has x 8 then pl else lab) (mix (fun i => has x (i : Int)) P C)) (i : Int) = true → has x (i : Int) = true) = true := by
  refine decide_eq_true fun i hi h => ?_
  unfold dmask at h
  rw [has_mkm] at h
  cases hx : has x (i : Int)
  · exfalso
    by_cases h8 : i = 8
    · subst h8
      rw [show ((8 : Nat) : Int) = 8 from rfl] at h hx
      rw [hx] at h
      simp at h
    · rw [decide_eq_false (show ¬ ((i : Int) = 8) by omega), Bool.and_false, Bool.or_false, Bool.and_eq_true, decide_eq_true_eq, decide_eq_true_eq] at h
      obtain ⟨j, hj, hij, hne⟩ := (mem_unl _ _ _ _).1 h.2
      obtain rfl : i = j := by omega
      rw [mix_getD _ _ _ _ hj, hx] at hne
      exact hne rfl
  · rfl
end Go.Proofs.Ytadmaalhhigbeaa

/- Cards: which cards may be, by the document: what it returns. -/
namespace Go.Proofs.Ytadmaalhhigbeaa
set_option linter.unusedVariables false
open Go Go.RowKit BitM

/-- May the first k values be? -/
def vk (f : List V3) (k : Nat) : Bool := (List.range k).all fun i => vchk (f.getD i zv)
theorem vk_succ (f : List V3) (k : Nat) : vk f (k + 1) = (vk f k && vchk (f.getD k zv)) := by
  unfold vk
  rw [List.range_succ, List.all_append]
  simp
theorem vk_mono (f : List V3) {j k : Nat} (h : j ≤ k) (hf : vk f j = false) : vk f k = false := by
  induction k with
  | zero => obtain rfl : j = 0 := by omega
            exact hf
  | succ k ih =>
    by_cases e : j = k + 1
    · subst e; exact hf
    · rw [vk_succ, ih (by omega)]; rfl
/-- May a card be? -/
def ccheck (id ver lab : Int) (f : List V3) : Bool := decide (1 ≤ id ∧ id < 1073741824 ∧ 1 ≤ ver ∧ ver ≤ 1099511627776 ∧ lab < 65536) && vk f 8

end Go.Proofs.Ytadmaalhhigbeaa

/- Cards: the patch of what a card has; what is in both of two masks, by the document: what each returns. -/
namespace Go.Proofs.Ytadmaalhhigbeaa
set_option linter.unusedVariables false
open Go Go.RowKit BitM

theorem Blk.putLabP {w : World} {g : Nat} {m lab : Int} {f : List V3} (h : Blk w g (pcells m lab f)) (l : Int) : Blk (w.setCell ⟨g, 1, none⟩ (.int .u32 l)) g (pcells m l f) := h.set 1 _
theorem Blk.putFieldsP {w : World} {g : Nat} {m lab : Int} {f h : List V3} (hB : Blk w g (pcells m lab f)) (hf : f.length = 8) (hh : h.length = 8) :
    Blk (w.setCells g 2 (fcells h)) g (pcells m lab h) := by
  have hl : (fcells h).length = 24 := by rw [fcells_len, hh]
  have h2 := hB.sets (fcells h) 2 (by rw [pcells_len m lab hf, hl]; omega)
  rw [hl, List.drop_eq_nil_of_le (by rw [pcells_len m lab hf]; omega), List.append_nil] at h2
  exact h2
theorem zp26 : (pcells 0 0 zeros).toArray = #[Value.int .u32 0, .int .u32 0, .int .i64 0, .int .i64 0, .string { data := #[] }, .int .i64 0, .int .i64 0, .string { data := #[] }, .int .i64 0, .int .i64 0, .string { data := #[] }, .int .i64 0, .int .i64 0, .string { data := #[] }, .int .i64 0, .int .i64 0, .string { data := #[] }, .int .i64 0, .int .i64 0, .string { data := #[] }, .int .i64 0, .int .i64 0, .string { data := #[] }, .int .i64 0, .int .i64 0, .string { data := #[] }] := rfl
theorem zpm (m : Int) : (pcells m 0 zeros).toArray = #[Value.int .u32 m, .int .u32 0, .int .i64 0, .int .i64 0, .string { data := #[] }, .int .i64 0, .int .i64 0, .string { data := #[] }, .int .i64 0, .int .i64 0, .string { data := #[] }, .int .i64 0, .int .i64 0, .string { data := #[] }, .int .i64 0, .int .i64 0, .string { data := #[] }, .int .i64 0, .int .i64 0, .string { data := #[] }, .int .i64 0, .int .i64 0, .string { data := #[] }, .int .i64 0, .int .i64 0, .string { data := #[] }] := rfl

end Go.Proofs.Ytadmaalhhigbeaa

/- Cards: what a mask shows of a card, what a patch writes to it, by the document: what each returns. -/
namespace Go.Proofs.Ytadmaalhhigbeaa
set_option linter.unusedVariables false
open Go Go.RowKit BitM

/-- The fields ahead of k that a mask has. -/
def pk (x : BitVec 32) (k : Nat) : Nat → Bool := fun i => decide (i < k) && has x (i : Int)
theorem pk_no (x : BitVec 32) (k i : Nat) (h : has x (k : Int) = false) : pk x (k + 1) i = pk x k i := by
  unfold pk
  by_cases e : i = k
  · subst e; simp [h]
  · rw [show decide (i < k + 1) = decide (i < k) from by by_cases h2 : i < k <;> simp [h2] <;> omega]
theorem pk_yes (x : BitVec 32) (k i : Nat) (h : has x (k : Int) = true) : pk x (k + 1) i = (pk x k i || i == k) := by
  unfold pk
  by_cases e : i = k
  · subst e; simp [h]
  · rw [show decide (i < k + 1) = decide (i < k) from by by_cases h2 : i < k <;> simp [h2] <;> omega, show (i == k) = false from by simpa using e, Bool.or_false]
theorem pk_all (x : BitVec 32) (a c : List V3) : mix (pk x 8) a c = mix (fun i => has x (i : Int)) a c := mix_congr _ _ (fun i hi => by unfold pk; rw [decide_eq_true hi]; rfl)
theorem pk_none (x : BitVec 32) (a c : List V3) (hc : c.length = 8) : mix (pk x 0) a c = c := by
  exact (mix_congr (p := pk x 0) (q := fun _ => false) a c (fun i _ => by unfold pk; simp)).trans (mix_none a c hc)

end Go.Proofs.Ytadmaalhhigbeaa

/- Cards: what a patch writes to a card, by the document: what it returns. -/
namespace Go.Proofs.Ytadmaalhhigbeaa
set_option linter.unusedVariables false
open Go Go.RowKit BitM

end Go.Proofs.Ytadmaalhhigbeaa

/- Cards: the patch of what a card has, a new card, by the document: what each returns. -/
namespace Go.Proofs.Ytadmaalhhigbeaa
set_option linter.unusedVariables false
open Go Go.RowKit BitM

end Go.Proofs.Ytadmaalhhigbeaa

/- Cards: the patch of what a card has, by the document: what it returns. -/
namespace Go.Proofs.Ytadmaalhhigbeaa
set_option linter.unusedVariables false
open Go Go.RowKit BitM

theorem eight {f : List V3} (h : f.length = 8) : ∃ v0 v1 v2 v3 v4 v5 v6 v7 : V3, f = [v0, v1, v2, v3, v4, v5, v6, v7] := by
  match f, h with
  | [v0, v1, v2, v3, v4, v5, v6, v7], _ => exact ⟨v0, v1, v2, v3, v4, v5, v6, v7, rfl⟩

end Go.Proofs.Ytadmaalhhigbeaa

/- Cards: which values may be: what it returns. -/
namespace Go.Proofs.Ytadmaalhhigbeaa
set_option linter.unusedVariables false
open Go Go.RowKit BitM

theorem zv3 : (vcells zv).toArray = #[Value.int .i64 0, .int .i64 0, .string { data := #[] }] := rfl

end Go.Proofs.Ytadmaalhhigbeaa

/- Cards: which cards may be: what it returns. -/
namespace Go.Proofs.Ytadmaalhhigbeaa
set_option linter.unusedVariables false
open Go Go.RowKit BitM

end Go.Proofs.Ytadmaalhhigbeaa

/- Cards: what is wrong with a patch: what it returns. -/
namespace Go.Proofs.Ytadmaalhhigbeaa
set_option linter.unusedVariables false
open Go Go.RowKit BitM

theorem vchk_none {v : V3} (h : vchk v = true) (h0 : v.1 = 0) : v = zv := by
  obtain ⟨k, n, s⟩ := v
  simp only at h0
  subst h0
  rw [vchk_0, decide_eq_true_eq] at h
  obtain ⟨rfl, hs⟩ := h
  rw [nil_str_iff] at hs
  subst hs
  rfl
theorem vk_iff (f : List V3) (k : Nat) : vk f k = true ↔ ∀ i, i < k → vchk (f.getD i zv) = true := by
  unfold vk
  simp only [List.all_eq_true, List.mem_range]
theorem fok_iff (x : BitVec 32) (f : List V3) (k : Nat) : fok x f k = true ↔ ∀ i, i < k → vchk (f.getD i zv) = true ∧ ((f.getD i zv).1 = 0 ∨ has x (i : Int) = true) := by
  unfold fok
  simp only [List.all_eq_true, List.mem_range, Bool.and_eq_true, Bool.or_eq_true, decide_eq_true_eq]
theorem zeros_getD (i : Nat) : zeros.getD i zv = zv := by
  unfold zeros
  rw [List.getD_eq_getElem?_getD, List.getElem?_replicate]
  split <;> rfl
theorem mix_same (x : BitVec 32) (f : List V3) (hf : f.length = 8) : mix (fun i => has x (i : Int)) f zeros = f ↔ ∀ i : Nat, i < 8 → has x (i : Int) = true ∨ f.getD i zv = zv := by
  constructor
  · intro h i hi
    have h1 := mix_getD (fun i => has x (i : Int)) f zeros i hi
    rw [h] at h1
    cases hx : has x (i : Int)
    · right
      rw [h1, hx]
      exact zeros_getD i
    · exact .inl rfl
  · intro h
    apply List.ext_getElem
    · rw [mix_len, hf]
    · intro i h1 h2
      have hi : i < 8 := by rw [hf] at h2; exact h2
      have e : f.getD i zv = f[i] := by simp [List.getD, h2]
      rw [mix_get]
      rcases h i hi with hx | hz
      · rw [hx, ← e]; rfl
      · cases hx : has x (i : Int)
        · rw [← e, hz]; exact zeros_getD i
        · rw [← e]; rfl
theorem fok_eq (x : BitVec 32) (f : List V3) (hf : f.length = 8) : fok x f 8 = (decide (mix (fun i => has x (i : Int)) f zeros = f) && vk (mix (fun i => has x (i : Int)) f zeros) 8) := by
  rw [Bool.eq_iff_iff, Bool.and_eq_true, decide_eq_true_eq]
  constructor
  · intro h
    rw [fok_iff] at h
    have hm : mix (fun i => has x (i : Int)) f zeros = f := (mix_same x f hf).2 (fun i hi => by
      rcases (h i hi).2 with h0 | hx
      · exact .inr (vchk_none (h i hi).1 h0)
      · exact .inl hx)
    refine ⟨hm, ?_⟩
    rw [hm, vk_iff]
    exact fun i hi => (h i hi).1
  · rintro ⟨hm, hv⟩
    rw [hm, vk_iff] at hv
    rw [fok_iff]
    intro i hi
    refine ⟨hv i hi, ?_⟩
    rcases (mix_same x f hf).1 hm i hi with hx | hz
    · exact .inr hx
    · exact .inl (by rw [hz]; rfl)
end Go.Proofs.Ytadmaalhhigbeaa

/- Cards and patches as bytes: the mathematics. -/
namespace Go.Proofs.Ytadmaalhhigbeaa
set_option linter.unusedVariables false
open Go Go.RowKit BitM OctM

/-- The fields below k that have a value. -/
def kl (f : List V3) (k : Nat) : List Int := ((List.range k).filter fun i => decide ((f.getD i zv).1 ≠ 0)).map fun i : Nat => (i : Int)
theorem kl_succ (f : List V3) (k : Nat) : kl f (k + 1) = kl f k ++ if (f.getD k zv).1 ≠ 0 then [(k : Int)] else [] := by
  unfold kl
  rw [List.range_succ, List.filter_append, List.map_append]
  by_cases h : (f.getD k zv).1 = 0
  · rw [List.filter_cons_of_neg (by rw [decide_eq_false (fun hn => hn h)]; exact Bool.false_ne_true), if_neg (fun hn => hn h)]; rfl
  · rw [List.filter_cons_of_pos (by rw [decide_eq_true h]), if_pos h]; rfl
theorem mem_kl (f : List V3) (k : Nat) (n : Int) : n ∈ kl f k ↔ ∃ i : Nat, i < k ∧ n = (i : Int) ∧ (f.getD i zv).1 ≠ 0 := by
  unfold kl
  simp only [List.mem_map, List.mem_filter, List.mem_range, decide_eq_true_eq]
  constructor
  · rintro ⟨i, ⟨h1, h2⟩, rfl⟩; exact ⟨i, h1, rfl, h2⟩
  · rintro ⟨i, h1, rfl, h2⟩; exact ⟨i, ⟨h1, h2⟩, rfl⟩
theorem zero_val {v : V3} (h : vchk v = true) : (zv ≠ v) ↔ v.1 ≠ 0 := by
  obtain ⟨k, n, s⟩ := v
  constructor
  · intro hne h0
    apply hne
    simp only at h0
    subst h0
    rw [vchk_0] at h
    obtain ⟨h1, h2⟩ := of_decide_eq_true h
    subst h1
    have : s = ⟨#[]⟩ := by
      apply ByteArray.ext
      apply Array.ext'
      rw [ByteArray.toList_eq] at h2
      exact h2
    rw [this]; rfl
  · intro hne e
    apply hne
    rw [← e]; rfl
theorem unl_kl (f : List V3) (hv : vk f 8 = true) : unl zeros f 8 = kl f 8 := by
  unfold unl kl
  congr 1
  refine List.filter_congr fun i hi => ?_
  have h8 : i < 8 := by simpa using hi
  have hz : zeros.getD i zv = zv := by
    unfold zeros
    rw [List.getD_eq_getElem?_getD, List.getElem?_replicate]
    split <;> rfl
  have hvi : vchk (f.getD i zv) = true := by
    unfold vk at hv
    exact List.all_eq_true.1 hv i hi
  rw [hz]
  exact decide_eq_decide.2 (zero_val hvi)
theorem klm (f : List V3) : mkm false (kl f 8) = ofl (kl f 8) := by
  apply BitM.ext
  intro n
  rw [has_mkm, has_ofl]
  simp only [Bool.false_and, Bool.or_false]
  by_cases hm : n ∈ kl f 8
  · obtain ⟨i, h1, rfl, _⟩ := (mem_kl f 8 n).1 hm
    rw [decide_eq_true (show 0 ≤ (i : Int) ∧ (i : Int) < 8 by omega), decide_eq_true (show 0 ≤ (i : Int) ∧ (i : Int) < 32 by omega)]
  · rw [decide_eq_false hm]; simp
theorem dmask_kl (lab : Int) (f : List V3) (hv : vk f 8 = true) : dmask lab zeros lab f = ofl (kl f 8) := by
  unfold dmask
  rw [unl_kl f hv, decide_eq_false (by simp), klm]
theorem lst_end {x : BitVec 32} {j : Nat} (h : ∀ i : Nat, j ≤ i → has x (i : Int) = false) : ∀ k, j ≤ k → lst x k = lst x j
  | 0, hk => by rw [show j = 0 by omega]
  | k + 1, hk => by
    by_cases e : j = k + 1
    · rw [e]
    · rw [lst_succ, h k (by omega), lst_end h k (by omega)]; simp
theorem flds_kl (f : List V3) : flds (ofl (kl f 8)) = kl f 8 := by
  have hh : ∀ n : Int, has (ofl (kl f 8) &&& 255#32) n = (decide (0 ≤ n ∧ n < 8) && decide (n ∈ kl f 8)) := by
    intro n
    rw [has_and_255, has_ofl]
    by_cases h1 : 0 ≤ n ∧ n < 8
    · rw [decide_eq_true h1, decide_eq_true (show 0 ≤ n ∧ n < 32 by omega), decide_eq_true h1.2]; simp
    · rw [decide_eq_false h1]
      by_cases hm : n ∈ kl f 8
      · obtain ⟨i, h2, rfl, _⟩ := (mem_kl f 8 n).1 hm
        exact absurd ⟨by omega, by omega⟩ h1
      · rw [decide_eq_false hm]; simp
  unfold flds
  rw [lst_end (j := 8) (fun i hi => by rw [hh, decide_eq_false (by omega), Bool.false_and]) 32 (by omega)]
  unfold lst
  conv => rhs; unfold kl
  congr 1
  refine List.filter_congr fun i hi => ?_
  have h8 : i < 8 := by simpa using hi
  rw [hh, decide_eq_true (show 0 ≤ (i : Int) ∧ (i : Int) < 8 by omega), Bool.true_and]
  refine decide_eq_decide.2 ?_
  rw [mem_kl]
  constructor
  · rintro ⟨j, _, h2, h3⟩
    obtain rfl : i = j := by omega
    exact h3
  · intro h; exact ⟨i, h8, rfl, h⟩
/-- A card's bytes. -/
def cbs (id ver lab : Int) (f : List V3) : List UInt8 := if ccheck id ver lab f = false then [] else (((enc (held id) ++ enc (held ver)) ++ enc (held lab)) ++ enc (held ((ofl (kl f 8)).toNat : Int))) ++ fbs (kl f 8) f
/-- A patch's bytes. -/
def pbs (x : BitVec 32) (lab : Int) (f : List V3) : List UInt8 := if pchk x lab f ≠ 0 then [] else (enc (held (x.toNat : Int)) ++ (if has x 8 = true then enc (held lab) else [])) ++ fbs (flds x) f
theorem fbs_len (L : List Int) (f : List V3) : (fbs L f).length ≤ 40 * L.length := by
  induction L with
  | nil => simp [fbs]
  | cons i L ih =>
    have := vbs_len (f.getD i.toNat zv)
    simp only [fbs, List.flatMap_cons, List.length_append, List.length_cons] at *
    omega
theorem kl_len (f : List V3) (k : Nat) : (kl f k).length ≤ k := by
  unfold kl
  rw [List.length_map]
  have := List.length_filter_le (fun i => decide ((f.getD i zv).1 ≠ 0)) (List.range k)
  simpa using this
theorem cbs_len (id ver lab : Int) (f : List V3) : (cbs id ver lab f).length ≤ 400 := by
  unfold cbs
  split
  · simp
  · simp only [List.length_append]
    have h1 := held_len id
    have h2 := held_len ver
    have h3 := held_len lab
    have h4 := held_len ((ofl (kl f 8)).toNat : Int)
    have h5 := fbs_len (kl f 8) f
    have h6 := kl_len f 8
    omega
theorem zclab (lab : Int) : (ccells 0 0 lab zeros).toArray = #[Value.int .i64 0, .int .i64 0, .int .u32 lab, .int .i64 0, .int .i64 0, .string { data := #[] }, .int .i64 0, .int .i64 0, .string { data := #[] }, .int .i64 0, .int .i64 0, .string { data := #[] }, .int .i64 0, .int .i64 0, .string { data := #[] }, .int .i64 0, .int .i64 0, .string { data := #[] }, .int .i64 0, .int .i64 0, .string { data := #[] }, .int .i64 0, .int .i64 0, .string { data := #[] }, .int .i64 0, .int .i64 0, .string { data := #[] }] := rfl

theorem flat2 {w : World} {A B : Option Addr} {n c m d : Nat} {l r : List UInt8} (T : TypeId) (hn : l.length = n) (hm : r.length = m) (hs : Sees w w.heap.size A (bvs l)) (ht : Sees w w.heap.size B (bvs r)) :
    FlatAt (w.alloc (.cells #[.slice A n c, .slice B m d] T)) w.heap.size [l, r] := fun k hk => by
  have hB := Blk.new w [.slice A n c, .slice B m d] T
  match k, hk with
  | 0, _ => exact ⟨A, c, by subst hn; exact hB.cell (j := 0) rfl, (hs.alloc (Nat.le_refl _) _).more (by simp)⟩
  | 1, _ => exact ⟨B, d, by subst hm; exact hB.cell (j := 1) rfl, (ht.alloc (Nat.le_refl _) _).more (by simp)⟩
/-- A slot that holds a slice of these bytes. -/
def relSee (n : Nat) (l : List UInt8) : Rel where
  rel v w := ∃ A c, v = .slice A n c ∧ Sees w w.heap.size A (bvs l)
  mono := fun v w w' h ⟨A, c, e, hs⟩ => ⟨A, c, e, (hs.below h).more h.size⟩
  real := fun w ⟨A, c, e, _⟩ => by cases e
theorem gives_see {w : World} {xs : List UInt8} {n : Nat} (hn : xs.length = n) {e : Ending} {w' : World} (h : GivesBytes w xs e w') : ∃ v, e = .returned v ∧ Below w.heap.size w w' ∧ (relSee n xs).rel v w' := by
  obtain ⟨A, c, rfl, ho, hb⟩ := h
  subst hn
  exact ⟨_, rfl, hb, A, c, rfl, ho.sees⟩

end Go.Proofs.Ytadmaalhhigbeaa

/- Cards as bytes, by the document: what its PutCard returns. -/
namespace Go.Proofs.Ytadmaalhhigbeaa
set_option linter.unusedVariables false
open Go Go.RowKit BitM OctM

theorem fbs_kl_succ (f : List V3) (k : Nat) (h : (f.getD k zv).1 ≠ 0) : fbs (kl f (k + 1)) f = fbs (kl f k) f ++ vbs (f.getD k zv) := by
  rw [kl_succ, if_pos h, fbs_snoc]; simp
theorem kl_skip (f : List V3) (k : Nat) (h : (f.getD k zv).1 = 0) : kl f (k + 1) = kl f k := by
  rw [kl_succ, if_neg (fun hn => hn h)]; simp
theorem ofl_kl_succ (f : List V3) (k : Nat) (h : (f.getD k zv).1 ≠ 0) : ofl (kl f (k + 1)) = put (ofl (kl f k)) (k : Int) := by
  rw [kl_succ, if_pos h, ofl_snoc]

end Go.Proofs.Ytadmaalhhigbeaa

/- Patches as bytes: what PutPatch returns, the program's and the document's. -/
namespace Go.Proofs.Ytadmaalhhigbeaa
set_option linter.unusedVariables false
open Go Go.RowKit BitM OctM

theorem flds_lst (x : BitVec 32) : flds x = lst x 8 := by
  have hh : ∀ n : Nat, has (x &&& 255#32) (n : Int) = (has x n && decide (n < 8)) := fun n => by
    rw [has_and_255 x n]
    first | rfl | (congr 1; simp; done) | (congr 1; simp; omega)
  unfold flds
  rw [lst_end (j := 8) (fun i hi => by rw [hh, decide_eq_false (by omega), Bool.and_false]) 32 (by omega)]
  unfold lst
  congr 1
  refine List.filter_congr fun i hi => ?_
  have h8 : i < 8 := by simpa using hi
  rw [hh, decide_eq_true h8, Bool.and_true]

end Go.Proofs.Ytadmaalhhigbeaa
