/- Patches as bytes: what PutPatch returns, the program's and the document's. -/
import Derived.Test.YticdpfjajkfheaaN12
import Derived.Test.YticdpfjajkfheaaN9
import Derived.Test.YticdpfjajkfheaaN3
import Derived.Test.YticdpfjajkfheaaN10
import Derived.Test.YticdpfjajkfheaaN11
namespace Go.Proofs.Yticdpfjajkfheaa
set_option linter.unusedVariables false
open Go Go.RowKit BitM OctM

theorem flds_lst (x : BitVec 32) : flds x = lst x 8 := by
  have hh : ∀ n : Nat, has (x &&& 255#32) (n : Int) = (has x n && decide (n < 8)) := fun n => by
    rw [has_and_255 x n]
    first | rfl | (congr 1; simp; done) | (congr 1; simp; omega)
  unfold flds
  rw [lst_end (j := 8) (fun i hi => by rw [hh, decide_eq_false (by omega), Bool.and_false]) 32 (by omega)]
  unfold lst
  congr 1
  refine List.filter_congr fun i hi => ?_
  have h8 : i < 8 := by simpa using hi
  rw [hh, decide_eq_true h8, Bool.and_true]

set_option maxRecDepth 100000 in
set_option maxHeartbeats 3200000 in
theorem putpatch_any (x : BitVec 32) (lab : Int) (f : List V3) (A : Option Addr) (n c : Nat) (l : List UInt8) (w : World) (hf : f.length = 8) (hlb : 0 ≤ lab) (hn : l.length = n) (hs : Sees w w.heap.size A (bvs l)) (hm : n ≤ 10000) :
    Calls Try.prog 13 #[.slice A n c, .agg (pcells (x.toNat : Int) lab f).toArray] w (GivesBytes w (l ++ pbs x lab f)) := by
  have HCK := Lib.hid (fun wx : World => pcheck_any x lab f wx hf)
  have HCL := Lib.hid (fun (wx : World) (hb : Below w.heap.size w wx) => clone_any A n c l wx hn ((hs.below hb).more hb.size) (by omega))
  have HPLen : Hid ((pcells (x.toNat : Int) lab f).length = 26) := Lib.hid (pcells_len _ _ hf)
  have B0 := Blk.new w (pcells (x.toNat : Int) lab f) 29
  obtain ⟨pc, hpc⟩ : ∃ pc, pc = pcells (x.toNat : Int) lab f := ⟨_, rfl⟩
  rw [← hpc] at HCK B0 HPLen ⊢
  have hb0 := (Below.refl w.heap.size w).alloc (Nat.le_refl _) (.cells pc.toArray 29)
  have RG := B0.wholeC
  have hu := Try.underlying29
  have HFL : Hid ((fcells f).length = 24) := Lib.hid (by rw [fcells_len, hf])
  have hu8 := Try.underlying25
  obtain ⟨er, her⟩ : ∃ b, b = pchk x lab f := ⟨_, rfl⟩
  rw [← her] at HCK
  by_cases h0 : er = 0
  · have hok : pchk x lab f = 0 := her.symm.trans h0
    have hlab : lab < 65536 := by
      unfold pchk at hok
      split at hok
      · cases hok
      · split at hok
        · cases hok
        · omega
    have HB : Hid (l ++ pbs x lab f = l ++ ((enc (held (x.toNat : Int)) ++ (if has x 8 = true then enc (held lab) else [])) ++ fbs (flds x) f)) := Lib.hid (by unfold pbs; rw [if_neg (by rw [hok]; simp)])
    obtain ⟨R, hR⟩ : ∃ R, R = l ++ pbs x lab f := ⟨_, rfl⟩
    rw [← hR] at HB ⊢
    have HX := Lib.hid (fun (A' : Option Addr) (n' c' : Nat) (l' : List UInt8) (wx : World) (hn' : l'.length = n') (hs' : Sees wx wx.heap.size A' (bvs l')) (hm' : n' ≤ 10000) => putvals_any x f A' n' c' l' wx hf hn' hs' hm')
    have HLB := Lib.hid (fun wx : World => labels_any x wx)
    have hx4 := x.isLt
    have hfl := flds_len x
    have hf5 := fbs_len (flds x) f
    obtain ⟨X, hX⟩ : ∃ X, X = x.toNat := ⟨_, rfl⟩
    rw [← hX] at HX HB hx4 HLB hpc
    have HPC := Lib.hid hpc
    obtain ⟨b8, hb8⟩ : ∃ b, b = has x 8 := ⟨_, rfl⟩
    rw [← hb8] at HLB HB
    have be : (er != 0) = false := by simp [h0]
    obtain ⟨r1, hr1⟩ : ∃ r, r = enc (held (X : Int)) := ⟨_, rfl⟩
    obtain ⟨r2, hr2⟩ : ∃ r, r = r1 ++ (if b8 = true then enc (held lab) else []) := ⟨_, rfl⟩
    obtain ⟨r5, hr5⟩ : ∃ r, r = r2 ++ fbs (flds x) f := ⟨_, rfl⟩
    have e1 : r1.length ≤ 6 := by rw [hr1]; exact held_len _
    have e2 : r2.length ≤ 12 := by
      rw [hr2, List.length_append]
      have := held_len lab
      split <;> simp <;> omega
    have e5 : r5.length ≤ 2000 := by rw [hr5, List.length_append]; omega
    rw [← hr1, ← hr2, ← hr5] at HB
    have HN1 : Hid (∀ wx : World, Calls Try.prog 29 #[.slice none 0 0, .int .i64 (X : Int)] wx (GivesBytes wx r1)) := Lib.hid (fun wx => by
      have h := oct_num none 0 0 [] (X : Int) wx rfl Sees.nil_ (by omega)
      rw [List.nil_append, ← hr1] at h
      exact h)
    obtain ⟨n1, hn1⟩ : ∃ n, n = r1.length := ⟨_, rfl⟩
    obtain ⟨n2, hn2⟩ : ∃ n, n = r2.length := ⟨_, rfl⟩
    have HN2 : Hid (b8 = true → ∀ (A' : Option Addr) (c' : Nat) (wx : World), Sees wx wx.heap.size A' (bvs r1) → Calls Try.prog 29 #[.slice A' n1 c', .int .i64 lab] wx (GivesBytes wx r2)) := Lib.hid (fun hb A' c' wx hs' => by
      have h := oct_num A' n1 c' r1 lab wx hn1.symm hs' (by omega)
      rw [hb, if_pos rfl] at hr2
      rw [← hr2] at h; exact h)
    have HSK : Hid (b8 = false → r1 = r2) := Lib.hid (fun hb => by rw [hr2, hb]; simp)
    have HN5 : Hid (∀ (A' : Option Addr) (c' : Nat) (wx : World), Sees wx wx.heap.size A' (bvs r2) → Calls Try.prog 36 #[.slice A' n2 c', .int .u32 (X : Int), .agg (fcells f).toArray] wx (SeesBytes wx r5)) := Lib.hid (fun A' c' wx hs' => by
      have h := HX.out A' n2 c' r2 wx hn2.symm hs' (by omega)
      rw [← hr5] at h; exact h)
    have M1 := Lib.hid hn1
    have M2 := Lib.hid hn2
    have HS := Lib.hid hs
    have HNL := Lib.hid hn
    clear hr1 hr2 hr5 hn1 hn2 HX hs hn e1 e2 hR hX hpc hb8 hok her h0 hf hf5 hfl HCL
    obtain ⟨d0, d1⟩ := Blk.patch (m := (X : Int)) (lab := lab) (f := f) (by have := B0; rw [HPC.out] at this; exact this)
    clear d0 d1
    cases b8
    all_goals
      go_enter Try.func13, Try.ntmps13
      go_wp2_with (first
        | (refine wpList_load_mid rfl 29 (.tmp 3) rfl w.heap.size 0 rfl pc _ RG hu rfl (by rw [HPLen.out]; exact info_patch) ?_)
        | fail)
      refine (HCK.out _).mono ?_
      rintro e w1 ⟨rfl, hb1⟩
      have hbw := hb0.trans (hb1.mono hb0.size)
      replace B0 := B0.later hb1
      obtain ⟨p0, p1⟩ := Blk.patch (m := (X : Int)) (lab := lab) (f := f) (w := w1) (g := w.heap.size) (by rw [← HPC.out]; exact B0)
      clear RG hb1 hb0 HCK
      go_wp2_with fail
      refine (HN1.out _).mono ?_
      rintro e w2 ⟨A2, c2, rfl, o2, b2⟩
      have hs2 := o2.sees
      replace B0 := B0.later b2
      replace hbw := hbw.trans (b2.mono hbw.size)
      clear p0 p1
      obtain ⟨p0, p1⟩ := Blk.patch (m := (X : Int)) (lab := lab) (f := f) (w := w2) (g := w.heap.size) (by rw [← HPC.out]; exact B0)
      rw [← M1.out]
      clear o2 b2
      go_wp2_with fail
      refine (HLB.out _).mono ?_
      rintro e w3 ⟨rfl, rfl⟩
    · have HS12 := HSK.out trivial
      have hn12 : n1 = n2 := by rw [M1.out, M2.out, HS12]
      rw [HS12] at hs2
      clear HSK HN2 HS12 M1 HN1 p1
      subst hn12
      have RF : w2.rangeAt w.heap.size 2 (fcells f) := Blk.fieldsP (by rw [← HPC.out]; exact B0)
      go_wp2_with (first
        | (refine wpList_load_mid rfl 25 (.tmp 27) rfl w.heap.size 2 rfl (fcells f) _ RF hu8 rfl (by rw [HFL.out]; exact info_fields) ?_)
        | fail)
      refine (HN5.out _ _ _ hs2).mono ?_
      rintro e w6 ⟨A5, c5, rfl, s5, b5⟩
      replace hbw := hbw.trans (b5.mono hbw.size)
      have hsA : Sees w6 w6.heap.size A (bvs l) := (HS.out.below hbw).more hbw.size
      obtain ⟨n5, hn5⟩ : ∃ n, n = r5.length := ⟨_, rfl⟩
      rw [← hn5]
      have HCC := Lib.hid (concat_any w6.heap.size 2 2 [l, r5] (w6.alloc (.cells #[.slice A n c, .slice A5 n5 c5] 30)) rfl (by simp) (flat2 30 HNL.out hn5.symm hsA s5) (by omega) (by have := HNL.out; simp; omega))
      have HFL2 : Hid ([l, r5].flatten = R) := Lib.hid (by rw [HB.out]; simp)
      rw [HFL2.out] at HCC
      have hbw2 := hbw.alloc hbw.size (.cells #[.slice A n c, .slice A5 n5 c5] 30)
      clear hn5 s5 b5 B0 RF hsA hbw
      go_wp2_with fail
      refine HCC.out.mono ?_
      rintro e w7 ⟨A7, c7, rfl, o7, b7⟩
      go_wp2_with fail
      go_ret
      exact ⟨A7, c7, rfl, o7.lower hbw2.size, hbw2.trans (b7.mono hbw2.size)⟩
    · clear HSK
      go_wp2_with fail
      refine (HN2.out trivial _ _ _ hs2).mono ?_
      rintro e w4 ⟨A4, c4, rfl, o4, b4⟩
      have hs4 := o4.sees
      replace B0 := B0.later b4
      replace hbw := hbw.trans (b4.mono hbw.size)
      rw [← M2.out]
      clear p0 p1
      obtain ⟨p0, p1⟩ := Blk.patch (m := (X : Int)) (lab := lab) (f := f) (w := w4) (g := w.heap.size) (by rw [← HPC.out]; exact B0)
      have RF : w4.rangeAt w.heap.size 2 (fcells f) := Blk.fieldsP (by rw [← HPC.out]; exact B0)
      clear o4 b4 hs2 HN2 HN1
      go_wp2_with (first
        | (refine wpList_load_mid rfl 25 (.tmp 27) rfl w.heap.size 2 rfl (fcells f) _ RF hu8 rfl (by rw [HFL.out]; exact info_fields) ?_)
        | fail)
      refine (HN5.out _ _ _ hs4).mono ?_
      rintro e w6 ⟨A5, c5, rfl, s5, b5⟩
      replace hbw := hbw.trans (b5.mono hbw.size)
      have hsA : Sees w6 w6.heap.size A (bvs l) := (HS.out.below hbw).more hbw.size
      obtain ⟨n5, hn5⟩ : ∃ n, n = r5.length := ⟨_, rfl⟩
      rw [← hn5]
      have HCC := Lib.hid (concat_any w6.heap.size 2 2 [l, r5] (w6.alloc (.cells #[.slice A n c, .slice A5 n5 c5] 30)) rfl (by simp) (flat2 30 HNL.out hn5.symm hsA s5) (by omega) (by have := HNL.out; simp; omega))
      have HFL2 : Hid ([l, r5].flatten = R) := Lib.hid (by rw [HB.out]; simp)
      rw [HFL2.out] at HCC
      have hbw2 := hbw.alloc hbw.size (.cells #[.slice A n c, .slice A5 n5 c5] 30)
      clear hn5 s5 b5 B0 RF hsA hbw
      go_wp2_with fail
      refine HCC.out.mono ?_
      rintro e w7 ⟨A7, c7, rfl, o7, b7⟩
      go_wp2_with fail
      go_ret
      exact ⟨A7, c7, rfl, o7.lower hbw2.size, hbw2.trans (b7.mono hbw2.size)⟩
  · have HB : Hid (l ++ pbs x lab f = l) := Lib.hid (by unfold pbs; rw [if_pos (by rw [← her]; exact h0)]; simp)
    rw [HB.out]
    have be : (er != 0) = true := by simp [h0]
    clear HB her h0 hpc hs hn
    go_enter Try.func13, Try.ntmps13
    go_wp2_with (first
      | (refine wpList_load_mid rfl 29 (.tmp 3) rfl w.heap.size 0 rfl pc _ RG hu rfl (by rw [HPLen.out]; exact info_patch) ?_)
      | fail)
    refine (HCK.out _).mono ?_
    rintro e w1 ⟨rfl, hb1⟩
    have hbw := hb0.trans (hb1.mono hb0.size)
    clear RG hb1 hb0
    go_wp2_with fail
    refine (HCL.out _ hbw).mono ?_
    rintro e w2 ⟨A2, c2, rfl, ho, hb2⟩
    go_wp2_with fail
    go_ret
    exact ⟨A2, c2, rfl, ho.lower hbw.size, hbw.trans (hb2.mono hbw.size)⟩
end Go.Proofs.Yticdpfjajkfheaa

/- Patches as bytes, by the document: what its PutPatch returns. -/
namespace Go.Proofs.Yticdpfjajkfheaa
set_option linter.unusedVariables false
open Go Go.RowKit BitM OctM

theorem fbs_lst_put (x : BitVec 32) (f : List V3) (k : Nat) (h : has x (k : Int) = true) : fbs (lst x (k + 1)) f = fbs (lst x k) f ++ vbs (f.getD k zv) := by
  rw [lst_succ, if_pos h, fbs_snoc]; simp
theorem lst_skip (x : BitVec 32) (k : Nat) (h : has x (k : Int) = false) : lst x (k + 1) = lst x k := by
  rw [lst_succ, if_neg (by rw [h]; simp)]; simp

set_option maxRecDepth 100000 in
set_option maxHeartbeats 3200000 in
theorem rputpatch_any (x : BitVec 32) (lab : Int) (f : List V3) (w : World) (hf : f.length = 8) (hlb : 0 ≤ lab) :
    Calls Try.prog 14 #[.agg (pcells (x.toNat : Int) lab f).toArray] w fun e w' => e = .returned (.string (str (pbs x lab f))) ∧ Below w.heap.size w w' := by
  have HCK := Lib.hid (fun wx : World => rpcheck_any x lab f wx hf)
  have HPLen : Hid ((pcells (x.toNat : Int) lab f).length = 26) := Lib.hid (pcells_len _ _ hf)
  have B0 := Blk.new w (pcells (x.toNat : Int) lab f) 29
  obtain ⟨pc, hpc⟩ : ∃ pc, pc = pcells (x.toNat : Int) lab f := ⟨_, rfl⟩
  rw [← hpc] at HCK B0 HPLen ⊢
  have hb0 := (Below.refl w.heap.size w).alloc (Nat.le_refl _) (.cells pc.toArray 29)
  have RG := B0.wholeC
  have hu := Try.underlying29
  have HF := Lib.hid hf
  obtain ⟨er, her⟩ : ∃ b, b = pchk x lab f := ⟨_, rfl⟩
  rw [← her] at HCK
  by_cases h0 : er = 0
  · have hok : pchk x lab f = 0 := her.symm.trans h0
    have hlab : lab < 65536 := by
      unfold pchk at hok
      split at hok
      · cases hok
      · split at hok
        · cases hok
        · omega
    have HB : Hid (pbs x lab f = (enc (held (x.toNat : Int)) ++ (if has x 8 = true then enc (held lab) else [])) ++ fbs (lst x 8) f) := Lib.hid (by unfold pbs; rw [if_neg (by rw [hok]; simp), flds_lst])
    obtain ⟨R, hR⟩ : ∃ R, R = str (pbs x lab f) := ⟨_, rfl⟩
    have HR := Lib.hid hR
    rw [← hR]
    have HPC := Lib.hid hpc
    have be : (er != 0) = false := by simp [h0]
    have HLB := Lib.hid (fun wx : World => rlabels_any x wx)
    have HHS := Lib.hid (fun (k : Nat) (wx : World) => rhas_any x (k : Int) wx)
    have HN1 := Lib.hid (fun wx : World => ref_num (x.toNat : Int) wx)
    have HN2 := Lib.hid (fun wx : World => ref_num lab wx)
    obtain ⟨s1, hs1⟩ : ∃ s, s = str (enc (held (x.toNat : Int))) := ⟨_, rfl⟩
    obtain ⟨s2, hs2⟩ : ∃ s, s = str (enc (held lab)) := ⟨_, rfl⟩
    rw [← hs1] at HN1
    rw [← hs2] at HN2
    have z1 : s1.size ≤ 6 := by rw [hs1, str_size]; exact held_len _
    have z2 : s2.size ≤ 6 := by rw [hs2, str_size]; exact held_len _
    obtain ⟨b8, hb8⟩ : ∃ b, b = has x 8 := ⟨_, rfl⟩
    rw [← hb8] at HLB HB
    obtain ⟨s0, hs0⟩ : ∃ s, s = if b8 = true then s1 ++ s2 else s1 := ⟨_, rfl⟩
    have z0 : s0.size ≤ 12 := by
      rw [hs0]
      split
      · rw [ByteArray.size_append]; omega
      · omega
    have HRR : Hid (∀ t : ByteArray, t = str (fbs (lst x 8) f) → s0 ++ t = R) := Lib.hid (fun t ht => by
      rw [HR.out, HB.out, hs0, ht, hs1, hs2]
      cases b8
      · simp [str_append]
      · simp [str_append])
    have HS0 : Hid (b8 = false → s1 = s0) := Lib.hid (fun hb => by rw [hs0, hb]; simp)
    have HS1 : Hid (b8 = true → s1 ++ s2 = s0) := Lib.hid (fun hb => by rw [hs0, hb]; simp)
    have hx4 := x.isLt
    obtain ⟨X, hX⟩ : ∃ X, X = x.toNat := ⟨_, rfl⟩
    rw [← hX] at HN1 hx4 HHS HLB HPC
    obtain ⟨p0, p1⟩ := Blk.patch (m := (X : Int)) (lab := lab) (f := f) (by have := B0; rw [HPC.out] at this; exact this)
    clear hs1 hs2 hs0 hR hpc hb8 hok her h0 hf hX HB p0 p1
    cases b8
    all_goals
      go_enter Try.func14, Try.ntmps14
      go_wp2_with (first
        | (refine wpList_load_mid rfl 29 (.tmp 1) rfl w.heap.size 0 rfl pc _ RG hu rfl (by rw [HPLen.out]; exact info_patch) ?_)
        | fail)
      refine (HCK.out _).mono ?_
      rintro e w1 ⟨rfl, hb1⟩
      have hbw := hb0.trans (hb1.mono hb0.size)
      replace B0 := B0.later hb1
      obtain ⟨p0, p1⟩ := Blk.patch (m := (X : Int)) (lab := lab) (f := f) (w := w1) (g := w.heap.size) (by rw [← HPC.out]; exact B0)
      clear RG hb1 hb0 HCK
      go_wp2_with fail
      refine (HN1.out _).mono ?_
      rintro e w2 ⟨rfl, hb2⟩
      replace hbw := hbw.trans (hb2.mono hbw.size)
      replace B0 := B0.later hb2
      clear p0 p1 hb2
      obtain ⟨p0, p1⟩ := Blk.patch (m := (X : Int)) (lab := lab) (f := f) (w := w2) (g := w.heap.size) (by rw [← HPC.out]; exact B0)
      go_wp2_with fail
      refine (HLB.out _).mono ?_
      rintro e w3 ⟨rfl, rfl⟩
    · have HE : Hid (s1 = s0 ++ ⟨#[]⟩) := Lib.hid (by rw [HS0.out trivial]; exact (ByteArray.append_empty (b := s0)).symm)
      have z1' : s1.size ≤ 12 := by omega
      clear HS0 HS1
      go_wp2_with fail
      clear HN1 HN2 z1 z2 HLB hx4
      go_loopw [3, 4] (fun sv i wr => ∃ k : Nat, k ≤ 8 ∧ i = .int .i64 k ∧ (∃ t u : ByteArray, sv = .string t ∧ Hid (t = s0 ++ u ∧ u = str (fbs (lst x k) f)) ∧ t.size ≤ 12 + 40 * k) ∧ Blk wr w.heap.size pc ∧ Below w.heap.size w wr) (fun _ i _ => 8 - (intOf i).toNat)
      case atStart => exact ⟨0, by omega, rfl, ⟨_, ⟨#[]⟩, rfl, Lib.hid ⟨HE.out, rfl⟩, by omega⟩, B0, hbw⟩
      case round =>
        obtain ⟨k, hk, rfl, ⟨t, u, rfl, HT, ht⟩, D0, hbr⟩ := hrel
        by_cases hlt : k < 8
        · have hkf : k < f.length := by rw [HF.out]; exact hlt
          have HH := Lib.hid (fun wx : World => HHS.out k wx)
          have c0 : ∀ kk : LW wr, kk.val.cell? ⟨w.heap.size, 0, none⟩ = some (.int .u32 (X : Int)) := fun kk => (Blk.patch (lab := lab) (f := f) (by have := D0.later kk.le; rw [HPC.out] at this; exact this)).1
          obtain ⟨p0, p1⟩ := Blk.patch (m := (X : Int)) (lab := lab) (f := f) (w := wr) (g := w.heap.size) (by rw [← HPC.out]; exact D0)
          obtain ⟨l0, l1, l2⟩ := Blk.field (pre := [.int .u32 (X : Int), .int .u32 lab]) (f := f) (g := w.heap.size) (w := wr) (by have := D0; rw [HPC.out] at this; exact this) 2 k rfl hkf
          have hg : f.getD k zv = f[k] := by simp [List.getD, hkf]
          obtain ⟨⟨v0, v1, v2⟩, hv⟩ : ∃ v, v = f[k] := ⟨_, rfl⟩
          rw [← hv] at l0 l1 l2 hg
          simp only at l0 l1 l2
          have hki : (k : Int) < 8 := by omega
          have hk0 : (0 : Int) ≤ (k : Int) := by omega
          obtain ⟨bk, hbk⟩ : ∃ b, b = has x (k : Int) := ⟨_, rfl⟩
          rw [← hbk] at HH
          cases bk
          · have HK2 : Hid (lst x (k + 1) = lst x k) := Lib.hid (lst_skip x k hbk.symm)
            clear hbk hv hg hkf l0 l1 l2 p1 c0
            go_wp2_with fail
            refine (HH.out _).mono ?_
            rintro e w4 ⟨rfl, rfl⟩
            go_wp2_with fail
            go_roundw
            case rel => exact ⟨k + 1, by omega, by go_num, ⟨t, u, rfl, Lib.hid ⟨HT.out.1, by rw [HK2.out]; exact HT.out.2⟩, by omega⟩, D0, hbr⟩
            case measure => simp [intOf]; omega
          · have HK2 : Hid (fbs (lst x (k + 1)) f = fbs (lst x k) f ++ vbs (v0, v1, v2)) := Lib.hid (by rw [← hg]; exact fbs_lst_put x f k hbk.symm)
            have HPV := Lib.hid (fun wx : World => rputval_any v0 v1 v2 wx)
            obtain ⟨t2, ht2⟩ : ∃ t2, t2 = str (vbs (v0, v1, v2)) := ⟨_, rfl⟩
            rw [← ht2] at HPV
            have hz2 : t2.size ≤ 40 := by rw [ht2, str_size]; exact vbs_len _
            have HTT : Hid (t ++ t2 = s0 ++ (u ++ t2) ∧ u ++ t2 = str (fbs (lst x (k + 1)) f)) := Lib.hid ⟨by rw [HT.out.1, ByteArray.append_assoc], by rw [HK2.out, HT.out.2, ht2]; first | exact (str_append _ _).symm | exact str_append _ _⟩
            have hsz : (t ++ t2).size = t.size + t2.size := by simp
            have HSZ := Lib.hid hsz
            clear hbk hv hg hkf ht2 hsz p1 c0
            go_wp2_with fail
            refine (HH.out _).mono ?_
            rintro e w4 ⟨rfl, rfl⟩
            go_wp2_with fail
            refine (HPV.out _).mono ?_
            rintro e w4 ⟨rfl, hb4⟩
            have D2 := D0.later hb4
            have hbr2 := hbr.trans (hb4.mono hbr.size)
            clear D0 hb4 hbr l0 l1 l2
            go_wp2_with fail
            go_roundw
            case rel => exact ⟨k + 1, by omega, by go_num, ⟨t ++ t2, u ++ t2, rfl, HTT, by rw [HSZ.out]; omega⟩, D2, hbr2⟩
            case measure => simp [intOf]; omega
        · obtain rfl : k = 8 := by omega
          have HR8 := HRR.out u HT.out.2
          rw [← HT.out.1] at HR8
          subst HR8
          clear HRR HT
          go_wp2_with fail
          go_ret
          exact ⟨rfl, hbr⟩
    · have HE : Hid (s1 ++ s2 = s0 ++ ⟨#[]⟩) := Lib.hid (by rw [HS1.out trivial]; exact (ByteArray.append_empty (b := s0)).symm)
      have z1' : (s1 ++ s2).size ≤ 12 := by rw [ByteArray.size_append]; omega
      have Z1 := Lib.hid z1'
      clear HS0 HS1 z1'
      go_wp2_with fail
      refine (HN2.out _).mono ?_
      rintro e w4 ⟨rfl, hb4⟩
      replace hbw := hbw.trans (hb4.mono hbw.size)
      replace B0 := B0.later hb4
      clear p0 p1 hb4
      go_wp2_with fail
      have z1' := Z1.out
      clear HN1 HN2 z1 z2 HLB hx4
      go_loopw [3, 4] (fun sv i wr => ∃ k : Nat, k ≤ 8 ∧ i = .int .i64 k ∧ (∃ t u : ByteArray, sv = .string t ∧ Hid (t = s0 ++ u ∧ u = str (fbs (lst x k) f)) ∧ t.size ≤ 12 + 40 * k) ∧ Blk wr w.heap.size pc ∧ Below w.heap.size w wr) (fun _ i _ => 8 - (intOf i).toNat)
      case atStart => exact ⟨0, by omega, rfl, ⟨_, ⟨#[]⟩, rfl, Lib.hid ⟨HE.out, rfl⟩, by omega⟩, B0, hbw⟩
      case round =>
        obtain ⟨k, hk, rfl, ⟨t, u, rfl, HT, ht⟩, D0, hbr⟩ := hrel
        by_cases hlt : k < 8
        · have hkf : k < f.length := by rw [HF.out]; exact hlt
          have HH := Lib.hid (fun wx : World => HHS.out k wx)
          have c0 : ∀ kk : LW wr, kk.val.cell? ⟨w.heap.size, 0, none⟩ = some (.int .u32 (X : Int)) := fun kk => (Blk.patch (lab := lab) (f := f) (by have := D0.later kk.le; rw [HPC.out] at this; exact this)).1
          obtain ⟨p0, p1⟩ := Blk.patch (m := (X : Int)) (lab := lab) (f := f) (w := wr) (g := w.heap.size) (by rw [← HPC.out]; exact D0)
          obtain ⟨l0, l1, l2⟩ := Blk.field (pre := [.int .u32 (X : Int), .int .u32 lab]) (f := f) (g := w.heap.size) (w := wr) (by have := D0; rw [HPC.out] at this; exact this) 2 k rfl hkf
          have hg : f.getD k zv = f[k] := by simp [List.getD, hkf]
          obtain ⟨⟨v0, v1, v2⟩, hv⟩ : ∃ v, v = f[k] := ⟨_, rfl⟩
          rw [← hv] at l0 l1 l2 hg
          simp only at l0 l1 l2
          have hki : (k : Int) < 8 := by omega
          have hk0 : (0 : Int) ≤ (k : Int) := by omega
          obtain ⟨bk, hbk⟩ : ∃ b, b = has x (k : Int) := ⟨_, rfl⟩
          rw [← hbk] at HH
          cases bk
          · have HK2 : Hid (lst x (k + 1) = lst x k) := Lib.hid (lst_skip x k hbk.symm)
            clear hbk hv hg hkf l0 l1 l2 p1 c0
            go_wp2_with fail
            refine (HH.out _).mono ?_
            rintro e w4 ⟨rfl, rfl⟩
            go_wp2_with fail
            go_roundw
            case rel => exact ⟨k + 1, by omega, by go_num, ⟨t, u, rfl, Lib.hid ⟨HT.out.1, by rw [HK2.out]; exact HT.out.2⟩, by omega⟩, D0, hbr⟩
            case measure => simp [intOf]; omega
          · have HK2 : Hid (fbs (lst x (k + 1)) f = fbs (lst x k) f ++ vbs (v0, v1, v2)) := Lib.hid (by rw [← hg]; exact fbs_lst_put x f k hbk.symm)
            have HPV := Lib.hid (fun wx : World => rputval_any v0 v1 v2 wx)
            obtain ⟨t2, ht2⟩ : ∃ t2, t2 = str (vbs (v0, v1, v2)) := ⟨_, rfl⟩
            rw [← ht2] at HPV
            have hz2 : t2.size ≤ 40 := by rw [ht2, str_size]; exact vbs_len _
            have HTT : Hid (t ++ t2 = s0 ++ (u ++ t2) ∧ u ++ t2 = str (fbs (lst x (k + 1)) f)) := Lib.hid ⟨by rw [HT.out.1, ByteArray.append_assoc], by rw [HK2.out, HT.out.2, ht2]; first | exact (str_append _ _).symm | exact str_append _ _⟩
            have hsz : (t ++ t2).size = t.size + t2.size := by simp
            have HSZ := Lib.hid hsz
            clear hbk hv hg hkf ht2 hsz p1 c0
            go_wp2_with fail
            refine (HH.out _).mono ?_
            rintro e w4 ⟨rfl, rfl⟩
            go_wp2_with fail
            refine (HPV.out _).mono ?_
            rintro e w4 ⟨rfl, hb4⟩
            have D2 := D0.later hb4
            have hbr2 := hbr.trans (hb4.mono hbr.size)
            clear D0 hb4 hbr l0 l1 l2
            go_wp2_with fail
            go_roundw
            case rel => exact ⟨k + 1, by omega, by go_num, ⟨t ++ t2, u ++ t2, rfl, HTT, by rw [HSZ.out]; omega⟩, D2, hbr2⟩
            case measure => simp [intOf]; omega
        · obtain rfl : k = 8 := by omega
          have HR8 := HRR.out u HT.out.2
          rw [← HT.out.1] at HR8
          subst HR8
          clear HRR HT
          go_wp2_with fail
          go_ret
          exact ⟨rfl, hbr⟩
  · have HB : Hid (str (pbs x lab f) = ⟨#[]⟩) := Lib.hid (by unfold pbs; rw [if_pos (by rw [← her]; exact h0)]; rfl)
    rw [HB.out]
    have be : (er != 0) = true := by simp [h0]
    clear HB her h0 hpc hf
    go_enter Try.func14, Try.ntmps14
    go_wp2_with (first
      | (refine wpList_load_mid rfl 29 (.tmp 1) rfl w.heap.size 0 rfl pc _ RG hu rfl (by rw [HPLen.out]; exact info_patch) ?_)
      | fail)
    refine (HCK.out _).mono ?_
    rintro e w1 ⟨rfl, hb1⟩
    have hbw := hb0.trans (hb1.mono hb0.size)
    clear RG hb1 hb0
    go_wp2_with fail
    go_ret
    exact ⟨rfl, hbw⟩
end Go.Proofs.Yticdpfjajkfheaa

/- Cards as bytes: whether the layer is awake; a slice of bytes as a string. -/
namespace Go.Proofs.Yticdpfjajkfheaa
set_option linter.unusedVariables false
open Go Go.RowKit BitM OctM

theorem str_conv (w : World) (B : Nat) (A : Option Addr) (n c : Nat) (l : List UInt8) (s : ByteArray) (hn : l.length = n) (hs : Sees w B A (bvs l)) (h : s = str l) : (convert 30 9 (.slice A n c)).run Try.prog w = .ok (.string s) w := by
  subst h
  exact run_str (P := Try.prog) w B 30 5 9 Try.underlying30 Try.underlying5 Try.underlying9 A n c l hn hs

section
variable {P : Program} {w : World} {a : Act} {op : Oper}
theorem exec_conv (x : Operand) (t u : TypeId) (ho : op.op = .convert t u x) (v : Value) (hx : a.eval x = v) (r : Value) (h : (convert t u v).run P w = .ok r w) : (execOp a.eval op).run P w = .ok (.value r) w := by
  unfold execOp
  simp only [ho, hx, Sem.run_bind, Sem.run_pure, Result.andThen_ok, h]
end

/-- The card that awake writes. -/
def awk : List V3 := zv :: (1, 7, ⟨#[]⟩) :: List.replicate 6 zv
theorem awk_bytes : cbs 1 2 1 awk = [1, 2, 1, 2, 1, 7] := by decide +kernel
theorem awk_cells : (ccells 1 2 1 zeros).take 6 ++ vcells (1, 7, ⟨#[]⟩) ++ (ccells 1 2 1 zeros).drop 9 = ccells 1 2 1 awk := rfl

set_option maxRecDepth 100000 in
set_option maxHeartbeats 3200000 in
theorem wire_awake (w : World) : Calls Try.prog 8 #[] w fun e w' => e = .returned (.bool true) ∧ Below w.heap.size w w' := by
  have HPC := Lib.hid (fun wx : World => putcard_any 1 2 1 awk none 0 0 [] wx rfl (by decide) rfl Sees.nil_ (by omega))
  rw [List.nil_append, awk_bytes] at HPC
  have B1 := Blk.new w (ccells 0 0 0 zeros) 27
  have T1 := B1.there 0 27 (by rw [ccells_len 0 0 0 zeros_len]; omega)
  have F1 := B1.whole (ds := ccells 1 2 1 zeros) rfl
  have T2 := F1.there 6 3 (by rw [ccells_len 1 2 1 zeros_len]; omega)
  have F2 := F1.sets (vcells (1, 7, ⟨#[]⟩)) 6 (by rw [ccells_len 1 2 1 zeros_len]; decide)
  have F2' : Blk (((w.alloc (.cells (ccells 0 0 0 zeros).toArray 27)).setCells w.heap.size 0 (ccells 1 2 1 zeros)).setCells w.heap.size 6 (vcells (1, 7, ⟨#[]⟩))) w.heap.size (ccells 1 2 1 awk) := F2
  have hb2 : Below w.heap.size w (((w.alloc (.cells (ccells 0 0 0 zeros).toArray 27)).setCells w.heap.size 0 (ccells 1 2 1 zeros)).setCells w.heap.size 6 (vcells (1, 7, ⟨#[]⟩))) := below_sets (Nat.le_refl _) _ 6 (below_sets (Nat.le_refl _) _ 0 ((Below.refl w.heap.size w).alloc (Nat.le_refl _) _))
  have O1 : (ccells 1 2 1 zeros).toArray.all (·.oneCell') = true := all_oneCell_toArray (ccells_one _ _ _ _)
  have O2 : (vcells (1, 7, ⟨#[]⟩)).toArray.all (·.oneCell') = true := all_oneCell_toArray (by intro v hv; simp only [vcells, List.mem_cons, List.not_mem_nil, or_false] at hv; rcases hv with rfl | rfl | rfl <;> rfl)
  have hu := Try.underlying27
  have hlen : (ccells 1 2 1 awk).length = 27 := ccells_len 1 2 1 rfl
  obtain ⟨ck, hck⟩ : ∃ z, z = ccells 1 2 1 awk := ⟨_, rfl⟩
  rw [← hck] at F2' HPC hlen
  have HL := Lib.hid hlen
  clear F2 F1 B1 hck hlen
  go_enter Try.func8, Try.ntmps8
  go_wp2_with (first
    | (refine wpList_store_mid rfl 27 (.tmp 1) (.tmp 2) rfl w.heap.size 0 (ccells 1 2 1 zeros).toArray rfl rfl T1 info_card O1 ?_
       simp only [Act.put]
       generalize hw6 : World.setCells _ w.heap.size 0 (ccells 1 2 1 zeros).toArray.toList = w6
       have T2' : w6.there w.heap.size 6 3 := hw6 ▸ T2
       have F6 : Blk (w6.setCells w.heap.size 6 (vcells (1, 7, ⟨#[]⟩))) w.heap.size ck := hw6 ▸ F2'
       have hb6 : Below w.heap.size w (w6.setCells w.heap.size 6 (vcells (1, 7, ⟨#[]⟩))) := hw6 ▸ hb2
       clear hw6 T1 T2 F2' hb2 O1)
    | (refine wpList_store_mid rfl 24 (.tmp 5) (.tmp 3) rfl w.heap.size 6 (vcells (1, 7, ⟨#[]⟩)).toArray rfl rfl T2' info_val O2 ?_
       simp only [Act.put]
       generalize hw7 : World.setCells _ w.heap.size 6 (vcells (1, 7, ⟨#[]⟩)).toArray.toList = w7
       have F7 : Blk w7 w.heap.size ck := hw7 ▸ F6
       have hb7 : Below w.heap.size w w7 := hw7 ▸ hb6
       have RG := F7.wholeC
       clear hw7 T2' F6 F7 hb6 O2)
    | (refine wpList_load_mid rfl 27 (.tmp 1) rfl w.heap.size 0 rfl ck _ RG hu rfl (by rw [HL.out]; exact info_card) ?_)
    | fail)
  refine (HPC.out _).mono ?_
  rintro e w8 ⟨A8, c8, rfl, o8, b8⟩
  have hr := str_conv w8 w8.heap.size A8 6 c8 _ ⟨#[1, 2, 1, 2, 1, 7]⟩ rfl o8.sees rfl
  clear RG o8
  go_wp2_with (first
    | (refine wpList_exec (by rfl) (.string ⟨#[1, 2, 1, 2, 1, 7]⟩) (exec_conv (.tmp 7) 30 9 rfl _ rfl _ hr) ?_)
    | fail)
  go_ret
  exact ⟨rfl, hb7.trans (b8.mono hb7.size)⟩
end Go.Proofs.Yticdpfjajkfheaa

/- CardwireReads: the walk. -/
namespace Go.Proofs.Yticdpfjajkfheaa
set_option linter.unusedVariables false
set_option linter.unusedSimpArgs false
open Go Go.RowKit OctM

theorem guard_patch : Try.prog.eqGuardType Try.prog.depth 29 = false := by kernel_rfl
theorem same_v (v : V3) (w : World) : (Op.equalIn 10000 24 (.agg (vcells v).toArray) (.agg (vcells v).toArray)).run Try.prog w = .ok true w := by
  rw [eq_val 9998 v v w, decide_eq_true rfl]
theorem same_c (id ver lab : Int) (f : List V3) (hf : f.length = 8) (w : World) : (Op.equalIn 10000 27 (.agg (ccells id ver lab f).toArray) (.agg (ccells id ver lab f).toArray)).run Try.prog w = .ok true w := by
  rw [eq_card 9996 id ver lab id ver lab f f hf hf w, decide_eq_true (show id = id ∧ ver = ver ∧ lab = lab ∧ f = f from ⟨rfl, rfl, rfl, rfl⟩)]
theorem same_p (m lab : Int) (f : List V3) (hf : f.length = 8) (w : World) : (Op.equalIn 10000 29 (.agg (pcells m lab f).toArray) (.agg (pcells m lab f).toArray)).run Try.prog w = .ok true w := by
  rw [eq_patch 9996 m lab m lab f f hf hf w, decide_eq_true (show m = m ∧ lab = lab ∧ f = f from ⟨rfl, rfl, rfl⟩)]

set_option maxRecDepth 100000 in
set_option maxHeartbeats 6400000 in
theorem walk_cwreads (A : Option Addr) (n c : Nat) (l : List UInt8) (B : Option Addr) (nk ck : Nat) (ks : List Int) (w : World) (hn : l.length = n) (hs : Sees w w.heap.size A (bvs l)) (hkn : ks.length = nk) (hkm : nk ≤ maxLen) (ht : Sees w w.heap.size B (ivs ks)) :
    Calls Try.prog 4 #[.slice A n c, .slice B nk ck] w fun e w' => e = .returned (.bool true) ∧ Below w.heap.size w w' := by
  have HAW := Lib.hid (fun (wx : World) => wire_awake wx)
  unfold maxLen at hkm
  by_cases h5 : n ≤ 1000
  · have d3 : decide ((1000 : Int) < (n : Int)) = false := by simp; omega
    have HN := Lib.hid (rd_new A n c l w hn hs (by omega))
    have HNL := Lib.hid hn
    have HKN := Lib.hid hkn
    clear hkn
    go_enter Try.func4, Try.ntmps4
    go_wp2_with fail
    refine HN.out.mono ?_
    rintro e w1 ⟨gr, rfl, r1, b1⟩
    obtain ⟨sl, hsl⟩ : ∃ sl, sl = str l := ⟨_, rfl⟩
    have hc1 := str_conv w1 w1.heap.size A n c l sl HNL.out ((hs.below b1).more b1.size) hsl
    have hgr := r1.block
    have HSL := Lib.hid hsl
    clear hn hsl
    go_wp2_with fail
    have T0 : Same2 w (w1.alloc (.cells #[.string sl, .int .i64 0] 46)) gr w1.heap.size l 0 0 := by
      refine ⟨⟨r1.later ((Below.refl _ _).alloc (Nat.le_refl _) _), ?_, hgr.2, b1.alloc b1.size _⟩, Nat.zero_le _, by rw [HNL.out]; omega⟩
      have h := own_lit w1 w.heap.size 46 #[.string sl, .int .i64 0] b1.size (by simp [maxLen])
      rw [HSL.out] at h ⊢
      exact h
    generalize hgm : w1.heap.size = gm at T0 ⊢
    clear hc1 r1 b1 hgr hgm HSL HN
    go_loopw [7] (fun i wr => ∃ (k a : Nat) (e : Int), k ≤ 20 ∧ k ≤ nk ∧ i = .int .i64 k ∧ Same2 w wr gr gm l a e) (fun i _ => 20 - (intOf i).toNat)
    case atStart => exact ⟨0, 0, 0, by omega, by omega, rfl, T0⟩
    case round =>
      obtain ⟨k, a, e, hk, hk2, rfl, T, ha, hm⟩ := hrel
      have HT := Lib.hid T
      clear T0 d3
      by_cases hl1 : k < nk
      · have q1 : decide ((k : Int) < (nk : Int)) = true := by simp; omega
        by_cases hl2 : k < 20
        · have q2 : decide ((k : Int) < 20) = true := by simp; omega
          have hkk : k < ks.length := by rw [HKN.out]; exact hl1
          obtain ⟨b, o, rfl, hb, ck0⟩ := ht.int k hkk
          have ck1 : ∀ {wx : World} {l' : List UInt8} {a' : Nat} {e' : Int} {l2 : List UInt8} {e2 : Int}, Two w wx gr gm l' a' e' l2 e2 → wx.cell? ⟨b, o + k, none⟩ = some (.int .i64 ks[k]) := fun h => (h.2.2.2.cell (p := ⟨b, o + k, none⟩) hb).trans ck0
          have cz := ck1 T
          obtain ⟨z, hz⟩ : ∃ z, z = ks[k] := ⟨_, rfl⟩
          rw [← hz] at cz
          clear ck0 ck1 hz hs T ht
          have k0 : (0 : Int) ≤ (k : Int) := by omega
          have kn : (k : Int) < (nk : Int) := by omega
          by_cases z0 : z = 0
          · have t0 : (z == 0) = true := by simpa using z0
            clear z0
            have ha2 := valOut_at l a e ha
            have H1 := Lib.hid (fun wx (T : Two w wx gr gm l a e (l.drop a) e) => (rd_value _ gr l a e wx T.1 ha hm).mono fun x w' h => (show x = .returned (.agg (vcells (valOut l a e).1).toArray) ∧ Two w w' gr gm l (valOut l a e).2.1 (valOut l a e).2.2 (l.drop a) e from ⟨h.1, T.first h.2.1 h.2.2⟩))
            have H2 := Lib.hid (fun wx (T : Two w wx gr gm l (valOut l a e).2.1 (valOut l a e).2.2 (l.drop a) e) => (rr_value _ gm l a e wx T.2.1 ha hm).mono fun x w' h => (show x = .returned (.agg (vcells (valOut l a e).1).toArray) ∧ Two w w' gr gm l (valOut l a e).2.1 (valOut l a e).2.2 (l.drop (valOut l a e).2.1) (valOut l a e).2.2 from ⟨h.1, T.second h.2.1 h.2.2⟩))
            obtain ⟨cs, hcs⟩ : ∃ cs, cs = vcells (valOut l a e).1 := ⟨_, rfl⟩
            have HSC : Hid (∀ wx : World, (Op.equalIn 10000 24 (.agg cs.toArray) (.agg cs.toArray)).run Try.prog wx = .ok true wx) := Lib.hid (fun wx => by rw [hcs]; exact same_v _ wx)
            rw [← hcs] at H1 H2
            clear hcs
            obtain ⟨⟨q0, a2, e2⟩, hq⟩ : ∃ q, q = valOut l a e := ⟨_, rfl⟩
            rw [← hq] at H1 H2 ha2
            simp only at H1 H2 ha2
            clear hq
            go_wp2_with fail
            refine (H1.out _ HT.out).mono ?_
            rintro e' w3 ⟨rfl, T3⟩
            go_wp2_with fail
            refine (H2.out _ T3).mono ?_
            rintro e' w5 ⟨rfl, T5⟩
            clear T3
            obtain ⟨rest, hrest⟩ : ∃ r, r = l.length - a2 := ⟨_, rfl⟩
            obtain ⟨sr, hsr⟩ : ∃ sr, sr = str (l.drop a2) := ⟨_, rfl⟩
            have zr : sr.size = rest := by rw [hsr, str_size, List.length_drop, hrest]
            have hr2 : rest ≤ 2000 := by omega
            have HLE := Lib.hid (fun wx (T : Two w wx gr gm l a2 e2 (l.drop a2) e2) => two_left T ha2 hm rest hrest)
            have HER := Lib.hid (fun wx (T : Two w wx gr gm l a2 e2 (l.drop a2) e2) => two_err T)
            have hm0 : ∀ k : LW w5, k.val.cell? ⟨gm, 0, none⟩ = some (.string sr) := fun k => by rw [hsr]; exact (two_cells (T5.later k.le)).1
            have hm1 : ∀ k : LW w5, k.val.cell? ⟨gm, 1, none⟩ = some (.int .i64 e2) := fun k => (two_cells (T5.later k.le)).2
            clear hrest hsr
            go_wp2_with (first
              | (refine wpList_exec (by rfl) (.bool false) (exec_neq 24 _ (.tmp 40) (.tmp 42) rfl _ _ rfl rfl guard_val true (HSC.out _)) ?_)
              | fail)
            refine wp_region_steady [] 84 (by kernel_rfl) (by kernel_rfl) (by kernel_rfl) (by rfl) ?_
            simp only [Act.put, List.setIfInBounds_toArray, List.set_cons_zero, List.set_cons_succ]
            iterate 1 (refine wpG_quiet (by rfl) (by rfl) (by rfl) (fun K hK => ?_); go_big_quiet_op; refine hK _ ?_; clear hK K)
            refine wpG_call (by rfl) (by rfl) 22 #[.pointer (some ⟨gr, 0, none⟩)] (.int .i64 e2) (by intro _; simp [go_sem]) (by kernel_rfl) (fun w1 hl => HER.out w1 (T5.later hl.1)) ?_
            simp only [Act.put, List.setIfInBounds_toArray, List.set_cons_zero, List.set_cons_succ]
            iterate 7 (refine wpG_quiet (by rfl) (by rfl) (by rfl) (fun K hK => ?_); go_big_quiet_op; refine hK _ ?_; clear hK K)
            refine wpG_call (by rfl) (by rfl) 23 #[.pointer (some ⟨gr, 0, none⟩)] (.int .i64 rest) (by intro _; simp [go_sem]) (by kernel_rfl) (fun w1 hl => HLE.out w1 (T5.later hl.1)) ?_
            simp only [Act.put, List.setIfInBounds_toArray, List.set_cons_zero, List.set_cons_succ]
            iterate 7 (refine wpG_quiet (by rfl) (by rfl) (by rfl) (fun K hK => ?_); go_big_quiet_op; refine hK _ ?_; clear hK K)
            refine wpG_nil (fun w6 hl6 _ => ?_)
            have T6 := T5.later hl6
            go_wp2_with fail
            go_roundw
            case rel => exact ⟨k + 1, a2, e2, by omega, by omega, by go_num, T6, ha2, hm⟩
            case measure => simp [intOf]; omega
          · have t0 : (z == 0) = false := by simpa using z0
            by_cases z1 : z = 1
            · have t1 : (z == 1) = true := by simpa using z1
              clear z0 z1
              have ha2 := cardOut_at l a e ha
              have H1 := Lib.hid (fun wx (T : Two w wx gr gm l a e (l.drop a) e) => (rd_card _ gr l a e wx T.1 ha hm).mono fun x w' h => (show x = .returned (.agg (cc4 (cardOut l a e).1).toArray) ∧ Two w w' gr gm l (cardOut l a e).2.1 (cardOut l a e).2.2 (l.drop a) e from ⟨h.1, T.first h.2.1 h.2.2⟩))
              have H2 := Lib.hid (fun wx (T : Two w wx gr gm l (cardOut l a e).2.1 (cardOut l a e).2.2 (l.drop a) e) => (rr_card _ gm l a e wx T.2.1 ha hm).mono fun x w' h => (show x = .returned (.agg (cc4 (cardOut l a e).1).toArray) ∧ Two w w' gr gm l (cardOut l a e).2.1 (cardOut l a e).2.2 (l.drop (cardOut l a e).2.1) (cardOut l a e).2.2 from ⟨h.1, T.second h.2.1 h.2.2⟩))
              obtain ⟨cs, hcs⟩ : ∃ cs, cs = cc4 (cardOut l a e).1 := ⟨_, rfl⟩
              have HSC : Hid (∀ wx : World, (Op.equalIn 10000 27 (.agg cs.toArray) (.agg cs.toArray)).run Try.prog wx = .ok true wx) := Lib.hid (fun wx => by rw [hcs]; exact same_c _ _ _ _ (cardOut_len l a e) wx)
              rw [← hcs] at H1 H2
              clear hcs
              obtain ⟨⟨q0, a2, e2⟩, hq⟩ : ∃ q, q = cardOut l a e := ⟨_, rfl⟩
              rw [← hq] at H1 H2 ha2
              simp only at H1 H2 ha2
              clear hq
              go_wp2_with fail
              refine (H1.out _ HT.out).mono ?_
              rintro e' w3 ⟨rfl, T3⟩
              go_wp2_with fail
              refine (H2.out _ T3).mono ?_
              rintro e' w5 ⟨rfl, T5⟩
              clear T3
              obtain ⟨rest, hrest⟩ : ∃ r, r = l.length - a2 := ⟨_, rfl⟩
              obtain ⟨sr, hsr⟩ : ∃ sr, sr = str (l.drop a2) := ⟨_, rfl⟩
              have zr : sr.size = rest := by rw [hsr, str_size, List.length_drop, hrest]
              have hr2 : rest ≤ 2000 := by omega
              have HLE := Lib.hid (fun wx (T : Two w wx gr gm l a2 e2 (l.drop a2) e2) => two_left T ha2 hm rest hrest)
              have HER := Lib.hid (fun wx (T : Two w wx gr gm l a2 e2 (l.drop a2) e2) => two_err T)
              have hm0 : ∀ k : LW w5, k.val.cell? ⟨gm, 0, none⟩ = some (.string sr) := fun k => by rw [hsr]; exact (two_cells (T5.later k.le)).1
              have hm1 : ∀ k : LW w5, k.val.cell? ⟨gm, 1, none⟩ = some (.int .i64 e2) := fun k => (two_cells (T5.later k.le)).2
              clear hrest hsr
              go_wp2_with (first
                | (refine wpList_exec (by rfl) (.bool false) (exec_neq 27 _ (.tmp 47) (.tmp 49) rfl _ _ rfl rfl guard_card true (HSC.out _)) ?_)
                | fail)
              refine wp_region_steady [] 84 (by kernel_rfl) (by kernel_rfl) (by kernel_rfl) (by rfl) ?_
              simp only [Act.put, List.setIfInBounds_toArray, List.set_cons_zero, List.set_cons_succ]
              iterate 1 (refine wpG_quiet (by rfl) (by rfl) (by rfl) (fun K hK => ?_); go_big_quiet_op; refine hK _ ?_; clear hK K)
              refine wpG_call (by rfl) (by rfl) 22 #[.pointer (some ⟨gr, 0, none⟩)] (.int .i64 e2) (by intro _; simp [go_sem]) (by kernel_rfl) (fun w1 hl => HER.out w1 (T5.later hl.1)) ?_
              simp only [Act.put, List.setIfInBounds_toArray, List.set_cons_zero, List.set_cons_succ]
              iterate 7 (refine wpG_quiet (by rfl) (by rfl) (by rfl) (fun K hK => ?_); go_big_quiet_op; refine hK _ ?_; clear hK K)
              refine wpG_call (by rfl) (by rfl) 23 #[.pointer (some ⟨gr, 0, none⟩)] (.int .i64 rest) (by intro _; simp [go_sem]) (by kernel_rfl) (fun w1 hl => HLE.out w1 (T5.later hl.1)) ?_
              simp only [Act.put, List.setIfInBounds_toArray, List.set_cons_zero, List.set_cons_succ]
              iterate 7 (refine wpG_quiet (by rfl) (by rfl) (by rfl) (fun K hK => ?_); go_big_quiet_op; refine hK _ ?_; clear hK K)
              refine wpG_nil (fun w6 hl6 _ => ?_)
              have T6 := T5.later hl6
              go_wp2_with fail
              go_roundw
              case rel => exact ⟨k + 1, a2, e2, by omega, by omega, by go_num, T6, ha2, hm⟩
              case measure => simp [intOf]; omega
            · have t1 : (z == 1) = false := by simpa using z1
              clear z0 z1
              have ha2 := patOut_at l a e ha
              have H1 := Lib.hid (fun wx (T : Two w wx gr gm l a e (l.drop a) e) => (rd_patch _ gr l a e wx T.1 ha hm).mono fun x w' h => (show x = .returned (.agg (pc3 (patOut l a e).1).toArray) ∧ Two w w' gr gm l (patOut l a e).2.1 (patOut l a e).2.2 (l.drop a) e from ⟨h.1, T.first h.2.1 h.2.2⟩))
              have H2 := Lib.hid (fun wx (T : Two w wx gr gm l (patOut l a e).2.1 (patOut l a e).2.2 (l.drop a) e) => (rr_patch _ gm l a e wx T.2.1 ha hm).mono fun x w' h => (show x = .returned (.agg (pc3 (patOut l a e).1).toArray) ∧ Two w w' gr gm l (patOut l a e).2.1 (patOut l a e).2.2 (l.drop (patOut l a e).2.1) (patOut l a e).2.2 from ⟨h.1, T.second h.2.1 h.2.2⟩))
              obtain ⟨cs, hcs⟩ : ∃ cs, cs = pc3 (patOut l a e).1 := ⟨_, rfl⟩
              have HSC : Hid (∀ wx : World, (Op.equalIn 10000 29 (.agg cs.toArray) (.agg cs.toArray)).run Try.prog wx = .ok true wx) := Lib.hid (fun wx => by rw [hcs]; exact same_p _ _ _ (patOut_len l a e) wx)
              rw [← hcs] at H1 H2
              clear hcs
              obtain ⟨⟨q0, a2, e2⟩, hq⟩ : ∃ q, q = patOut l a e := ⟨_, rfl⟩
              rw [← hq] at H1 H2 ha2
              simp only at H1 H2 ha2
              clear hq
              go_wp2_with fail
              refine (H1.out _ HT.out).mono ?_
              rintro e' w3 ⟨rfl, T3⟩
              go_wp2_with fail
              refine (H2.out _ T3).mono ?_
              rintro e' w5 ⟨rfl, T5⟩
              clear T3
              obtain ⟨rest, hrest⟩ : ∃ r, r = l.length - a2 := ⟨_, rfl⟩
              obtain ⟨sr, hsr⟩ : ∃ sr, sr = str (l.drop a2) := ⟨_, rfl⟩
              have zr : sr.size = rest := by rw [hsr, str_size, List.length_drop, hrest]
              have hr2 : rest ≤ 2000 := by omega
              have HLE := Lib.hid (fun wx (T : Two w wx gr gm l a2 e2 (l.drop a2) e2) => two_left T ha2 hm rest hrest)
              have HER := Lib.hid (fun wx (T : Two w wx gr gm l a2 e2 (l.drop a2) e2) => two_err T)
              have hm0 : ∀ k : LW w5, k.val.cell? ⟨gm, 0, none⟩ = some (.string sr) := fun k => by rw [hsr]; exact (two_cells (T5.later k.le)).1
              have hm1 : ∀ k : LW w5, k.val.cell? ⟨gm, 1, none⟩ = some (.int .i64 e2) := fun k => (two_cells (T5.later k.le)).2
              clear hrest hsr
              go_wp2_with (first
                | (refine wpList_exec (by rfl) (.bool false) (exec_neq 29 _ (.tmp 33) (.tmp 35) rfl _ _ rfl rfl guard_patch true (HSC.out _)) ?_)
                | fail)
              refine wp_region_steady [] 84 (by kernel_rfl) (by kernel_rfl) (by kernel_rfl) (by rfl) ?_
              simp only [Act.put, List.setIfInBounds_toArray, List.set_cons_zero, List.set_cons_succ]
              iterate 1 (refine wpG_quiet (by rfl) (by rfl) (by rfl) (fun K hK => ?_); go_big_quiet_op; refine hK _ ?_; clear hK K)
              refine wpG_call (by rfl) (by rfl) 22 #[.pointer (some ⟨gr, 0, none⟩)] (.int .i64 e2) (by intro _; simp [go_sem]) (by kernel_rfl) (fun w1 hl => HER.out w1 (T5.later hl.1)) ?_
              simp only [Act.put, List.setIfInBounds_toArray, List.set_cons_zero, List.set_cons_succ]
              iterate 7 (refine wpG_quiet (by rfl) (by rfl) (by rfl) (fun K hK => ?_); go_big_quiet_op; refine hK _ ?_; clear hK K)
              refine wpG_call (by rfl) (by rfl) 23 #[.pointer (some ⟨gr, 0, none⟩)] (.int .i64 rest) (by intro _; simp [go_sem]) (by kernel_rfl) (fun w1 hl => HLE.out w1 (T5.later hl.1)) ?_
              simp only [Act.put, List.setIfInBounds_toArray, List.set_cons_zero, List.set_cons_succ]
              iterate 7 (refine wpG_quiet (by rfl) (by rfl) (by rfl) (fun K hK => ?_); go_big_quiet_op; refine hK _ ?_; clear hK K)
              refine wpG_nil (fun w6 hl6 _ => ?_)
              have T6 := T5.later hl6
              go_wp2_with fail
              go_roundw
              case rel => exact ⟨k + 1, a2, e2, by omega, by omega, by go_num, T6, ha2, hm⟩
              case measure => simp [intOf]; omega
        · have q2 : decide ((k : Int) < 20) = false := by simp; omega
          clear hs T ht
          go_wp2_with fail
          refine (nil_value _).mono ?_
          rintro e' w2 ⟨rfl, b2⟩
          have T2 := HT.out.later b2
          clear HT b2
          go_wp2_with (first
            | (refine wpList_exec (by rfl) (.bool true) (exec_eql 24 _ (.tmp 68) (.tmp 69) rfl (vcells zv).toArray (vcells zv).toArray (by rfl) (by rfl) guard_val true (same_v zv _)) ?_)
            | fail)
          refine (nil_card _).mono ?_
          rintro e' w3 ⟨rfl, b3⟩
          have T3 := T2.later b3
          clear T2 b3
          go_wp2_with (first
            | (refine wpList_exec (by rfl) (.bool true) (exec_eql 27 _ (.tmp 72) (.tmp 73) rfl (ccells 0 0 0 zeros).toArray (ccells 0 0 0 zeros).toArray (by rfl) (by rfl) guard_card true (same_c 0 0 0 zeros zeros_len _)) ?_)
            | fail)
          refine (nil_patch _).mono ?_
          rintro e' w4 ⟨rfl, b4⟩
          have T4 := T3.later b4
          clear T3 b4
          go_wp2_with (first
            | (refine wpList_exec (by rfl) (.bool true) (exec_eql 29 _ (.tmp 77) (.tmp 78) rfl (pcells 0 0 zeros).toArray (pcells 0 0 zeros).toArray (by rfl) (by rfl) guard_patch true (same_p 0 0 zeros zeros_len _)) ?_)
            | fail)
          refine (HAW.out _).mono ?_
          rintro e' w6 ⟨rfl, b6⟩
          have T6 := T4.later b6
          go_wp2_with fail
          go_ret
          exact ⟨rfl, T6.2.2.2⟩
      · have q1 : decide ((k : Int) < (nk : Int)) = false := by simp; omega
        clear hs T ht
        go_wp2_with fail
        refine (nil_value _).mono ?_
        rintro e' w2 ⟨rfl, b2⟩
        have T2 := HT.out.later b2
        clear HT b2
        go_wp2_with (first
          | (refine wpList_exec (by rfl) (.bool true) (exec_eql 24 _ (.tmp 68) (.tmp 69) rfl (vcells zv).toArray (vcells zv).toArray (by rfl) (by rfl) guard_val true (same_v zv _)) ?_)
          | fail)
        refine (nil_card _).mono ?_
        rintro e' w3 ⟨rfl, b3⟩
        have T3 := T2.later b3
        clear T2 b3
        go_wp2_with (first
          | (refine wpList_exec (by rfl) (.bool true) (exec_eql 27 _ (.tmp 72) (.tmp 73) rfl (ccells 0 0 0 zeros).toArray (ccells 0 0 0 zeros).toArray (by rfl) (by rfl) guard_card true (same_c 0 0 0 zeros zeros_len _)) ?_)
          | fail)
        refine (nil_patch _).mono ?_
        rintro e' w4 ⟨rfl, b4⟩
        have T4 := T3.later b4
        clear T3 b4
        go_wp2_with (first
          | (refine wpList_exec (by rfl) (.bool true) (exec_eql 29 _ (.tmp 77) (.tmp 78) rfl (pcells 0 0 zeros).toArray (pcells 0 0 zeros).toArray (by rfl) (by rfl) guard_patch true (same_p 0 0 zeros zeros_len _)) ?_)
          | fail)
        refine (HAW.out _).mono ?_
        rintro e' w6 ⟨rfl, b6⟩
        have T6 := T4.later b6
        go_wp2_with fail
        go_ret
        exact ⟨rfl, T6.2.2.2⟩
  · have d3 : decide ((1000 : Int) < (n : Int)) = true := by simp; omega
    clear hs hn ht hkn
    go_enter Try.func4, Try.ntmps4
    go_wp2_with fail
    refine (HAW.out _).mono ?_
    rintro e' w3 ⟨rfl, b3⟩
    go_wp2_with fail
    go_ret
    exact ⟨rfl, b3⟩
end Go.Proofs.Yticdpfjajkfheaa

/- CardwirePuts: the walk. -/
namespace Go.Proofs.Yticdpfjajkfheaa
set_option linter.unusedVariables false
open Go Go.RowKit BitM OctM

theorem pbs_len (x : BitVec 32) (lab : Int) (f : List V3) : (pbs x lab f).length ≤ 400 := by
  unfold pbs
  split
  · simp
  · simp only [List.length_append]
    have h1 := held_len (x.toNat : Int)
    have h2 := held_len lab
    have h5 := fbs_len (lst x 8) f
    have h6 := lst_len x 8
    rw [flds_lst]
    split <;> first | omega | (simp only [List.length_nil]; omega)

set_option maxRecDepth 100000 in
set_option maxHeartbeats 6400000 in
theorem walk_wputs (id ver lab pl : Int) (x : BitVec 32) (C P : List V3) (A : Option Addr) (n c : Nat) (l : List UInt8) (w : World) (hC : C.length = 8) (hP : P.length = 8) (hlb : 0 ≤ lab) (hpl : 0 ≤ pl) (hn : l.length = n) (hs : Sees w w.heap.size A (bvs l)) :
    Calls Try.prog 3 #[.agg (ccells id ver lab C).toArray, .agg (pcells (x.toNat : Int) pl P).toArray, .slice A n c] w fun e w' => e = .returned (.bool true) ∧ Below w.heap.size w w' := by
  have HCL : Hid ((ccells id ver lab C).length = 27) := Lib.hid (ccells_len id ver lab hC)
  have HPL : Hid ((pcells (x.toNat : Int) pl P).length = 26) := Lib.hid (pcells_len (x.toNat : Int) pl hP)
  have HFC : Hid ((fcells C).length = 24) := Lib.hid (by rw [fcells_len, hC])
  have HFP : Hid ((fcells P).length = 24) := Lib.hid (by rw [fcells_len, hP])
  have HA := Lib.hid (fun wx : World => large_any C wx hC)
  have HB := Lib.hid (fun wx : World => large_any P wx hP)
  have B0 := Blk.new w (ccells id ver lab C) 27
  have B1 := Blk.new (w.alloc (.cells (ccells id ver lab C).toArray 27)) (pcells (x.toNat : Int) pl P) 29
  have hw0 := ((Below.refl w.heap.size w).alloc (Nat.le_refl _) (.cells (ccells id ver lab C).toArray 27)).alloc (by simp) (.cells (pcells (x.toNat : Int) pl P).toArray 29)
  replace B0 := B0.alloc (.cells (pcells (x.toNat : Int) pl P).toArray 29)
  have hs1 : (w.alloc (.cells (ccells id ver lab C).toArray 27)).heap.size = w.heap.size + 1 := by simp
  rw [hs1] at B1
  obtain ⟨v, hv⟩ : ∃ v, v = C[0]'(by omega) := ⟨_, rfl⟩
  have HLV0 : Hid (∀ wx : World, Blk wx w.heap.size (ccells id ver lab C) → wx.rangeAt w.heap.size 3 (vcells v)) := Lib.hid (fun wx h => range3 (v := v) (by rw [hv]; exact Blk.field (o := 3) h 0 rfl (by omega)))
  obtain ⟨ss, hss'⟩ : ∃ z, z = str l := ⟨_, rfl⟩
  have hss := hss'
  have zs : ss.size = n := by rw [hss, str_size, hn]
  obtain ⟨lv, hlv⟩ : ∃ z, z = l ++ vbs v := ⟨_, rfl⟩
  obtain ⟨kv, hkv⟩ : ∃ z, z = lv.length := ⟨_, rfl⟩
  obtain ⟨rv, hrv⟩ : ∃ z, z = str (vbs v) := ⟨_, rfl⟩
  obtain ⟨sv, hsv⟩ : ∃ z, z = str lv := ⟨_, rfl⟩
  have addv : ss ++ rv = sv := by rw [hss, hrv, str_append, hsv, hlv]
  have zv : rv.size ≤ 40 := by rw [hrv, str_size]; exact vbs_len v
  have KV : Hid (lv.length = kv) := Lib.hid hkv.symm
  have CV : Hid (∀ (wx : World) (A' : Option Addr) (c' : Nat) (h : Sees wx wx.heap.size A' (bvs lv)), (convert 30 9 (.slice A' kv c')).run Try.prog wx = .ok (.string sv) wx) := Lib.hid (fun wx A' c' h => str_conv wx wx.heap.size A' kv c' lv sv hkv.symm h hsv)
  obtain ⟨lc, hlc⟩ : ∃ z, z = l ++ cbs id ver lab C := ⟨_, rfl⟩
  obtain ⟨kc, hkc⟩ : ∃ z, z = lc.length := ⟨_, rfl⟩
  obtain ⟨rc, hrc⟩ : ∃ z, z = str (cbs id ver lab C) := ⟨_, rfl⟩
  obtain ⟨sc, hsc⟩ : ∃ z, z = str lc := ⟨_, rfl⟩
  have addc : ss ++ rc = sc := by rw [hss, hrc, str_append, hsc, hlc]
  have zc : rc.size ≤ 400 := by rw [hrc, str_size]; exact cbs_len id ver lab C
  have KC : Hid (lc.length = kc) := Lib.hid hkc.symm
  have CC : Hid (∀ (wx : World) (A' : Option Addr) (c' : Nat) (h : Sees wx wx.heap.size A' (bvs lc)), (convert 30 9 (.slice A' kc c')).run Try.prog wx = .ok (.string sc) wx) := Lib.hid (fun wx A' c' h => str_conv wx wx.heap.size A' kc c' lc sc hkc.symm h hsc)
  obtain ⟨lp, hlp⟩ : ∃ z, z = l ++ pbs x pl P := ⟨_, rfl⟩
  obtain ⟨kp, hkp⟩ : ∃ z, z = lp.length := ⟨_, rfl⟩
  obtain ⟨rp, hrp⟩ : ∃ z, z = str (pbs x pl P) := ⟨_, rfl⟩
  obtain ⟨sp, hsp⟩ : ∃ z, z = str lp := ⟨_, rfl⟩
  have addp : ss ++ rp = sp := by rw [hss, hrp, str_append, hsp, hlp]
  have zp : rp.size ≤ 400 := by rw [hrp, str_size]; exact pbs_len x pl P
  have KP : Hid (lp.length = kp) := Lib.hid hkp.symm
  have CP : Hid (∀ (wx : World) (A' : Option Addr) (c' : Nat) (h : Sees wx wx.heap.size A' (bvs lp)), (convert 30 9 (.slice A' kp c')).run Try.prog wx = .ok (.string sp) wx) := Lib.hid (fun wx A' c' h => str_conv wx wx.heap.size A' kp c' lp sp hkp.symm h hsp)
  have HV : Hid (n ≤ 500 → ∀ wx : World, Le w wx → Calls Try.prog 9 #[.slice A n c, .agg (vcells v).toArray] wx (GivesBytes wx lv)) := Lib.hid (fun h5 wx hb => by rw [hlv]; exact putval_any v.1 v.2.1 v.2.2 A n c l wx hn ((hs.below hb).more hb.size) (by omega))
  have HC : Hid (n ≤ 500 → ∀ wx : World, Le w wx → Calls Try.prog 11 #[.slice A n c, .agg (ccells id ver lab C).toArray] wx (GivesBytes wx lc)) := Lib.hid (fun h5 wx hb => by rw [hlc]; exact putcard_any id ver lab C A n c l wx hC hlb hn ((hs.below hb).more hb.size) (by omega))
  have HP : Hid (n ≤ 500 → ∀ wx : World, Le w wx → Calls Try.prog 13 #[.slice A n c, .agg (pcells (x.toNat : Int) pl P).toArray] wx (GivesBytes wx lp)) := Lib.hid (fun h5 wx hb => by rw [hlp]; exact putpatch_any x pl P A n c l wx hP hpl hn ((hs.below hb).more hb.size) (by omega))
  have RV : Hid (∀ wx : World, Calls Try.prog 10 #[.agg (vcells v).toArray] wx fun e w' => e = .returned (.string rv) ∧ Below wx.heap.size wx w') := Lib.hid (fun wx => by rw [hrv]; exact rputval_any v.1 v.2.1 v.2.2 wx)
  have RC : Hid (∀ wx : World, Calls Try.prog 12 #[.agg (ccells id ver lab C).toArray] wx fun e w' => e = .returned (.string rc) ∧ Below wx.heap.size wx w') := Lib.hid (fun wx => by rw [hrc]; exact rputcard_any id ver lab C wx hC hlb)
  have RP : Hid (∀ wx : World, Calls Try.prog 14 #[.agg (pcells (x.toNat : Int) pl P).toArray] wx fun e w' => e = .returned (.string rp) ∧ Below wx.heap.size wx w') := Lib.hid (fun wx => by rw [hrp]; exact rputpatch_any x pl P wx hP hpl)
  have HSS : Hid (∀ wx : World, Le w wx → (convert 30 9 (.slice A n c)).run Try.prog wx = .ok (.string ss) wx) := Lib.hid (fun wx hb => str_conv wx w.heap.size A n c l ss hn (hs.below hb) hss)
  have RF := B0.fieldsC
  have D1 := Blk.fieldsP B1
  obtain ⟨cc, hcc⟩ : ∃ z, z = ccells id ver lab C := ⟨_, rfl⟩
  obtain ⟨pc, hpc⟩ : ∃ z, z = pcells (x.toNat : Int) pl P := ⟨_, rfl⟩
  have HFP2 : Hid (∀ wx : World, Blk wx (w.heap.size + 1) pc → wx.rangeAt (w.heap.size + 1) 2 (fcells P)) := Lib.hid (fun wx h => by rw [hpc] at h; exact h.fieldsP)
  rw [← hcc] at HLV0 HC RC B0 B1 RF hw0 HCL
  rw [← hpc] at B0 B1 RF hw0 HPL HP RP
  rw [← hcc, ← hpc]
  clear hcc hpc D1 hs1 hrv hrc hrp hsv hsc hsp hlv hlc hlp hkv hkc hkp hss hss' hv hs hn hC hP
  generalize hW : (w.alloc (.cells cc.toArray 27)).alloc (.cells pc.toArray 29) = W at *
  have HW := Lib.hid hW
  have HBW := Lib.hid hw0
  clear hW hw0
  have hu8 := Try.underlying25
  have hu24 := Try.underlying24
  have hu27 := Try.underlying27
  have hu29 := Try.underlying29
  rw [← HW.out] at RF
  obtain ⟨t1, ht1⟩ : ∃ t, t = tooLong C := ⟨_, rfl⟩
  obtain ⟨t2, ht2⟩ : ∃ t, t = tooLong P := ⟨_, rfl⟩
  rw [← ht1] at HA
  rw [← ht2] at HB
  clear ht1 ht2
  cases t1
  all_goals
    go_enter Try.func3, Try.ntmps3
    go_wp2_with (first
      | (refine wpList_load_mid rfl 25 (.tmp 8) rfl w.heap.size 3 rfl (fcells C) _ RF hu8 rfl (by rw [HFC.out]; exact info_fields) ?_)
      | fail)
    rw [HW.out]
    refine (HA.out W).mono ?_
    rintro e w1 ⟨rfl, hb⟩
    have hb1 := HBW.out.trans (hb.mono HBW.out.size)
    have C0 := B0.later hb
    have C1 := B1.later hb
    clear RF B0 B1 HA hb HBW HW
  · have RF := HFP2.out _ C1
    cases t2
    all_goals
      go_wp2_with (first
        | (refine wpList_load_g (by rfl) 25 (.tmp 12) rfl (w.heap.size + 1) 2 rfl (fcells P) _ RF hu8 rfl (by rw [HFP.out]; exact info_fields) ?_)
        | fail)
      refine (HB.out _).mono ?_
      rintro e w2 ⟨rfl, hb⟩
      have hb2 := hb1.trans (hb.mono hb1.size)
      have D0 := C0.later hb
      have D1 := C1.later hb
      clear RF C0 C1 HB hb hb1
    · by_cases h5 : n ≤ 500
      · have d5 : decide ((500 : Int) < (n : Int)) = false := by simp; omega
        replace HV : Hid (∀ wx : World, Le w2 wx → Calls Try.prog 9 #[.slice A n c, .agg (vcells v).toArray] wx (GivesBytes wx lv)) := Lib.hid (fun wx hl => HV.out h5 wx (hb2.trans (hl.mono hb2.size)))
        replace HC : Hid (∀ wx : World, Le w2 wx → Calls Try.prog 11 #[.slice A n c, .agg cc.toArray] wx (GivesBytes wx lc)) := Lib.hid (fun wx hl => HC.out h5 wx (hb2.trans (hl.mono hb2.size)))
        replace HP : Hid (∀ wx : World, Le w2 wx → Calls Try.prog 13 #[.slice A n c, .agg pc.toArray] wx (GivesBytes wx lp)) := Lib.hid (fun wx hl => HP.out h5 wx (hb2.trans (hl.mono hb2.size)))
        have hr := HSS.out w2 hb2
        have HLV : Hid (∀ wx, Le w2 wx → wx.rangeAt w.heap.size 3 (vcells v)) := Lib.hid (fun wx hl => HLV0.out wx (D0.later hl))
        have HLC : Hid (∀ wx, Le w2 wx → wx.rangeAt w.heap.size 0 cc) := Lib.hid (fun wx hl => (D0.later hl).wholeC)
        have HLP : Hid (∀ wx, Le w2 wx → wx.rangeAt (w.heap.size + 1) 0 pc) := Lib.hid (fun wx hl => (D1.later hl).wholeC)
        clear D0 D1 HLV0 HFP2 HSS
        go_wp2_with (first
          | (refine wpList_exec (by rfl) (.string ss) (exec_conv (.tmp 22) 30 9 rfl _ rfl _ hr) ?_)
          | fail)
        refine wp_region_steady [(28, relSee kv lv), (40, relSee kc lc), (51, relSee kp lp)] 62 (by kernel_rfl) (by kernel_rfl) (by kernel_rfl) (by rfl) ?_
        iterate 3 (refine wpG_quiet (by rfl) (by rfl) (by rfl) (fun K hK => ?_); go_big_quiet_op; refine hK _ ?_; clear hK K)
        refine wpG_run (by rfl) (by rfl) (.agg (vcells v).toArray) (fun w1 hl => exec_load 24 (.tmp 26) rfl w.heap.size 3 rfl (vcells v) _ (HLV.out w1 hl.1) hu24 rfl info_val) ?_
        simp only [Act.put, List.setIfInBounds_toArray, List.set_cons_zero, List.set_cons_succ]
        refine wpG_calls (relSee kv lv) (by rfl) (by rfl) 9 #[.slice A n c, .agg (vcells v).toArray] (by intro _; simp [go_sem]) (fun w1 hl => (HV.out w1 hl.1).mono ?_) ?_
        · intro e w2 h
          exact gives_see KV.out h
        rintro _ ⟨_, _, _, ⟨A1, c1, rfl, _⟩⟩
        simp only [Act.put, List.setIfInBounds_toArray, List.set_cons_zero, List.set_cons_succ]
        refine wpG_run (by rfl) (by rfl) (.string sv) (fun w1 hl => ?_) ?_
        · obtain ⟨A2, c2, h2, s2⟩ := hl.2 28 _ (by simp [Op.operands]) rfl (by intro h; cases h)
          cases h2
          exact exec_conv (.tmp 28) 30 9 rfl _ rfl _ (CV.out w1 A1 c1 s2)
        simp only [Act.put, List.setIfInBounds_toArray, List.set_cons_zero, List.set_cons_succ]
        iterate 3 (refine wpG_quiet (by rfl) (by rfl) (by rfl) (fun K hK => ?_); go_big_quiet_op; refine hK _ ?_; clear hK K)
        refine wpG_run (by rfl) (by rfl) (.agg (vcells v).toArray) (fun w1 hl => exec_load 24 (.tmp 32) rfl w.heap.size 3 rfl (vcells v) _ (HLV.out w1 hl.1) hu24 rfl info_val) ?_
        simp only [Act.put, List.setIfInBounds_toArray, List.set_cons_zero, List.set_cons_succ]
        refine wpG_call (by rfl) (by rfl) 10 #[.agg (vcells v).toArray] (.string rv) (by intro _; simp [go_sem]) (by kernel_rfl) (fun w1 hl => RV.out w1) ?_
        simp only [Act.put, List.setIfInBounds_toArray, List.set_cons_zero, List.set_cons_succ]
        iterate 4 (refine wpG_quiet (by rfl) (by rfl) (by rfl) (fun K hK => ?_); go_big_quiet_op; refine hK _ ?_; clear hK K)
        refine wpG_run (by rfl) (by rfl) (.agg cc.toArray) (fun w1 hl => exec_load 27 (.tmp 3) rfl w.heap.size 0 rfl cc _ (HLC.out w1 hl.1) hu27 rfl (by rw [HCL.out]; exact info_card)) ?_
        simp only [Act.put, List.setIfInBounds_toArray, List.set_cons_zero, List.set_cons_succ]
        refine wpG_calls (relSee kc lc) (by rfl) (by rfl) 11 #[.slice A n c, .agg cc.toArray] (by intro _; simp [go_sem]) (fun w1 hl => (HC.out w1 hl.1).mono ?_) ?_
        · intro e w2 h
          exact gives_see KC.out h
        rintro _ ⟨_, _, _, ⟨A3, c3, rfl, _⟩⟩
        simp only [Act.put, List.setIfInBounds_toArray, List.set_cons_zero, List.set_cons_succ]
        refine wpG_run (by rfl) (by rfl) (.string sc) (fun w1 hl => ?_) ?_
        · obtain ⟨A2, c2, h2, s2⟩ := hl.2 40 _ (by simp [Op.operands]) rfl (by intro h; cases h)
          cases h2
          exact exec_conv (.tmp 40) 30 9 rfl _ rfl _ (CC.out w1 A3 c3 s2)
        simp only [Act.put, List.setIfInBounds_toArray, List.set_cons_zero, List.set_cons_succ]
        iterate 1 (refine wpG_quiet (by rfl) (by rfl) (by rfl) (fun K hK => ?_); go_big_quiet_op; refine hK _ ?_; clear hK K)
        refine wpG_run (by rfl) (by rfl) (.agg cc.toArray) (fun w1 hl => exec_load 27 (.tmp 3) rfl w.heap.size 0 rfl cc _ (HLC.out w1 hl.1) hu27 rfl (by rw [HCL.out]; exact info_card)) ?_
        simp only [Act.put, List.setIfInBounds_toArray, List.set_cons_zero, List.set_cons_succ]
        refine wpG_call (by rfl) (by rfl) 12 #[.agg cc.toArray] (.string rc) (by intro _; simp [go_sem]) (by kernel_rfl) (fun w1 hl => RC.out w1) ?_
        simp only [Act.put, List.setIfInBounds_toArray, List.set_cons_zero, List.set_cons_succ]
        iterate 5 (refine wpG_quiet (by rfl) (by rfl) (by rfl) (fun K hK => ?_); go_big_quiet_op; refine hK _ ?_; clear hK K)
        refine wpG_run (by rfl) (by rfl) (.agg pc.toArray) (fun w1 hl => exec_load 29 (.tmp 4) rfl (w.heap.size + 1) 0 rfl pc _ (HLP.out w1 hl.1) hu29 rfl (by rw [HPL.out]; exact info_patch)) ?_
        simp only [Act.put, List.setIfInBounds_toArray, List.set_cons_zero, List.set_cons_succ]
        refine wpG_calls (relSee kp lp) (by rfl) (by rfl) 13 #[.slice A n c, .agg pc.toArray] (by intro _; simp [go_sem]) (fun w1 hl => (HP.out w1 hl.1).mono ?_) ?_
        · intro e w2 h
          exact gives_see KP.out h
        rintro _ ⟨_, _, _, ⟨A5, c5, rfl, _⟩⟩
        simp only [Act.put, List.setIfInBounds_toArray, List.set_cons_zero, List.set_cons_succ]
        refine wpG_run (by rfl) (by rfl) (.string sp) (fun w1 hl => ?_) ?_
        · obtain ⟨A2, c2, h2, s2⟩ := hl.2 51 _ (by simp [Op.operands]) rfl (by intro h; cases h)
          cases h2
          exact exec_conv (.tmp 51) 30 9 rfl _ rfl _ (CP.out w1 A5 c5 s2)
        simp only [Act.put, List.setIfInBounds_toArray, List.set_cons_zero, List.set_cons_succ]
        iterate 1 (refine wpG_quiet (by rfl) (by rfl) (by rfl) (fun K hK => ?_); go_big_quiet_op; refine hK _ ?_; clear hK K)
        refine wpG_run (by rfl) (by rfl) (.agg pc.toArray) (fun w1 hl => exec_load 29 (.tmp 4) rfl (w.heap.size + 1) 0 rfl pc _ (HLP.out w1 hl.1) hu29 rfl (by rw [HPL.out]; exact info_patch)) ?_
        simp only [Act.put, List.setIfInBounds_toArray, List.set_cons_zero, List.set_cons_succ]
        refine wpG_call (by rfl) (by rfl) 14 #[.agg pc.toArray] (.string rp) (by intro _; simp [go_sem]) (by kernel_rfl) (fun w1 hl => RP.out w1) ?_
        simp only [Act.put, List.setIfInBounds_toArray, List.set_cons_zero, List.set_cons_succ]
        iterate 4 (refine wpG_quiet (by rfl) (by rfl) (by rfl) (fun K hK => ?_); go_big_quiet_op; refine hK _ ?_; clear hK K)
        refine wpG_call (by rfl) (by rfl) 8 #[] (.bool true) (by intro _; simp [go_sem]) (by kernel_rfl) (fun w1 hl => wire_awake w1) ?_
        simp only [Act.put, List.setIfInBounds_toArray, List.set_cons_zero, List.set_cons_succ]
        iterate 2 (refine wpG_quiet (by rfl) (by rfl) (by rfl) (fun K hK => ?_); go_big_quiet_op; refine hK _ ?_; clear hK K)
        refine wpG_nil fun w1 hl _ => ?_
        have hb3 := hb2.trans (hl.mono hb2.size)
        go_wp2_with fail
        go_ret
        exact ⟨rfl, hb3⟩
      · have d5 : decide ((500 : Int) < (n : Int)) = true := by simp; omega
        clear HV HC HP CV CC CP addv addc addp
        go_wp2_with fail
        refine (wire_awake _).mono ?_
        rintro e w9 ⟨rfl, b9⟩
        go_wp2_with fail
        go_ret
        exact ⟨rfl, hb2.trans (b9.mono hb2.size)⟩
    · clear HV HC HP CV CC CP addv addc addp
      go_wp2_with fail
      refine (wire_awake _).mono ?_
      rintro e w9 ⟨rfl, b9⟩
      go_wp2_with fail
      go_ret
      exact ⟨rfl, hb2.trans (b9.mono hb2.size)⟩
  · clear HV HC HP CV CC CP addv addc addp C0 C1
    go_wp2_with fail
    refine (wire_awake _).mono ?_
    rintro e w9 ⟨rfl, b9⟩
    go_wp2_with fail
    go_ret
    exact ⟨rfl, hb1.trans (b9.mono hb1.size)⟩
end Go.Proofs.Yticdpfjajkfheaa
