/- Patches as bytes: what PutPatch returns, the program's and the document's. -/
import Derived.Test.YtnhcjadkbogioaaK6
import Derived.Test.YtnhcjadkbogioaaK2
import Derived.Test.YtnhcjadkbogioaaK3
namespace Go.Proofs.Ytnhcjadkbogioaa
set_option linter.unusedVariables false
open Go Go.RowKit BitM OctM

theorem flds_lst (x : BitVec 32) : flds x = lst x 8 := by
  have hh : ∀ n : Nat, has (x &&& 255#32) (n : Int) = (has x n && decide (n < 8)) := fun n => by
    rw [has_and_255 x n]
    first | rfl | (congr 1; simp; done) | (congr 1; simp; omega)
  unfold flds
  rw [lst_end (j := 8) (fun i hi => by rw [hh, decide_eq_false (by omega), Bool.and_false]) 32 (by omega)]
  unfold lst
  congr 1
  refine List.filter_congr fun i hi => ?_
  have h8 : i < 8 := by simpa using hi
  rw [hh, decide_eq_true h8, Bool.and_true]

set_option maxRecDepth 100000 in
set_option maxHeartbeats 3200000 in
theorem putpatch_any (x : BitVec 32) (lab : Int) (f : List V3) (A : Option Addr) (n c : Nat) (l : List UInt8) (w : World) (hf : f.length = 8) (hlb : 0 ≤ lab) (hn : l.length = n) (hs : Sees w w.heap.size A (bvs l)) (hm : n ≤ 10000) :
    Calls Try.prog 23 #[.slice A n c, .agg (pcells (x.toNat : Int) lab f).toArray] w (GivesBytes w (l ++ pbs x lab f)) := by
  have HCK := Lib.hid (fun wx : World => pcheck_any x lab f wx hf)
  have HCL := Lib.hid (fun (wx : World) (hb : Below w.heap.size w wx) => clone_any A n c l wx hn ((hs.below hb).more hb.size) (by omega))
  have HPLen : Hid ((pcells (x.toNat : Int) lab f).length = 26) := Lib.hid (pcells_len _ _ hf)
  have B0 := Blk.new w (pcells (x.toNat : Int) lab f) 27
  obtain ⟨pc, hpc⟩ : ∃ pc, pc = pcells (x.toNat : Int) lab f := ⟨_, rfl⟩
  rw [← hpc] at HCK B0 HPLen ⊢
  have hb0 := (Below.refl w.heap.size w).alloc (Nat.le_refl _) (.cells pc.toArray 27)
  have RG := B0.wholeC
  have hu := Try.underlying27
  have HFL : Hid ((fcells f).length = 24) := Lib.hid (by rw [fcells_len, hf])
  have hu8 := Try.underlying25
  obtain ⟨er, her⟩ : ∃ b, b = pchk x lab f := ⟨_, rfl⟩
  rw [← her] at HCK
  by_cases h0 : er = 0
  · have hok : pchk x lab f = 0 := her.symm.trans h0
    have hlab : lab < 65536 := by
      unfold pchk at hok
      split at hok
      · cases hok
      · split at hok
        · cases hok
        · omega
    have HB : Hid (l ++ pbs x lab f = l ++ ((enc (held (x.toNat : Int)) ++ (if has x 8 = true then enc (held lab) else [])) ++ fbs (flds x) f)) := Lib.hid (by unfold pbs; rw [if_neg (by rw [hok]; simp)])
    obtain ⟨R, hR⟩ : ∃ R, R = l ++ pbs x lab f := ⟨_, rfl⟩
    rw [← hR] at HB ⊢
    have HX := Lib.hid (fun (A' : Option Addr) (n' c' : Nat) (l' : List UInt8) (wx : World) (hn' : l'.length = n') (hs' : Sees wx wx.heap.size A' (bvs l')) (hm' : n' ≤ 10000) => putvals_any x f A' n' c' l' wx hf hn' hs' hm')
    have HLB := Lib.hid (fun wx : World => labels_any x wx)
    have hx4 := x.isLt
    have hfl := flds_len x
    have hf5 := fbs_len (flds x) f
    obtain ⟨X, hX⟩ : ∃ X, X = x.toNat := ⟨_, rfl⟩
    rw [← hX] at HX HB hx4 HLB hpc
    have HPC := Lib.hid hpc
    obtain ⟨b8, hb8⟩ : ∃ b, b = has x 8 := ⟨_, rfl⟩
    rw [← hb8] at HLB HB
    have be : (er != 0) = false := by simp [h0]
    obtain ⟨r1, hr1⟩ : ∃ r, r = enc (held (X : Int)) := ⟨_, rfl⟩
    obtain ⟨r2, hr2⟩ : ∃ r, r = r1 ++ (if b8 = true then enc (held lab) else []) := ⟨_, rfl⟩
    obtain ⟨r5, hr5⟩ : ∃ r, r = r2 ++ fbs (flds x) f := ⟨_, rfl⟩
    have e1 : r1.length ≤ 6 := by rw [hr1]; exact held_len _
    have e2 : r2.length ≤ 12 := by
      rw [hr2, List.length_append]
      have := held_len lab
      split <;> simp <;> omega
    have e5 : r5.length ≤ 2000 := by rw [hr5, List.length_append]; omega
    rw [← hr1, ← hr2, ← hr5] at HB
    have HN1 : Hid (∀ wx : World, Calls Try.prog 21 #[.slice none 0 0, .int .i64 (X : Int)] wx (GivesBytes wx r1)) := Lib.hid (fun wx => by
      have h := oct_num none 0 0 [] (X : Int) wx rfl Sees.nil_ (by omega)
      rw [List.nil_append, ← hr1] at h
      exact h)
    obtain ⟨n1, hn1⟩ : ∃ n, n = r1.length := ⟨_, rfl⟩
    obtain ⟨n2, hn2⟩ : ∃ n, n = r2.length := ⟨_, rfl⟩
    have HN2 : Hid (b8 = true → ∀ (A' : Option Addr) (c' : Nat) (wx : World), Sees wx wx.heap.size A' (bvs r1) → Calls Try.prog 21 #[.slice A' n1 c', .int .i64 lab] wx (GivesBytes wx r2)) := Lib.hid (fun hb A' c' wx hs' => by
      have h := oct_num A' n1 c' r1 lab wx hn1.symm hs' (by omega)
      rw [hb, if_pos rfl] at hr2
      rw [← hr2] at h; exact h)
    have HSK : Hid (b8 = false → r1 = r2) := Lib.hid (fun hb => by rw [hr2, hb]; simp)
    have HN5 : Hid (∀ (A' : Option Addr) (c' : Nat) (wx : World), Sees wx wx.heap.size A' (bvs r2) → Calls Try.prog 51 #[.slice A' n2 c', .int .u32 (X : Int), .agg (fcells f).toArray] wx (SeesBytes wx r5)) := Lib.hid (fun A' c' wx hs' => by
      have h := HX.out A' n2 c' r2 wx hn2.symm hs' (by omega)
      rw [← hr5] at h; exact h)
    have M1 := Lib.hid hn1
    have M2 := Lib.hid hn2
    have HS := Lib.hid hs
    have HNL := Lib.hid hn
    clear hr1 hr2 hr5 hn1 hn2 HX hs hn e1 e2 hR hX hpc hb8 hok her h0 hf hf5 hfl HCL
    obtain ⟨d0, d1⟩ := Blk.patch (m := (X : Int)) (lab := lab) (f := f) (by have := B0; rw [HPC.out] at this; exact this)
    clear d0 d1
    cases b8
    all_goals
      go_enter Try.func23, Try.ntmps23
      go_wp2_with (first
        | (refine wpList_load_mid rfl 27 (.tmp 3) rfl w.heap.size 0 rfl pc _ RG hu rfl (by rw [HPLen.out]; exact info_patch) ?_)
        | fail)
      refine (HCK.out _).mono ?_
      rintro e w1 ⟨rfl, hb1⟩
      have hbw := hb0.trans (hb1.mono hb0.size)
      replace B0 := B0.later hb1
      obtain ⟨p0, p1⟩ := Blk.patch (m := (X : Int)) (lab := lab) (f := f) (w := w1) (g := w.heap.size) (by rw [← HPC.out]; exact B0)
      clear RG hb1 hb0 HCK
      go_wp2_with fail
      refine (HN1.out _).mono ?_
      rintro e w2 ⟨A2, c2, rfl, o2, b2⟩
      have hs2 := o2.sees
      replace B0 := B0.later b2
      replace hbw := hbw.trans (b2.mono hbw.size)
      clear p0 p1
      obtain ⟨p0, p1⟩ := Blk.patch (m := (X : Int)) (lab := lab) (f := f) (w := w2) (g := w.heap.size) (by rw [← HPC.out]; exact B0)
      rw [← M1.out]
      clear o2 b2
      go_wp2_with fail
      refine (HLB.out _).mono ?_
      rintro e w3 ⟨rfl, rfl⟩
    · have HS12 := HSK.out trivial
      have hn12 : n1 = n2 := by rw [M1.out, M2.out, HS12]
      rw [HS12] at hs2
      clear HSK HN2 HS12 M1 HN1 p1
      subst hn12
      have RF : w2.rangeAt w.heap.size 2 (fcells f) := Blk.fieldsP (by rw [← HPC.out]; exact B0)
      go_wp2_with (first
        | (refine wpList_load_mid rfl 25 (.tmp 27) rfl w.heap.size 2 rfl (fcells f) _ RF hu8 rfl (by rw [HFL.out]; exact info_fields) ?_)
        | fail)
      refine (HN5.out _ _ _ hs2).mono ?_
      rintro e w6 ⟨A5, c5, rfl, s5, b5⟩
      replace hbw := hbw.trans (b5.mono hbw.size)
      have hsA : Sees w6 w6.heap.size A (bvs l) := (HS.out.below hbw).more hbw.size
      obtain ⟨n5, hn5⟩ : ∃ n, n = r5.length := ⟨_, rfl⟩
      rw [← hn5]
      have HCC := Lib.hid (concat_any w6.heap.size 2 2 [l, r5] (w6.alloc (.cells #[.slice A n c, .slice A5 n5 c5] 33)) rfl (by simp) (flat2 33 HNL.out hn5.symm hsA s5) (by omega) (by have := HNL.out; simp; omega))
      have HFL2 : Hid ([l, r5].flatten = R) := Lib.hid (by rw [HB.out]; simp)
      rw [HFL2.out] at HCC
      have hbw2 := hbw.alloc hbw.size (.cells #[.slice A n c, .slice A5 n5 c5] 33)
      clear hn5 s5 b5 B0 RF hsA hbw
      go_wp2_with fail
      refine HCC.out.mono ?_
      rintro e w7 ⟨A7, c7, rfl, o7, b7⟩
      go_wp2_with fail
      go_ret
      exact ⟨A7, c7, rfl, o7.lower hbw2.size, hbw2.trans (b7.mono hbw2.size)⟩
    · clear HSK
      go_wp2_with fail
      refine (HN2.out trivial _ _ _ hs2).mono ?_
      rintro e w4 ⟨A4, c4, rfl, o4, b4⟩
      have hs4 := o4.sees
      replace B0 := B0.later b4
      replace hbw := hbw.trans (b4.mono hbw.size)
      rw [← M2.out]
      clear p0 p1
      obtain ⟨p0, p1⟩ := Blk.patch (m := (X : Int)) (lab := lab) (f := f) (w := w4) (g := w.heap.size) (by rw [← HPC.out]; exact B0)
      have RF : w4.rangeAt w.heap.size 2 (fcells f) := Blk.fieldsP (by rw [← HPC.out]; exact B0)
      clear o4 b4 hs2 HN2 HN1
      go_wp2_with (first
        | (refine wpList_load_mid rfl 25 (.tmp 27) rfl w.heap.size 2 rfl (fcells f) _ RF hu8 rfl (by rw [HFL.out]; exact info_fields) ?_)
        | fail)
      refine (HN5.out _ _ _ hs4).mono ?_
      rintro e w6 ⟨A5, c5, rfl, s5, b5⟩
      replace hbw := hbw.trans (b5.mono hbw.size)
      have hsA : Sees w6 w6.heap.size A (bvs l) := (HS.out.below hbw).more hbw.size
      obtain ⟨n5, hn5⟩ : ∃ n, n = r5.length := ⟨_, rfl⟩
      rw [← hn5]
      have HCC := Lib.hid (concat_any w6.heap.size 2 2 [l, r5] (w6.alloc (.cells #[.slice A n c, .slice A5 n5 c5] 33)) rfl (by simp) (flat2 33 HNL.out hn5.symm hsA s5) (by omega) (by have := HNL.out; simp; omega))
      have HFL2 : Hid ([l, r5].flatten = R) := Lib.hid (by rw [HB.out]; simp)
      rw [HFL2.out] at HCC
      have hbw2 := hbw.alloc hbw.size (.cells #[.slice A n c, .slice A5 n5 c5] 33)
      clear hn5 s5 b5 B0 RF hsA hbw
      go_wp2_with fail
      refine HCC.out.mono ?_
      rintro e w7 ⟨A7, c7, rfl, o7, b7⟩
      go_wp2_with fail
      go_ret
      exact ⟨A7, c7, rfl, o7.lower hbw2.size, hbw2.trans (b7.mono hbw2.size)⟩
  · have HB : Hid (l ++ pbs x lab f = l) := Lib.hid (by unfold pbs; rw [if_pos (by rw [← her]; exact h0)]; simp)
    rw [HB.out]
    have be : (er != 0) = true := by simp [h0]
    clear HB her h0 hpc hs hn
    go_enter Try.func23, Try.ntmps23
    go_wp2_with (first
      | (refine wpList_load_mid rfl 27 (.tmp 3) rfl w.heap.size 0 rfl pc _ RG hu rfl (by rw [HPLen.out]; exact info_patch) ?_)
      | fail)
    refine (HCK.out _).mono ?_
    rintro e w1 ⟨rfl, hb1⟩
    have hbw := hb0.trans (hb1.mono hb0.size)
    clear RG hb1 hb0
    go_wp2_with fail
    refine (HCL.out _ hbw).mono ?_
    rintro e w2 ⟨A2, c2, rfl, ho, hb2⟩
    go_wp2_with fail
    go_ret
    exact ⟨A2, c2, rfl, ho.lower hbw.size, hbw.trans (hb2.mono hbw.size)⟩
end Go.Proofs.Ytnhcjadkbogioaa

/- Patches as bytes, by the document: what its PutPatch returns. -/
namespace Go.Proofs.Ytnhcjadkbogioaa
set_option linter.unusedVariables false
open Go Go.RowKit BitM OctM

theorem fbs_lst_put (x : BitVec 32) (f : List V3) (k : Nat) (h : has x (k : Int) = true) : fbs (lst x (k + 1)) f = fbs (lst x k) f ++ vbs (f.getD k zv) := by
  rw [lst_succ, if_pos h, fbs_snoc]; simp
theorem lst_skip (x : BitVec 32) (k : Nat) (h : has x (k : Int) = false) : lst x (k + 1) = lst x k := by
  rw [lst_succ, if_neg (by rw [h]; simp)]; simp

set_option maxRecDepth 100000 in
set_option maxHeartbeats 3200000 in
theorem rputpatch_any (x : BitVec 32) (lab : Int) (f : List V3) (w : World) (hf : f.length = 8) (hlb : 0 ≤ lab) :
    Calls Try.prog 28 #[.agg (pcells (x.toNat : Int) lab f).toArray] w fun e w' => e = .returned (.string (str (pbs x lab f))) ∧ Below w.heap.size w w' := by
  have HCK := Lib.hid (fun wx : World => rpcheck_any x lab f wx hf)
  have HPLen : Hid ((pcells (x.toNat : Int) lab f).length = 26) := Lib.hid (pcells_len _ _ hf)
  have B0 := Blk.new w (pcells (x.toNat : Int) lab f) 27
  obtain ⟨pc, hpc⟩ : ∃ pc, pc = pcells (x.toNat : Int) lab f := ⟨_, rfl⟩
  rw [← hpc] at HCK B0 HPLen ⊢
  have hb0 := (Below.refl w.heap.size w).alloc (Nat.le_refl _) (.cells pc.toArray 27)
  have RG := B0.wholeC
  have hu := Try.underlying27
  have HF := Lib.hid hf
  obtain ⟨er, her⟩ : ∃ b, b = pchk x lab f := ⟨_, rfl⟩
  rw [← her] at HCK
  by_cases h0 : er = 0
  · have hok : pchk x lab f = 0 := her.symm.trans h0
    have hlab : lab < 65536 := by
      unfold pchk at hok
      split at hok
      · cases hok
      · split at hok
        · cases hok
        · omega
    have HB : Hid (pbs x lab f = (enc (held (x.toNat : Int)) ++ (if has x 8 = true then enc (held lab) else [])) ++ fbs (lst x 8) f) := Lib.hid (by unfold pbs; rw [if_neg (by rw [hok]; simp), flds_lst])
    obtain ⟨R, hR⟩ : ∃ R, R = str (pbs x lab f) := ⟨_, rfl⟩
    have HR := Lib.hid hR
    rw [← hR]
    have HPC := Lib.hid hpc
    have be : (er != 0) = false := by simp [h0]
    have HLB := Lib.hid (fun wx : World => rlabels_any x wx)
    have HHS := Lib.hid (fun (k : Nat) (wx : World) => rhas_any x (k : Int) wx)
    have HN1 := Lib.hid (fun wx : World => ref_num (x.toNat : Int) wx)
    have HN2 := Lib.hid (fun wx : World => ref_num lab wx)
    obtain ⟨s1, hs1⟩ : ∃ s, s = str (enc (held (x.toNat : Int))) := ⟨_, rfl⟩
    obtain ⟨s2, hs2⟩ : ∃ s, s = str (enc (held lab)) := ⟨_, rfl⟩
    rw [← hs1] at HN1
    rw [← hs2] at HN2
    have z1 : s1.size ≤ 6 := by rw [hs1, str_size]; exact held_len _
    have z2 : s2.size ≤ 6 := by rw [hs2, str_size]; exact held_len _
    obtain ⟨b8, hb8⟩ : ∃ b, b = has x 8 := ⟨_, rfl⟩
    rw [← hb8] at HLB HB
    obtain ⟨s0, hs0⟩ : ∃ s, s = if b8 = true then s1 ++ s2 else s1 := ⟨_, rfl⟩
    have z0 : s0.size ≤ 12 := by
      rw [hs0]
      split
      · rw [ByteArray.size_append]; omega
      · omega
    have HRR : Hid (∀ t : ByteArray, t = str (fbs (lst x 8) f) → s0 ++ t = R) := Lib.hid (fun t ht => by
      rw [HR.out, HB.out, hs0, ht, hs1, hs2]
      cases b8
      · simp [str_append]
      · simp [str_append])
    have HS0 : Hid (b8 = false → s1 = s0) := Lib.hid (fun hb => by rw [hs0, hb]; simp)
    have HS1 : Hid (b8 = true → s1 ++ s2 = s0) := Lib.hid (fun hb => by rw [hs0, hb]; simp)
    have hx4 := x.isLt
    obtain ⟨X, hX⟩ : ∃ X, X = x.toNat := ⟨_, rfl⟩
    rw [← hX] at HN1 hx4 HHS HLB HPC
    obtain ⟨p0, p1⟩ := Blk.patch (m := (X : Int)) (lab := lab) (f := f) (by have := B0; rw [HPC.out] at this; exact this)
    clear hs1 hs2 hs0 hR hpc hb8 hok her h0 hf hX HB p0 p1
    cases b8
    all_goals
      go_enter Try.func28, Try.ntmps28
      go_wp2_with (first
        | (refine wpList_load_mid rfl 27 (.tmp 1) rfl w.heap.size 0 rfl pc _ RG hu rfl (by rw [HPLen.out]; exact info_patch) ?_)
        | fail)
      refine (HCK.out _).mono ?_
      rintro e w1 ⟨rfl, hb1⟩
      have hbw := hb0.trans (hb1.mono hb0.size)
      replace B0 := B0.later hb1
      obtain ⟨p0, p1⟩ := Blk.patch (m := (X : Int)) (lab := lab) (f := f) (w := w1) (g := w.heap.size) (by rw [← HPC.out]; exact B0)
      clear RG hb1 hb0 HCK
      go_wp2_with fail
      refine (HN1.out _).mono ?_
      rintro e w2 ⟨rfl, hb2⟩
      replace hbw := hbw.trans (hb2.mono hbw.size)
      replace B0 := B0.later hb2
      clear p0 p1 hb2
      obtain ⟨p0, p1⟩ := Blk.patch (m := (X : Int)) (lab := lab) (f := f) (w := w2) (g := w.heap.size) (by rw [← HPC.out]; exact B0)
      go_wp2_with fail
      refine (HLB.out _).mono ?_
      rintro e w3 ⟨rfl, rfl⟩
    · have HE : Hid (s1 = s0 ++ ⟨#[]⟩) := Lib.hid (by rw [HS0.out trivial]; exact (ByteArray.append_empty (b := s0)).symm)
      have z1' : s1.size ≤ 12 := by omega
      clear HS0 HS1
      go_wp2_with fail
      clear HN1 HN2 z1 z2 HLB hx4
      go_loopw [3, 4] (fun sv i wr => ∃ k : Nat, k ≤ 8 ∧ i = .int .i64 k ∧ (∃ t u : ByteArray, sv = .string t ∧ Hid (t = s0 ++ u ∧ u = str (fbs (lst x k) f)) ∧ t.size ≤ 12 + 40 * k) ∧ Blk wr w.heap.size pc ∧ Below w.heap.size w wr) (fun _ i _ => 8 - (intOf i).toNat)
      case atStart => exact ⟨0, by omega, rfl, ⟨_, ⟨#[]⟩, rfl, Lib.hid ⟨HE.out, rfl⟩, by omega⟩, B0, hbw⟩
      case round =>
        obtain ⟨k, hk, rfl, ⟨t, u, rfl, HT, ht⟩, D0, hbr⟩ := hrel
        by_cases hlt : k < 8
        · have hkf : k < f.length := by rw [HF.out]; exact hlt
          have HH := Lib.hid (fun wx : World => HHS.out k wx)
          have c0 : ∀ kk : LW wr, kk.val.cell? ⟨w.heap.size, 0, none⟩ = some (.int .u32 (X : Int)) := fun kk => (Blk.patch (lab := lab) (f := f) (by have := D0.later kk.le; rw [HPC.out] at this; exact this)).1
          obtain ⟨p0, p1⟩ := Blk.patch (m := (X : Int)) (lab := lab) (f := f) (w := wr) (g := w.heap.size) (by rw [← HPC.out]; exact D0)
          obtain ⟨l0, l1, l2⟩ := Blk.field (pre := [.int .u32 (X : Int), .int .u32 lab]) (f := f) (g := w.heap.size) (w := wr) (by have := D0; rw [HPC.out] at this; exact this) 2 k rfl hkf
          have hg : f.getD k zv = f[k] := by simp [List.getD, hkf]
          obtain ⟨⟨v0, v1, v2⟩, hv⟩ : ∃ v, v = f[k] := ⟨_, rfl⟩
          rw [← hv] at l0 l1 l2 hg
          simp only at l0 l1 l2
          have hki : (k : Int) < 8 := by omega
          have hk0 : (0 : Int) ≤ (k : Int) := by omega
          obtain ⟨bk, hbk⟩ : ∃ b, b = has x (k : Int) := ⟨_, rfl⟩
          rw [← hbk] at HH
          cases bk
          · have HK2 : Hid (lst x (k + 1) = lst x k) := Lib.hid (lst_skip x k hbk.symm)
            clear hbk hv hg hkf l0 l1 l2 p1 c0
            go_wp2_with fail
            refine (HH.out _).mono ?_
            rintro e w4 ⟨rfl, rfl⟩
            go_wp2_with fail
            go_roundw
            case rel => exact ⟨k + 1, by omega, by go_num, ⟨t, u, rfl, Lib.hid ⟨HT.out.1, by rw [HK2.out]; exact HT.out.2⟩, by omega⟩, D0, hbr⟩
            case measure => simp [intOf]; omega
          · have HK2 : Hid (fbs (lst x (k + 1)) f = fbs (lst x k) f ++ vbs (v0, v1, v2)) := Lib.hid (by rw [← hg]; exact fbs_lst_put x f k hbk.symm)
            have HPV := Lib.hid (fun wx : World => rputval_any v0 v1 v2 wx)
            obtain ⟨t2, ht2⟩ : ∃ t2, t2 = str (vbs (v0, v1, v2)) := ⟨_, rfl⟩
            rw [← ht2] at HPV
            have hz2 : t2.size ≤ 40 := by rw [ht2, str_size]; exact vbs_len _
            have HTT : Hid (t ++ t2 = s0 ++ (u ++ t2) ∧ u ++ t2 = str (fbs (lst x (k + 1)) f)) := Lib.hid ⟨by rw [HT.out.1, ByteArray.append_assoc], by rw [HK2.out, HT.out.2, ht2]; first | exact (str_append _ _).symm | exact str_append _ _⟩
            have hsz : (t ++ t2).size = t.size + t2.size := by simp
            have HSZ := Lib.hid hsz
            clear hbk hv hg hkf ht2 hsz p1 c0
            go_wp2_with fail
            refine (HH.out _).mono ?_
            rintro e w4 ⟨rfl, rfl⟩
            go_wp2_with fail
            refine (HPV.out _).mono ?_
            rintro e w4 ⟨rfl, hb4⟩
            have D2 := D0.later hb4
            have hbr2 := hbr.trans (hb4.mono hbr.size)
            clear D0 hb4 hbr l0 l1 l2
            go_wp2_with fail
            go_roundw
            case rel => exact ⟨k + 1, by omega, by go_num, ⟨t ++ t2, u ++ t2, rfl, HTT, by rw [HSZ.out]; omega⟩, D2, hbr2⟩
            case measure => simp [intOf]; omega
        · obtain rfl : k = 8 := by omega
          have HR8 := HRR.out u HT.out.2
          rw [← HT.out.1] at HR8
          subst HR8
          clear HRR HT
          go_wp2_with fail
          go_ret
          exact ⟨rfl, hbr⟩
    · have HE : Hid (s1 ++ s2 = s0 ++ ⟨#[]⟩) := Lib.hid (by rw [HS1.out trivial]; exact (ByteArray.append_empty (b := s0)).symm)
      have z1' : (s1 ++ s2).size ≤ 12 := by rw [ByteArray.size_append]; omega
      have Z1 := Lib.hid z1'
      clear HS0 HS1 z1'
      go_wp2_with fail
      refine (HN2.out _).mono ?_
      rintro e w4 ⟨rfl, hb4⟩
      replace hbw := hbw.trans (hb4.mono hbw.size)
      replace B0 := B0.later hb4
      clear p0 p1 hb4
      go_wp2_with fail
      have z1' := Z1.out
      clear HN1 HN2 z1 z2 HLB hx4
      go_loopw [3, 4] (fun sv i wr => ∃ k : Nat, k ≤ 8 ∧ i = .int .i64 k ∧ (∃ t u : ByteArray, sv = .string t ∧ Hid (t = s0 ++ u ∧ u = str (fbs (lst x k) f)) ∧ t.size ≤ 12 + 40 * k) ∧ Blk wr w.heap.size pc ∧ Below w.heap.size w wr) (fun _ i _ => 8 - (intOf i).toNat)
      case atStart => exact ⟨0, by omega, rfl, ⟨_, ⟨#[]⟩, rfl, Lib.hid ⟨HE.out, rfl⟩, by omega⟩, B0, hbw⟩
      case round =>
        obtain ⟨k, hk, rfl, ⟨t, u, rfl, HT, ht⟩, D0, hbr⟩ := hrel
        by_cases hlt : k < 8
        · have hkf : k < f.length := by rw [HF.out]; exact hlt
          have HH := Lib.hid (fun wx : World => HHS.out k wx)
          have c0 : ∀ kk : LW wr, kk.val.cell? ⟨w.heap.size, 0, none⟩ = some (.int .u32 (X : Int)) := fun kk => (Blk.patch (lab := lab) (f := f) (by have := D0.later kk.le; rw [HPC.out] at this; exact this)).1
          obtain ⟨p0, p1⟩ := Blk.patch (m := (X : Int)) (lab := lab) (f := f) (w := wr) (g := w.heap.size) (by rw [← HPC.out]; exact D0)
          obtain ⟨l0, l1, l2⟩ := Blk.field (pre := [.int .u32 (X : Int), .int .u32 lab]) (f := f) (g := w.heap.size) (w := wr) (by have := D0; rw [HPC.out] at this; exact this) 2 k rfl hkf
          have hg : f.getD k zv = f[k] := by simp [List.getD, hkf]
          obtain ⟨⟨v0, v1, v2⟩, hv⟩ : ∃ v, v = f[k] := ⟨_, rfl⟩
          rw [← hv] at l0 l1 l2 hg
          simp only at l0 l1 l2
          have hki : (k : Int) < 8 := by omega
          have hk0 : (0 : Int) ≤ (k : Int) := by omega
          obtain ⟨bk, hbk⟩ : ∃ b, b = has x (k : Int) := ⟨_, rfl⟩
          rw [← hbk] at HH
          cases bk
          · have HK2 : Hid (lst x (k + 1) = lst x k) := Lib.hid (lst_skip x k hbk.symm)
            clear hbk hv hg hkf l0 l1 l2 p1 c0
            go_wp2_with fail
            refine (HH.out _).mono ?_
            rintro e w4 ⟨rfl, rfl⟩
            go_wp2_with fail
            go_roundw
            case rel => exact ⟨k + 1, by omega, by go_num, ⟨t, u, rfl, Lib.hid ⟨HT.out.1, by rw [HK2.out]; exact HT.out.2⟩, by omega⟩, D0, hbr⟩
            case measure => simp [intOf]; omega
          · have HK2 : Hid (fbs (lst x (k + 1)) f = fbs (lst x k) f ++ vbs (v0, v1, v2)) := Lib.hid (by rw [← hg]; exact fbs_lst_put x f k hbk.symm)
            have HPV := Lib.hid (fun wx : World => rputval_any v0 v1 v2 wx)
            obtain ⟨t2, ht2⟩ : ∃ t2, t2 = str (vbs (v0, v1, v2)) := ⟨_, rfl⟩
            rw [← ht2] at HPV
            have hz2 : t2.size ≤ 40 := by rw [ht2, str_size]; exact vbs_len _
            have HTT : Hid (t ++ t2 = s0 ++ (u ++ t2) ∧ u ++ t2 = str (fbs (lst x (k + 1)) f)) := Lib.hid ⟨by rw [HT.out.1, ByteArray.append_assoc], by rw [HK2.out, HT.out.2, ht2]; first | exact (str_append _ _).symm | exact str_append _ _⟩
            have hsz : (t ++ t2).size = t.size + t2.size := by simp
            have HSZ := Lib.hid hsz
            clear hbk hv hg hkf ht2 hsz p1 c0
            go_wp2_with fail
            refine (HH.out _).mono ?_
            rintro e w4 ⟨rfl, rfl⟩
            go_wp2_with fail
            refine (HPV.out _).mono ?_
            rintro e w4 ⟨rfl, hb4⟩
            have D2 := D0.later hb4
            have hbr2 := hbr.trans (hb4.mono hbr.size)
            clear D0 hb4 hbr l0 l1 l2
            go_wp2_with fail
            go_roundw
            case rel => exact ⟨k + 1, by omega, by go_num, ⟨t ++ t2, u ++ t2, rfl, HTT, by rw [HSZ.out]; omega⟩, D2, hbr2⟩
            case measure => simp [intOf]; omega
        · obtain rfl : k = 8 := by omega
          have HR8 := HRR.out u HT.out.2
          rw [← HT.out.1] at HR8
          subst HR8
          clear HRR HT
          go_wp2_with fail
          go_ret
          exact ⟨rfl, hbr⟩
  · have HB : Hid (str (pbs x lab f) = ⟨#[]⟩) := Lib.hid (by unfold pbs; rw [if_pos (by rw [← her]; exact h0)]; rfl)
    rw [HB.out]
    have be : (er != 0) = true := by simp [h0]
    clear HB her h0 hpc hf
    go_enter Try.func28, Try.ntmps28
    go_wp2_with (first
      | (refine wpList_load_mid rfl 27 (.tmp 1) rfl w.heap.size 0 rfl pc _ RG hu rfl (by rw [HPLen.out]; exact info_patch) ?_)
      | fail)
    refine (HCK.out _).mono ?_
    rintro e w1 ⟨rfl, hb1⟩
    have hbw := hb0.trans (hb1.mono hb0.size)
    clear RG hb1 hb0
    go_wp2_with fail
    go_ret
    exact ⟨rfl, hbw⟩
end Go.Proofs.Ytnhcjadkbogioaa

/- Cards as bytes: whether the layer is awake; a slice of bytes as a string. -/
namespace Go.Proofs.Ytnhcjadkbogioaa
set_option linter.unusedVariables false
open Go Go.RowKit BitM OctM

theorem str_conv (w : World) (B : Nat) (A : Option Addr) (n c : Nat) (l : List UInt8) (s : ByteArray) (hn : l.length = n) (hs : Sees w B A (bvs l)) (h : s = str l) : (convert 33 9 (.slice A n c)).run Try.prog w = .ok (.string s) w := by
  subst h
  exact run_str (P := Try.prog) w B 33 5 9 Try.underlying33 Try.underlying5 Try.underlying9 A n c l hn hs

section
variable {P : Program} {w : World} {a : Act} {op : Oper}
theorem exec_conv (x : Operand) (t u : TypeId) (ho : op.op = .convert t u x) (v : Value) (hx : a.eval x = v) (r : Value) (h : (convert t u v).run P w = .ok r w) : (execOp a.eval op).run P w = .ok (.value r) w := by
  unfold execOp
  simp only [ho, hx, Sem.run_bind, Sem.run_pure, Result.andThen_ok, h]
end

end Go.Proofs.Ytnhcjadkbogioaa

/- CardwirePuts: the walk. -/
namespace Go.Proofs.Ytnhcjadkbogioaa
set_option linter.unusedVariables false
open Go Go.RowKit BitM OctM

theorem pbs_len (x : BitVec 32) (lab : Int) (f : List V3) : (pbs x lab f).length ≤ 400 := by
  unfold pbs
  split
  · simp
  · simp only [List.length_append]
    have h1 := held_len (x.toNat : Int)
    have h2 := held_len lab
    have h5 := fbs_len (lst x 8) f
    have h6 := lst_len x 8
    rw [flds_lst]
    split <;> first | omega | (simp only [List.length_nil]; omega)

end Go.Proofs.Ytnhcjadkbogioaa

/- Edits as they are read of bytes, and put: mathematics. -/
namespace Go.Proofs.Ytnhcjadkbogioaa
set_option linter.unusedVariables false
set_option linter.unusedSimpArgs false
open Go Go.RowKit OctM BitM

def grp (k : Int) : Bool := decide (4 ≤ k ∧ k ≤ 7)
def idk (k : Int) : Bool := decide (k = 2 ∨ k = 3 ∨ k = 6 ∨ k = 7)
def ptk (k : Int) : Bool := decide (k = 1 ∨ k = 2)
/-- What is wrong with an edit. -/
def echk (k id gr : Int) (x : BitVec 32) (lab : Int) (f : List V3) : Int :=
  if k < 1 ∨ 7 < k then 1
  else if (grp k = false ∧ gr ≠ 0) ∨ (idk k = false ∧ id ≠ 0) ∨ (ptk k = false ∧ ¬ (x = 0#32 ∧ lab = 0 ∧ f = zeros)) then 1
  else if gr < 0 ∨ 16 ≤ gr ∨ (idk k = true ∧ (id < 1 ∨ 1073741824 ≤ id)) then 1
  else if ptk k = true then pchk x lab f else 0
/-- An edit's bytes. -/
def ebs (k id gr : Int) (x : BitVec 32) (lab : Int) (f : List V3) : List UInt8 :=
  if echk k id gr x lab f ≠ 0 then []
  else enc (held k) ++ ((if grp k = true then enc (held gr) else []) ++ ((if idk k = true then enc (held id) else []) ++ (if ptk k = true then pbs x lab f else [])))
theorem ebs_len (k id gr : Int) (x : BitVec 32) (lab : Int) (f : List V3) : (ebs k id gr x lab f).length ≤ 420 := by
  unfold ebs
  split
  · simp
  · have h1 := held_len k
    have h2 := held_len gr
    have h3 := held_len id
    have h4 := pbs_len x lab f
    simp only [List.length_append]
    have g1 : (if grp k = true then enc (held gr) else []).length ≤ 6 := by split <;> simp_all
    have g2 : (if idk k = true then enc (held id) else []).length ≤ 6 := by split <;> simp_all
    have g3 : (if ptk k = true then pbs x lab f else []).length ≤ 400 := by split <;> simp_all
    omega
theorem echk_ok {k id gr : Int} {x : BitVec 32} {lab : Int} {f : List V3} (h : echk k id gr x lab f = 0) :
    1 ≤ k ∧ k ≤ 7 ∧ (grp k = false → gr = 0) ∧ (idk k = false → id = 0) ∧ (ptk k = false → x = 0#32 ∧ lab = 0 ∧ f = zeros) ∧ 0 ≤ gr ∧ gr < 16 ∧ (idk k = true → 1 ≤ id ∧ id < 1073741824) ∧ (ptk k = true → pchk x lab f = 0) := by
  unfold echk at h
  by_cases c1 : k < 1 ∨ 7 < k
  · rw [if_pos c1] at h; cases h
  · rw [if_neg c1] at h
    by_cases c2 : (grp k = false ∧ gr ≠ 0) ∨ (idk k = false ∧ id ≠ 0) ∨ (ptk k = false ∧ ¬ (x = 0#32 ∧ lab = 0 ∧ f = zeros))
    · rw [if_pos c2] at h; cases h
    · rw [if_neg c2] at h
      by_cases c3 : gr < 0 ∨ 16 ≤ gr ∨ (idk k = true ∧ (id < 1 ∨ 1073741824 ≤ id))
      · rw [if_pos c3] at h; cases h
      · rw [if_neg c3] at h
        refine ⟨by omega, by omega, fun hh => ?_, fun hh => ?_, fun hh => ?_, by omega, by omega, fun hh => ?_, fun hh => ?_⟩
        · by_cases e : gr = 0
          · exact e
          · exact absurd (.inl ⟨hh, e⟩) c2
        · by_cases e : id = 0
          · exact e
          · exact absurd (.inr (.inl ⟨hh, e⟩)) c2
        · by_cases e : x = 0#32 ∧ lab = 0 ∧ f = zeros
          · exact e
          · exact absurd (.inr (.inr ⟨hh, e⟩)) c2
        · by_cases e : id < 1 ∨ 1073741824 ≤ id
          · exact absurd (.inr (.inr ⟨hh, e⟩)) c3
          · omega
        · rw [if_pos hh] at h; exact h
end Go.Proofs.Ytnhcjadkbogioaa

/- Edits: which may be, or why not: what each returns. -/
namespace Go.Proofs.Ytnhcjadkbogioaa
set_option linter.unusedVariables false
set_option linter.unusedSimpArgs false
open Go Go.RowKit OctM BitM

def ecells (k id gr m lab : Int) (f : List V3) : List Value := [.int .i64 k, .int .i64 id, .int .i64 gr] ++ pcells m lab f
theorem ecells_len (k id gr m lab : Int) {f : List V3} (h : f.length = 8) : (ecells k id gr m lab f).length = 29 := by
  unfold ecells
  rw [List.length_append, pcells_len _ _ h]
  rfl
theorem ecells_one (k id gr m lab : Int) (f : List V3) : ∀ u ∈ ecells k id gr m lab f, u.oneCell' = true := by
  intro u hu
  unfold ecells at hu
  rcases List.mem_append.1 hu with h | h
  · simp only [List.mem_cons, List.not_mem_nil, or_false] at h
    rcases h with rfl | rfl | rfl <;> rfl
  · exact pcells_one _ _ _ u h
theorem Blk.patchE {w : World} {g : Nat} {k id gr m lab : Int} {f : List V3} (h : Blk w g (ecells k id gr m lab f)) : w.rangeAt g 3 (pcells m lab f) :=
  h.range 3 _ (by
    unfold ecells
    rw [List.drop_left' (by rfl), List.take_length])
theorem Blk.edit {w : World} {g : Nat} {k id gr m lab : Int} {f : List V3} (h : Blk w g (ecells k id gr m lab f)) :
    w.cell? ⟨g, 0, none⟩ = some (.int .i64 k) ∧ w.cell? ⟨g, 1, none⟩ = some (.int .i64 id) ∧ w.cell? ⟨g, 2, none⟩ = some (.int .i64 gr) := ⟨h.cell rfl, h.cell rfl, h.cell rfl⟩
theorem guard_patchE : Try.prog.eqGuardType Try.prog.depth 27 = false := by kernel_rfl
def inr (k : Int) : Bool := decide (1 ≤ k ∧ k ≤ 7)
set_option maxRecDepth 100000 in
theorem has_grp (k : Int) (w : World) : Calls Try.prog 49 #[.int .i64 k, .int .i64 1] w fun e w' => e = .returned (.bool (grp k)) ∧ w = w' := by
  by_cases h1 : k < 1
  · have d1 : decide ((1 : Int) ≤ k) = false := decide_eq_false (by omega)
    have hr : grp k = false := by unfold grp; exact decide_eq_false (by omega)
    rw [hr]
    clear hr
    go_enter Try.func49, Try.ntmps49
    go_wp2
    go_ret
    exact ⟨rfl, rfl⟩
  · by_cases h2 : 7 < k
    · have d1 : decide ((1 : Int) ≤ k) = true := decide_eq_true (by omega)
      have d2 : decide (k ≤ 7) = false := decide_eq_false (by omega)
      have hr : grp k = false := by unfold grp; exact decide_eq_false (by omega)
      rw [hr]
      clear hr
      go_enter Try.func49, Try.ntmps49
      go_wp2
      go_ret
      exact ⟨rfl, rfl⟩
    · have hk : k = 1 ∨ k = 2 ∨ k = 3 ∨ k = 4 ∨ k = 5 ∨ k = 6 ∨ k = 7 := by omega
      clear h1 h2
      rcases hk with rfl | rfl | rfl | rfl | rfl | rfl | rfl
      all_goals
        go_enter Try.func49, Try.ntmps49
        go_wp2
        go_ret
        exact ⟨by rfl, rfl⟩
set_option maxRecDepth 100000 in
theorem has_idk (k : Int) (w : World) : Calls Try.prog 49 #[.int .i64 k, .int .i64 2] w fun e w' => e = .returned (.bool (idk k)) ∧ w = w' := by
  by_cases h1 : k < 1
  · have d1 : decide ((1 : Int) ≤ k) = false := decide_eq_false (by omega)
    have hr : idk k = false := by unfold idk; exact decide_eq_false (by omega)
    rw [hr]
    clear hr
    go_enter Try.func49, Try.ntmps49
    go_wp2
    go_ret
    exact ⟨rfl, rfl⟩
  · by_cases h2 : 7 < k
    · have d1 : decide ((1 : Int) ≤ k) = true := decide_eq_true (by omega)
      have d2 : decide (k ≤ 7) = false := decide_eq_false (by omega)
      have hr : idk k = false := by unfold idk; exact decide_eq_false (by omega)
      rw [hr]
      clear hr
      go_enter Try.func49, Try.ntmps49
      go_wp2
      go_ret
      exact ⟨rfl, rfl⟩
    · have hk : k = 1 ∨ k = 2 ∨ k = 3 ∨ k = 4 ∨ k = 5 ∨ k = 6 ∨ k = 7 := by omega
      clear h1 h2
      rcases hk with rfl | rfl | rfl | rfl | rfl | rfl | rfl
      all_goals
        go_enter Try.func49, Try.ntmps49
        go_wp2
        go_ret
        exact ⟨by rfl, rfl⟩
set_option maxRecDepth 100000 in
theorem has_ptk (k : Int) (w : World) : Calls Try.prog 49 #[.int .i64 k, .int .i64 4] w fun e w' => e = .returned (.bool (ptk k)) ∧ w = w' := by
  by_cases h1 : k < 1
  · have d1 : decide ((1 : Int) ≤ k) = false := decide_eq_false (by omega)
    have hr : ptk k = false := by unfold ptk; exact decide_eq_false (by omega)
    rw [hr]
    clear hr
    go_enter Try.func49, Try.ntmps49
    go_wp2
    go_ret
    exact ⟨rfl, rfl⟩
  · by_cases h2 : 7 < k
    · have d1 : decide ((1 : Int) ≤ k) = true := decide_eq_true (by omega)
      have d2 : decide (k ≤ 7) = false := decide_eq_false (by omega)
      have hr : ptk k = false := by unfold ptk; exact decide_eq_false (by omega)
      rw [hr]
      clear hr
      go_enter Try.func49, Try.ntmps49
      go_wp2
      go_ret
      exact ⟨rfl, rfl⟩
    · have hk : k = 1 ∨ k = 2 ∨ k = 3 ∨ k = 4 ∨ k = 5 ∨ k = 6 ∨ k = 7 := by omega
      clear h1 h2
      rcases hk with rfl | rfl | rfl | rfl | rfl | rfl | rfl
      all_goals
        go_enter Try.func49, Try.ntmps49
        go_wp2
        go_ret
        exact ⟨by rfl, rfl⟩
set_option maxRecDepth 100000 in
theorem has_inr (k : Int) (w : World) : Calls Try.prog 49 #[.int .i64 k, .int .i64 7] w fun e w' => e = .returned (.bool (inr k)) ∧ w = w' := by
  by_cases h1 : k < 1
  · have d1 : decide ((1 : Int) ≤ k) = false := decide_eq_false (by omega)
    have hr : inr k = false := by unfold inr; exact decide_eq_false (by omega)
    rw [hr]
    clear hr
    go_enter Try.func49, Try.ntmps49
    go_wp2
    go_ret
    exact ⟨rfl, rfl⟩
  · by_cases h2 : 7 < k
    · have d1 : decide ((1 : Int) ≤ k) = true := decide_eq_true (by omega)
      have d2 : decide (k ≤ 7) = false := decide_eq_false (by omega)
      have hr : inr k = false := by unfold inr; exact decide_eq_false (by omega)
      rw [hr]
      clear hr
      go_enter Try.func49, Try.ntmps49
      go_wp2
      go_ret
      exact ⟨rfl, rfl⟩
    · have hk : k = 1 ∨ k = 2 ∨ k = 3 ∨ k = 4 ∨ k = 5 ∨ k = 6 ∨ k = 7 := by omega
      clear h1 h2
      rcases hk with rfl | rfl | rfl | rfl | rfl | rfl | rfl
      all_goals
        go_enter Try.func49, Try.ntmps49
        go_wp2
        go_ret
        exact ⟨by rfl, rfl⟩
set_option maxRecDepth 100000 in
theorem rgrp_any (k : Int) (w : World) : Calls Try.prog 56 #[.int .i64 k] w fun e w' => e = .returned (.bool (grp k)) ∧ w = w' := by
  by_cases h4 : k = 4
  · subst h4
    go_enter Try.func56, Try.ntmps56
    go_wp2
    go_ret
    exact ⟨by rfl, rfl⟩
  · have t4 : (k == 4) = false := by simpa using h4
    by_cases h5 : k = 5
    · subst h5
      go_enter Try.func56, Try.ntmps56
      go_wp2
      go_ret
      exact ⟨by rfl, rfl⟩
    · have t5 : (k == 5) = false := by simpa using h5
      by_cases h6 : k = 6
      · subst h6
        go_enter Try.func56, Try.ntmps56
        go_wp2
        go_ret
        exact ⟨by rfl, rfl⟩
      · have t6 : (k == 6) = false := by simpa using h6
        by_cases h7 : k = 7
        · subst h7
          go_enter Try.func56, Try.ntmps56
          go_wp2
          go_ret
          exact ⟨by rfl, rfl⟩
        · have t7 : (k == 7) = false := by simpa using h7
          have hr : grp k = false := by unfold grp; exact decide_eq_false (by omega)
          rw [hr]
          clear hr
          clear h4 h5 h6 h7
          go_enter Try.func56, Try.ntmps56
          go_wp2
          go_ret
          exact ⟨by rfl, rfl⟩
set_option maxRecDepth 100000 in
theorem ridk_any (k : Int) (w : World) : Calls Try.prog 57 #[.int .i64 k] w fun e w' => e = .returned (.bool (idk k)) ∧ w = w' := by
  by_cases h2 : k = 2
  · subst h2
    go_enter Try.func57, Try.ntmps57
    go_wp2
    go_ret
    exact ⟨by rfl, rfl⟩
  · have t2 : (k == 2) = false := by simpa using h2
    by_cases h3 : k = 3
    · subst h3
      go_enter Try.func57, Try.ntmps57
      go_wp2
      go_ret
      exact ⟨by rfl, rfl⟩
    · have t3 : (k == 3) = false := by simpa using h3
      by_cases h6 : k = 6
      · subst h6
        go_enter Try.func57, Try.ntmps57
        go_wp2
        go_ret
        exact ⟨by rfl, rfl⟩
      · have t6 : (k == 6) = false := by simpa using h6
        by_cases h7 : k = 7
        · subst h7
          go_enter Try.func57, Try.ntmps57
          go_wp2
          go_ret
          exact ⟨by rfl, rfl⟩
        · have t7 : (k == 7) = false := by simpa using h7
          have hr : idk k = false := by unfold idk; exact decide_eq_false (by omega)
          rw [hr]
          clear hr
          clear h2 h3 h6 h7
          go_enter Try.func57, Try.ntmps57
          go_wp2
          go_ret
          exact ⟨by rfl, rfl⟩
set_option maxRecDepth 100000 in
theorem rptk_any (k : Int) (w : World) : Calls Try.prog 58 #[.int .i64 k] w fun e w' => e = .returned (.bool (ptk k)) ∧ w = w' := by
  by_cases h1 : k = 1
  · subst h1
    go_enter Try.func58, Try.ntmps58
    go_wp2
    go_ret
    exact ⟨by rfl, rfl⟩
  · have t1 : (k == 1) = false := by simpa using h1
    by_cases h2 : k = 2
    · subst h2
      go_enter Try.func58, Try.ntmps58
      go_wp2
      go_ret
      exact ⟨by rfl, rfl⟩
    · have t2 : (k == 2) = false := by simpa using h2
      have hr : ptk k = false := by unfold ptk; exact decide_eq_false (by omega)
      rw [hr]
      clear hr
      clear h1 h2
      go_enter Try.func58, Try.ntmps58
      go_wp2
      go_ret
      exact ⟨by rfl, rfl⟩
theorem echk_bool {k id gr : Int} {x : BitVec 32} {lab : Int} {f : List V3} {g i p zg zi bp d1 d2 e1 e2 : Bool} (h1 : 1 ≤ k) (h2 : k ≤ 7) (hg : grp k = g) (hi : idk k = i) (hp : ptk k = p) (hzg : (gr != 0) = zg) (hzi : (id != 0) = zi)
    (hbp : decide ((x.toNat : Int) = 0 ∧ lab = 0 ∧ f = zeros) = bp) (hd1 : decide (gr < 0) = d1) (hd2 : decide (16 ≤ gr) = d2) (he1 : decide (id < 1) = e1) (he2 : decide (1073741824 ≤ id) = e2) :
    echk k id gr x lab f = if ((!g && zg) || (!i && zi) || (!p && !bp)) = true then 1 else if (d1 || d2 || (i && (e1 || e2))) = true then 1 else if p = true then pchk x lab f else 0 := by
  subst hg hi hp hzg hzi hbp hd1 hd2 he1 he2
  unfold echk
  rw [if_neg (by omega)]
  have hx : (x = 0#32 ∧ lab = 0 ∧ f = zeros) ↔ ((x.toNat : Int) = 0 ∧ lab = 0 ∧ f = zeros) := by
    constructor
    · rintro ⟨rfl, h⟩; exact ⟨rfl, h⟩
    · rintro ⟨h0, h⟩; exact ⟨BitVec.eq_of_toNat_eq (by simpa using h0), h⟩
  have c2 : ((grp k = false ∧ gr ≠ 0) ∨ (idk k = false ∧ id ≠ 0) ∨ (ptk k = false ∧ ¬ (x = 0#32 ∧ lab = 0 ∧ f = zeros))) ↔ ((!grp k && (gr != 0)) || (!idk k && (id != 0)) || (!ptk k && !decide ((x.toNat : Int) = 0 ∧ lab = 0 ∧ f = zeros))) = true := by
    rw [hx]
    simp only [Bool.or_eq_true, Bool.and_eq_true, Bool.not_eq_true', bne_iff_ne, decide_eq_false_iff_not, or_assoc]
  have c3 : (gr < 0 ∨ 16 ≤ gr ∨ (idk k = true ∧ (id < 1 ∨ 1073741824 ≤ id))) ↔ (decide (gr < 0) || decide (16 ≤ gr) || (idk k && (decide (id < 1) || decide (1073741824 ≤ id)))) = true := by
    simp only [Bool.or_eq_true, Bool.and_eq_true, decide_eq_true_eq, or_assoc]
  simp only [c2, c3]
end Go.Proofs.Ytnhcjadkbogioaa

/- Filters as lists of nodes: which nodes may be, where trees end, how deep they are: mathematics. -/
namespace Go.Proofs.Ytnhcjadkbogioaa
set_option linter.unusedVariables false
set_option linter.unusedSimpArgs false
open Go Go.RowKit

/-- A node: its kind, its number, its value. -/
abbrev Nd := Int × Int × V3
def ncells (n : Nd) : List Value := [.int .i64 n.1, .int .i64 n.2.1, .int .i64 n.2.2.1, .int .i64 n.2.2.2.1, .string n.2.2.2.2]
def ncs (l : List Nd) : List Value := l.flatMap ncells
theorem ncells_len (n : Nd) : (ncells n).length = 5 := rfl
theorem ncells_of (n : Nd) : ncells n = [.int .i64 n.1, .int .i64 n.2.1] ++ vcells n.2.2 := rfl
theorem ncs_cons (n : Nd) (l : List Nd) : ncs (n :: l) = ncells n ++ ncs l := rfl
theorem ncs_len (l : List Nd) : (ncs l).length = 5 * l.length := by
  induction l with
  | nil => rfl
  | cons n l ih => rw [ncs_cons, List.length_append, ih, ncells_len, List.length_cons]; omega
theorem ncs_one (l : List Nd) : ∀ u ∈ ncs l, u.oneCell' = true := by
  intro u hu
  simp only [ncs, List.mem_flatMap, ncells] at hu
  obtain ⟨v, _, hv⟩ := hu
  simp at hv
  rcases hv with rfl | rfl | rfl | rfl | rfl <;> rfl
theorem ncs_drop (l : List Nd) (k : Nat) : (ncs l).drop (5 * k) = ncs (l.drop k) := by
  induction l generalizing k with
  | nil => simp [ncs]
  | cons n l ih =>
    cases k with
    | zero => simp
    | succ k =>
      rw [ncs_cons, List.drop_succ_cons, show 5 * (k + 1) = 5 + 5 * k by omega, ← List.drop_drop]
      rw [show (ncells n ++ ncs l).drop 5 = ncs l from by rw [List.drop_append_of_le_length (by simp [ncells])]; simp [ncells]]
      exact ih k
theorem ncs_take (l : List Nd) (k : Nat) : (ncs l).take (5 * k) = ncs (l.take k) := by
  induction l generalizing k with
  | nil => simp [ncs]
  | cons n l ih =>
    cases k with
    | zero => simp [ncs]
    | succ k =>
      rw [ncs_cons, List.take_succ_cons, ncs_cons, show 5 * (k + 1) = (ncells n).length + 5 * k by rw [ncells_len]; omega, List.take_length_add_append, ih k]
theorem ncs_get (l : List Nd) (k : Nat) (h : k < l.length) : ((ncs l).drop (5 * k)).take 5 = ncells l[k] := by
  rw [ncs_drop, List.drop_eq_getElem_cons h, ncs_cons, List.take_append_of_le_length (by simp [ncells])]
  simp [ncells]

/-- How many parts a kind has. -/
def par (op : Int) : Nat := if op = 10 then 1 else if op = 11 ∨ op = 12 then 2 else 0
theorem par_le (op : Int) : par op ≤ 2 := by unfold par; split; · omega
                                             · split <;> omega
/-- May a node be? -/
def nok (n : Nd) : Bool :=
  if n.1 = 1 ∨ n.1 = 2 ∨ n.1 = 10 ∨ n.1 = 11 ∨ n.1 = 12 then decide (n.2.1 = 0 ∧ n.2.2 = zv)
  else if n.1 = 3 ∨ n.1 = 4 then decide (0 ≤ n.2.1 ∧ n.2.1 < 16 ∧ n.2.2 = zv)
  else if n.1 = 5 then decide (0 ≤ n.2.1 ∧ n.2.1 < 8 ∧ n.2.2 = zv)
  else if n.1 = 6 ∨ n.1 = 7 ∨ n.1 = 8 then decide (0 ≤ n.2.1 ∧ n.2.1 < 8 ∧ vchk n.2.2 = true ∧ n.2.2 ≠ zv)
  else if n.1 = 9 then decide (0 ≤ n.2.1 ∧ n.2.1 < 8 ∧ vchk n.2.2 = true ∧ n.2.2.1 = 2)
  else false
theorem vchk_isz {v : V3} (h : vchk v = true) : v.1 = 0 ↔ v = zv := by
  obtain ⟨k, n, s⟩ := v
  constructor
  · intro hk
    have hk : k = 0 := hk
    subst hk
    rw [vchk_0] at h
    simp only [decide_eq_true_eq, nil_str_iff] at h
    rw [h.1, h.2]
    rfl
  · intro e
    rw [e]
    rfl

/-- Of so many trees that stand one behind the other: how many nodes they take. -/
def endOf : List Nd → Nat → Option Nat
  | _, 0 => some 0
  | [], _ + 1 => none
  | x :: l, k + 1 => (endOf l (k + par x.1)).map (· + 1)
theorem endOf_zero (l : List Nd) : endOf l 0 = some 0 := by cases l <;> rfl
theorem endOf_cons (x : Nd) (l : List Nd) (k : Nat) : endOf (x :: l) (k + 1) = (endOf l (k + par x.1)).map (· + 1) := rfl
theorem endOf_le : ∀ {l : List Nd} {k m : Nat}, endOf l k = some m → m ≤ l.length
  | l, 0, m, h => by rw [endOf_zero] at h; cases h; omega
  | [], k + 1, m, h => by cases h
  | x :: l, k + 1, m, h => by
    rw [endOf_cons, Option.map_eq_some_iff] at h
    obtain ⟨m', h', rfl⟩ := h
    have := endOf_le h'
    simp; omega
/-- Where the tree at a place ends. -/
def endAt (l : List Nd) (at_ : Int) : Int := if at_ < 0 then -1 else match endOf (l.drop at_.toNat) 1 with
  | some m => at_ + m
  | none => -1
theorem endAt_nat (l : List Nd) (j : Nat) : endAt l (j : Int) = match endOf (l.drop j) 1 with
    | some m => (j : Int) + m
    | none => -1 := by
  unfold endAt
  rw [if_neg (by omega)]
  simp
theorem endAt_neg (l : List Nd) (j : Int) (h : j < 0) : endAt l j = -1 := by unfold endAt; rw [if_pos h]
/-- A list that is so many trees, one behind the other. -/
def Wood (l : List Nd) (k : Nat) : Prop := endOf l k = some l.length
instance (l : List Nd) (k : Nat) : Decidable (Wood l k) := inferInstanceAs (Decidable (_ = _))
theorem wood_nil : Wood [] 0 := rfl
theorem wood_cons {x : Nd} {l : List Nd} {k : Nat} (h : Wood (x :: l) k) : ∃ j, k = j + 1 ∧ Wood l (j + par x.1) := by
  cases k with
  | zero => unfold Wood at h; rw [endOf_zero] at h; simp at h
  | succ j =>
    refine ⟨j, rfl, ?_⟩
    unfold Wood at h ⊢
    rw [endOf_cons, Option.map_eq_some_iff] at h
    obtain ⟨m, h1, h2⟩ := h
    simp at h2
    rw [h1, h2]
theorem wood_mk {x : Nd} {l : List Nd} {k : Nat} (h : Wood l (k + par x.1)) : Wood (x :: l) (k + 1) := by
  unfold Wood at h ⊢
  rw [endOf_cons, h]
  rfl
theorem wood_drop {l : List Nd} {k : Nat} (h : Wood l k) (j : Nat) (hj : j ≤ l.length) : ∃ k', Wood (l.drop j) k' := by
  induction j generalizing l k with
  | zero => exact ⟨k, h⟩
  | succ j ih =>
    cases l with
    | nil => simp at hj
    | cons x l =>
      obtain ⟨i, _, h'⟩ := wood_cons h
      exact ih h' (by simpa using hj)
theorem wood_uniq {l : List Nd} {k k' : Nat} (h : Wood l k) (h' : Wood l k') : k = k' := by
  induction l generalizing k k' with
  | nil =>
    cases k with
    | zero => cases k' with
      | zero => rfl
      | succ _ => cases h'
    | succ _ => cases h
  | cons x l ih =>
    obtain ⟨j, rfl, h1⟩ := wood_cons h
    obtain ⟨j', rfl, h1'⟩ := wood_cons h'
    have := ih h1 h1'
    omega
/-- Of trees the first ones end somewhere, and are trees; the others too. -/
theorem endOf_split {l : List Nd} : ∀ (j k m : Nat), endOf l (j + k) = some m → ∃ m1, endOf l j = some m1 ∧ Wood (l.take m1) j ∧ m1 ≤ m ∧ endOf (l.drop m1) k = some (m - m1) := by
  induction l with
  | nil =>
    intro j k m h
    cases j with
    | zero => exact ⟨0, rfl, rfl, by omega, by simpa using h⟩
    | succ j => rw [show j + 1 + k = (j + k) + 1 by omega] at h; cases h
  | cons x l ih =>
    intro j k m h
    cases j with
    | zero => exact ⟨0, rfl, by simpa using wood_nil, by omega, by simpa using h⟩
    | succ j =>
      rw [show j + 1 + k = (j + k) + 1 by omega, endOf_cons, Option.map_eq_some_iff] at h
      obtain ⟨m', h1, rfl⟩ := h
      rw [show j + k + par x.1 = (j + par x.1) + k by omega] at h1
      obtain ⟨m1, e1, e2, e3, e4⟩ := ih _ _ _ h1
      refine ⟨m1 + 1, by rw [endOf_cons, e1]; rfl, ?_, by omega, ?_⟩
      · rw [List.take_succ_cons]; exact wood_mk e2
      · rw [List.drop_succ_cons, e4]; congr 1; omega
theorem wood_split {l : List Nd} {j k : Nat} (h : Wood l (j + k)) : ∃ m1, endOf l j = some m1 ∧ m1 ≤ l.length ∧ Wood (l.take m1) j ∧ Wood (l.drop m1) k := by
  obtain ⟨m1, e1, e2, e3, e4⟩ := endOf_split j k _ h
  refine ⟨m1, e1, e3, e2, ?_⟩
  unfold Wood
  rw [e4, List.length_drop]
/-- How deep the trees are that stand one behind the other. -/
def stk : List Nd → List Nat
  | [] => []
  | x :: l => (((stk l).take (par x.1)).foldl max 0 + 1) :: (stk l).drop (par x.1)
theorem stk_cons (x : Nd) (l : List Nd) : stk (x :: l) = (((stk l).take (par x.1)).foldl max 0 + 1) :: (stk l).drop (par x.1) := rfl
theorem stk_len {l : List Nd} {k : Nat} (h : Wood l k) : (stk l).length = k := by
  induction l generalizing k with
  | nil => rw [wood_uniq h wood_nil]; rfl
  | cons x l ih =>
    obtain ⟨j, rfl, h1⟩ := wood_cons h
    have := ih h1
    simp [stk, this]
theorem stk_app {a b : List Nd} {k : Nat} (h : Wood a k) : stk (a ++ b) = stk a ++ stk b := by
  induction a generalizing k with
  | nil => rfl
  | cons x a ih =>
    obtain ⟨j, rfl, h1⟩ := wood_cons h
    have hl := stk_len h1
    rw [List.cons_append, stk_cons, stk_cons, ih h1]
    rw [List.take_append_of_le_length (by omega), List.drop_append_of_le_length (by omega)]
    rfl
theorem stk_lt (l : List Nd) : ∀ d ∈ stk l, 1 ≤ d ∧ d ≤ l.length := by
  induction l with
  | nil => simp [stk]
  | cons x l ih =>
    intro d hd
    rw [stk_cons, List.mem_cons] at hd
    rcases hd with rfl | hd
    · have hmax : ∀ (q : List Nat) (a : Nat), (∀ y ∈ q, y ≤ l.length) → a ≤ l.length → q.foldl max a ≤ l.length := by
        intro q
        induction q with
        | nil => intro a _ h; exact h
        | cons y q ihq =>
          intro a hq ha
          refine ihq _ (fun z hz => hq z (List.mem_cons_of_mem _ hz)) ?_
          have := hq y (by simp)
          omega
      have := hmax ((stk l).take (par x.1)) 0 (fun y hy => (ih y (List.mem_of_mem_take hy)).2) (by omega)
      simp only [List.length_cons]
      omega
    · have := ih d (List.mem_of_mem_drop hd)
      simp only [List.length_cons]
      omega
/-- How deep a filter is. -/
def dep (l : List Nd) : Nat := if Wood l 1 then (stk l).headD 0 else 0
theorem dep_not {l : List Nd} (h : ¬ Wood l 1) : dep l = 0 := by unfold dep; rw [if_neg h]
theorem dep_wood {l : List Nd} (h : Wood l 1) : stk l = [dep l] := by
  unfold dep
  rw [if_pos h]
  have hl := stk_len h
  match hs : stk l, hl with
  | [d], _ => rfl
theorem dep_le (l : List Nd) : dep l ≤ l.length := by
  unfold dep
  split
  · cases hs : stk l with
    | nil => simp
    | cons d q => exact (stk_lt l d (by rw [hs]; simp)).2
  · omega
theorem wood_end (l : List Nd) : endAt l 0 = (l.length : Int) ↔ Wood l 1 := by
  have := endAt_nat l 0
  simp only [Int.ofNat_zero, List.drop_zero, Int.zero_add, Int.natCast_zero] at this
  rw [show endAt l 0 = _ from this]
  unfold Wood
  cases endOf l 1 with
  | none => simp
  | some m => simp; omega
/-- What is wrong with a filter. -/
def lchk (l : List Nd) : Int :=
  if 31 < l.length then 4 else if l.all nok = false then 1 else if ¬ Wood l 1 then 1 else if 8 < dep l then 5 else 0
theorem lchk_ok {l : List Nd} (h : lchk l = 0) : l.length ≤ 31 ∧ (∀ n ∈ l, nok n = true) ∧ Wood l 1 ∧ dep l ≤ 8 := by
  unfold lchk at h
  by_cases h1 : 31 < l.length
  · rw [if_pos h1] at h; cases h
  · rw [if_neg h1] at h
    by_cases h2 : l.all nok = false
    · rw [if_pos h2] at h; cases h
    · rw [if_neg h2] at h
      by_cases h3 : ¬ Wood l 1
      · rw [if_pos h3] at h; cases h
      · rw [if_neg h3] at h
        by_cases h4 : 8 < dep l
        · rw [if_pos h4] at h; cases h
        · exact ⟨by omega, by simpa using h2, by simpa using h3, by omega⟩
end Go.Proofs.Ytnhcjadkbogioaa

/- Nodes: what they look like in memory; how many parts a kind has; which nodes may be: what each returns. -/
namespace Go.Proofs.Ytnhcjadkbogioaa
set_option linter.unusedVariables false
set_option linter.unusedSimpArgs false
open Go Go.RowKit

theorem info_node : (Try.prog.info? 76).map (·.size) = some 5 := by kernel_rfl
theorem info_val3 : (Try.prog.info? 24).map (·.size) = some 3 := by kernel_rfl

set_option maxRecDepth 100000 in
set_option maxHeartbeats 800000 in
theorem parts_any (op : Int) (w : World) : Calls Try.prog 101 #[.int .i64 op] w fun e w' => e = .returned (.int .i64 (par op)) ∧ w = w' := by
  by_cases h0 : op = 10
  · subst h0
    go_enter Try.func101, Try.ntmps101
    go_wp2
    go_ret
    exact ⟨rfl, rfl⟩
  by_cases h1 : op = 11
  · subst h1
    go_enter Try.func101, Try.ntmps101
    go_wp2
    go_ret
    exact ⟨rfl, rfl⟩
  by_cases h2 : op = 12
  · subst h2
    go_enter Try.func101, Try.ntmps101
    go_wp2
    go_ret
    exact ⟨rfl, rfl⟩
  have hp : Hid (par op = 0) := Lib.hid (by unfold par; simp [h0, h1, h2])
  have b0 : (op == 10) = false := by simpa using h0
  have b1 : (op == 11) = false := by simpa using h1
  have b2 : (op == 12) = false := by simpa using h2
  clear h0 h1 h2
  go_enter Try.func101, Try.ntmps101
  go_wp2
  go_ret
  exact ⟨by rw [hp.out]; rfl, rfl⟩
set_option maxRecDepth 100000 in
set_option maxHeartbeats 800000 in
theorem rparts_any (op : Int) (w : World) : Calls Try.prog 99 #[.int .i64 op] w fun e w' => e = .returned (.int .i64 (par op)) ∧ w = w' := by
  by_cases h0 : op = 10
  · subst h0
    go_enter Try.func99, Try.ntmps99
    go_wp2
    go_ret
    exact ⟨rfl, rfl⟩
  by_cases h1 : op = 11
  · subst h1
    go_enter Try.func99, Try.ntmps99
    go_wp2
    go_ret
    exact ⟨rfl, rfl⟩
  by_cases h2 : op = 12
  · subst h2
    go_enter Try.func99, Try.ntmps99
    go_wp2
    go_ret
    exact ⟨rfl, rfl⟩
  have hp : Hid (par op = 0) := Lib.hid (by unfold par; simp [h0, h1, h2])
  have b0 : (op == 10) = false := by simpa using h0
  have b1 : (op == 11) = false := by simpa using h1
  have b2 : (op == 12) = false := by simpa using h2
  clear h0 h1 h2
  go_enter Try.func99, Try.ntmps99
  go_wp2
  go_ret
  exact ⟨by rw [hp.out]; rfl, rfl⟩
end Go.Proofs.Ytnhcjadkbogioaa
