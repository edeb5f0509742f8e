/- Cards: what is wrong with a patch: what it returns. -/
import Derived.Test.YtgpbglmlakildaaG10
import Derived.Test.YtgpbglmlakildaaG8
import Derived.Test.YtgpbglmlakildaaG7
namespace Go.Proofs.Ytgpbglmlakildaa
set_option linter.unusedVariables false
open Go Go.RowKit BitM

theorem vchk_none {v : V3} (h : vchk v = true) (h0 : v.1 = 0) : v = zv := by
  obtain ⟨k, n, s⟩ := v
  simp only at h0
  subst h0
  rw [vchk_0, decide_eq_true_eq] at h
  obtain ⟨rfl, hs⟩ := h
  rw [nil_str_iff] at hs
  subst hs
  rfl
theorem vk_iff (f : List V3) (k : Nat) : vk f k = true ↔ ∀ i, i < k → vchk (f.getD i zv) = true := by
  unfold vk
  simp only [List.all_eq_true, List.mem_range]
theorem fok_iff (x : BitVec 32) (f : List V3) (k : Nat) : fok x f k = true ↔ ∀ i, i < k → vchk (f.getD i zv) = true ∧ ((f.getD i zv).1 = 0 ∨ has x (i : Int) = true) := by
  unfold fok
  simp only [List.all_eq_true, List.mem_range, Bool.and_eq_true, Bool.or_eq_true, decide_eq_true_eq]
theorem zeros_getD (i : Nat) : zeros.getD i zv = zv := by
  unfold zeros
  rw [List.getD_eq_getElem?_getD, List.getElem?_replicate]
  split <;> rfl
theorem mix_same (x : BitVec 32) (f : List V3) (hf : f.length = 8) : mix (fun i => has x (i : Int)) f zeros = f ↔ ∀ i : Nat, i < 8 → has x (i : Int) = true ∨ f.getD i zv = zv := by
  constructor
  · intro h i hi
    have h1 := mix_getD (fun i => has x (i : Int)) f zeros i hi
    rw [h] at h1
    cases hx : has x (i : Int)
    · right
      rw [h1, hx]
      exact zeros_getD i
    · exact .inl rfl
  · intro h
    apply List.ext_getElem
    · rw [mix_len, hf]
    · intro i h1 h2
      have hi : i < 8 := by rw [hf] at h2; exact h2
      have e : f.getD i zv = f[i] := by simp [List.getD, h2]
      rw [mix_get]
      rcases h i hi with hx | hz
      · rw [hx, ← e]; rfl
      · cases hx : has x (i : Int)
        · rw [← e, hz]; exact zeros_getD i
        · rw [← e]; rfl
theorem fok_eq (x : BitVec 32) (f : List V3) (hf : f.length = 8) : fok x f 8 = (decide (mix (fun i => has x (i : Int)) f zeros = f) && vk (mix (fun i => has x (i : Int)) f zeros) 8) := by
  rw [Bool.eq_iff_iff, Bool.and_eq_true, decide_eq_true_eq]
  constructor
  · intro h
    rw [fok_iff] at h
    have hm : mix (fun i => has x (i : Int)) f zeros = f := (mix_same x f hf).2 (fun i hi => by
      rcases (h i hi).2 with h0 | hx
      · exact .inr (vchk_none (h i hi).1 h0)
      · exact .inl hx)
    refine ⟨hm, ?_⟩
    rw [hm, vk_iff]
    exact fun i hi => (h i hi).1
  · rintro ⟨hm, hv⟩
    rw [hm, vk_iff] at hv
    rw [fok_iff]
    intro i hi
    refine ⟨hv i hi, ?_⟩
    rcases (mix_same x f hf).1 hm i hi with hx | hz
    · exact .inr hx
    · exact .inl (by rw [hz]; rfl)
theorem guard_arr : Try.prog.eqGuardType Try.prog.depth 59 = false := by kernel_rfl

set_option maxRecDepth 100000 in
set_option maxHeartbeats 3200000 in
theorem pcheck_any (x : BitVec 32) (lab : Int) (f : List V3) (w : World) (hf : f.length = 8) :
    Calls Try.prog 76 #[.agg (pcells (x.toNat : Int) lab f).toArray] w fun e w' => e = .returned (.int .i64 (pchk x lab f)) ∧ Below w.heap.size w w' := by
  have HS := Lib.hid (fun wx : World => shown_any lab x f wx hf)
  have HM := Lib.hid (fun wx : World => mcheck_any x wx)
  have HFL : Hid ((fcells f).length = 24) := Lib.hid (by rw [fcells_len, hf])
  obtain ⟨l, hl⟩ : ∃ l : Int, l = (if has x 8 then lab else 0) := ⟨_, rfl⟩
  obtain ⟨sf, hsf⟩ : ∃ sf, sf = mix (fun i => has x (i : Int)) f zeros := ⟨_, rfl⟩
  have hs8 : sf.length = 8 := by rw [hsf, mix_len]
  have HSF : Hid ((fcells sf).length = 24) := Lib.hid (by rw [fcells_len, hs8])
  have HV := Lib.hid (fun wx : World => values_any sf wx hs8)
  have HE := Lib.hid (fun wx : World => eq_fields 9997 sf f hs8 hf wx)
  have hfk := fok_eq x f hf
  rw [← hl, ← hsf] at HS
  rw [← hsf] at hfk
  have hone : ∀ v ∈ fcells sf, v.oneCell' = true := fcells_one sf
  obtain ⟨R, hR⟩ : ∃ R, R = pchk x lab f := ⟨_, rfl⟩
  rw [← hR]
  have HR := Lib.hid hR
  have HFK := Lib.hid hfk
  have HLL := Lib.hid hl
  have HZ8 : Hid ((fcells zeros).toArray = #[Value.int .i64 0, .int .i64 0, .string { data := #[] }, .int .i64 0, .int .i64 0, .string { data := #[] }, .int .i64 0, .int .i64 0, .string { data := #[] }, .int .i64 0, .int .i64 0, .string { data := #[] }, .int .i64 0, .int .i64 0, .string { data := #[] }, .int .i64 0, .int .i64 0, .string { data := #[] }, .int .i64 0, .int .i64 0, .string { data := #[] }, .int .i64 0, .int .i64 0, .string { data := #[] }]) := Lib.hid rfl
  have B0 := Blk.new w (pcells (x.toNat : Int) lab f) 61
  obtain ⟨pa, hpa⟩ : ∃ pa, pa = (pcells (x.toNat : Int) lab f).toArray := ⟨_, rfl⟩
  rw [← hpa] at B0 ⊢
  have hw0 := (Below.refl w.heap.size w).alloc (Nat.le_refl _) (.cells pa 61)
  have hsz : (w.alloc (.cells pa 61)).heap.size = w.heap.size + 1 := by simp
  generalize hW : w.alloc (.cells pa 61) = W at *
  have HW := Lib.hid hW
  have HB := Lib.hid hw0
  have HSZ := Lib.hid hsz
  clear hl hsf hs8 hfk hR hpa hw0 hf hsz hW
  obtain ⟨p0, p1⟩ := B0.patch
  have RF := B0.fieldsP
  have hu8 := Try.underlying59
  have HC0 := Lib.hid B0
  have HP1 := Lib.hid p1
  have HRF := Lib.hid RF
  clear B0 p1 RF
  rw [← HW.out] at p0
  by_cases h2 : x.toNat = 0
  · have b2 : ((x.toNat : Int) == 0) = true := by rw [h2]; rfl
    have HRR : Hid (R = 11) := Lib.hid (by rw [HR.out]; unfold pchk; rw [if_pos (.inr h2)])
    clear h2
    go_enter Try.func76, Try.ntmps76
    go_wp2_with fail
    go_ret
    exact ⟨by rw [HRR.out]; rfl, by rw [HW.out]; exact HB.out⟩
  · have b2 : ((x.toNat : Int) == 0) = false := by rw [beq_eq_false_iff_ne]; omega
    by_cases h1 : x.toNat ≤ 511
    · rw [decide_eq_true h1] at HM
      have hn : ¬ (511 < x.toNat ∨ x.toNat = 0) := by omega
      have HRN : Hid (R = if 65536 ≤ lab ∨ (lab ≠ 0 ∧ has x 8 = false) then 1 else if fok x f 8 then 0 else 1) := Lib.hid (by rw [HR.out]; unfold pchk; rw [if_neg hn])
      clear h1 h2 hn
      go_enter Try.func76, Try.ntmps76
      go_wp2_with fail
      rw [HW.out]
      clear p0
      obtain ⟨p0, p1⟩ := HC0.out.patch
      refine (HM.out _).mono ?_
      rintro e w' ⟨rfl, rfl⟩
      have RF := HRF.out
      go_wp2_with (first
        | (refine wpList_load_mid rfl 59 (.tmp 17) rfl w.heap.size 2 rfl (fcells f) _ RF hu8 rfl (by rw [HFL.out]; exact info_fields) ?_))
      clear p0 p1 RF
      refine (HS.out _).mono ?_
      rintro e w1 ⟨rfl, hb⟩
      have hb1 := HB.out.trans (hb.mono HB.out.size)
      have C0 := (HC0.out.later hb).alloc (.cells (fcells zeros).toArray 59)
      have hlt : w.heap.size < w1.heap.size := (HC0.out.later hb).lt
      have A5 := Blk.new w1 (fcells zeros) 59
      have TH := A5.there 0 24 (by rw [fcells_len, zeros_len]; omega)
      have E5 := A5.whole (ds := fcells sf) (by rw [HSF.out, fcells_len, zeros_len])
      have E0 := Blk.setsOther (b := w1.heap.size) (g := w.heap.size) (by omega) (fcells sf) 0 C0
      have EB := below_sets (B := w.heap.size) (b := w1.heap.size) (by omega) (fcells sf) 0 (hb1.alloc (by omega) (.cells (fcells zeros).toArray 59))
      have RS := E5.wholeC
      have RF := E0.fieldsP
      obtain ⟨p0, p1⟩ := E0.patch
      clear p0
      rw [HZ8.out] at TH RS RF p1 EB
      have HEB := Lib.hid EB
      clear hb hb1 C0 A5 E5 E0 EB HM HS HB HC0 HP1 HRF HW HSZ
      cases hll : decide (l = lab) with
      | false =>
        have bl : (l != lab) = true := by simpa using hll
        have HRR : Hid (R = 1) := Lib.hid (by
          rw [HRN.out, if_pos]
          have h : ¬ l = lab := by simpa using hll
          rw [HLL.out] at h
          right
          cases h8 : has x 8
          · rw [h8] at h
            exact ⟨fun e => h (by rw [e]; rfl), rfl⟩
          · rw [h8] at h
            exact absurd rfl h)
        clear hll
        go_wp2_with (first
          | (refine wpList_store_mid rfl 59 (.tmp 4) (.tmp 23) rfl w1.heap.size 0 (fcells sf).toArray rfl rfl (by simpa [HSF.out] using TH) (by simpa [HSF.out] using info_fields) (all_oneCell_toArray hone) ?_))
        go_ret
        exact ⟨by rw [HRR.out]; rfl, HEB.out⟩
      | true =>
        have bl : (l != lab) = false := by simpa using hll
        have hle : l = lab := by simpa using hll
        have HN8 : Hid (¬ (lab ≠ 0 ∧ has x 8 = false)) := Lib.hid (by
          rintro ⟨h1, h2⟩
          rw [HLL.out, h2] at hle
          exact h1 hle.symm)
        have HLE := Lib.hid hle
        clear hll hle
        cases hs : decide (sf = f) with
        | false =>
          have HRR : Hid (R = 1) := Lib.hid (by rw [HRN.out, HFK.out, hs]; simp)
          rw [hs] at HE
          clear hs
          go_wp2_with (first
            | (refine wpList_store_mid rfl 59 (.tmp 4) (.tmp 23) rfl w1.heap.size 0 (fcells sf).toArray rfl rfl (by simpa [HSF.out] using TH) (by simpa [HSF.out] using info_fields) (all_oneCell_toArray hone) ?_)
            | (refine wpList_load_g (by rfl) 59 (.tmp 4) rfl w1.heap.size 0 rfl (fcells sf) _ RS hu8 rfl (by rw [HSF.out]; exact info_fields) ?_)
            | (refine wpList_load_g (by rfl) 59 (.tmp 30) rfl w.heap.size 2 rfl (fcells f) _ RF hu8 rfl (by rw [HFL.out]; exact info_fields) ?_)
            | (refine wpList_exec (by rfl) (.bool true) (exec_neq 59 _ (.tmp 29) (.tmp 31) rfl _ _ rfl rfl guard_arr false (HE.out _)) ?_))
          go_ret
          exact ⟨by rw [HRR.out]; rfl, HEB.out⟩
        | true =>
          rw [hs] at HE
          have HSS := Lib.hid hs
          clear hs
          by_cases hg : 65535 < l
          · have dg : decide (65535 < l) = true := by simpa using hg
            have HRR : Hid (R = 1) := Lib.hid (by rw [HRN.out, if_pos]; left; rw [← HLE.out]; omega)
            clear hg
            go_wp2_with (first
              | (refine wpList_store_mid rfl 59 (.tmp 4) (.tmp 23) rfl w1.heap.size 0 (fcells sf).toArray rfl rfl (by simpa [HSF.out] using TH) (by simpa [HSF.out] using info_fields) (all_oneCell_toArray hone) ?_)
              | (refine wpList_load_g (by rfl) 59 (.tmp 4) rfl w1.heap.size 0 rfl (fcells sf) _ RS hu8 rfl (by rw [HSF.out]; exact info_fields) ?_)
              | (refine wpList_load_g (by rfl) 59 (.tmp 30) rfl w.heap.size 2 rfl (fcells f) _ RF hu8 rfl (by rw [HFL.out]; exact info_fields) ?_)
              | (refine wpList_exec (by rfl) (.bool false) (exec_neq 59 _ (.tmp 29) (.tmp 31) rfl _ _ rfl rfl guard_arr true (HE.out _)) ?_))
            go_ret
            exact ⟨by rw [HRR.out]; rfl, HEB.out⟩
          · have dg : decide (65535 < l) = false := by simpa using hg
            have HRV : Hid (R = if vk sf 8 then 0 else 1) := Lib.hid (by
              rw [HRN.out, if_neg (by rw [← HLE.out]; rintro (h | h); exact hg (by omega); exact HN8.out (by rw [← HLE.out]; exact h)), HFK.out, HSS.out, Bool.true_and])
            clear hg
            cases hv : vk sf 8 with
            | false =>
              rw [hv] at HV HRV
              have HRR : Hid (R = 1) := Lib.hid (by rw [HRV.out]; rfl)
              clear hv
              go_wp2_with (first
                | (refine wpList_store_mid rfl 59 (.tmp 4) (.tmp 23) rfl w1.heap.size 0 (fcells sf).toArray rfl rfl (by simpa [HSF.out] using TH) (by simpa [HSF.out] using info_fields) (all_oneCell_toArray hone) ?_)
                | (refine wpList_load_g (by rfl) 59 (.tmp 4) rfl w1.heap.size 0 rfl (fcells sf) _ RS hu8 rfl (by rw [HSF.out]; exact info_fields) ?_)
                | (refine wpList_load_g (by rfl) 59 (.tmp 30) rfl w.heap.size 2 rfl (fcells f) _ RF hu8 rfl (by rw [HFL.out]; exact info_fields) ?_)
                | (refine wpList_exec (by rfl) (.bool false) (exec_neq 59 _ (.tmp 29) (.tmp 31) rfl _ _ rfl rfl guard_arr true (HE.out _)) ?_))
              refine (HV.out _).mono ?_
              rintro e w2 ⟨rfl, hb⟩
              have hb2 := HEB.out.trans (hb.mono HEB.out.size)
              clear TH RS RF p1 HEB hb
              go_wp2_with fail
              go_ret
              exact ⟨by rw [HRR.out]; rfl, hb2⟩
            | true =>
              rw [hv] at HV HRV
              have HRR : Hid (R = 0) := Lib.hid (by rw [HRV.out]; rfl)
              clear hv
              go_wp2_with (first
                | (refine wpList_store_mid rfl 59 (.tmp 4) (.tmp 23) rfl w1.heap.size 0 (fcells sf).toArray rfl rfl (by simpa [HSF.out] using TH) (by simpa [HSF.out] using info_fields) (all_oneCell_toArray hone) ?_)
                | (refine wpList_load_g (by rfl) 59 (.tmp 4) rfl w1.heap.size 0 rfl (fcells sf) _ RS hu8 rfl (by rw [HSF.out]; exact info_fields) ?_)
                | (refine wpList_load_g (by rfl) 59 (.tmp 30) rfl w.heap.size 2 rfl (fcells f) _ RF hu8 rfl (by rw [HFL.out]; exact info_fields) ?_)
                | (refine wpList_exec (by rfl) (.bool false) (exec_neq 59 _ (.tmp 29) (.tmp 31) rfl _ _ rfl rfl guard_arr true (HE.out _)) ?_))
              refine (HV.out _).mono ?_
              rintro e w2 ⟨rfl, hb⟩
              have hb2 := HEB.out.trans (hb.mono HEB.out.size)
              clear TH RS RF p1 HEB hb
              go_wp2_with fail
              go_ret
              exact ⟨by rw [HRR.out]; rfl, hb2⟩
    · rw [decide_eq_false h1] at HM
      have HRR : Hid (R = 11) := Lib.hid (by rw [HR.out]; unfold pchk; rw [if_pos (.inl (by omega))])
      clear h1 h2
      go_enter Try.func76, Try.ntmps76
      go_wp2_with fail
      rw [HW.out]
      refine (HM.out _).mono ?_
      rintro e w' ⟨rfl, rfl⟩
      clear p0
      go_wp2_with fail
      go_ret
      exact ⟨by rw [HRR.out]; rfl, HB.out⟩
end Go.Proofs.Ytgpbglmlakildaa

/- Cards and patches as bytes: the mathematics. -/
namespace Go.Proofs.Ytgpbglmlakildaa
set_option linter.unusedVariables false
open Go Go.RowKit BitM OctM

/-- The fields below k that have a value. -/
def kl (f : List V3) (k : Nat) : List Int := ((List.range k).filter fun i => decide ((f.getD i zv).1 ≠ 0)).map fun i : Nat => (i : Int)
theorem kl_succ (f : List V3) (k : Nat) : kl f (k + 1) = kl f k ++ if (f.getD k zv).1 ≠ 0 then [(k : Int)] else [] := by
  unfold kl
  rw [List.range_succ, List.filter_append, List.map_append]
  by_cases h : (f.getD k zv).1 = 0
  · rw [List.filter_cons_of_neg (by rw [decide_eq_false (fun hn => hn h)]; exact Bool.false_ne_true), if_neg (fun hn => hn h)]; rfl
  · rw [List.filter_cons_of_pos (by rw [decide_eq_true h]), if_pos h]; rfl
theorem mem_kl (f : List V3) (k : Nat) (n : Int) : n ∈ kl f k ↔ ∃ i : Nat, i < k ∧ n = (i : Int) ∧ (f.getD i zv).1 ≠ 0 := by
  unfold kl
  simp only [List.mem_map, List.mem_filter, List.mem_range, decide_eq_true_eq]
  constructor
  · rintro ⟨i, ⟨h1, h2⟩, rfl⟩; exact ⟨i, h1, rfl, h2⟩
  · rintro ⟨i, h1, rfl, h2⟩; exact ⟨i, ⟨h1, h2⟩, rfl⟩
theorem zero_val {v : V3} (h : vchk v = true) : (zv ≠ v) ↔ v.1 ≠ 0 := by
  obtain ⟨k, n, s⟩ := v
  constructor
  · intro hne h0
    apply hne
    simp only at h0
    subst h0
    rw [vchk_0] at h
    obtain ⟨h1, h2⟩ := of_decide_eq_true h
    subst h1
    have : s = ⟨#[]⟩ := by
      apply ByteArray.ext
      apply Array.ext'
      rw [ByteArray.toList_eq] at h2
      exact h2
    rw [this]; rfl
  · intro hne e
    apply hne
    rw [← e]; rfl
theorem unl_kl (f : List V3) (hv : vk f 8 = true) : unl zeros f 8 = kl f 8 := by
  unfold unl kl
  congr 1
  refine List.filter_congr fun i hi => ?_
  have h8 : i < 8 := by simpa using hi
  have hz : zeros.getD i zv = zv := by
    unfold zeros
    rw [List.getD_eq_getElem?_getD, List.getElem?_replicate]
    split <;> rfl
  have hvi : vchk (f.getD i zv) = true := by
    unfold vk at hv
    exact List.all_eq_true.1 hv i hi
  rw [hz]
  exact decide_eq_decide.2 (zero_val hvi)
theorem klm (f : List V3) : mkm false (kl f 8) = ofl (kl f 8) := by
  apply BitM.ext
  intro n
  rw [has_mkm, has_ofl]
  simp only [Bool.false_and, Bool.or_false]
  by_cases hm : n ∈ kl f 8
  · obtain ⟨i, h1, rfl, _⟩ := (mem_kl f 8 n).1 hm
    rw [decide_eq_true (show 0 ≤ (i : Int) ∧ (i : Int) < 8 by omega), decide_eq_true (show 0 ≤ (i : Int) ∧ (i : Int) < 32 by omega)]
  · rw [decide_eq_false hm]; simp
theorem dmask_kl (lab : Int) (f : List V3) (hv : vk f 8 = true) : dmask lab zeros lab f = ofl (kl f 8) := by
  unfold dmask
  rw [unl_kl f hv, decide_eq_false (by simp), klm]
theorem lst_end {x : BitVec 32} {j : Nat} (h : ∀ i : Nat, j ≤ i → has x (i : Int) = false) : ∀ k, j ≤ k → lst x k = lst x j
  | 0, hk => by rw [show j = 0 by omega]
  | k + 1, hk => by
    by_cases e : j = k + 1
    · rw [e]
    · rw [lst_succ, h k (by omega), lst_end h k (by omega)]; simp
theorem flds_kl (f : List V3) : flds (ofl (kl f 8)) = kl f 8 := by
  have hh : ∀ n : Int, has (ofl (kl f 8) &&& 255#32) n = (decide (0 ≤ n ∧ n < 8) && decide (n ∈ kl f 8)) := by
    intro n
    rw [has_and_255, has_ofl]
    by_cases h1 : 0 ≤ n ∧ n < 8
    · rw [decide_eq_true h1, decide_eq_true (show 0 ≤ n ∧ n < 32 by omega), decide_eq_true h1.2]; simp
    · rw [decide_eq_false h1]
      by_cases hm : n ∈ kl f 8
      · obtain ⟨i, h2, rfl, _⟩ := (mem_kl f 8 n).1 hm
        exact absurd ⟨by omega, by omega⟩ h1
      · rw [decide_eq_false hm]; simp
  unfold flds
  rw [lst_end (j := 8) (fun i hi => by rw [hh, decide_eq_false (by omega), Bool.false_and]) 32 (by omega)]
  unfold lst
  conv => rhs; unfold kl
  congr 1
  refine List.filter_congr fun i hi => ?_
  have h8 : i < 8 := by simpa using hi
  rw [hh, decide_eq_true (show 0 ≤ (i : Int) ∧ (i : Int) < 8 by omega), Bool.true_and]
  refine decide_eq_decide.2 ?_
  rw [mem_kl]
  constructor
  · rintro ⟨j, _, h2, h3⟩
    obtain rfl : i = j := by omega
    exact h3
  · intro h; exact ⟨i, h8, rfl, h⟩
/-- A card's bytes. -/
def cbs (id ver lab : Int) (f : List V3) : List UInt8 := if ccheck id ver lab f = false then [] else (((enc (held id) ++ enc (held ver)) ++ enc (held lab)) ++ enc (held ((ofl (kl f 8)).toNat : Int))) ++ fbs (kl f 8) f
/-- A patch's bytes. -/
def pbs (x : BitVec 32) (lab : Int) (f : List V3) : List UInt8 := if pchk x lab f ≠ 0 then [] else (enc (held (x.toNat : Int)) ++ (if has x 8 = true then enc (held lab) else [])) ++ fbs (flds x) f
theorem fbs_len (L : List Int) (f : List V3) : (fbs L f).length ≤ 40 * L.length := by
  induction L with
  | nil => simp [fbs]
  | cons i L ih =>
    have := vbs_len (f.getD i.toNat zv)
    simp only [fbs, List.flatMap_cons, List.length_append, List.length_cons] at *
    omega
theorem kl_len (f : List V3) (k : Nat) : (kl f k).length ≤ k := by
  unfold kl
  rw [List.length_map]
  have := List.length_filter_le (fun i => decide ((f.getD i zv).1 ≠ 0)) (List.range k)
  simpa using this
theorem cbs_len (id ver lab : Int) (f : List V3) : (cbs id ver lab f).length ≤ 400 := by
  unfold cbs
  split
  · simp
  · simp only [List.length_append]
    have h1 := held_len id
    have h2 := held_len ver
    have h3 := held_len lab
    have h4 := held_len ((ofl (kl f 8)).toNat : Int)
    have h5 := fbs_len (kl f 8) f
    have h6 := kl_len f 8
    omega
theorem zclab (lab : Int) : (ccells 0 0 lab zeros).toArray = #[Value.int .i64 0, .int .i64 0, .int .u32 lab, .int .i64 0, .int .i64 0, .string { data := #[] }, .int .i64 0, .int .i64 0, .string { data := #[] }, .int .i64 0, .int .i64 0, .string { data := #[] }, .int .i64 0, .int .i64 0, .string { data := #[] }, .int .i64 0, .int .i64 0, .string { data := #[] }, .int .i64 0, .int .i64 0, .string { data := #[] }, .int .i64 0, .int .i64 0, .string { data := #[] }, .int .i64 0, .int .i64 0, .string { data := #[] }] := rfl

theorem flat2 {w : World} {A B : Option Addr} {n c m d : Nat} {l r : List UInt8} (T : TypeId) (hn : l.length = n) (hm : r.length = m) (hs : Sees w w.heap.size A (bvs l)) (ht : Sees w w.heap.size B (bvs r)) :
    FlatAt (w.alloc (.cells #[.slice A n c, .slice B m d] T)) w.heap.size [l, r] := fun k hk => by
  have hB := Blk.new w [.slice A n c, .slice B m d] T
  match k, hk with
  | 0, _ => exact ⟨A, c, by subst hn; exact hB.cell (j := 0) rfl, (hs.alloc (Nat.le_refl _) _).more (by simp)⟩
  | 1, _ => exact ⟨B, d, by subst hm; exact hB.cell (j := 1) rfl, (ht.alloc (Nat.le_refl _) _).more (by simp)⟩
/-- A slot that holds a slice of these bytes. -/
def relSee (n : Nat) (l : List UInt8) : Rel where
  rel v w := ∃ A c, v = .slice A n c ∧ Sees w w.heap.size A (bvs l)
  mono := fun v w w' h ⟨A, c, e, hs⟩ => ⟨A, c, e, (hs.below h).more h.size⟩
  real := fun w ⟨A, c, e, _⟩ => by cases e
theorem gives_see {w : World} {xs : List UInt8} {n : Nat} (hn : xs.length = n) {e : Ending} {w' : World} (h : GivesBytes w xs e w') : ∃ v, e = .returned v ∧ Below w.heap.size w w' ∧ (relSee n xs).rel v w' := by
  obtain ⟨A, c, rfl, ho, hb⟩ := h
  subst hn
  exact ⟨_, rfl, hb, A, c, rfl, ho.sees⟩

end Go.Proofs.Ytgpbglmlakildaa

/- Cards as bytes, by the document: what its PutCard returns. -/
namespace Go.Proofs.Ytgpbglmlakildaa
set_option linter.unusedVariables false
open Go Go.RowKit BitM OctM

theorem fbs_kl_succ (f : List V3) (k : Nat) (h : (f.getD k zv).1 ≠ 0) : fbs (kl f (k + 1)) f = fbs (kl f k) f ++ vbs (f.getD k zv) := by
  rw [kl_succ, if_pos h, fbs_snoc]; simp
theorem kl_skip (f : List V3) (k : Nat) (h : (f.getD k zv).1 = 0) : kl f (k + 1) = kl f k := by
  rw [kl_succ, if_neg (fun hn => hn h)]; simp
theorem ofl_kl_succ (f : List V3) (k : Nat) (h : (f.getD k zv).1 ≠ 0) : ofl (kl f (k + 1)) = put (ofl (kl f k)) (k : Int) := by
  rw [kl_succ, if_pos h, ofl_snoc]

end Go.Proofs.Ytgpbglmlakildaa

/- Patches as bytes: what PutPatch returns, the program's and the document's. -/
namespace Go.Proofs.Ytgpbglmlakildaa
set_option linter.unusedVariables false
open Go Go.RowKit BitM OctM

theorem flds_lst (x : BitVec 32) : flds x = lst x 8 := by
  have hh : ∀ n : Nat, has (x &&& 255#32) (n : Int) = (has x n && decide (n < 8)) := fun n => by
    rw [has_and_255 x n]
    first | rfl | (congr 1; simp; done) | (congr 1; simp; omega)
  unfold flds
  rw [lst_end (j := 8) (fun i hi => by rw [hh, decide_eq_false (by omega), Bool.and_false]) 32 (by omega)]
  unfold lst
  congr 1
  refine List.filter_congr fun i hi => ?_
  have h8 : i < 8 := by simpa using hi
  rw [hh, decide_eq_true h8, Bool.and_true]

set_option maxRecDepth 100000 in
set_option maxHeartbeats 3200000 in
theorem putpatch_any (x : BitVec 32) (lab : Int) (f : List V3) (A : Option Addr) (n c : Nat) (l : List UInt8) (w : World) (hf : f.length = 8) (hlb : 0 ≤ lab) (hn : l.length = n) (hs : Sees w w.heap.size A (bvs l)) (hm : n ≤ 10000) :
    Calls Try.prog 81 #[.slice A n c, .agg (pcells (x.toNat : Int) lab f).toArray] w (GivesBytes w (l ++ pbs x lab f)) := by
  have HCK := Lib.hid (fun wx : World => pcheck_any x lab f wx hf)
  have HCL := Lib.hid (fun (wx : World) (hb : Below w.heap.size w wx) => clone_any A n c l wx hn ((hs.below hb).more hb.size) (by omega))
  have HPLen : Hid ((pcells (x.toNat : Int) lab f).length = 26) := Lib.hid (pcells_len _ _ hf)
  have B0 := Blk.new w (pcells (x.toNat : Int) lab f) 61
  obtain ⟨pc, hpc⟩ : ∃ pc, pc = pcells (x.toNat : Int) lab f := ⟨_, rfl⟩
  rw [← hpc] at HCK B0 HPLen ⊢
  have hb0 := (Below.refl w.heap.size w).alloc (Nat.le_refl _) (.cells pc.toArray 61)
  have RG := B0.wholeC
  have hu := Try.underlying61
  have HFL : Hid ((fcells f).length = 24) := Lib.hid (by rw [fcells_len, hf])
  have hu8 := Try.underlying59
  obtain ⟨er, her⟩ : ∃ b, b = pchk x lab f := ⟨_, rfl⟩
  rw [← her] at HCK
  by_cases h0 : er = 0
  · have hok : pchk x lab f = 0 := her.symm.trans h0
    have hlab : lab < 65536 := by
      unfold pchk at hok
      split at hok
      · cases hok
      · split at hok
        · cases hok
        · omega
    have HB : Hid (l ++ pbs x lab f = l ++ ((enc (held (x.toNat : Int)) ++ (if has x 8 = true then enc (held lab) else [])) ++ fbs (flds x) f)) := Lib.hid (by unfold pbs; rw [if_neg (by rw [hok]; simp)])
    obtain ⟨R, hR⟩ : ∃ R, R = l ++ pbs x lab f := ⟨_, rfl⟩
    rw [← hR] at HB ⊢
    have HX := Lib.hid (fun (A' : Option Addr) (n' c' : Nat) (l' : List UInt8) (wx : World) (hn' : l'.length = n') (hs' : Sees wx wx.heap.size A' (bvs l')) (hm' : n' ≤ 10000) => putvals_any x f A' n' c' l' wx hf hn' hs' hm')
    have HLB := Lib.hid (fun wx : World => labels_any x wx)
    have hx4 := x.isLt
    have hfl := flds_len x
    have hf5 := fbs_len (flds x) f
    obtain ⟨X, hX⟩ : ∃ X, X = x.toNat := ⟨_, rfl⟩
    rw [← hX] at HX HB hx4 HLB hpc
    have HPC := Lib.hid hpc
    obtain ⟨b8, hb8⟩ : ∃ b, b = has x 8 := ⟨_, rfl⟩
    rw [← hb8] at HLB HB
    have be : (er != 0) = false := by simp [h0]
    obtain ⟨r1, hr1⟩ : ∃ r, r = enc (held (X : Int)) := ⟨_, rfl⟩
    obtain ⟨r2, hr2⟩ : ∃ r, r = r1 ++ (if b8 = true then enc (held lab) else []) := ⟨_, rfl⟩
    obtain ⟨r5, hr5⟩ : ∃ r, r = r2 ++ fbs (flds x) f := ⟨_, rfl⟩
    have e1 : r1.length ≤ 6 := by rw [hr1]; exact held_len _
    have e2 : r2.length ≤ 12 := by
      rw [hr2, List.length_append]
      have := held_len lab
      split <;> simp <;> omega
    have e5 : r5.length ≤ 2000 := by rw [hr5, List.length_append]; omega
    rw [← hr1, ← hr2, ← hr5] at HB
    have HN1 : Hid (∀ wx : World, Calls Try.prog 61 #[.slice none 0 0, .int .i64 (X : Int)] wx (GivesBytes wx r1)) := Lib.hid (fun wx => by
      have h := oct_num none 0 0 [] (X : Int) wx rfl Sees.nil_ (by omega)
      rw [List.nil_append, ← hr1] at h
      exact h)
    obtain ⟨n1, hn1⟩ : ∃ n, n = r1.length := ⟨_, rfl⟩
    obtain ⟨n2, hn2⟩ : ∃ n, n = r2.length := ⟨_, rfl⟩
    have HN2 : Hid (b8 = true → ∀ (A' : Option Addr) (c' : Nat) (wx : World), Sees wx wx.heap.size A' (bvs r1) → Calls Try.prog 61 #[.slice A' n1 c', .int .i64 lab] wx (GivesBytes wx r2)) := Lib.hid (fun hb A' c' wx hs' => by
      have h := oct_num A' n1 c' r1 lab wx hn1.symm hs' (by omega)
      rw [hb, if_pos rfl] at hr2
      rw [← hr2] at h; exact h)
    have HSK : Hid (b8 = false → r1 = r2) := Lib.hid (fun hb => by rw [hr2, hb]; simp)
    have HN5 : Hid (∀ (A' : Option Addr) (c' : Nat) (wx : World), Sees wx wx.heap.size A' (bvs r2) → Calls Try.prog 108 #[.slice A' n2 c', .int .u32 (X : Int), .agg (fcells f).toArray] wx (SeesBytes wx r5)) := Lib.hid (fun A' c' wx hs' => by
      have h := HX.out A' n2 c' r2 wx hn2.symm hs' (by omega)
      rw [← hr5] at h; exact h)
    have M1 := Lib.hid hn1
    have M2 := Lib.hid hn2
    have HS := Lib.hid hs
    have HNL := Lib.hid hn
    clear hr1 hr2 hr5 hn1 hn2 HX hs hn e1 e2 hR hX hpc hb8 hok her h0 hf hf5 hfl HCL
    obtain ⟨d0, d1⟩ := Blk.patch (m := (X : Int)) (lab := lab) (f := f) (by have := B0; rw [HPC.out] at this; exact this)
    clear d0 d1
    cases b8
    all_goals
      go_enter Try.func81, Try.ntmps81
      go_wp2_with (first
        | (refine wpList_load_mid rfl 61 (.tmp 3) rfl w.heap.size 0 rfl pc _ RG hu rfl (by rw [HPLen.out]; exact info_patch) ?_)
        | fail)
      refine (HCK.out _).mono ?_
      rintro e w1 ⟨rfl, hb1⟩
      have hbw := hb0.trans (hb1.mono hb0.size)
      replace B0 := B0.later hb1
      obtain ⟨p0, p1⟩ := Blk.patch (m := (X : Int)) (lab := lab) (f := f) (w := w1) (g := w.heap.size) (by rw [← HPC.out]; exact B0)
      clear RG hb1 hb0 HCK
      go_wp2_with fail
      refine (HN1.out _).mono ?_
      rintro e w2 ⟨A2, c2, rfl, o2, b2⟩
      have hs2 := o2.sees
      replace B0 := B0.later b2
      replace hbw := hbw.trans (b2.mono hbw.size)
      clear p0 p1
      obtain ⟨p0, p1⟩ := Blk.patch (m := (X : Int)) (lab := lab) (f := f) (w := w2) (g := w.heap.size) (by rw [← HPC.out]; exact B0)
      rw [← M1.out]
      clear o2 b2
      go_wp2_with fail
      refine (HLB.out _).mono ?_
      rintro e w3 ⟨rfl, rfl⟩
    · have HS12 := HSK.out trivial
      have hn12 : n1 = n2 := by rw [M1.out, M2.out, HS12]
      rw [HS12] at hs2
      clear HSK HN2 HS12 M1 HN1 p1
      subst hn12
      have RF : w2.rangeAt w.heap.size 2 (fcells f) := Blk.fieldsP (by rw [← HPC.out]; exact B0)
      go_wp2_with (first
        | (refine wpList_load_mid rfl 59 (.tmp 27) rfl w.heap.size 2 rfl (fcells f) _ RF hu8 rfl (by rw [HFL.out]; exact info_fields) ?_)
        | fail)
      refine (HN5.out _ _ _ hs2).mono ?_
      rintro e w6 ⟨A5, c5, rfl, s5, b5⟩
      replace hbw := hbw.trans (b5.mono hbw.size)
      have hsA : Sees w6 w6.heap.size A (bvs l) := (HS.out.below hbw).more hbw.size
      obtain ⟨n5, hn5⟩ : ∃ n, n = r5.length := ⟨_, rfl⟩
      rw [← hn5]
      have HCC := Lib.hid (concat_any w6.heap.size 2 2 [l, r5] (w6.alloc (.cells #[.slice A n c, .slice A5 n5 c5] 44)) rfl (by simp) (flat2 44 HNL.out hn5.symm hsA s5) (by omega) (by have := HNL.out; simp; omega))
      have HFL2 : Hid ([l, r5].flatten = R) := Lib.hid (by rw [HB.out]; simp)
      rw [HFL2.out] at HCC
      have hbw2 := hbw.alloc hbw.size (.cells #[.slice A n c, .slice A5 n5 c5] 44)
      clear hn5 s5 b5 B0 RF hsA hbw
      go_wp2_with fail
      refine HCC.out.mono ?_
      rintro e w7 ⟨A7, c7, rfl, o7, b7⟩
      go_wp2_with fail
      go_ret
      exact ⟨A7, c7, rfl, o7.lower hbw2.size, hbw2.trans (b7.mono hbw2.size)⟩
    · clear HSK
      go_wp2_with fail
      refine (HN2.out trivial _ _ _ hs2).mono ?_
      rintro e w4 ⟨A4, c4, rfl, o4, b4⟩
      have hs4 := o4.sees
      replace B0 := B0.later b4
      replace hbw := hbw.trans (b4.mono hbw.size)
      rw [← M2.out]
      clear p0 p1
      obtain ⟨p0, p1⟩ := Blk.patch (m := (X : Int)) (lab := lab) (f := f) (w := w4) (g := w.heap.size) (by rw [← HPC.out]; exact B0)
      have RF : w4.rangeAt w.heap.size 2 (fcells f) := Blk.fieldsP (by rw [← HPC.out]; exact B0)
      clear o4 b4 hs2 HN2 HN1
      go_wp2_with (first
        | (refine wpList_load_mid rfl 59 (.tmp 27) rfl w.heap.size 2 rfl (fcells f) _ RF hu8 rfl (by rw [HFL.out]; exact info_fields) ?_)
        | fail)
      refine (HN5.out _ _ _ hs4).mono ?_
      rintro e w6 ⟨A5, c5, rfl, s5, b5⟩
      replace hbw := hbw.trans (b5.mono hbw.size)
      have hsA : Sees w6 w6.heap.size A (bvs l) := (HS.out.below hbw).more hbw.size
      obtain ⟨n5, hn5⟩ : ∃ n, n = r5.length := ⟨_, rfl⟩
      rw [← hn5]
      have HCC := Lib.hid (concat_any w6.heap.size 2 2 [l, r5] (w6.alloc (.cells #[.slice A n c, .slice A5 n5 c5] 44)) rfl (by simp) (flat2 44 HNL.out hn5.symm hsA s5) (by omega) (by have := HNL.out; simp; omega))
      have HFL2 : Hid ([l, r5].flatten = R) := Lib.hid (by rw [HB.out]; simp)
      rw [HFL2.out] at HCC
      have hbw2 := hbw.alloc hbw.size (.cells #[.slice A n c, .slice A5 n5 c5] 44)
      clear hn5 s5 b5 B0 RF hsA hbw
      go_wp2_with fail
      refine HCC.out.mono ?_
      rintro e w7 ⟨A7, c7, rfl, o7, b7⟩
      go_wp2_with fail
      go_ret
      exact ⟨A7, c7, rfl, o7.lower hbw2.size, hbw2.trans (b7.mono hbw2.size)⟩
  · have HB : Hid (l ++ pbs x lab f = l) := Lib.hid (by unfold pbs; rw [if_pos (by rw [← her]; exact h0)]; simp)
    rw [HB.out]
    have be : (er != 0) = true := by simp [h0]
    clear HB her h0 hpc hs hn
    go_enter Try.func81, Try.ntmps81
    go_wp2_with (first
      | (refine wpList_load_mid rfl 61 (.tmp 3) rfl w.heap.size 0 rfl pc _ RG hu rfl (by rw [HPLen.out]; exact info_patch) ?_)
      | fail)
    refine (HCK.out _).mono ?_
    rintro e w1 ⟨rfl, hb1⟩
    have hbw := hb0.trans (hb1.mono hb0.size)
    clear RG hb1 hb0
    go_wp2_with fail
    refine (HCL.out _ hbw).mono ?_
    rintro e w2 ⟨A2, c2, rfl, ho, hb2⟩
    go_wp2_with fail
    go_ret
    exact ⟨A2, c2, rfl, ho.lower hbw.size, hbw.trans (hb2.mono hbw.size)⟩
end Go.Proofs.Ytgpbglmlakildaa

/- Filters as bytes: what predwire.Put returns. -/
namespace Go.Proofs.Ytgpbglmlakildaa
set_option linter.unusedVariables false
set_option linter.unusedSimpArgs false
open Go Go.RowKit OctM

set_option maxRecDepth 100000 in
set_option maxHeartbeats 6400000 in
theorem put_nodes (AB : Option Addr) (nb cb : Nat) (lb : List UInt8) (A : Option Addr) (n c : Nat) (l : List Nd) (w : World) (hnb : lb.length = nb) (hsb : Sees w w.heap.size AB (bvs lb)) (hmb : nb ≤ 10000) (hn : l.length = n) (hs : Sees w w.heap.size A (ncs l)) :
    Calls Try.prog 33 #[.slice AB nb cb, .slice A n c] w (GivesBytes w (lb ++ lbs l)) := by
  have HC := Lib.hid (lcheck_any A n c l w hn hs)
  by_cases hok : lchk l = 0
  · rw [hok] at HC
    have hu := Try.underlying29
    have huv := Try.underlying27
    have hn31 : n ≤ 31 := by rw [← hn]; exact (lchk_ok hok).1
    have HB : Hid (lb ++ lbs l = lb ++ (enc (held (n : Int)) ++ l.flatMap nbs)) := Lib.hid (by unfold lbs; rw [if_pos hok, hn])
    obtain ⟨R, hR⟩ : ∃ R, R = lb ++ lbs l := ⟨_, rfl⟩
    rw [← hR] at HB ⊢
    have HN := Lib.hid hn
    have HNB := Lib.hid hnb
    have HS := Lib.hid (show Sees w w.heap.size A (ncs l) from hs)
    have HSB := Lib.hid (show Sees w w.heap.size AB (bvs lb) from hsb)
    have HNUM0 := Lib.hid (fun wx : World => oct_num none 0 0 [] (n : Int) wx rfl Sees.nil_ (by omega))
    obtain ⟨r0, hr0⟩ : ∃ r, r = [] ++ enc (held (n : Int)) := ⟨_, rfl⟩
    rw [← hr0] at HNUM0
    have hr06 : r0.length ≤ 6 := by rw [hr0, List.nil_append]; exact held_len _
    have HR0 : Hid (r0 = enc (held (n : Int))) := Lib.hid (by rw [hr0]; rfl)
    clear hR hok hn hnb hs hsb hr0
    go_enter Try.func33, Try.ntmps33
    go_wp2_with fail
    refine HC.out.mono ?_
    rintro e w1 ⟨rfl, hb1⟩
    clear HC
    go_wp2_with fail
    refine (HNUM0.out _).mono ?_
    rintro e w2 ⟨A2, c2, rfl, o2, b2⟩
    have hbw := hb1.trans (b2.mono hb1.size)
    have hs2 := o2.sees
    obtain ⟨n2, hn2⟩ : ∃ n, n = r0.length := ⟨_, rfl⟩
    rw [← hn2]
    have HN2 := Lib.hid hn2.symm
    have hn26 : n2 ≤ 6 := by rw [hn2]; exact hr06
    clear o2 b2 hb1 hn2 hr06
    go_wp2_with fail
    go_loopw [20, 5] (fun i v wr => ∃ (k la : Nat) (acc : List UInt8), k ≤ n ∧ i = .int .i64 k ∧ (∃ A1 c1, v = .slice A1 la c1 ∧ Sees wr wr.heap.size A1 (bvs acc)) ∧ Hid (acc.length = la) ∧ la ≤ 6 + 52 * k ∧ Hid (acc = r0 ++ (l.take k).flatMap nbs) ∧ Below w.heap.size w wr) (fun i _ _ => n - (intOf i).toNat)
    case atStart => exact ⟨0, n2, r0, Nat.zero_le _, rfl, ⟨A2, c2, rfl, hs2⟩, HN2, by omega, Lib.hid (by simp), hbw⟩
    case round =>
      obtain ⟨k, la, acc, hk, rfl, ⟨A1, c1, rfl, hsa⟩, HLA, hla, HACC, hbr⟩ := hrel
      clear hbw hs2
      by_cases hlt : k < n
      · have hkl : k < l.length := by rw [HN.out]; exact hlt
        have d1 : decide ((k : Int) < (n : Int)) = true := by simp; omega
        obtain ⟨b, o, rfl, hb, hcc, hc2, hrg⟩ := sees_node (HS.out.below hbr) k hkl
        clear hcc hc2
        have HSTEP := Lib.hid (nbs_take l k hkl)
        have BN := Blk.new wr (ncells zn) 29
        have TH := BN.there 0 5 (by rw [ncells_len]; exact Nat.le_refl 5)
        have FIN := BN.sets (ncells l[k]) 0 (by rw [ncells_len, ncells_len]; exact Nat.le_refl 5)
        have e1 : (ncells zn).take 0 ++ ncells l[k] ++ (ncells zn).drop (0 + (ncells l[k]).length) = ncells l[k] := by simp [ncells]
        rw [e1] at FIN
        have HB2 := below_sets hbr.size (ncells l[k]) 0 (hbr.alloc hbr.size (.cells (ncells zn).toArray 29))
        have HBR := below_sets (Nat.le_refl wr.heap.size) (ncells l[k]) 0 ((Below.refl wr.heap.size wr).alloc (Nat.le_refl _) (.cells (ncells zn).toArray 29))
        have HONE := Lib.hid (show ∀ v ∈ ncells l[k], v.oneCell' = true from fun v hv => ncs_one [l[k]] v (by simpa [ncs] using hv))
        obtain ⟨⟨op, m, v0, v1, v2⟩, hnd⟩ : ∃ nd, nd = l[k] := ⟨_, rfl⟩
        have HNBS : Hid (nbs l[k] = enc (held op) ++ ((if hasN op = true then enc (held m) else []) ++ (if hasV op = true then vbs (v0, v1, v2) else []))) := Lib.hid (by rw [← hnd]; rfl)
        obtain ⟨nc, hnc⟩ : ∃ nc, nc = ncells l[k] := ⟨_, rfl⟩
        have HSZ := Lib.hid (show nc.length = 5 by rw [hnc]; rfl)
        have HNC : Hid (nc = [.int .i64 op, .int .i64 m, .int .i64 v0, .int .i64 v1, .string v2]) := Lib.hid (by rw [hnc, ← hnd]; rfl)
        rw [← hnc] at hrg FIN HB2 HBR HONE
        clear e1 hnc BN hnd
        rw [zc5] at TH HB2 HBR FIN
        rw [HNC.out] at FIN
        have hsa2 := (hsa.below HBR).more HBR.size
        obtain ⟨W2, hW2⟩ : ∃ W2, W2 = (wr.alloc (.cells #[.int .i64 0, .int .i64 0, .int .i64 0, .int .i64 0, .string ⟨#[]⟩] 29)).setCells wr.heap.size 0 nc := ⟨_, rfl⟩
        have HW2 := Lib.hid hW2
        have FIN2 : Blk W2 wr.heap.size [.int .i64 op, .int .i64 m, .int .i64 v0, .int .i64 v1, .string v2] := by rw [hW2, HNC.out]; exact FIN
        have HB3 : Below w.heap.size w W2 := by rw [hW2]; exact HB2
        have hsa3 : Sees W2 W2.heap.size A1 (bvs acc) := by rw [hW2]; exact hsa2
        obtain ⟨b1, hb1⟩ : ∃ b, b = hasN op := ⟨_, rfl⟩
        obtain ⟨b2, hb2⟩ : ∃ b, b = hasV op := ⟨_, rfl⟩
        have HM := Lib.hid (fun wx : World => most_any op wx)
        have HH := Lib.hid (fun wx : World => pholds_any op wx)
        rw [← hb1] at HM HNBS
        rw [← hb2] at HH HNBS
        obtain ⟨mm, hmm⟩ : ∃ mm, mm = npm op := ⟨_, rfl⟩
        rw [← hmm] at HM
        -- what is put in turn
        obtain ⟨x1, hx1⟩ : ∃ x, x = acc ++ enc (held op) := ⟨_, rfl⟩
        have hx1l : x1.length ≤ la + 6 := by rw [hx1, List.length_append, HLA.out]; have := held_len op; omega
        have HX1 := Lib.hid hx1
        have HN1 := Lib.hid (fun (wx : World) (AX : Option Addr) (cX : Nat) (h : Sees wx wx.heap.size AX (bvs acc)) => oct_num AX la cX acc op wx HLA.out h (by omega))
        rw [← hx1] at HN1
        obtain ⟨p1, hp1⟩ : ∃ p, p = x1.length := ⟨_, rfl⟩
        have HP1 := Lib.hid hp1.symm
        rw [← hp1] at hx1l
        clear hb1 hb2 hmm hx1 hW2 FIN HB2 HBR hsa2 hp1
        go_wp2_with (first
          | (refine wpList_load_mid rfl 29 (.tmp 22) rfl b (o + k * 5) rfl nc _ hrg hu rfl (by rw [HSZ.out]; exact info_node) ?_)
          | (refine wpList_store_mid rfl 29 (.tmp 7) (.tmp 23) rfl wr.heap.size 0 nc.toArray rfl rfl (by simpa [HSZ.out] using TH) (by simpa [HSZ.out] using info_node) (all_oneCell_toArray HONE.out) ?_
             rw [show (wr.alloc (.cells #[.int .i64 0, .int .i64 0, .int .i64 0, .int .i64 0, .string ⟨#[]⟩] 29)).setCells wr.heap.size 0 nc.toArray.toList = W2 from HW2.out.symm]
             have q0 := FIN2.cell (j := 0) rfl)
          | fail)
        refine (HN1.out _ _ _ hsa3).mono ?_
        rintro e w3 ⟨A3, c3, rfl, o3, b3⟩
        have hb3 := HB3.trans (b3.mono HB3.size)
        have F3 := FIN2.later b3
        have s3 := o3.sees
        have q0 := F3.cell (j := 0) rfl
        have q1 := F3.cell (j := 1) rfl
        rw [HP1.out]
        clear o3 b3 HB3 FIN2 hsa3 TH hrg HN1 hsa
        go_wp2_with fail
        refine (HM.out _).mono ?_
        rintro e w' ⟨rfl, rfl⟩
        cases b1 with
        | false =>
          go_wp2_with fail
          refine (HH.out _).mono ?_
          rintro e w' ⟨rfl, rfl⟩
          cases b2 with
          | false =>
            go_wp2_with fail
            go_roundw
            case rel => exact ⟨k + 1, p1, x1, by omega, by go_num, ⟨_, _, rfl, s3⟩, HP1, by omega, Lib.hid (by rw [HSTEP.out, HNBS.out, ← List.append_assoc, ← HACC.out]; simp only [HX1.out, List.append_assoc, List.append_nil, if_true, if_false, reduceCtorEq, List.nil_append, Bool.false_eq_true, ite_true, ite_false]), hb3⟩
            case measure => simp [intOf]; omega
          | true =>
            obtain ⟨x3, hx3⟩ : ∃ x, x = x1 ++ vbs (v0, v1, v2) := ⟨_, rfl⟩
            have hx3l : x3.length ≤ p1 + 40 := by rw [hx3, List.length_append, HP1.out]; have := vbs_len (v0, v1, v2); omega
            have HX3 := Lib.hid hx3
            have HN3 := Lib.hid (putval_any v0 v1 v2 A3 p1 c3 x1 _ HP1.out s3 (by omega))
            rw [← hx3] at HN3
            obtain ⟨p3, hp3⟩ : ∃ p, p = x3.length := ⟨_, rfl⟩
            have HP3 := Lib.hid hp3.symm
            rw [← hp3] at hx3l
            have RV := F3.range 2 [.int .i64 v0, .int .i64 v1, .string v2] rfl
            clear hx3 hp3
            go_wp2_with (first
              | (refine wpList_load_mid rfl 27 (.tmp 43) rfl wr.heap.size 2 rfl [.int .i64 v0, .int .i64 v1, .string v2] _ RV huv rfl info_val3 ?_)
              | fail)
            refine HN3.out.mono ?_
            rintro e w5 ⟨A5, c5, rfl, o5, b5⟩
            have hb5 := hb3.trans (b5.mono hb3.size)
            have s5 := o5.sees
            rw [HP3.out]
            clear o5 b5 RV HN3
            go_wp2_with fail
            go_roundw
            case rel => exact ⟨k + 1, p3, x3, by omega, by go_num, ⟨_, _, rfl, s5⟩, HP3, by omega, Lib.hid (by rw [HSTEP.out, HNBS.out, ← List.append_assoc, ← HACC.out]; simp only [HX1.out, HX3.out, List.append_assoc, List.append_nil, if_true, if_false, reduceCtorEq, List.nil_append, Bool.false_eq_true, ite_true, ite_false]), hb5⟩
            case measure => simp [intOf]; omega
        | true =>
          obtain ⟨x2, hx2⟩ : ∃ x, x = x1 ++ enc (held m) := ⟨_, rfl⟩
          have hx2l : x2.length ≤ p1 + 6 := by rw [hx2, List.length_append, HP1.out]; have := held_len m; omega
          have HX2 := Lib.hid hx2
          have HN4 := Lib.hid (oct_num A3 p1 c3 x1 m _ HP1.out s3 (by omega))
          rw [← hx2] at HN4
          obtain ⟨p2, hp2⟩ : ∃ p, p = x2.length := ⟨_, rfl⟩
          have HP2 := Lib.hid hp2.symm
          rw [← hp2] at hx2l
          clear hx2 hp2
          go_wp2_with fail
          refine HN4.out.mono ?_
          rintro e w4 ⟨A4, c4, rfl, o4, b4⟩
          have hb4 := hb3.trans (b4.mono hb3.size)
          have F4 := F3.later b4
          have s4 := o4.sees
          have q0 := F4.cell (j := 0) rfl
          rw [HP2.out]
          clear o4 b4 HN4 q1 s3
          go_wp2_with fail
          refine (HH.out _).mono ?_
          rintro e w' ⟨rfl, rfl⟩
          cases b2 with
          | false =>
            go_wp2_with fail
            go_roundw
            case rel => exact ⟨k + 1, p2, x2, by omega, by go_num, ⟨_, _, rfl, s4⟩, HP2, by omega, Lib.hid (by rw [HSTEP.out, HNBS.out, ← List.append_assoc, ← HACC.out]; simp only [HX1.out, HX2.out, List.append_assoc, List.append_nil, if_true, if_false, reduceCtorEq, List.nil_append, Bool.false_eq_true, ite_true, ite_false]), hb4⟩
            case measure => simp [intOf]; omega
          | true =>
            obtain ⟨x3, hx3⟩ : ∃ x, x = x2 ++ vbs (v0, v1, v2) := ⟨_, rfl⟩
            have hx3l : x3.length ≤ p2 + 40 := by rw [hx3, List.length_append, HP2.out]; have := vbs_len (v0, v1, v2); omega
            have HX3 := Lib.hid hx3
            have HN3 := Lib.hid (putval_any v0 v1 v2 A4 p2 c4 x2 _ HP2.out s4 (by omega))
            rw [← hx3] at HN3
            obtain ⟨p3, hp3⟩ : ∃ p, p = x3.length := ⟨_, rfl⟩
            have HP3 := Lib.hid hp3.symm
            rw [← hp3] at hx3l
            have RV := F4.range 2 [.int .i64 v0, .int .i64 v1, .string v2] rfl
            clear hx3 hp3
            go_wp2_with (first
              | (refine wpList_load_mid rfl 27 (.tmp 43) rfl wr.heap.size 2 rfl [.int .i64 v0, .int .i64 v1, .string v2] _ RV huv rfl info_val3 ?_)
              | fail)
            refine HN3.out.mono ?_
            rintro e w5 ⟨A5, c5, rfl, o5, b5⟩
            have hb5 := hb4.trans (b5.mono hb4.size)
            have s5 := o5.sees
            rw [HP3.out]
            clear o5 b5 RV HN3
            go_wp2_with fail
            go_roundw
            case rel => exact ⟨k + 1, p3, x3, by omega, by go_num, ⟨_, _, rfl, s5⟩, HP3, by omega, Lib.hid (by rw [HSTEP.out, HNBS.out, ← List.append_assoc, ← HACC.out]; simp only [HX1.out, HX2.out, HX3.out, List.append_assoc, List.append_nil, if_true, if_false, reduceCtorEq, List.nil_append, Bool.false_eq_true, ite_true, ite_false]), hb5⟩
            case measure => simp [intOf]; omega
      · obtain rfl : k = n := by omega
        have HA2 : Hid (lb ++ acc = R) := Lib.hid (by rw [HACC.out, HB.out, HR0.out, List.take_of_length_le (by rw [HN.out]; exact Nat.le_refl _)])
        have hsA : Sees wr wr.heap.size AB (bvs lb) := (HSB.out.below hbr).more hbr.size
        have HCC := Lib.hid (concat_any wr.heap.size 2 2 [lb, acc] (wr.alloc (.cells #[.slice AB nb cb, .slice A1 la c1] 44)) rfl (by simp) (flat2 44 HNB.out HLA.out hsA hsa) (by omega) (by have h1 := HNB.out; have h2 := HLA.out; simp; omega))
        have HFL2 : Hid ([lb, acc].flatten = R) := Lib.hid (by rw [← HA2.out]; simp)
        rw [HFL2.out] at HCC
        have hbw2 := hbr.alloc hbr.size (.cells #[.slice AB nb cb, .slice A1 la c1] 44)
        clear hsA hsa
        go_wp2_with fail
        refine HCC.out.mono ?_
        rintro e w7 ⟨A7, c7, rfl, o7, b7⟩
        go_wp2_with fail
        go_ret
        exact ⟨A7, c7, rfl, o7.lower hbw2.size, hbw2.trans (b7.mono hbw2.size)⟩
  · have HB : Hid (lb ++ lbs l = lb) := Lib.hid (by unfold lbs; rw [if_neg hok]; simp)
    rw [HB.out]
    obtain ⟨er, her⟩ : ∃ er, er = lchk l := ⟨_, rfl⟩
    rw [← her] at HC hok
    have be : (er != 0) = true := by simp [hok]
    have HCL := Lib.hid (fun (wx : World) (hb : Below w.heap.size w wx) => clone_any AB nb cb lb wx hnb ((hsb.below hb).more hb.size) (by omega))
    obtain ⟨q, hq⟩ : ∃ q, q = lb.length := ⟨_, rfl⟩
    clear HB her hok hn hs hnb hsb
    go_enter Try.func33, Try.ntmps33
    go_wp2_with fail
    refine HC.out.mono ?_
    rintro e w1 ⟨rfl, hb1⟩
    clear HC
    go_wp2_with fail
    refine (HCL.out _ hb1).mono ?_
    rintro e w7 ⟨A7, c7, rfl, o7, b7⟩
    have HO := Lib.hid o7
    clear o7
    go_wp2_with fail
    go_ret
    exact ⟨A7, c7, rfl, HO.out.lower hb1.size, hb1.trans (b7.mono hb1.size)⟩
end Go.Proofs.Ytgpbglmlakildaa

/- Filters as bytes: what the document's Put returns. -/
namespace Go.Proofs.Ytgpbglmlakildaa
set_option linter.unusedVariables false
set_option linter.unusedSimpArgs false
open Go Go.RowKit OctM

set_option maxRecDepth 100000 in
set_option maxHeartbeats 6400000 in
theorem rput_nodes (A : Option Addr) (n c : Nat) (l : List Nd) (w : World) (hn : l.length = n) (hs : Sees w w.heap.size A (ncs l)) (hc : n ≤ c) :
    Calls Try.prog 34 #[.slice A n c] w fun e w' => e = .returned (.string (str (lbs l))) ∧ Below w.heap.size w w' := by
  have HC := Lib.hid (rlcheck_any A n c l w hn hs hc)
  by_cases hok : lchk l = 0
  · rw [hok] at HC
    have hu := Try.underlying29
    have huv := Try.underlying27
    have hn31 : n ≤ 31 := by rw [← hn]; exact (lchk_ok hok).1
    have HB : Hid (lbs l = enc (held (n : Int)) ++ l.flatMap nbs) := Lib.hid (by unfold lbs; rw [if_pos hok, hn])
    obtain ⟨R, hR⟩ : ∃ R, R = str (lbs l) := ⟨_, rfl⟩
    have HR := Lib.hid hR
    rw [← hR]
    have HN := Lib.hid hn
    have HS := Lib.hid (show Sees w w.heap.size A (ncs l) from hs)
    have HNUM0 := Lib.hid (fun wx : World => ref_num (n : Int) wx)
    obtain ⟨r0, hr0⟩ : ∃ r, r = enc (held (n : Int)) := ⟨_, rfl⟩
    obtain ⟨t0, ht0⟩ : ∃ t, t = str r0 := ⟨_, rfl⟩
    rw [← hr0, ← ht0] at HNUM0
    have hr06 : t0.size ≤ 6 := by rw [ht0, str_size, hr0]; exact held_len _
    have HR0 := Lib.hid hr0
    have HT0 := Lib.hid ht0
    clear hR hok hn hs hr0 ht0
    go_enter Try.func34, Try.ntmps34
    go_wp2_with fail
    refine HC.out.mono ?_
    rintro e w1 ⟨rfl, hb1⟩
    clear HC
    go_wp2_with fail
    refine (HNUM0.out _).mono ?_
    rintro e w2 ⟨rfl, b2⟩
    have hbw := hb1.trans (b2.mono hb1.size)
    clear b2 hb1
    go_wp2_with fail
    go_loopw [4, 3] (fun i v wr => ∃ (k : Nat) (acc : List UInt8), k ≤ n ∧ i = .int .i64 k ∧ (∃ t : ByteArray, v = .string t ∧ Hid (t = str acc) ∧ t.size ≤ 6 + 52 * k) ∧ Hid (acc = r0 ++ (l.take k).flatMap nbs) ∧ Below w.heap.size w wr) (fun i _ _ => n - (intOf i).toNat)
    case atStart => exact ⟨0, r0, Nat.zero_le _, rfl, ⟨t0, rfl, HT0, by omega⟩, Lib.hid (by simp), hbw⟩
    case round =>
      obtain ⟨k, acc, hk, rfl, ⟨t, rfl, HT, ht⟩, HACC, hbr⟩ := hrel
      clear hbw
      by_cases hlt : k < n
      · have hkl : k < l.length := by rw [HN.out]; exact hlt
        have d1 : decide ((k : Int) < (n : Int)) = true := by simp; omega
        obtain ⟨b, o, rfl, hb, hcc, hc2, hrg⟩ := sees_node (HS.out.below hbr) k hkl
        clear hcc hc2
        have HSTEP := Lib.hid (nbs_take l k hkl)
        have BN := Blk.new wr (ncells zn) 29
        have TH := BN.there 0 5 (by rw [ncells_len]; exact Nat.le_refl 5)
        have FIN := BN.sets (ncells l[k]) 0 (by rw [ncells_len, ncells_len]; exact Nat.le_refl 5)
        have e1 : (ncells zn).take 0 ++ ncells l[k] ++ (ncells zn).drop (0 + (ncells l[k]).length) = ncells l[k] := by simp [ncells]
        rw [e1] at FIN
        have HB2 := below_sets hbr.size (ncells l[k]) 0 (hbr.alloc hbr.size (.cells (ncells zn).toArray 29))
        have HONE := Lib.hid (show ∀ v ∈ ncells l[k], v.oneCell' = true from fun v hv => ncs_one [l[k]] v (by simpa [ncs] using hv))
        obtain ⟨⟨op, m, v0, v1, v2⟩, hnd⟩ : ∃ nd, nd = l[k] := ⟨_, rfl⟩
        have HNBS : Hid (nbs l[k] = enc (held op) ++ ((if hasN op = true then enc (held m) else []) ++ (if hasV op = true then vbs (v0, v1, v2) else []))) := Lib.hid (by rw [← hnd]; rfl)
        obtain ⟨nc, hnc⟩ : ∃ nc, nc = ncells l[k] := ⟨_, rfl⟩
        have HSZ := Lib.hid (show nc.length = 5 by rw [hnc]; rfl)
        have HNC : Hid (nc = [.int .i64 op, .int .i64 m, .int .i64 v0, .int .i64 v1, .string v2]) := Lib.hid (by rw [hnc, ← hnd]; rfl)
        rw [← hnc] at hrg FIN HB2 HONE
        clear e1 hnc BN hnd
        rw [zc5] at TH HB2 FIN
        rw [HNC.out] at FIN
        obtain ⟨W2, hW2⟩ : ∃ W2, W2 = (wr.alloc (.cells #[.int .i64 0, .int .i64 0, .int .i64 0, .int .i64 0, .string ⟨#[]⟩] 29)).setCells wr.heap.size 0 nc := ⟨_, rfl⟩
        have HW2 := Lib.hid hW2
        have FIN2 : Blk W2 wr.heap.size [.int .i64 op, .int .i64 m, .int .i64 v0, .int .i64 v1, .string v2] := by rw [hW2, HNC.out]; exact FIN
        have HB3 : Below w.heap.size w W2 := by rw [hW2]; exact HB2
        have HN1 := Lib.hid (fun wx : World => ref_num op wx)
        have HN2 := Lib.hid (fun wx : World => ref_num m wx)
        have HN3 := Lib.hid (fun wx : World => rputval_any v0 v1 v2 wx)
        obtain ⟨u1, hu1⟩ : ∃ u, u = str (enc (held op)) := ⟨_, rfl⟩
        obtain ⟨u2, hu2⟩ : ∃ u, u = str (enc (held m)) := ⟨_, rfl⟩
        obtain ⟨u3, hu3⟩ : ∃ u, u = str (vbs (v0, v1, v2)) := ⟨_, rfl⟩
        rw [← hu1] at HN1
        rw [← hu2] at HN2
        rw [← hu3] at HN3
        have z1 : u1.size ≤ 6 := by rw [hu1, str_size]; exact held_len _
        have z2 : u2.size ≤ 6 := by rw [hu2, str_size]; exact held_len _
        have z3 : u3.size ≤ 40 := by rw [hu3, str_size]; exact vbs_len _
        have y1 : (t ++ u1).size = t.size + u1.size := by simp
        have y2 : (t ++ u1 ++ u2).size = t.size + u1.size + u2.size := by simp
        have y3 : (t ++ u1 ++ u2 ++ u3).size = t.size + u1.size + u2.size + u3.size := by simp
        have Y1 := Lib.hid y1
        have Y2 := Lib.hid y2
        have Y3 := Lib.hid y3
        have E1 : Hid (t ++ u1 = str (acc ++ enc (held op))) := Lib.hid (by rw [HT.out, hu1]; first | exact (str_append _ _).symm | exact str_append _ _)
        have E2 : Hid (t ++ u1 ++ u2 = str (acc ++ enc (held op) ++ enc (held m))) := Lib.hid (by rw [E1.out, hu2]; first | exact (str_append _ _).symm | exact str_append _ _)
        have E3 : Hid (t ++ u1 ++ u2 ++ u3 = str (acc ++ enc (held op) ++ enc (held m) ++ vbs (v0, v1, v2))) := Lib.hid (by rw [E2.out, hu3]; first | exact (str_append _ _).symm | exact str_append _ _)
        clear hW2 FIN HB2 hu1 hu2 hu3 y1 y2 y3
        go_wp2_with (first
          | (refine wpList_load_mid rfl 29 (.tmp 20) rfl b (o + k * 5) rfl nc _ hrg hu rfl (by rw [HSZ.out]; exact info_node) ?_)
          | (refine wpList_store_mid rfl 29 (.tmp 5) (.tmp 21) rfl wr.heap.size 0 nc.toArray rfl rfl (by simpa [HSZ.out] using TH) (by simpa [HSZ.out] using info_node) (all_oneCell_toArray HONE.out) ?_
             rw [show (wr.alloc (.cells #[.int .i64 0, .int .i64 0, .int .i64 0, .int .i64 0, .string ⟨#[]⟩] 29)).setCells wr.heap.size 0 nc.toArray.toList = W2 from HW2.out.symm]
             have q0 := FIN2.cell (j := 0) rfl)
          | fail)
        refine (HN1.out _).mono ?_
        rintro e w3 ⟨rfl, b3⟩
        have hb3 := HB3.trans (b3.mono HB3.size)
        have F3 := FIN2.later b3
        have q0 := F3.cell (j := 0) rfl
        have q1 := F3.cell (j := 1) rfl
        clear b3 HB3 FIN2 TH hrg HN1
        by_cases g3 : 3 ≤ op
        · by_cases g9 : op ≤ 9
          · skip
            have e3 : decide (3 ≤ op) = true := by simpa using g3
            have e9 : decide (op ≤ 9) = true := by simpa using g9
            by_cases g6 : 6 ≤ op
            · have e6 : decide (6 ≤ op) = true := by simpa using g6
              have BN2 : Hid (hasN op = true) := Lib.hid (by unfold hasN; exact decide_eq_true ⟨g3, g9⟩)
              have BV2 : Hid (hasV op = true) := Lib.hid (by unfold hasV; exact decide_eq_true ⟨g6, g9⟩)
              clear g3 g6 g9
              go_wp2_with fail
              refine (HN2.out _).mono ?_
              rintro e w4 ⟨rfl, b4⟩
              have hb4 := hb3.trans (b4.mono hb3.size)
              have F4 := F3.later b4
              have q0 := F4.cell (j := 0) rfl
              clear b4 HN2 q1
              have RV := F4.range 2 [.int .i64 v0, .int .i64 v1, .string v2] rfl
              go_wp2_with (first
                | (refine wpList_load_mid rfl 27 (.tmp 49) rfl wr.heap.size 2 rfl [.int .i64 v0, .int .i64 v1, .string v2] _ RV huv rfl info_val3 ?_)
                | fail)
              refine (HN3.out _).mono ?_
              rintro e w5 ⟨rfl, b5⟩
              have hb5 := hb4.trans (b5.mono hb4.size)
              clear b5 RV HN3
              go_wp2_with fail
              go_roundw
              case rel => exact ⟨k + 1, acc ++ enc (held op) ++ enc (held m) ++ vbs (v0, v1, v2), by omega, by go_num, ⟨_, rfl, E3, by rw [Y3.out]; omega⟩, Lib.hid (by rw [HSTEP.out, HNBS.out, BN2.out, BV2.out, ← List.append_assoc, ← HACC.out]; simp only [List.append_assoc, List.append_nil, if_true, if_false, reduceCtorEq, List.nil_append, Bool.false_eq_true, ite_true, ite_false]), hb5⟩
              case measure => simp [intOf]; omega
            · have e6 : decide (6 ≤ op) = false := by simpa using g6
              have BN2 : Hid (hasN op = true) := Lib.hid (by unfold hasN; exact decide_eq_true ⟨g3, g9⟩)
              have BV2 : Hid (hasV op = false) := Lib.hid (by unfold hasV; exact decide_eq_false (by omega))
              clear g3 g6 g9
              go_wp2_with fail
              refine (HN2.out _).mono ?_
              rintro e w4 ⟨rfl, b4⟩
              have hb4 := hb3.trans (b4.mono hb3.size)
              have F4 := F3.later b4
              have q0 := F4.cell (j := 0) rfl
              clear b4 HN2 q1
              go_wp2_with fail
              go_roundw
              case rel => exact ⟨k + 1, acc ++ enc (held op) ++ enc (held m), by omega, by go_num, ⟨_, rfl, E2, by rw [Y2.out]; omega⟩, Lib.hid (by rw [HSTEP.out, HNBS.out, BN2.out, BV2.out, ← List.append_assoc, ← HACC.out]; simp only [List.append_assoc, List.append_nil, if_true, if_false, reduceCtorEq, List.nil_append, Bool.false_eq_true, ite_true, ite_false]), hb4⟩
              case measure => simp [intOf]; omega
          · skip
            have e3 : decide (3 ≤ op) = true := by simpa using g3
            have e9 : decide (op ≤ 9) = false := by simpa using g9
            have e6 : decide (6 ≤ op) = true := by simp; omega
            have BN2 : Hid (hasN op = false) := Lib.hid (by unfold hasN; exact decide_eq_false (by omega))
            have BV2 : Hid (hasV op = false) := Lib.hid (by unfold hasV; exact decide_eq_false (by omega))
            clear g3 g9
            go_wp2_with fail
            go_roundw
            case rel => exact ⟨k + 1, acc ++ enc (held op), by omega, by go_num, ⟨_, rfl, E1, by rw [Y1.out]; omega⟩, Lib.hid (by rw [HSTEP.out, HNBS.out, BN2.out, BV2.out, ← List.append_assoc, ← HACC.out]; simp only [List.append_assoc, List.append_nil, if_true, if_false, reduceCtorEq, List.nil_append, Bool.false_eq_true, ite_true, ite_false]), hb3⟩
            case measure => simp [intOf]; omega
        · have e3 : decide (3 ≤ op) = false := by simpa using g3
          have e6 : decide (6 ≤ op) = false := by simp; omega
          have BN2 : Hid (hasN op = false) := Lib.hid (by unfold hasN; exact decide_eq_false (by omega))
          have BV2 : Hid (hasV op = false) := Lib.hid (by unfold hasV; exact decide_eq_false (by omega))
          clear g3
          go_wp2_with fail
          go_roundw
          case rel => exact ⟨k + 1, acc ++ enc (held op), by omega, by go_num, ⟨_, rfl, E1, by rw [Y1.out]; omega⟩, Lib.hid (by rw [HSTEP.out, HNBS.out, BN2.out, BV2.out, ← List.append_assoc, ← HACC.out]; simp only [List.append_assoc, List.append_nil, if_true, if_false, reduceCtorEq, List.nil_append, Bool.false_eq_true, ite_true, ite_false]), hb3⟩
          case measure => simp [intOf]; omega
      · obtain rfl : k = n := by omega
        have HA2 : Hid (t = R) := Lib.hid (by rw [HT.out, HACC.out, HR.out, HB.out, HR0.out, List.take_of_length_le (by rw [HN.out]; exact Nat.le_refl _)])
        go_wp2_with fail
        go_ret
        exact ⟨by rw [← HA2.out]; rfl, hbr⟩
  · have HB : Hid (lbs l = []) := Lib.hid (by unfold lbs; rw [if_neg hok])
    rw [HB.out]
    obtain ⟨er, her⟩ : ∃ er, er = lchk l := ⟨_, rfl⟩
    rw [← her] at HC hok
    have be : (er != 0) = true := by simp [hok]
    clear HB her hok hn hs
    go_enter Try.func34, Try.ntmps34
    go_wp2_with fail
    refine HC.out.mono ?_
    rintro e w1 ⟨rfl, hb1⟩
    clear HC
    go_wp2_with fail
    go_ret
    exact ⟨rfl, hb1⟩
end Go.Proofs.Ytgpbglmlakildaa

/- Filters: the chapter's examples; the walk of PredChecks. -/
namespace Go.Proofs.Ytgpbglmlakildaa
set_option linter.unusedVariables false
set_option linter.unusedSimpArgs false
open Go Go.RowKit

theorem range_later {w w' : World} {B b o : Nat} {cs : List Value} (h : w.rangeAt b o cs) (hl : Below B w w') (hb : b < B) : w'.rangeAt b o cs := fun j v hj => (hl.cell (p := ⟨b, o + j, none⟩) hb).trans (h j v hj)

def exA : List Nd := [(10, 0, zv), (3, 3, zv)]
def exB : List Nd := [(11, 0, zv), (1, 0, zv)]
theorem exA_ok : lchk exA = 0 ∧ dep exA = 2 := by decide +kernel
theorem exB_ok : lchk exB = 1 := by decide +kernel

set_option maxRecDepth 100000 in
set_option maxHeartbeats 3200000 in
theorem paw_any (w : World) : Calls Try.prog 13 #[] w fun e w' => e = .returned (.bool true) ∧ Below w.heap.size w w' := by
  have S1 := sees_lit w #[.int .i64 10, .int .i64 0, .int .i64 0, .int .i64 0, .string ⟨#[]⟩, .int .i64 3, .int .i64 3, .int .i64 0, .int .i64 0, .string ⟨#[]⟩] 29 (0, 0) (ncs exA) rfl
  have b1 := (Below.refl w.heap.size w).alloc (Nat.le_refl _) (.cells #[.int .i64 10, .int .i64 0, .int .i64 0, .int .i64 0, .string ⟨#[]⟩, .int .i64 3, .int .i64 3, .int .i64 0, .int .i64 0, .string ⟨#[]⟩] 29)
  have HA := Lib.hid (fun wx (h : Sees wx wx.heap.size (some ⟨w.heap.size, 0, none⟩) (ncs exA)) => lcheck_any (some ⟨w.heap.size, 0, none⟩) 2 2 exA wx rfl h)
  have HD := Lib.hid (fun wx (h : Sees wx wx.heap.size (some ⟨w.heap.size, 0, none⟩) (ncs exA)) => depth_any (some ⟨w.heap.size, 0, none⟩) 2 2 exA wx rfl h (by omega))
  have HB := Lib.hid (fun (w2 : World) => lcheck_any (some ⟨w2.heap.size, 0, none⟩) 2 2 exB (w2.alloc (.cells #[.int .i64 11, .int .i64 0, .int .i64 0, .int .i64 0, .string ⟨#[]⟩, .int .i64 1, .int .i64 0, .int .i64 0, .int .i64 0, .string ⟨#[]⟩] 29)) rfl ((sees_lit w2 #[.int .i64 11, .int .i64 0, .int .i64 0, .int .i64 0, .string ⟨#[]⟩, .int .i64 1, .int .i64 0, .int .i64 0, .int .i64 0, .string ⟨#[]⟩] 29 (0, 0) (ncs exB) rfl).more (by simp)))
  rw [exA_ok.1] at HA
  rw [exA_ok.2] at HD
  rw [exB_ok] at HB
  have HS := Lib.hid S1
  clear S1
  go_enter Try.func13, Try.ntmps13
  go_wp2_with fail
  have s1 := HS.out
  refine (HA.out _ (s1.more (by simp))).mono ?_
  rintro e w1 ⟨rfl, hb1⟩
  have b2 := b1.trans (hb1.mono b1.size)
  have s2 := Lib.hid ((s1.more (by simp)).below hb1)
  have hz1 : w.heap.size + 1 ≤ w1.heap.size := by have := hb1.size; simp at this; omega
  have s3 := Lib.hid ((s1.below (hb1.mono (by simp))).more hz1)
  clear s1 s2 hb1 HA
  go_wp2_with fail
  refine (HD.out _ s3.out).mono ?_
  rintro e w2 ⟨rfl, hb2⟩
  have b3 := b2.trans (hb2.mono b2.size)
  clear hb2 HD s3
  go_wp2_with fail
  refine (HB.out _).mono ?_
  rintro e w3 ⟨rfl, hb3⟩
  have b4 := (b3.alloc b3.size (.cells #[.int .i64 11, .int .i64 0, .int .i64 0, .int .i64 0, .string ⟨#[]⟩, .int .i64 1, .int .i64 0, .int .i64 0, .int .i64 0, .string ⟨#[]⟩] 29)).trans (hb3.mono (by have := b3.size; simp; omega))
  go_wp2_with fail
  go_ret
  exact ⟨rfl, b4⟩

set_option maxRecDepth 100000 in
set_option maxHeartbeats 6400000 in
theorem walk_checks (A : Option Addr) (n c : Nat) (l : List Nd) (at_ : Int) (w : World) (hn : l.length = n) (hs : Sees w w.heap.size A (ncs l)) (hc : n ≤ c) :
    Calls Try.prog 3 #[.slice A n c, .int .i64 at_] w fun e w' => e = .returned (.bool true) ∧ Below w.heap.size w w' := by
  have HAW := Lib.hid (fun wx : World => paw_any wx)
  have HLA := Lib.hid (nlarge_any A n c l w w.heap.size hn hs)
  cases hbig : lbig l with
  | true =>
    rw [hbig] at HLA
    clear hbig hs hn
    go_enter Try.func3, Try.ntmps3
    go_wp2_with fail
    refine HLA.out.mono ?_
    rintro e w1 ⟨rfl, rfl⟩
    go_wp2_with fail
    refine (HAW.out _).mono ?_
    rintro e w1 ⟨rfl, hb1⟩
    go_wp2_with fail
    go_ret
    exact ⟨rfl, hb1⟩
  | false =>
    rw [hbig] at HLA
    have hn100 : n ≤ 100 := by
      unfold lbig at hbig
      rw [Bool.or_eq_false_iff] at hbig
      have := of_decide_eq_false hbig.1
      omega
    have hu := Try.underlying29
    have HN := Lib.hid hn
    have HE := Lib.hid (fun wx (h : Below w.heap.size w wx) => end_any A n c l at_ wx w.heap.size hn (hs.below h) (by omega))
    have HE' := Lib.hid (fun wx (h : Below w.heap.size w wx) => rend_any A n c l at_ wx w.heap.size hn (hs.below h) (by omega))
    have HC := Lib.hid (fun wx (h : Below w.heap.size w wx) => lcheck_any A n c l wx hn ((hs.below h).more h.size))
    have HC' := Lib.hid (fun wx (h : Below w.heap.size w wx) => rlcheck_any A n c l wx hn ((hs.below h).more h.size) hc)
    have HD := Lib.hid (fun wx (h : Below w.heap.size w wx) => depth_any A n c l wx hn ((hs.below h).more h.size) (by omega))
    have HD' := Lib.hid (fun wx (h : Below w.heap.size w wx) => rdepth_any A n c l wx hn ((hs.below h).more h.size) hc (by omega))
    generalize endAt l at_ = zE at HE HE'
    generalize lchk l = zC at HC HC'
    generalize dep l = zD at HD HD'
    clear hbig hn
    go_enter Try.func3, Try.ntmps3
    go_wp2_with fail
    refine HLA.out.mono ?_
    rintro e w1 ⟨rfl, rfl⟩
    go_wp2_with fail
    go_loopw [5] (fun i wr => ∃ k : Nat, k ≤ n ∧ i = .int .i64 k ∧ Below w.heap.size w wr) (fun i _ => n - (intOf i).toNat)
    case atStart => exact ⟨0, by omega, rfl, Below.refl _ _⟩
    case round =>
      obtain ⟨k, hk, rfl, hbr⟩ := hrel
      by_cases hlt : k < n
      · have hkl : k < l.length := by rw [HN.out]; exact hlt
        have d1 : decide ((k : Int) < (n : Int)) = true := by simp; omega
        obtain ⟨b, o, rfl, hb, hcc, hc2, hrg⟩ := sees_node ((hs.below hbr).more hbr.size) k hkl
        clear hc2
        have hcl : ∀ kk : LW wr, kk.val.cell? ⟨b, o + k * 5, none⟩ = some (.int .i64 l[k].1) := fun kk => (kk.le.cell (p := ⟨b, o + k * 5, none⟩) hb).trans hcc
        have HRG := Lib.hid (fun (w1 : World) (hl : Le wr w1) => range_later hrg hl hb)
        have HNN := Lib.hid (fun wx : World => node_any l[k] wx)
        have HNR := Lib.hid (fun wx : World => rnode_any l[k] wx)
        have HP := Lib.hid (fun wx : World => (parts_any l[k].1 wx).mono fun e w' h => (show e = .returned (.int .i64 (par l[k].1)) ∧ Below wx.heap.size wx w' from ⟨h.1, h.2 ▸ Below.refl _ _⟩))
        have HP' := Lib.hid (fun wx : World => (rparts_any l[k].1 wx).mono fun e w' h => (show e = .returned (.int .i64 (par l[k].1)) ∧ Below wx.heap.size wx w' from ⟨h.1, h.2 ▸ Below.refl _ _⟩))
        obtain ⟨nc, hnc⟩ : ∃ nc, nc = ncells l[k] := ⟨_, rfl⟩
        have HSZ := Lib.hid (show nc.length = 5 by rw [hnc]; rfl)
        rw [← hnc] at HRG HNN HNR
        obtain ⟨op, hop⟩ : ∃ op, op = l[k].1 := ⟨_, rfl⟩
        rw [← hop] at hcl HP HP'
        obtain ⟨R1, hR1⟩ : ∃ b, b = nok l[k] := ⟨_, rfl⟩
        rw [← hR1] at HNN HNR
        obtain ⟨p, hp⟩ : ∃ p, p = par op := ⟨_, rfl⟩
        rw [← hp] at HP HP'
        have r1 : (R1 != R1) = false := by simp
        have r2 : ((p : Int) != (p : Int)) = false := by simp
        clear hnc hR1 hop hp hcc hrg
        go_wp2_with fail
        refine wp_region_steady [] 65 (by kernel_rfl) (by kernel_rfl) (by kernel_rfl) (by rfl) ?_
        iterate 3 (refine wpG_quiet (by rfl) (by rfl) (by rfl) (fun K hK => ?_); go_big_quiet_op; refine hK _ ?_; clear hK K)
        refine wpG_run (by rfl) (by rfl) (.agg nc.toArray) (fun w1 hl => exec_load 29 (.tmp 17) rfl b (o + k * 5) rfl nc _ (HRG.out w1 hl.1) hu rfl (by rw [HSZ.out]; exact info_node)) ?_
        simp only [Act.put, List.setIfInBounds_toArray, List.set_cons_zero, List.set_cons_succ]
        refine wpG_call (by rfl) (by rfl) 14 #[.agg nc.toArray] (.bool R1) (by intro _; simp [go_sem]) (by kernel_rfl) (fun w1 hl => HNN.out w1) ?_
        simp only [Act.put, List.setIfInBounds_toArray, List.set_cons_zero, List.set_cons_succ]
        iterate 3 (refine wpG_quiet (by rfl) (by rfl) (by rfl) (fun K hK => ?_); go_big_quiet_op; refine hK _ ?_; clear hK K)
        refine wpG_run (by rfl) (by rfl) (.agg nc.toArray) (fun w1 hl => exec_load 29 (.tmp 22) rfl b (o + k * 5) rfl nc _ (HRG.out w1 hl.1) hu rfl (by rw [HSZ.out]; exact info_node)) ?_
        simp only [Act.put, List.setIfInBounds_toArray, List.set_cons_zero, List.set_cons_succ]
        refine wpG_call (by rfl) (by rfl) 15 #[.agg nc.toArray] (.bool R1) (by intro _; simp [go_sem]) (by kernel_rfl) (fun w1 hl => HNR.out w1) ?_
        simp only [Act.put, List.setIfInBounds_toArray, List.set_cons_zero, List.set_cons_succ]
        iterate 7 (refine wpG_quiet (by rfl) (by rfl) (by rfl) (fun K hK => ?_); go_big_quiet_op; refine hK _ ?_; clear hK K)
        refine wpG_call (by rfl) (by rfl) 16 #[.int .i64 op] (.int .i64 p) (by intro _; simp [go_sem]) (by kernel_rfl) (fun w1 hl => HP.out w1) ?_
        simp only [Act.put, List.setIfInBounds_toArray, List.set_cons_zero, List.set_cons_succ]
        iterate 5 (refine wpG_quiet (by rfl) (by rfl) (by rfl) (fun K hK => ?_); go_big_quiet_op; refine hK _ ?_; clear hK K)
        refine wpG_call (by rfl) (by rfl) 17 #[.int .i64 op] (.int .i64 p) (by intro _; simp [go_sem]) (by kernel_rfl) (fun w1 hl => HP'.out w1) ?_
        simp only [Act.put, List.setIfInBounds_toArray, List.set_cons_zero, List.set_cons_succ]
        iterate 2 (refine wpG_quiet (by rfl) (by rfl) (by rfl) (fun K hK => ?_); go_big_quiet_op; refine hK _ ?_; clear hK K)
        refine wpG_nil fun w1 hl _ => ?_
        have hb1 := hbr.trans (hl.mono hbr.size)
        clear hcl hbr
        go_wp2_with fail
        go_roundw
        case rel => exact ⟨k + 1, by omega, by go_num, hb1⟩
        case measure => simp [intOf]; omega
      · obtain rfl : k = n := by omega
        have r1 : (zE == zE) = true := by simp
        have r2 : (zC == zC) = true := by simp
        have r3 : ((zD : Int) == (zD : Int)) = true := by simp
        go_wp2_with fail
        refine (HE.out _ hbr).mono ?_
        rintro e w1 ⟨rfl, rfl⟩
        go_wp2_with fail
        refine (HE'.out _ hbr).mono ?_
        rintro e w1 ⟨rfl, rfl⟩
        go_wp2_with fail
        refine (HC.out _ hbr).mono ?_
        rintro e w1 ⟨rfl, hb1⟩
        have hb1 := hbr.trans (hb1.mono hbr.size)
        go_wp2_with fail
        refine (HC'.out _ hb1).mono ?_
        rintro e w2 ⟨rfl, hb2⟩
        have hb2 := hb1.trans (hb2.mono hb1.size)
        go_wp2_with fail
        refine (HD.out _ hb2).mono ?_
        rintro e w3 ⟨rfl, hb3⟩
        have hb3 := hb2.trans (hb3.mono hb2.size)
        go_wp2_with fail
        refine (HD'.out _ hb3).mono ?_
        rintro e w4 ⟨rfl, hb4⟩
        have hb4 := hb3.trans (hb4.mono hb3.size)
        go_wp2_with fail
        refine (HAW.out _).mono ?_
        rintro e w5 ⟨rfl, hb5⟩
        have hb5 := hb4.trans (hb5.mono hb4.size)
        go_wp2_with fail
        go_ret
        exact ⟨rfl, hb5⟩
end Go.Proofs.Ytgpbglmlakildaa
