/- Cards: what is wrong with a patch: what it returns. -/
import Derived.Test.YtjlpccdlpgkgoaaCardS
import Derived.Test.YtjlpccdlpgkgoaaCardG
import Derived.Test.YtjlpccdlpgkgoaaCardF
import Derived.Test.YtjlpccdlpgkgoaaCardK
namespace Go.Proofs.Ytjlpccdlpgkgoaa
set_option linter.unusedVariables false
open Go Go.RowKit BitM

theorem vchk_none {v : V3} (h : vchk v = true) (h0 : v.1 = 0) : v = zv := by
  obtain ⟨k, n, s⟩ := v
  simp only at h0
  subst h0
  rw [vchk_0, decide_eq_true_eq] at h
  obtain ⟨rfl, hs⟩ := h
  rw [nil_str_iff] at hs
  subst hs
  rfl
theorem vk_iff (f : List V3) (k : Nat) : vk f k = true ↔ ∀ i, i < k → vchk (f.getD i zv) = true := by
  unfold vk
  simp only [List.all_eq_true, List.mem_range]
theorem fok_iff (x : BitVec 32) (f : List V3) (k : Nat) : fok x f k = true ↔ ∀ i, i < k → vchk (f.getD i zv) = true ∧ ((f.getD i zv).1 = 0 ∨ has x (i : Int) = true) := by
  unfold fok
  simp only [List.all_eq_true, List.mem_range, Bool.and_eq_true, Bool.or_eq_true, decide_eq_true_eq]
theorem zeros_getD (i : Nat) : zeros.getD i zv = zv := by
  unfold zeros
  rw [List.getD_eq_getElem?_getD, List.getElem?_replicate]
  split <;> rfl
theorem mix_same (x : BitVec 32) (f : List V3) (hf : f.length = 8) : mix (fun i => has x (i : Int)) f zeros = f ↔ ∀ i : Nat, i < 8 → has x (i : Int) = true ∨ f.getD i zv = zv := by
  constructor
  · intro h i hi
    have h1 := mix_getD (fun i => has x (i : Int)) f zeros i hi
    rw [h] at h1
    cases hx : has x (i : Int)
    · right
      rw [h1, hx]
      exact zeros_getD i
    · exact .inl rfl
  · intro h
    apply List.ext_getElem
    · rw [mix_len, hf]
    · intro i h1 h2
      have hi : i < 8 := by rw [hf] at h2; exact h2
      have e : f.getD i zv = f[i] := by simp [List.getD, h2]
      rw [mix_get]
      rcases h i hi with hx | hz
      · rw [hx, ← e]; rfl
      · cases hx : has x (i : Int)
        · rw [← e, hz]; exact zeros_getD i
        · rw [← e]; rfl
theorem fok_eq (x : BitVec 32) (f : List V3) (hf : f.length = 8) : fok x f 8 = (decide (mix (fun i => has x (i : Int)) f zeros = f) && vk (mix (fun i => has x (i : Int)) f zeros) 8) := by
  rw [Bool.eq_iff_iff, Bool.and_eq_true, decide_eq_true_eq]
  constructor
  · intro h
    rw [fok_iff] at h
    have hm : mix (fun i => has x (i : Int)) f zeros = f := (mix_same x f hf).2 (fun i hi => by
      rcases (h i hi).2 with h0 | hx
      · exact .inr (vchk_none (h i hi).1 h0)
      · exact .inl hx)
    refine ⟨hm, ?_⟩
    rw [hm, vk_iff]
    exact fun i hi => (h i hi).1
  · rintro ⟨hm, hv⟩
    rw [hm, vk_iff] at hv
    rw [fok_iff]
    intro i hi
    refine ⟨hv i hi, ?_⟩
    rcases (mix_same x f hf).1 hm i hi with hx | hz
    · exact .inr hx
    · exact .inl (by rw [hz]; rfl)
theorem guard_arr : Try.prog.eqGuardType Try.prog.depth 30 = false := by kernel_rfl

set_option maxRecDepth 100000 in
set_option maxHeartbeats 3200000 in
theorem pcheck_any (x : BitVec 32) (lab : Int) (f : List V3) (w : World) (hf : f.length = 8) :
    Calls Try.prog 20 #[.agg (pcells (x.toNat : Int) lab f).toArray] w fun e w' => e = .returned (.int .i64 (pchk x lab f)) ∧ Below w.heap.size w w' := by
  have HS := Lib.hid (fun wx : World => shown_any lab x f wx hf)
  have HM := Lib.hid (fun wx : World => mcheck_any x wx)
  have HFL : Hid ((fcells f).length = 24) := Lib.hid (by rw [fcells_len, hf])
  obtain ⟨l, hl⟩ : ∃ l : Int, l = (if has x 8 then lab else 0) := ⟨_, rfl⟩
  obtain ⟨sf, hsf⟩ : ∃ sf, sf = mix (fun i => has x (i : Int)) f zeros := ⟨_, rfl⟩
  have hs8 : sf.length = 8 := by rw [hsf, mix_len]
  have HSF : Hid ((fcells sf).length = 24) := Lib.hid (by rw [fcells_len, hs8])
  have HV := Lib.hid (fun wx : World => values_any sf wx hs8)
  have HE := Lib.hid (fun wx : World => eq_fields 9997 sf f hs8 hf wx)
  have hfk := fok_eq x f hf
  rw [← hl, ← hsf] at HS
  rw [← hsf] at hfk
  have hone : ∀ v ∈ fcells sf, v.oneCell' = true := fcells_one sf
  obtain ⟨R, hR⟩ : ∃ R, R = pchk x lab f := ⟨_, rfl⟩
  rw [← hR]
  have HR := Lib.hid hR
  have HFK := Lib.hid hfk
  have HLL := Lib.hid hl
  have HZ8 : Hid ((fcells zeros).toArray = #[Value.int .i64 0, .int .i64 0, .string { data := #[] }, .int .i64 0, .int .i64 0, .string { data := #[] }, .int .i64 0, .int .i64 0, .string { data := #[] }, .int .i64 0, .int .i64 0, .string { data := #[] }, .int .i64 0, .int .i64 0, .string { data := #[] }, .int .i64 0, .int .i64 0, .string { data := #[] }, .int .i64 0, .int .i64 0, .string { data := #[] }, .int .i64 0, .int .i64 0, .string { data := #[] }]) := Lib.hid rfl
  have B0 := Blk.new w (pcells (x.toNat : Int) lab f) 34
  obtain ⟨pa, hpa⟩ : ∃ pa, pa = (pcells (x.toNat : Int) lab f).toArray := ⟨_, rfl⟩
  rw [← hpa] at B0 ⊢
  have hw0 := (Below.refl w.heap.size w).alloc (Nat.le_refl _) (.cells pa 34)
  have hsz : (w.alloc (.cells pa 34)).heap.size = w.heap.size + 1 := by simp
  generalize hW : w.alloc (.cells pa 34) = W at *
  have HW := Lib.hid hW
  have HB := Lib.hid hw0
  have HSZ := Lib.hid hsz
  clear hl hsf hs8 hfk hR hpa hw0 hf hsz hW
  obtain ⟨p0, p1⟩ := B0.patch
  have RF := B0.fieldsP
  have hu8 := Try.underlying30
  have HC0 := Lib.hid B0
  have HP1 := Lib.hid p1
  have HRF := Lib.hid RF
  clear B0 p1 RF
  rw [← HW.out] at p0
  by_cases h2 : x.toNat = 0
  · have b2 : ((x.toNat : Int) == 0) = true := by rw [h2]; rfl
    have HRR : Hid (R = 11) := Lib.hid (by rw [HR.out]; unfold pchk; rw [if_pos (.inr h2)])
    clear h2
    go_enter Try.func20, Try.ntmps20
    go_wp2_with fail
    go_ret
    exact ⟨by rw [HRR.out]; rfl, by rw [HW.out]; exact HB.out⟩
  · have b2 : ((x.toNat : Int) == 0) = false := by rw [beq_eq_false_iff_ne]; omega
    by_cases h1 : x.toNat ≤ 511
    · rw [decide_eq_true h1] at HM
      have hn : ¬ (511 < x.toNat ∨ x.toNat = 0) := by omega
      have HRN : Hid (R = if 65536 ≤ lab ∨ (lab ≠ 0 ∧ has x 8 = false) then 1 else if fok x f 8 then 0 else 1) := Lib.hid (by rw [HR.out]; unfold pchk; rw [if_neg hn])
      clear h1 h2 hn
      go_enter Try.func20, Try.ntmps20
      go_wp2_with fail
      rw [HW.out]
      clear p0
      obtain ⟨p0, p1⟩ := HC0.out.patch
      refine (HM.out _).mono ?_
      rintro e w' ⟨rfl, rfl⟩
      have RF := HRF.out
      go_wp2_with (first
        | (refine wpList_load_mid rfl 30 (.tmp 17) rfl w.heap.size 2 rfl (fcells f) _ RF hu8 rfl (by rw [HFL.out]; exact info_fields) ?_))
      clear p0 p1 RF
      refine (HS.out _).mono ?_
      rintro e w1 ⟨rfl, hb⟩
      have hb1 := HB.out.trans (hb.mono HB.out.size)
      have C0 := (HC0.out.later hb).alloc (.cells (fcells zeros).toArray 30)
      have hlt : w.heap.size < w1.heap.size := (HC0.out.later hb).lt
      have A5 := Blk.new w1 (fcells zeros) 30
      have TH := A5.there 0 24 (by rw [fcells_len, zeros_len]; omega)
      have E5 := A5.whole (ds := fcells sf) (by rw [HSF.out, fcells_len, zeros_len])
      have E0 := Blk.setsOther (b := w1.heap.size) (g := w.heap.size) (by omega) (fcells sf) 0 C0
      have EB := below_sets (B := w.heap.size) (b := w1.heap.size) (by omega) (fcells sf) 0 (hb1.alloc (by omega) (.cells (fcells zeros).toArray 30))
      have RS := E5.wholeC
      have RF := E0.fieldsP
      obtain ⟨p0, p1⟩ := E0.patch
      clear p0
      rw [HZ8.out] at TH RS RF p1 EB
      have HEB := Lib.hid EB
      clear hb hb1 C0 A5 E5 E0 EB HM HS HB HC0 HP1 HRF HW HSZ
      cases hll : decide (l = lab) with
      | false =>
        have bl : (l != lab) = true := by simpa using hll
        have HRR : Hid (R = 1) := Lib.hid (by
          rw [HRN.out, if_pos]
          have h : ¬ l = lab := by simpa using hll
          rw [HLL.out] at h
          right
          cases h8 : has x 8
          · rw [h8] at h
            exact ⟨fun e => h (by rw [e]; rfl), rfl⟩
          · rw [h8] at h
            exact absurd rfl h)
        clear hll
        go_wp2_with (first
          | (refine wpList_store_mid rfl 30 (.tmp 4) (.tmp 23) rfl w1.heap.size 0 (fcells sf).toArray rfl rfl (by simpa [HSF.out] using TH) (by simpa [HSF.out] using info_fields) (all_oneCell_toArray hone) ?_))
        go_ret
        exact ⟨by rw [HRR.out]; rfl, HEB.out⟩
      | true =>
        have bl : (l != lab) = false := by simpa using hll
        have hle : l = lab := by simpa using hll
        have HN8 : Hid (¬ (lab ≠ 0 ∧ has x 8 = false)) := Lib.hid (by
          rintro ⟨h1, h2⟩
          rw [HLL.out, h2] at hle
          exact h1 hle.symm)
        have HLE := Lib.hid hle
        clear hll hle
        cases hs : decide (sf = f) with
        | false =>
          have HRR : Hid (R = 1) := Lib.hid (by rw [HRN.out, HFK.out, hs]; simp)
          rw [hs] at HE
          clear hs
          go_wp2_with (first
            | (refine wpList_store_mid rfl 30 (.tmp 4) (.tmp 23) rfl w1.heap.size 0 (fcells sf).toArray rfl rfl (by simpa [HSF.out] using TH) (by simpa [HSF.out] using info_fields) (all_oneCell_toArray hone) ?_)
            | (refine wpList_load_g (by rfl) 30 (.tmp 4) rfl w1.heap.size 0 rfl (fcells sf) _ RS hu8 rfl (by rw [HSF.out]; exact info_fields) ?_)
            | (refine wpList_load_g (by rfl) 30 (.tmp 30) rfl w.heap.size 2 rfl (fcells f) _ RF hu8 rfl (by rw [HFL.out]; exact info_fields) ?_)
            | (refine wpList_exec (by rfl) (.bool true) (exec_neq 30 _ (.tmp 29) (.tmp 31) rfl _ _ rfl rfl guard_arr false (HE.out _)) ?_))
          go_ret
          exact ⟨by rw [HRR.out]; rfl, HEB.out⟩
        | true =>
          rw [hs] at HE
          have HSS := Lib.hid hs
          clear hs
          by_cases hg : 65535 < l
          · have dg : decide (65535 < l) = true := by simpa using hg
            have HRR : Hid (R = 1) := Lib.hid (by rw [HRN.out, if_pos]; left; rw [← HLE.out]; omega)
            clear hg
            go_wp2_with (first
              | (refine wpList_store_mid rfl 30 (.tmp 4) (.tmp 23) rfl w1.heap.size 0 (fcells sf).toArray rfl rfl (by simpa [HSF.out] using TH) (by simpa [HSF.out] using info_fields) (all_oneCell_toArray hone) ?_)
              | (refine wpList_load_g (by rfl) 30 (.tmp 4) rfl w1.heap.size 0 rfl (fcells sf) _ RS hu8 rfl (by rw [HSF.out]; exact info_fields) ?_)
              | (refine wpList_load_g (by rfl) 30 (.tmp 30) rfl w.heap.size 2 rfl (fcells f) _ RF hu8 rfl (by rw [HFL.out]; exact info_fields) ?_)
              | (refine wpList_exec (by rfl) (.bool false) (exec_neq 30 _ (.tmp 29) (.tmp 31) rfl _ _ rfl rfl guard_arr true (HE.out _)) ?_))
            go_ret
            exact ⟨by rw [HRR.out]; rfl, HEB.out⟩
          · have dg : decide (65535 < l) = false := by simpa using hg
            have HRV : Hid (R = if vk sf 8 then 0 else 1) := Lib.hid (by
              rw [HRN.out, if_neg (by rw [← HLE.out]; rintro (h | h); exact hg (by omega); exact HN8.out (by rw [← HLE.out]; exact h)), HFK.out, HSS.out, Bool.true_and])
            clear hg
            cases hv : vk sf 8 with
            | false =>
              rw [hv] at HV HRV
              have HRR : Hid (R = 1) := Lib.hid (by rw [HRV.out]; rfl)
              clear hv
              go_wp2_with (first
                | (refine wpList_store_mid rfl 30 (.tmp 4) (.tmp 23) rfl w1.heap.size 0 (fcells sf).toArray rfl rfl (by simpa [HSF.out] using TH) (by simpa [HSF.out] using info_fields) (all_oneCell_toArray hone) ?_)
                | (refine wpList_load_g (by rfl) 30 (.tmp 4) rfl w1.heap.size 0 rfl (fcells sf) _ RS hu8 rfl (by rw [HSF.out]; exact info_fields) ?_)
                | (refine wpList_load_g (by rfl) 30 (.tmp 30) rfl w.heap.size 2 rfl (fcells f) _ RF hu8 rfl (by rw [HFL.out]; exact info_fields) ?_)
                | (refine wpList_exec (by rfl) (.bool false) (exec_neq 30 _ (.tmp 29) (.tmp 31) rfl _ _ rfl rfl guard_arr true (HE.out _)) ?_))
              refine (HV.out _).mono ?_
              rintro e w2 ⟨rfl, hb⟩
              have hb2 := HEB.out.trans (hb.mono HEB.out.size)
              clear TH RS RF p1 HEB hb
              go_wp2_with fail
              go_ret
              exact ⟨by rw [HRR.out]; rfl, hb2⟩
            | true =>
              rw [hv] at HV HRV
              have HRR : Hid (R = 0) := Lib.hid (by rw [HRV.out]; rfl)
              clear hv
              go_wp2_with (first
                | (refine wpList_store_mid rfl 30 (.tmp 4) (.tmp 23) rfl w1.heap.size 0 (fcells sf).toArray rfl rfl (by simpa [HSF.out] using TH) (by simpa [HSF.out] using info_fields) (all_oneCell_toArray hone) ?_)
                | (refine wpList_load_g (by rfl) 30 (.tmp 4) rfl w1.heap.size 0 rfl (fcells sf) _ RS hu8 rfl (by rw [HSF.out]; exact info_fields) ?_)
                | (refine wpList_load_g (by rfl) 30 (.tmp 30) rfl w.heap.size 2 rfl (fcells f) _ RF hu8 rfl (by rw [HFL.out]; exact info_fields) ?_)
                | (refine wpList_exec (by rfl) (.bool false) (exec_neq 30 _ (.tmp 29) (.tmp 31) rfl _ _ rfl rfl guard_arr true (HE.out _)) ?_))
              refine (HV.out _).mono ?_
              rintro e w2 ⟨rfl, hb⟩
              have hb2 := HEB.out.trans (hb.mono HEB.out.size)
              clear TH RS RF p1 HEB hb
              go_wp2_with fail
              go_ret
              exact ⟨by rw [HRR.out]; rfl, hb2⟩
    · rw [decide_eq_false h1] at HM
      have HRR : Hid (R = 11) := Lib.hid (by rw [HR.out]; unfold pchk; rw [if_pos (.inl (by omega))])
      clear h1 h2
      go_enter Try.func20, Try.ntmps20
      go_wp2_with fail
      rw [HW.out]
      refine (HM.out _).mono ?_
      rintro e w' ⟨rfl, rfl⟩
      clear p0
      go_wp2_with fail
      go_ret
      exact ⟨by rw [HRR.out]; rfl, HB.out⟩
end Go.Proofs.Ytjlpccdlpgkgoaa
