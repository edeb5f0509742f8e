/- Groups: which may be: Check, both. -/
import Derived.Test.YtglhgdkghddcaaaGrA
import Derived.Test.YtglhgdkghddcaaaInMid
namespace Go.Proofs.Ytglhgdkghddcaaa
set_option linter.unusedVariables false
set_option linter.unusedSimpArgs false
open Go Go.RowKit IdsM

theorem info_gp : (Try.prog.info? 41).map (·.size) = some 2 := by kernel_rfl
def zg : Gp := ⟨0, none, 0, 0, []⟩

set_option maxRecDepth 100000 in
set_option maxHeartbeats 6400000 in
theorem rgcheck_any (A : Option Addr) (n c : Nat) (l : List Gp) (w : World) (h : SeesG w A n c l) (hz : n ≤ 65536) (hz2 : ∀ g ∈ l, g.n ≤ 65536) :
    Calls Try.prog 9 #[.slice A n c] w fun e w' => e = .returned (.bool (decide (GOk l))) ∧ Below w.heap.size w w' := by
  have hu := Try.underlying41
  have HS := Lib.hid h
  have HN := Lib.hid h.len
  have HRNG := Lib.hid (fun k (hk : k < l.length) (e : ¬ (0 ≤ l[k].no ∧ l[k].no < 16)) => decide_eq_false (gok_range k hk e))
  have HRISE := Lib.hid (fun k (hk : k < l.length) (e : ¬ Rise l[k].m) => decide_eq_false (gok_rise k hk e))
  have HORD := Lib.hid (fun k (hk : k + 1 < l.length) (e : l[k + 1].no ≤ l[k].no) => decide_eq_false (gok_order k hk e))
  have HALL := Lib.hid (fun (e : GOk l) => decide_eq_true e)
  have HRCA : Hid (∀ g ∈ l, ∀ W, okGp W g → Calls Try.prog 32 #[.slice g.A g.n g.c] W fun e w' => e = .returned (.bool (decide (Rise g.m))) ∧ Below W.heap.size W w') := Lib.hid (fun g hg W ho => by
    have hn := ho.len
    have hs := ho.see
    have hm := hz2 g hg
    obtain ⟨no, A, n, c, m⟩ := g
    exact ref_check A n c m W hn hs hm)
  obtain ⟨R, hR⟩ : ∃ R, R = decide (GOk l) := ⟨_, rfl⟩
  rw [← hR] at HRNG HRISE HORD HALL ⊢
  clear hR h hz2
  go_enter Try.func9, Try.ntmps9
  go_wp2_with fail
  go_loopw [3] (fun i wr => ∃ k : Nat, k ≤ n ∧ i = .int .i64 (k : Int) ∧ Hid (GOk (l.take k)) ∧ Hid (Below w.heap.size w wr)) (fun i _ => n - (intOf i).toNat)
  case atStart => exact ⟨0, by omega, rfl, Lib.hid GOk.nil_, Lib.hid (Below.refl _ _)⟩
  case round =>
    obtain ⟨k, hk, rfl, HK, HB⟩ := hrel
    by_cases hlt : k < n
    · have d0 : decide ((k : Int) < (n : Int)) = true := decide_eq_true (by omega)
      have hkl : k < l.length := by rw [HN.out]; exact hlt
      obtain ⟨b, o, rfl, hbb, hg⟩ := HS.out.get k hkl
      have HRC : Hid (∀ W, Below w.heap.size w W → Calls Try.prog 32 #[.slice l[k].A l[k].n l[k].c] W fun e w' => e = .returned (.bool (decide (Rise l[k].m))) ∧ Below w.heap.size w w') := Lib.hid (fun W hW => (HRCA.out l[k] (List.getElem_mem hkl) W (hg W hW).2.2.2).mono (fun e w' he => ⟨he.1, hW.trans (he.2.mono hW.size)⟩))
      have HRC : Hid (∀ W, Below w.heap.size w W → Calls Try.prog 32 #[.slice l[k].A l[k].n l[k].c] W fun e w' => e = .returned (.bool (decide (Rise l[k].m))) ∧ Below W.heap.size W w') := Lib.hid (fun W hW => HRCA.out l[k] (List.getElem_mem hkl) W (hg W hW).2.2.2)
      have HPREV : Hid (∀ m (hm : k = m + 1), ∀ W, Below w.heap.size w W → W.cell? ⟨b, o + m * 2, none⟩ = some (.int .i64 (l[m]'(by omega)).no)) := Lib.hid (fun m hm W hW => by
        obtain ⟨b', o', e', _, hg'⟩ := HS.out.get m (by omega)
        cases e'
        exact (hg' W hW).2.1)
      have HC : Hid (∀ W, Below w.heap.size w W → W.cell? ⟨b, o + k * 2, none⟩ = some (.int .i64 l[k].no) ∧ W.cell? ⟨b, o + k * 2 + 1, none⟩ = some (.slice l[k].A l[k].n l[k].c) ∧ W.rangeAt b (o + k * 2) [.int .i64 l[k].no, .slice l[k].A l[k].n l[k].c]) := Lib.hid (fun W hW => ⟨(hg W hW).2.1, (hg W hW).2.2.1, (hg W hW).1⟩)
      have HF1 := Lib.hid (HRNG.out k hkl)
      have HF2 := Lib.hid (HRISE.out k hkl)
      have HF3 : Hid (∀ m (hm : k = m + 1), l[k].no ≤ (l[m]'(by omega)).no → R = false) := Lib.hid (fun m hm e => by subst hm; exact HORD.out m hkl e)
      have HG0 : Hid (k = 0 → 0 ≤ l[k].no ∧ l[k].no < 16 → Rise l[k].m → GOk (l.take (k + 1))) := Lib.hid (fun e h1 h2 => by subst e; exact gok_next0 hkl h1 h2)
      have HG1 : Hid (∀ m (hm : k = m + 1), 0 ≤ l[k].no ∧ l[k].no < 16 → Rise l[k].m → (l[m]'(by omega)).no < l[k].no → GOk (l.take (k + 1))) := Lib.hid (fun m hm h1 h2 h3 => by subst hm; exact gok_next m hkl HK.out h1 h2 h3)
      obtain ⟨rm, hrm⟩ : ∃ b, b = decide (Rise l[k].m) := ⟨_, rfl⟩
      rw [← hrm] at HRC
      have HRM := Lib.hid hrm
      obtain ⟨q, hq⟩ : ∃ q, q = l[k].no := ⟨_, rfl⟩
      obtain ⟨qA, hqA⟩ : ∃ q, q = l[k].A := ⟨_, rfl⟩
      obtain ⟨qn, hqn⟩ : ∃ q, q = l[k].n := ⟨_, rfl⟩
      obtain ⟨qc, hqc⟩ : ∃ q, q = l[k].c := ⟨_, rfl⟩
      rw [← hq] at HC HF1 HF3 HG0 HG1
      rw [← hqA, ← hqn, ← hqc] at HC HRC
      clear hg hrm hq hqA hqn hqc HRCA HRNG HRISE HORD HALL
      have HBW : Hid (∀ W, Le wr W → Below w.heap.size w W) := Lib.hid (fun W hl => HB.out.trans (hl.mono HB.out.size))
      have ca : ∀ kk : LW wr, kk.val.cell? ⟨b, o + k * 2, none⟩ = some (.int .i64 q) := fun kk => (HC.out _ (HBW.out _ kk.le)).1
      have cb : ∀ kk : LW wr, kk.val.cell? ⟨b, o + k * 2 + 1, none⟩ = some (.slice qA qn qc) := fun kk => (HC.out _ (HBW.out _ kk.le)).2.1
      clear hbb
      by_cases h1 : q < 0
      · have d1 : decide (q < 0) = true := decide_eq_true h1
        have HR := Lib.hid (HF1.out (by omega))
        go_wp2_with fail
        refine wp_region_steady [] 51 (by kernel_rfl) (by kernel_rfl) (by kernel_rfl) (by rfl) ?_
        repeat (first | (refine wpG_quiet (by rfl) (by rfl) (by rfl) (fun K hK => ?_); go_big_quiet_op; refine hK _ ?_; clear hK K) | (refine wpG_skip (by rfl) ?_; simp only [Act.put, List.setIfInBounds_toArray, List.set_cons_zero, List.set_cons_succ]))
        refine wpG_nil fun w1 hl _ => ?_
        have HB1 := Lib.hid (HBW.out w1 hl)
        clear HBW
        go_wp2_with fail
        go_ret
        exact ⟨by rw [HR.out]; rfl, HB1.out⟩
      · have d1 : decide (q < 0) = false := decide_eq_false h1
        by_cases h2 : 16 ≤ q
        · have d2 : decide (16 ≤ q) = true := decide_eq_true h2
          have HR := Lib.hid (HF1.out (by omega))
          go_wp2_with fail
          refine wp_region_steady [] 51 (by kernel_rfl) (by kernel_rfl) (by kernel_rfl) (by rfl) ?_
          repeat (first | (refine wpG_quiet (by rfl) (by rfl) (by rfl) (fun K hK => ?_); go_big_quiet_op; refine hK _ ?_; clear hK K) | (refine wpG_skip (by rfl) ?_; simp only [Act.put, List.setIfInBounds_toArray, List.set_cons_zero, List.set_cons_succ]))
          refine wpG_nil fun w1 hl _ => ?_
          have HB1 := Lib.hid (HBW.out w1 hl)
          clear HBW
          go_wp2_with fail
          go_ret
          exact ⟨by rw [HR.out]; rfl, HB1.out⟩
        · have d2 : decide (16 ≤ q) = false := decide_eq_false h2
          have HQ : Hid (0 ≤ q ∧ q < 16) := Lib.hid ⟨by omega, by omega⟩
          by_cases h3 : k = 0
          · have d3 : decide ((0 : Int) < (k : Int)) = false := decide_eq_false (by omega)
            have d3' : decide (0 < k) = false := decide_eq_false (by omega)
            have HK0 := Lib.hid h3
            clear h1 h2 h3
            cases rm with
            | false =>
              have HR := Lib.hid (HF2.out (of_decide_eq_false HRM.out.symm))
              go_wp2_with fail
              refine wp_region_steady [] 51 (by kernel_rfl) (by kernel_rfl) (by kernel_rfl) (by rfl) ?_
              repeat (first | (refine wpG_quiet (by rfl) (by rfl) (by rfl) (fun K hK => ?_); go_big_quiet_op; refine hK _ ?_; clear hK K) | (refine wpG_skip (by rfl) ?_; simp only [Act.put, List.setIfInBounds_toArray, List.set_cons_zero, List.set_cons_succ]))
              refine wpG_call (by rfl) (by rfl) 32 #[.slice qA qn qc] (.bool false) (by intro _; simp [go_sem]) (by kernel_rfl) (fun w1 hl => HRC.out w1 (HBW.out w1 hl.1)) ?_
              simp only [Act.put, List.setIfInBounds_toArray, List.set_cons_zero, List.set_cons_succ]
              repeat (first | (refine wpG_quiet (by rfl) (by rfl) (by rfl) (fun K hK => ?_); go_big_quiet_op; refine hK _ ?_; clear hK K) | (refine wpG_skip (by rfl) ?_; simp only [Act.put, List.setIfInBounds_toArray, List.set_cons_zero, List.set_cons_succ]))
              refine wpG_nil fun w1 hl _ => ?_
              have HB1 := Lib.hid (HBW.out w1 hl)
              clear HBW
              go_wp2_with fail
              go_ret
              exact ⟨by rw [HR.out]; rfl, HB1.out⟩
            | true =>
              go_wp2_with fail
              refine wp_region_steady [] 51 (by kernel_rfl) (by kernel_rfl) (by kernel_rfl) (by rfl) ?_
              repeat (first | (refine wpG_quiet (by rfl) (by rfl) (by rfl) (fun K hK => ?_); go_big_quiet_op; refine hK _ ?_; clear hK K) | (refine wpG_skip (by rfl) ?_; simp only [Act.put, List.setIfInBounds_toArray, List.set_cons_zero, List.set_cons_succ]))
              refine wpG_call (by rfl) (by rfl) 32 #[.slice qA qn qc] (.bool true) (by intro _; simp [go_sem]) (by kernel_rfl) (fun w1 hl => HRC.out w1 (HBW.out w1 hl.1)) ?_
              simp only [Act.put, List.setIfInBounds_toArray, List.set_cons_zero, List.set_cons_succ]
              repeat (first | (refine wpG_quiet (by rfl) (by rfl) (by rfl) (fun K hK => ?_); go_big_quiet_op; refine hK _ ?_; clear hK K) | (refine wpG_skip (by rfl) ?_; simp only [Act.put, List.setIfInBounds_toArray, List.set_cons_zero, List.set_cons_succ]))
              refine wpG_nil fun w1 hl _ => ?_
              have HB1 := Lib.hid (HBW.out w1 hl)
              clear HBW
              go_wp2_with fail
              go_roundw
              case rel => exact ⟨k + 1, by omega, by go_num, Lib.hid (HG0.out HK0.out HQ.out (of_decide_eq_true HRM.out.symm)), HB1⟩
              case measure => simp [intOf]; omega
          · obtain ⟨m, hm⟩ : ∃ m, k = m + 1 := ⟨k - 1, by omega⟩
            have d3 : decide ((0 : Int) < (k : Int)) = true := decide_eq_true (by omega)
            have d3' : decide (0 < k) = true := decide_eq_true (by omega)
            obtain ⟨p, hp⟩ : ∃ p, p = (l[m]'(by omega)).no := ⟨_, rfl⟩
            have cp : ∀ kk : LW wr, kk.val.cell? ⟨b, o + m * 2, none⟩ = some (.int .i64 p) := fun kk => by rw [hp]; exact HPREV.out m hm _ (HBW.out _ kk.le)
            have HF3 : Hid (q ≤ p → R = false) := Lib.hid (fun e => HF3.out m hm (by rw [← hp]; exact e))
            have HG1 : Hid (Rise l[k].m → p < q → GOk (l.take (k + 1))) := Lib.hid (fun e1 e2 => HG1.out m hm HQ.out e1 (by rw [← hp]; exact e2))
            have km : (k : Int) - 1 = (m : Int) := by omega
            have hmn : m < n := by omega
            clear hp HPREV hm
            by_cases h4 : q ≤ p
            · have d4 : decide (q ≤ p) = true := decide_eq_true h4
              have HR := Lib.hid (HF3.out h4)
              clear h1 h2 h3
              go_wp2_with fail
              refine wp_region_steady [] 51 (by kernel_rfl) (by kernel_rfl) (by kernel_rfl) (by rfl) ?_
              repeat (first | (refine wpG_quiet (by rfl) (by rfl) (by rfl) (fun K hK => ?_); go_big_quiet_op; refine hK _ ?_; clear hK K) | (refine wpG_skip (by rfl) ?_; simp only [Act.put, List.setIfInBounds_toArray, List.set_cons_zero, List.set_cons_succ]))
              refine wpG_nil fun w1 hl _ => ?_
              have HB1 := Lib.hid (HBW.out w1 hl)
              clear HBW
              go_wp2_with fail
              go_ret
              exact ⟨by rw [HR.out]; rfl, HB1.out⟩
            · have d4 : decide (q ≤ p) = false := decide_eq_false h4
              have H4 := Lib.hid h4
              clear h1 h2 h3 h4
              cases rm with
              | false =>
                have HR := Lib.hid (HF2.out (of_decide_eq_false HRM.out.symm))
                go_wp2_with fail
                refine wp_region_steady [] 51 (by kernel_rfl) (by kernel_rfl) (by kernel_rfl) (by rfl) ?_
                repeat (first | (refine wpG_quiet (by rfl) (by rfl) (by rfl) (fun K hK => ?_); go_big_quiet_op; refine hK _ ?_; clear hK K) | (refine wpG_skip (by rfl) ?_; simp only [Act.put, List.setIfInBounds_toArray, List.set_cons_zero, List.set_cons_succ]))
                refine wpG_call (by rfl) (by rfl) 32 #[.slice qA qn qc] (.bool false) (by intro _; simp [go_sem]) (by kernel_rfl) (fun w1 hl => HRC.out w1 (HBW.out w1 hl.1)) ?_
                simp only [Act.put, List.setIfInBounds_toArray, List.set_cons_zero, List.set_cons_succ]
                repeat (first | (refine wpG_quiet (by rfl) (by rfl) (by rfl) (fun K hK => ?_); go_big_quiet_op; refine hK _ ?_; clear hK K) | (refine wpG_skip (by rfl) ?_; simp only [Act.put, List.setIfInBounds_toArray, List.set_cons_zero, List.set_cons_succ]))
                refine wpG_nil fun w1 hl _ => ?_
                have HB1 := Lib.hid (HBW.out w1 hl)
                clear HBW
                go_wp2_with fail
                go_ret
                exact ⟨by rw [HR.out]; rfl, HB1.out⟩
              | true =>
                go_wp2_with fail
                refine wp_region_steady [] 51 (by kernel_rfl) (by kernel_rfl) (by kernel_rfl) (by rfl) ?_
                repeat (first | (refine wpG_quiet (by rfl) (by rfl) (by rfl) (fun K hK => ?_); go_big_quiet_op; refine hK _ ?_; clear hK K) | (refine wpG_skip (by rfl) ?_; simp only [Act.put, List.setIfInBounds_toArray, List.set_cons_zero, List.set_cons_succ]))
                refine wpG_call (by rfl) (by rfl) 32 #[.slice qA qn qc] (.bool true) (by intro _; simp [go_sem]) (by kernel_rfl) (fun w1 hl => HRC.out w1 (HBW.out w1 hl.1)) ?_
                simp only [Act.put, List.setIfInBounds_toArray, List.set_cons_zero, List.set_cons_succ]
                repeat (first | (refine wpG_quiet (by rfl) (by rfl) (by rfl) (fun K hK => ?_); go_big_quiet_op; refine hK _ ?_; clear hK K) | (refine wpG_skip (by rfl) ?_; simp only [Act.put, List.setIfInBounds_toArray, List.set_cons_zero, List.set_cons_succ]))
                refine wpG_nil fun w1 hl _ => ?_
                have HB1 := Lib.hid (HBW.out w1 hl)
                clear HBW
                go_wp2_with fail
                go_roundw
                case rel => exact ⟨k + 1, by omega, by go_num, Lib.hid (HG1.out (of_decide_eq_true HRM.out.symm) (by have := H4.out; omega)), HB1⟩
                case measure => simp [intOf]; omega
    · obtain rfl : k = n := by omega
      have HR := Lib.hid (HALL.out (by have := HK.out; rwa [List.take_of_length_le (by rw [HN.out]; exact Nat.le_refl _)] at this))
      clear HRCA HRNG HRISE HORD HALL
      go_wp2_with fail
      go_ret
      exact ⟨by rw [HR.out]; rfl, HB.out⟩

set_option maxRecDepth 100000 in
set_option maxHeartbeats 6400000 in
theorem gcheck_any (A : Option Addr) (n c : Nat) (l : List Gp) (w : World) (h : SeesG w A n c l) (hz : n ≤ 65536) (hz2 : ∀ g ∈ l, g.n ≤ 65536) :
    Calls Try.prog 8 #[.slice A n c] w fun e w' => e = .returned (.bool (decide (GOk l))) ∧ Below w.heap.size w w' := by
  have hu := Try.underlying41
  have HS := Lib.hid h
  have HN := Lib.hid h.len
  have HRNG := Lib.hid (fun k (hk : k < l.length) (e : ¬ (0 ≤ l[k].no ∧ l[k].no < 16)) => decide_eq_false (gok_range k hk e))
  have HRISE := Lib.hid (fun k (hk : k < l.length) (e : ¬ Rise l[k].m) => decide_eq_false (gok_rise k hk e))
  have HORD := Lib.hid (fun k (hk : k + 1 < l.length) (e : l[k + 1].no ≤ l[k].no) => decide_eq_false (gok_order k hk e))
  have HALL := Lib.hid (fun (e : GOk l) => decide_eq_true e)
  have HRCA : Hid (∀ g ∈ l, ∀ W, okGp W g → Calls Try.prog 31 #[.slice g.A g.n g.c] W fun e w' => e = .returned (.bool (decide (Rise g.m))) ∧ Below W.heap.size W w') := Lib.hid (fun g hg W ho => by
    have hn := ho.len
    have hs := ho.see
    have hm := hz2 g hg
    obtain ⟨no, A, n, c, m⟩ := g
    exact (check_any A n c m W hn hs hm).mono (by rintro e w' ⟨rfl, rfl⟩; exact ⟨rfl, Below.refl _ _⟩))
  obtain ⟨R, hR⟩ : ∃ R, R = decide (GOk l) := ⟨_, rfl⟩
  rw [← hR] at HRNG HRISE HORD HALL ⊢
  clear hR h hz2
  go_enter Try.func8, Try.ntmps8
  go_wp2_with fail
  go_loopw [7] (fun i wr => ∃ k : Nat, k ≤ n ∧ i = .int .i64 (k : Int) ∧ Hid (GOk (l.take k)) ∧ Hid (Below w.heap.size w wr)) (fun i _ => n - (intOf i).toNat)
  case atStart => exact ⟨0, by omega, rfl, Lib.hid GOk.nil_, Lib.hid (Below.refl _ _)⟩
  case round =>
    obtain ⟨k, hk, rfl, HK, HB⟩ := hrel
    by_cases hlt : k < n
    · have d0 : decide ((k : Int) < (n : Int)) = true := decide_eq_true (by omega)
      have hkl : k < l.length := by rw [HN.out]; exact hlt
      obtain ⟨b, o, rfl, hbb, hg⟩ := HS.out.get k hkl
      have HRC : Hid (∀ W, Below w.heap.size w W → Calls Try.prog 31 #[.slice l[k].A l[k].n l[k].c] W fun e w' => e = .returned (.bool (decide (Rise l[k].m))) ∧ Below w.heap.size w w') := Lib.hid (fun W hW => (HRCA.out l[k] (List.getElem_mem hkl) W (hg W hW).2.2.2).mono (fun e w' he => ⟨he.1, hW.trans (he.2.mono hW.size)⟩))
      have HRC : Hid (∀ W, Below w.heap.size w W → Calls Try.prog 31 #[.slice l[k].A l[k].n l[k].c] W fun e w' => e = .returned (.bool (decide (Rise l[k].m))) ∧ Below W.heap.size W w') := Lib.hid (fun W hW => HRCA.out l[k] (List.getElem_mem hkl) W (hg W hW).2.2.2)
      have HPREV : Hid (∀ m (hm : k = m + 1), ∀ W, Below w.heap.size w W → W.cell? ⟨b, o + m * 2, none⟩ = some (.int .i64 (l[m]'(by omega)).no)) := Lib.hid (fun m hm W hW => by
        obtain ⟨b', o', e', _, hg'⟩ := HS.out.get m (by omega)
        cases e'
        exact (hg' W hW).2.1)
      have HC : Hid (∀ W, Below w.heap.size w W → W.cell? ⟨b, o + k * 2, none⟩ = some (.int .i64 l[k].no) ∧ W.cell? ⟨b, o + k * 2 + 1, none⟩ = some (.slice l[k].A l[k].n l[k].c) ∧ W.rangeAt b (o + k * 2) [.int .i64 l[k].no, .slice l[k].A l[k].n l[k].c]) := Lib.hid (fun W hW => ⟨(hg W hW).2.1, (hg W hW).2.2.1, (hg W hW).1⟩)
      have HF1 := Lib.hid (HRNG.out k hkl)
      have HF2 := Lib.hid (HRISE.out k hkl)
      have HF3 : Hid (∀ m (hm : k = m + 1), l[k].no ≤ (l[m]'(by omega)).no → R = false) := Lib.hid (fun m hm e => by subst hm; exact HORD.out m hkl e)
      have HG0 : Hid (k = 0 → 0 ≤ l[k].no ∧ l[k].no < 16 → Rise l[k].m → GOk (l.take (k + 1))) := Lib.hid (fun e h1 h2 => by subst e; exact gok_next0 hkl h1 h2)
      have HG1 : Hid (∀ m (hm : k = m + 1), 0 ≤ l[k].no ∧ l[k].no < 16 → Rise l[k].m → (l[m]'(by omega)).no < l[k].no → GOk (l.take (k + 1))) := Lib.hid (fun m hm h1 h2 h3 => by subst hm; exact gok_next m hkl HK.out h1 h2 h3)
      obtain ⟨rm, hrm⟩ : ∃ b, b = decide (Rise l[k].m) := ⟨_, rfl⟩
      rw [← hrm] at HRC
      have HRM := Lib.hid hrm
      obtain ⟨q, hq⟩ : ∃ q, q = l[k].no := ⟨_, rfl⟩
      obtain ⟨qA, hqA⟩ : ∃ q, q = l[k].A := ⟨_, rfl⟩
      obtain ⟨qn, hqn⟩ : ∃ q, q = l[k].n := ⟨_, rfl⟩
      obtain ⟨qc, hqc⟩ : ∃ q, q = l[k].c := ⟨_, rfl⟩
      rw [← hq] at HC HF1 HF3 HG0 HG1
      rw [← hqA, ← hqn, ← hqc] at HC HRC
      clear hg hrm hq hqA hqn hqc HRCA HRNG HRISE HORD HALL
      have FIN : Blk (wr.alloc (.cells #[.int .i64 q, .slice qA qn qc] 41)) wr.heap.size [.int .i64 q, .slice qA qn qc] := Blk.new wr [.int .i64 q, .slice qA qn qc] 41
      have HLW := Lib.hid (HB.out.alloc HB.out.size (.cells #[.int .i64 q, .slice qA qn qc] 41))
      obtain ⟨W5, HW5⟩ : ∃ W5, Hid (W5 = wr.alloc (.cells #[.int .i64 q, .slice qA qn qc] 41)) := ⟨_, Lib.hid rfl⟩
      rw [← HW5.out] at FIN HLW
      have HBW : Hid (∀ W, Le W5 W → Below w.heap.size w W) := Lib.hid (fun W hl => HLW.out.trans (hl.mono HLW.out.size))
      have HFIN := Lib.hid FIN
      have ca : ∀ kk : LW W5, kk.val.cell? ⟨wr.heap.size, 0, none⟩ = some (.int .i64 q) := fun kk => (HFIN.out.later kk.le).cell (j := 0) rfl
      have cb : ∀ kk : LW W5, kk.val.cell? ⟨wr.heap.size, 1, none⟩ = some (.slice qA qn qc) := fun kk => (HFIN.out.later kk.le).cell (j := 1) rfl
      have hrg := (HC.out wr HB.out).2.2
      have HGRP := Lib.hid (fun wx : World => grp_any q wx)
      clear hbb FIN
      by_cases h12 : ¬ (0 ≤ q ∧ q < 16)
      · have dr : decide (0 ≤ q ∧ q < 16) = false := decide_eq_false h12
        rw [dr] at HGRP
        have HR := Lib.hid (HF1.out h12)
        go_wp2_with (first
          | (refine wpList_load_mid rfl 41 (.tmp 10) rfl b (o + k * 2) rfl [.int .i64 q, .slice qA qn qc] _ hrg hu rfl info_gp ?_
             simp only [Act.put, List.setIfInBounds_toArray, List.set_cons_zero, List.set_cons_succ])
          | fail)
        rw [← HW5.out]
        clear hrg
        refine wp_region_steady [] 38 (by kernel_rfl) (by kernel_rfl) (by kernel_rfl) (by rfl) ?_
        repeat (first | (refine wpG_quiet (by rfl) (by rfl) (by rfl) (fun K hK => ?_); go_big_quiet_op; refine hK _ ?_; clear hK K) | (refine wpG_skip (by rfl) ?_; simp only [Act.put, List.setIfInBounds_toArray, List.set_cons_zero, List.set_cons_succ]))
        refine wpG_call (by rfl) (by rfl) 30 #[.int .i64 q] (.bool false) (by intro _; simp [go_sem]) (by kernel_rfl) (fun w1 hl => (HGRP.out w1).mono ?_) ?_
        · rintro e w2 ⟨rfl, rfl⟩
          exact ⟨rfl, Below.refl _ _⟩
        simp only [Act.put, List.setIfInBounds_toArray, List.set_cons_zero, List.set_cons_succ]
        repeat (first | (refine wpG_quiet (by rfl) (by rfl) (by rfl) (fun K hK => ?_); go_big_quiet_op; refine hK _ ?_; clear hK K) | (refine wpG_skip (by rfl) ?_; simp only [Act.put, List.setIfInBounds_toArray, List.set_cons_zero, List.set_cons_succ]))
        refine wpG_nil fun w1 hl _ => ?_
        have HB1 := Lib.hid (HBW.out w1 hl)
        clear HBW
        go_wp2_with fail
        go_ret
        exact ⟨by rw [HR.out]; rfl, HB1.out⟩
      · have h12 : 0 ≤ q ∧ q < 16 := Classical.not_not.1 h12
        have dr : decide (0 ≤ q ∧ q < 16) = true := decide_eq_true h12
        rw [dr] at HGRP
        have h1 : ¬ q < 0 := by omega
        have h2 : ¬ 16 ≤ q := by omega
        clear h12 dr
        have HQ : Hid (0 ≤ q ∧ q < 16) := Lib.hid ⟨by omega, by omega⟩
        by_cases h3 : k = 0
        · have d3 : decide ((0 : Int) < (k : Int)) = false := decide_eq_false (by omega)
          have d3' : decide (0 < k) = false := decide_eq_false (by omega)
          have HK0 := Lib.hid h3
          clear h1 h2 h3
          cases rm with
          | false =>
            have HR := Lib.hid (HF2.out (of_decide_eq_false HRM.out.symm))
            go_wp2_with (first
              | (refine wpList_load_mid rfl 41 (.tmp 10) rfl b (o + k * 2) rfl [.int .i64 q, .slice qA qn qc] _ hrg hu rfl info_gp ?_
                 simp only [Act.put, List.setIfInBounds_toArray, List.set_cons_zero, List.set_cons_succ])
              | fail)
            rw [← HW5.out]
            clear hrg
            refine wp_region_steady [] 38 (by kernel_rfl) (by kernel_rfl) (by kernel_rfl) (by rfl) ?_
            repeat (first | (refine wpG_quiet (by rfl) (by rfl) (by rfl) (fun K hK => ?_); go_big_quiet_op; refine hK _ ?_; clear hK K) | (refine wpG_skip (by rfl) ?_; simp only [Act.put, List.setIfInBounds_toArray, List.set_cons_zero, List.set_cons_succ]))
            refine wpG_call (by rfl) (by rfl) 30 #[.int .i64 q] (.bool true) (by intro _; simp [go_sem]) (by kernel_rfl) (fun w1 hl => (HGRP.out w1).mono ?_) ?_
            · rintro e w2 ⟨rfl, rfl⟩
              exact ⟨rfl, Below.refl _ _⟩
            simp only [Act.put, List.setIfInBounds_toArray, List.set_cons_zero, List.set_cons_succ]
            repeat (first | (refine wpG_quiet (by rfl) (by rfl) (by rfl) (fun K hK => ?_); go_big_quiet_op; refine hK _ ?_; clear hK K) | (refine wpG_skip (by rfl) ?_; simp only [Act.put, List.setIfInBounds_toArray, List.set_cons_zero, List.set_cons_succ]))
            refine wpG_call (by rfl) (by rfl) 31 #[.slice qA qn qc] (.bool false) (by intro _; simp [go_sem]) (by kernel_rfl) (fun w1 hl => HRC.out w1 (HBW.out w1 hl.1)) ?_
            simp only [Act.put, List.setIfInBounds_toArray, List.set_cons_zero, List.set_cons_succ]
            repeat (first | (refine wpG_quiet (by rfl) (by rfl) (by rfl) (fun K hK => ?_); go_big_quiet_op; refine hK _ ?_; clear hK K) | (refine wpG_skip (by rfl) ?_; simp only [Act.put, List.setIfInBounds_toArray, List.set_cons_zero, List.set_cons_succ]))
            refine wpG_nil fun w1 hl _ => ?_
            have HB1 := Lib.hid (HBW.out w1 hl)
            clear HBW
            go_wp2_with fail
            go_ret
            exact ⟨by rw [HR.out]; rfl, HB1.out⟩
          | true =>
            go_wp2_with (first
              | (refine wpList_load_mid rfl 41 (.tmp 10) rfl b (o + k * 2) rfl [.int .i64 q, .slice qA qn qc] _ hrg hu rfl info_gp ?_
                 simp only [Act.put, List.setIfInBounds_toArray, List.set_cons_zero, List.set_cons_succ])
              | fail)
            rw [← HW5.out]
            clear hrg
            refine wp_region_steady [] 38 (by kernel_rfl) (by kernel_rfl) (by kernel_rfl) (by rfl) ?_
            repeat (first | (refine wpG_quiet (by rfl) (by rfl) (by rfl) (fun K hK => ?_); go_big_quiet_op; refine hK _ ?_; clear hK K) | (refine wpG_skip (by rfl) ?_; simp only [Act.put, List.setIfInBounds_toArray, List.set_cons_zero, List.set_cons_succ]))
            refine wpG_call (by rfl) (by rfl) 30 #[.int .i64 q] (.bool true) (by intro _; simp [go_sem]) (by kernel_rfl) (fun w1 hl => (HGRP.out w1).mono ?_) ?_
            · rintro e w2 ⟨rfl, rfl⟩
              exact ⟨rfl, Below.refl _ _⟩
            simp only [Act.put, List.setIfInBounds_toArray, List.set_cons_zero, List.set_cons_succ]
            repeat (first | (refine wpG_quiet (by rfl) (by rfl) (by rfl) (fun K hK => ?_); go_big_quiet_op; refine hK _ ?_; clear hK K) | (refine wpG_skip (by rfl) ?_; simp only [Act.put, List.setIfInBounds_toArray, List.set_cons_zero, List.set_cons_succ]))
            refine wpG_call (by rfl) (by rfl) 31 #[.slice qA qn qc] (.bool true) (by intro _; simp [go_sem]) (by kernel_rfl) (fun w1 hl => HRC.out w1 (HBW.out w1 hl.1)) ?_
            simp only [Act.put, List.setIfInBounds_toArray, List.set_cons_zero, List.set_cons_succ]
            repeat (first | (refine wpG_quiet (by rfl) (by rfl) (by rfl) (fun K hK => ?_); go_big_quiet_op; refine hK _ ?_; clear hK K) | (refine wpG_skip (by rfl) ?_; simp only [Act.put, List.setIfInBounds_toArray, List.set_cons_zero, List.set_cons_succ]))
            refine wpG_nil fun w1 hl _ => ?_
            have HB1 := Lib.hid (HBW.out w1 hl)
            clear HBW
            go_wp2_with fail
            go_roundw
            case rel => exact ⟨k + 1, by omega, by go_num, Lib.hid (HG0.out HK0.out HQ.out (of_decide_eq_true HRM.out.symm)), HB1⟩
            case measure => simp [intOf]; omega
        · obtain ⟨m, hm⟩ : ∃ m, k = m + 1 := ⟨k - 1, by omega⟩
          have d3 : decide ((0 : Int) < (k : Int)) = true := decide_eq_true (by omega)
          have d3' : decide (0 < k) = true := decide_eq_true (by omega)
          obtain ⟨p, hp⟩ : ∃ p, p = (l[m]'(by omega)).no := ⟨_, rfl⟩
          have cp : ∀ kk : LW W5, kk.val.cell? ⟨b, o + m * 2, none⟩ = some (.int .i64 p) := fun kk => by rw [hp]; exact HPREV.out m hm _ (HBW.out _ kk.le)
          have HF3 : Hid (q ≤ p → R = false) := Lib.hid (fun e => HF3.out m hm (by rw [← hp]; exact e))
          have HG1 : Hid (Rise l[k].m → p < q → GOk (l.take (k + 1))) := Lib.hid (fun e1 e2 => HG1.out m hm HQ.out e1 (by rw [← hp]; exact e2))
          have km : (k : Int) - 1 = (m : Int) := by omega
          have hmn : m < n := by omega
          clear hp HPREV hm
          by_cases h4 : q ≤ p
          · have d4 : decide (q ≤ p) = true := decide_eq_true h4
            have HR := Lib.hid (HF3.out h4)
            clear h1 h2 h3
            go_wp2_with (first
              | (refine wpList_load_mid rfl 41 (.tmp 10) rfl b (o + k * 2) rfl [.int .i64 q, .slice qA qn qc] _ hrg hu rfl info_gp ?_
                 simp only [Act.put, List.setIfInBounds_toArray, List.set_cons_zero, List.set_cons_succ])
              | fail)
            rw [← HW5.out]
            clear hrg
            refine wp_region_steady [] 38 (by kernel_rfl) (by kernel_rfl) (by kernel_rfl) (by rfl) ?_
            repeat (first | (refine wpG_quiet (by rfl) (by rfl) (by rfl) (fun K hK => ?_); go_big_quiet_op; refine hK _ ?_; clear hK K) | (refine wpG_skip (by rfl) ?_; simp only [Act.put, List.setIfInBounds_toArray, List.set_cons_zero, List.set_cons_succ]))
            refine wpG_call (by rfl) (by rfl) 30 #[.int .i64 q] (.bool true) (by intro _; simp [go_sem]) (by kernel_rfl) (fun w1 hl => (HGRP.out w1).mono ?_) ?_
            · rintro e w2 ⟨rfl, rfl⟩
              exact ⟨rfl, Below.refl _ _⟩
            simp only [Act.put, List.setIfInBounds_toArray, List.set_cons_zero, List.set_cons_succ]
            repeat (first | (refine wpG_quiet (by rfl) (by rfl) (by rfl) (fun K hK => ?_); go_big_quiet_op; refine hK _ ?_; clear hK K) | (refine wpG_skip (by rfl) ?_; simp only [Act.put, List.setIfInBounds_toArray, List.set_cons_zero, List.set_cons_succ]))
            refine wpG_nil fun w1 hl _ => ?_
            have HB1 := Lib.hid (HBW.out w1 hl)
            clear HBW
            go_wp2_with fail
            go_ret
            exact ⟨by rw [HR.out]; rfl, HB1.out⟩
          · have d4 : decide (q ≤ p) = false := decide_eq_false h4
            have H4 := Lib.hid h4
            clear h1 h2 h3 h4
            cases rm with
            | false =>
              have HR := Lib.hid (HF2.out (of_decide_eq_false HRM.out.symm))
              go_wp2_with (first
                | (refine wpList_load_mid rfl 41 (.tmp 10) rfl b (o + k * 2) rfl [.int .i64 q, .slice qA qn qc] _ hrg hu rfl info_gp ?_
                   simp only [Act.put, List.setIfInBounds_toArray, List.set_cons_zero, List.set_cons_succ])
                | fail)
              rw [← HW5.out]
              clear hrg
              refine wp_region_steady [] 38 (by kernel_rfl) (by kernel_rfl) (by kernel_rfl) (by rfl) ?_
              repeat (first | (refine wpG_quiet (by rfl) (by rfl) (by rfl) (fun K hK => ?_); go_big_quiet_op; refine hK _ ?_; clear hK K) | (refine wpG_skip (by rfl) ?_; simp only [Act.put, List.setIfInBounds_toArray, List.set_cons_zero, List.set_cons_succ]))
              refine wpG_call (by rfl) (by rfl) 30 #[.int .i64 q] (.bool true) (by intro _; simp [go_sem]) (by kernel_rfl) (fun w1 hl => (HGRP.out w1).mono ?_) ?_
              · rintro e w2 ⟨rfl, rfl⟩
                exact ⟨rfl, Below.refl _ _⟩
              simp only [Act.put, List.setIfInBounds_toArray, List.set_cons_zero, List.set_cons_succ]
              repeat (first | (refine wpG_quiet (by rfl) (by rfl) (by rfl) (fun K hK => ?_); go_big_quiet_op; refine hK _ ?_; clear hK K) | (refine wpG_skip (by rfl) ?_; simp only [Act.put, List.setIfInBounds_toArray, List.set_cons_zero, List.set_cons_succ]))
              refine wpG_call (by rfl) (by rfl) 31 #[.slice qA qn qc] (.bool false) (by intro _; simp [go_sem]) (by kernel_rfl) (fun w1 hl => HRC.out w1 (HBW.out w1 hl.1)) ?_
              simp only [Act.put, List.setIfInBounds_toArray, List.set_cons_zero, List.set_cons_succ]
              repeat (first | (refine wpG_quiet (by rfl) (by rfl) (by rfl) (fun K hK => ?_); go_big_quiet_op; refine hK _ ?_; clear hK K) | (refine wpG_skip (by rfl) ?_; simp only [Act.put, List.setIfInBounds_toArray, List.set_cons_zero, List.set_cons_succ]))
              refine wpG_nil fun w1 hl _ => ?_
              have HB1 := Lib.hid (HBW.out w1 hl)
              clear HBW
              go_wp2_with fail
              go_ret
              exact ⟨by rw [HR.out]; rfl, HB1.out⟩
            | true =>
              go_wp2_with (first
                | (refine wpList_load_mid rfl 41 (.tmp 10) rfl b (o + k * 2) rfl [.int .i64 q, .slice qA qn qc] _ hrg hu rfl info_gp ?_
                   simp only [Act.put, List.setIfInBounds_toArray, List.set_cons_zero, List.set_cons_succ])
                | fail)
              rw [← HW5.out]
              clear hrg
              refine wp_region_steady [] 38 (by kernel_rfl) (by kernel_rfl) (by kernel_rfl) (by rfl) ?_
              repeat (first | (refine wpG_quiet (by rfl) (by rfl) (by rfl) (fun K hK => ?_); go_big_quiet_op; refine hK _ ?_; clear hK K) | (refine wpG_skip (by rfl) ?_; simp only [Act.put, List.setIfInBounds_toArray, List.set_cons_zero, List.set_cons_succ]))
              refine wpG_call (by rfl) (by rfl) 30 #[.int .i64 q] (.bool true) (by intro _; simp [go_sem]) (by kernel_rfl) (fun w1 hl => (HGRP.out w1).mono ?_) ?_
              · rintro e w2 ⟨rfl, rfl⟩
                exact ⟨rfl, Below.refl _ _⟩
              simp only [Act.put, List.setIfInBounds_toArray, List.set_cons_zero, List.set_cons_succ]
              repeat (first | (refine wpG_quiet (by rfl) (by rfl) (by rfl) (fun K hK => ?_); go_big_quiet_op; refine hK _ ?_; clear hK K) | (refine wpG_skip (by rfl) ?_; simp only [Act.put, List.setIfInBounds_toArray, List.set_cons_zero, List.set_cons_succ]))
              refine wpG_call (by rfl) (by rfl) 31 #[.slice qA qn qc] (.bool true) (by intro _; simp [go_sem]) (by kernel_rfl) (fun w1 hl => HRC.out w1 (HBW.out w1 hl.1)) ?_
              simp only [Act.put, List.setIfInBounds_toArray, List.set_cons_zero, List.set_cons_succ]
              repeat (first | (refine wpG_quiet (by rfl) (by rfl) (by rfl) (fun K hK => ?_); go_big_quiet_op; refine hK _ ?_; clear hK K) | (refine wpG_skip (by rfl) ?_; simp only [Act.put, List.setIfInBounds_toArray, List.set_cons_zero, List.set_cons_succ]))
              refine wpG_nil fun w1 hl _ => ?_
              have HB1 := Lib.hid (HBW.out w1 hl)
              clear HBW
              go_wp2_with fail
              go_roundw
              case rel => exact ⟨k + 1, by omega, by go_num, Lib.hid (HG1.out (of_decide_eq_true HRM.out.symm) (by have := H4.out; omega)), HB1⟩
              case measure => simp [intOf]; omega
    · obtain rfl : k = n := by omega
      have HR := Lib.hid (HALL.out (by have := HK.out; rwa [List.take_of_length_le (by rw [HN.out]; exact Nat.le_refl _)] at this))
      clear HRCA HRNG HRISE HORD HALL
      go_wp2_with fail
      go_ret
      exact ⟨by rw [HR.out]; rfl, HB.out⟩
end Go.Proofs.Ytglhgdkghddcaaa
