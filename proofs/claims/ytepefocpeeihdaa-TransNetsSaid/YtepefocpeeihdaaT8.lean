/- TransOnce: the law's walk. -/
import Derived.Test.YtepefocpeeihdaaT7
import Derived.Test.YtepefocpeeihdaaT4
import Derived.Test.YtepefocpeeihdaaT3
import Derived.Test.YtepefocpeeihdaaT2
import Derived.ChangeSame
import Derived.OwnWalkIn
namespace Go.Proofs.Ytepefocpeeihdaa
set_option linter.unusedVariables false
set_option linter.unusedSimpArgs false
open Go Go.RowKit BitM

theorem net_ok {l : List Tn} (hok : ∀ t ∈ l, okCd t.cd) : ∀ x ∈ net l, okCd x.cd := fun x hx => by
  obtain ⟨i, t, hw, _, rfl⟩ := net_mem.1 hx
  obtain ⟨u, hu, _, e, _⟩ := whole_mem hw
  exact okCd_itm (by rw [show t.cd = u.cd from e]; exact hok u hu)
theorem goes_wf {l : List Tn} (h : goes l = true) : ∀ t ∈ l, (Lit.int .i64 t.id).wf = true := fun t ht => wf_small (by
  have e := goes_may h t ht
  unfold tmay at e
  rw [Bool.and_eq_true] at e
  have := of_decide_eq_true e.1
  omega)
set_option maxRecDepth 100000 in
set_option maxHeartbeats 6400000 in
theorem walk_tonce (A : Option Addr) (n c : Nat) (l : List Tn) (w : World) (h : SeesR tcl w A n c l) (hok : ∀ t ∈ l, okCd t.cd) :
    Calls Try.prog 6 #[.slice A n c] w fun e w' => e = .returned (.bool true) ∧ Below w.heap.size w w' := by
  have HLA := Lib.hid (fun W (hW : Below w.heap.size w W) => tlarge_any A n c l W (h.later hW) hok)
  have HGO := Lib.hid (fun W (hW : Below w.heap.size w W) (hz : n ≤ 65536) => rgoes_any A n c l W (h.later hW) hok hz)
  have HNT := Lib.hid (fun W (hW : Below w.heap.size w W) (hg : goes l = true) (hz : n ≤ 65000) => nets_any A n c l W (h.later hW) hok (goes_wf hg) hz)
  have HAW := Lib.hid tr_awake
  have HN := Lib.hid h.len
  have HB0 := Lib.hid (Below.refl w.heap.size w)
  cases hlg : tlarge l with
  | true =>
    rw [hlg] at HLA
    clear hlg h hok
    go_enter Try.func6, Try.ntmps6
    go_wp2_with fail
    refine (HLA.out _ HB0.out).mono ?_
    rintro e w1 ⟨rfl, hb1⟩
    go_wp2_with fail
    refine (HAW.out _).mono ?_
    rintro e w2 ⟨rfl, hb2⟩
    go_wp2_with fail
    go_ret
    exact ⟨rfl, hb1.trans (hb2.mono hb1.size)⟩
  | false =>
    rw [hlg] at HLA
    have hn100 : n ≤ 100 := by have := tlarge_len hlg; have := h.len; omega
    cases hgo : goes l with
    | false =>
      rw [hgo] at HGO
      clear hlg hgo h hok
      go_enter Try.func6, Try.ntmps6
      go_wp2_with fail
      refine (HLA.out _ HB0.out).mono ?_
      rintro e w1 ⟨rfl, hb1⟩
      have HB1 := Lib.hid hb1
      clear hb1
      go_wp2_with fail
      refine (HGO.out _ HB1.out (by omega)).mono ?_
      rintro e w2 ⟨rfl, hb2⟩
      have HB2 := Lib.hid (HB1.out.trans (hb2.mono HB1.out.size))
      clear hb2
      go_wp2_with fail
      refine (HAW.out _).mono ?_
      rintro e w3 ⟨rfl, hb3⟩
      go_wp2_with fail
      go_ret
      exact ⟨rfl, HB2.out.trans (hb3.mono HB2.out.size)⟩
    | true =>
      have HG := Lib.hid hgo
      rw [hgo] at HGO
      have HCE : Hid (∀ k (hk : k < l.length), ∃ b o, A = some ⟨b, o, none⟩ ∧ ∀ W, Below w.heap.size w W → W.cell? ⟨b, o + k * 31 + 1, none⟩ = some (.int .i64 l[k].id) ∧
          W.cell? ⟨b, o + k * 31 + 2, none⟩ = some (.int .i64 l[k].old) ∧ W.cell? ⟨b, o + k * 31 + 3, none⟩ = some (.int .i64 l[k].nw)) := Lib.hid (fun k hk => by
        obtain ⟨b, o, e, _, hc⟩ := turn_cells h hok (by omega)
        exact ⟨b, o, e, fun W hW => ⟨(hc W hW k hk).2.1, (hc W hW k hk).2.2.1, (hc W hW k hk).2.2.2.1⟩⟩)
      have HNL : Hid ((net l).length ≤ n) := Lib.hid (by have := net_len l; have := h.len; omega)
      have HNOK := Lib.hid (net_ok hok)
      have HRISE : Hid (∀ m (h : m + 1 < (net l).length), rkey ((net l)[m]'(by omega)) < rkey (net l)[m + 1]) := Lib.hid (fun m hm => (List.pairwise_iff_getElem.1 (net_goes_rise hgo)) m (m + 1) (by omega) hm (by omega))
      have HONCE := Lib.hid (fun k (hk : k < (net l).length) => once_of hgo (List.getElem_mem hk))
      have HSEEN := Lib.hid (fun k (hk : k < l.length) x => seen_take hk x)
      have HLOW : Hid (∀ k x, oldSeen (l.take k) x < 0 ↔ firstT (l.take k) x = none) := Lib.hid (fun k x => old_low (fun t ht => goes_may hgo t (List.mem_of_mem_take ht)) x)
      clear hlg hgo h hok
      go_enter Try.func6, Try.ntmps6
      go_wp2_with fail
      refine (HLA.out _ HB0.out).mono ?_
      rintro e w1 ⟨rfl, hb1⟩
      have HB1 := Lib.hid hb1
      clear hb1 HLA
      go_wp2_with fail
      refine (HGO.out _ HB1.out (by omega)).mono ?_
      rintro e w2 ⟨rfl, hb2⟩
      have HB2 := Lib.hid (HB1.out.trans (hb2.mono HB1.out.size))
      clear hb2 HGO
      go_wp2_with fail
      refine (HNT.out _ HB2.out HG.out (by omega)).mono ?_
      rintro e w3 ⟨A3, c3, rfl, hs3, hb3⟩
      have HB3 := Lib.hid (HB2.out.trans (hb3.mono HB2.out.size))
      have HCI : Hid (∀ k (hk : k < (net l).length), ∃ b o, A3 = some ⟨b, o, none⟩ ∧ ∀ W, Below w3.heap.size w3 W → ∀ k (hk : k < (net l).length), W.cell? ⟨b, o + k * 28, none⟩ = some (.int .i64 (net l)[k].kd) ∧ W.cell? ⟨b, o + k * 28 + 1, none⟩ = some (.int .i64 (rkey (net l)[k]))) := Lib.hid (fun k hk => by
        obtain ⟨b, o, e, _, hc⟩ := item_cells hs3 HNOK.out (by omega)
        exact ⟨b, o, e, fun W hW k hk => ⟨(hc W hW k hk).1, (hc W hW k hk).2.1⟩⟩)
      obtain ⟨m, hm⟩ : ∃ m, m = (net l).length := ⟨_, rfl⟩
      rw [← hm] at HNL
      rw [← hm]
      have hmn : m ≤ n := HNL.out
      have HM := Lib.hid hm
      clear hs3 hb3 HNT HNL HNOK hm
      go_wp2_with fail
      go_loopw [4] (fun i wr => ∃ j : Nat, j ≤ m ∧ i = .int .i64 (j : Int) ∧ Hid (Below w3.heap.size w3 wr)) (fun i _ => m - (iOf i).toNat)
      case atStart => exact ⟨0, by omega, rfl, Lib.hid (Below.refl _ _)⟩
      case round =>
        obtain ⟨j, hj, rfl, HB⟩ := hrel
        by_cases hlt : j < m
        · have d0 : decide ((j : Int) < (m : Int)) = true := decide_eq_true (by omega)
          have hjl : j < (net l).length := by rw [← HM.out]; exact hlt
          obtain ⟨b3, o3, rfl, hci⟩ := HCI.out j hjl
          have HCJ := Lib.hid hci
          have HBW : Hid (∀ W, Le wr W → Below w3.heap.size w3 W) := Lib.hid (fun W hl => HB.out.trans (hl.mono HB.out.size))
          have HON := Lib.hid (HONCE.out j hjl)
          have HXJ : Hid (∀ W, Below w3.heap.size w3 W → W.cell? ⟨b3, o3 + j * 28, none⟩ = some (.int .i64 (net l)[j].kd) ∧ W.cell? ⟨b3, o3 + j * 28 + 1, none⟩ = some (.int .i64 (rkey (net l)[j]))) := Lib.hid (fun W hW => hci W hW j hjl)
          have HPR : Hid (∀ p (hp : j = p + 1), ∀ W, Below w3.heap.size w3 W → W.cell? ⟨b3, o3 + p * 28 + 1, none⟩ = some (.int .i64 (rkey ((net l)[p]'(by omega))))) := Lib.hid (fun p hp W hW => (hci W hW p (by omega)).2)
          have HRJ : Hid (∀ p (hp : j = p + 1), rkey ((net l)[p]'(by omega)) < rkey (net l)[j]) := Lib.hid (fun p hp => by subst hp; exact HRISE.out p hjl)
          generalize (net l)[j].kd = kd at HXJ HON
          generalize rkey (net l)[j] = x at HXJ HON HRJ
          have HXW : Hid (∀ W, Le wr W → W.cell? ⟨b3, o3 + j * 28 + 1, none⟩ = some (.int .i64 x)) := Lib.hid (fun W hl => (HXJ.out W (HBW.out W hl)).2)
          have cx : ∀ kk : LW wr, kk.val.cell? ⟨b3, o3 + j * 28 + 1, none⟩ = some (.int .i64 x) := fun kk => HXW.out _ kk.le
          clear hci HCI HCJ HXW
          by_cases h0 : j = 0
          · have d1 : decide ((0 : Int) < (j : Int)) = false := decide_eq_false (by omega)
            have d1' : decide (0 < j) = false := decide_eq_false (by omega)
            clear h0
            go_wp2_with fail
            refine wp_region_steady [] 109 (by kernel_rfl) (by kernel_rfl) (by kernel_rfl) (by rfl) ?_
            iterate 3 (refine wpG_quiet (by rfl) (by rfl) (by rfl) (fun K hK => ?_); go_big_quiet_op; refine hK _ ?_; clear hK K)
            iterate 14 (refine wpG_skip (by rfl) ?_; simp only [Act.put, List.setIfInBounds_toArray, List.set_cons_zero, List.set_cons_succ])
            iterate 1 (refine wpG_quiet (by rfl) (by rfl) (by rfl) (fun K hK => ?_); go_big_quiet_op; refine hK _ ?_; clear hK K)
            refine wpG_nil fun w4 hl _ => ?_
            have HB4 := Lib.hid (HBW.out w4 hl)
            clear HBW cx hl
            go_wp2_with fail
            go_loopw [5, 6, 7] (fun a b i wr => ∃ k : Nat, k ≤ n ∧ a = .int .i64 (oldSeen (l.take k) x) ∧ b = .int .i64 (nowSeen (l.take k) x) ∧ i = .int .i64 (k : Int) ∧ Hid (Below w3.heap.size w3 wr)) (fun _ _ i _ => n - (iOf i).toNat)
            case atStart => exact ⟨0, by omega, rfl, rfl, rfl, HB4⟩
            case round =>
              obtain ⟨k, hk, rfl, rfl, rfl, HBK⟩ := hrel
              by_cases hkn : k < n
              · have dk : decide ((k : Int) < (n : Int)) = true := decide_eq_true (by omega)
                have hkl : k < l.length := by rw [HN.out]; exact hkn
                obtain ⟨b, o, rfl, hcc⟩ := HCE.out k hkl
                have HBW : Hid (∀ W, Le wr W → Below w3.heap.size w3 W) := Lib.hid (fun W hl => HBK.out.trans (hl.mono HBK.out.size))
                have HCK : Hid (∀ W, Below w3.heap.size w3 W → W.cell? ⟨b, o + k * 31 + 1, none⟩ = some (.int .i64 l[k].id) ∧ W.cell? ⟨b, o + k * 31 + 2, none⟩ = some (.int .i64 l[k].old) ∧ W.cell? ⟨b, o + k * 31 + 3, none⟩ = some (.int .i64 l[k].nw)) := Lib.hid (fun W hW => hcc W (HB3.out.trans (hW.mono HB3.out.size)))
                have HSE := Lib.hid (HSEEN.out k hkl x)
                have HLO := Lib.hid (HLOW.out k x)
                have ca : ∀ kk : LW wr, kk.val.cell? ⟨b, o + k * 31 + 1, none⟩ = some (.int .i64 l[k].id) := fun kk => (HCK.out _ (HBW.out _ kk.le)).1
                have cb : ∀ kk : LW wr, kk.val.cell? ⟨b3, o3 + j * 28 + 1, none⟩ = some (.int .i64 x) := fun kk => (HXJ.out _ (HBW.out _ kk.le)).2
                generalize l[k].id = z at ca HCK HSE
                generalize l[k].old = zo at HCK HSE
                generalize l[k].nw = zn at HCK HSE
                clear hcc HCE HSEEN HLOW HONCE HRISE
                generalize nowSeen (l.take k) x = N at HSE
                generalize oldSeen (l.take k) x = O at HSE HLO
                by_cases hz : z = x
                · have dz : decide (z = x) = true := decide_eq_true hz
                  have dz' : (z == x) = true := by simpa using hz
                  have HN1 : Hid (nowSeen (l.take (k + 1)) x = zn) := Lib.hid (by rw [HSE.out.1, if_pos hz])
                  have HO1 : Hid (O < 0 → oldSeen (l.take (k + 1)) x = zo) := Lib.hid (fun e => by rw [HSE.out.2, if_pos ⟨hz, HLO.out.1 e⟩])
                  have HO2 : Hid (¬ O < 0 → oldSeen (l.take (k + 1)) x = O) := Lib.hid (fun e => by rw [HSE.out.2, if_neg (fun h => e (HLO.out.2 h.2))])
                  clear hz HSE HLO
                  go_wp2_with fail
                  refine wp_region_steady [] 109 (by kernel_rfl) (by kernel_rfl) (by kernel_rfl) (by rfl) ?_
                  iterate 12 (refine wpG_quiet (by rfl) (by rfl) (by rfl) (fun K hK => ?_); go_big_quiet_op; refine hK _ ?_; clear hK K)
                  refine wpG_nil fun w5 hl _ => ?_
                  have HB5 := Lib.hid (HBW.out w5 hl)
                  have c2 := (HCK.out w5 HB5.out).2.1
                  have c3 := (HCK.out w5 HB5.out).2.2
                  clear HBW ca cb hl HCK
                  by_cases hO : O < 0
                  · have dO : decide (O < 0) = true := decide_eq_true hO
                    have HO := Lib.hid (HO1.out hO)
                    clear HO1 HO2 hO
                    go_wp2_with fail
                    go_roundw
                    case rel => exact ⟨k + 1, by omega, by rw [HO.out], by rw [HN1.out], by go_num, HB5⟩
                    case measure => simp [iOf]; omega
                  · have dO : decide (O < 0) = false := decide_eq_false hO
                    have HO := Lib.hid (HO2.out (by omega))
                    clear HO1 HO2 hO
                    go_wp2_with fail
                    go_roundw
                    case rel => exact ⟨k + 1, by omega, by rw [HO.out], by rw [HN1.out], by go_num, HB5⟩
                    case measure => simp [iOf]; omega
                · have dz : decide (z = x) = false := decide_eq_false hz
                  have dz' : (z == x) = false := by simpa using hz
                  have HN1 : Hid (nowSeen (l.take (k + 1)) x = N) := Lib.hid (by rw [HSE.out.1, if_neg hz])
                  have HO1 : Hid (oldSeen (l.take (k + 1)) x = O) := Lib.hid (by rw [HSE.out.2, if_neg (fun h => hz h.1)])
                  clear hz HSE HLO
                  go_wp2_with fail
                  refine wp_region_steady [] 109 (by kernel_rfl) (by kernel_rfl) (by kernel_rfl) (by rfl) ?_
                  iterate 12 (refine wpG_quiet (by rfl) (by rfl) (by rfl) (fun K hK => ?_); go_big_quiet_op; refine hK _ ?_; clear hK K)
                  refine wpG_nil fun w5 hl _ => ?_
                  have HB5 := Lib.hid (HBW.out w5 hl)
                  clear HBW ca cb hl HCK
                  go_wp2_with fail
                  go_roundw
                  case rel => exact ⟨k + 1, by omega, by rw [HO1.out], by rw [HN1.out], by go_num, HB5⟩
                  case measure => simp [iOf]; omega
              · obtain rfl : k = n := by omega
                have e9 : l.take k = l := List.take_of_length_le (by rw [HN.out]; exact Nat.le_refl _)
                rw [e9]
                have hon := HON.out
                have k0 := (HXJ.out wr HBK.out).1
                have HB2 := HBK
                clear HCE HSEEN HLOW HONCE HRISE HON HXJ HPR HRJ e9
                generalize oldSeen l x = O at hon
                generalize nowSeen l x = N at hon
                obtain ⟨o1, o2, o3', o4⟩ := hon
                have g1 : decide (O < 0) = false := decide_eq_false (by omega)
                have g2 : decide (O = N) = false := decide_eq_false o2
                have g2' : (O == N) = false := by simpa using o2
                by_cases e1 : kd = 1
                · by_cases e2 : kd = 2
                  · omega
                  · have z1 : O = 0 := o3'.1 e1
                    have z2 : N ≠ 0 := fun e => e2 (o4.2 e)
                    have f1 : decide (kd = 1) = true := decide_eq_true (by omega)
                    have f1' : (kd == 1) = true := by simpa using f1
                    have f2 : decide (O = 0) = true := decide_eq_true (by omega)
                    have f2' : (O == 0) = true := by simpa using f2
                    have f3 : decide (kd = 2) = false := decide_eq_false (by omega)
                    have f3' : (kd == 2) = false := by simpa using f3
                    have f4 : decide (N = 0) = false := decide_eq_false (by omega)
                    have f4' : (N == 0) = false := by simpa using f4
                    clear e1 e2 o1 o2 o3' o4 z1 z2
                    go_wp2_with fail
                    go_roundw
                    case rel => exact ⟨j + 1, by omega, by go_num, HB2⟩
                    case measure => simp [iOf]; omega
                · by_cases e2 : kd = 2
                  · have z1 : O ≠ 0 := fun e => e1 (o3'.2 e)
                    have z2 : N = 0 := o4.1 e2
                    have f1 : decide (kd = 1) = false := decide_eq_false (by omega)
                    have f1' : (kd == 1) = false := by simpa using f1
                    have f2 : decide (O = 0) = false := decide_eq_false (by omega)
                    have f2' : (O == 0) = false := by simpa using f2
                    have f3 : decide (kd = 2) = true := decide_eq_true (by omega)
                    have f3' : (kd == 2) = true := by simpa using f3
                    have f4 : decide (N = 0) = true := decide_eq_true (by omega)
                    have f4' : (N == 0) = true := by simpa using f4
                    clear e1 e2 o1 o2 o3' o4 z1 z2
                    go_wp2_with fail
                    go_roundw
                    case rel => exact ⟨j + 1, by omega, by go_num, HB2⟩
                    case measure => simp [iOf]; omega
                  · have z1 : O ≠ 0 := fun e => e1 (o3'.2 e)
                    have z2 : N ≠ 0 := fun e => e2 (o4.2 e)
                    have f1 : decide (kd = 1) = false := decide_eq_false (by omega)
                    have f1' : (kd == 1) = false := by simpa using f1
                    have f2 : decide (O = 0) = false := decide_eq_false (by omega)
                    have f2' : (O == 0) = false := by simpa using f2
                    have f3 : decide (kd = 2) = false := decide_eq_false (by omega)
                    have f3' : (kd == 2) = false := by simpa using f3
                    have f4 : decide (N = 0) = false := decide_eq_false (by omega)
                    have f4' : (N == 0) = false := by simpa using f4
                    clear e1 e2 o1 o2 o3' o4 z1 z2
                    go_wp2_with fail
                    go_roundw
                    case rel => exact ⟨j + 1, by omega, by go_num, HB2⟩
                    case measure => simp [iOf]; omega
          · obtain ⟨p, hp⟩ : ∃ p, j = p + 1 := ⟨j - 1, by omega⟩
            have d1 : decide ((0 : Int) < (j : Int)) = true := decide_eq_true (by omega)
            have d1' : decide (0 < j) = true := decide_eq_true (by omega)
            obtain ⟨y, hy⟩ : ∃ y, y = rkey ((net l)[p]'(by omega)) := ⟨_, rfl⟩
            have cy : ∀ kk : LW wr, kk.val.cell? ⟨b3, o3 + p * 28 + 1, none⟩ = some (.int .i64 y) := fun kk => by rw [hy]; exact HPR.out p hp _ (HBW.out _ kk.le)
            have dy : decide (x ≤ y) = false := decide_eq_false (by have := HRJ.out p hp; omega)
            have km : (j : Int) - 1 = (p : Int) := by omega
            have hpm : p < m := by omega
            clear h0 hp hy
            go_wp2_with fail
            refine wp_region_steady [] 109 (by kernel_rfl) (by kernel_rfl) (by kernel_rfl) (by rfl) ?_
            iterate 18 (refine wpG_quiet (by rfl) (by rfl) (by rfl) (fun K hK => ?_); go_big_quiet_op; refine hK _ ?_; clear hK K)
            refine wpG_nil fun w4 hl _ => ?_
            have HB4 := Lib.hid (HBW.out w4 hl)
            clear HBW cx hl
            go_wp2_with fail
            go_loopw [5, 6, 7] (fun a b i wr => ∃ k : Nat, k ≤ n ∧ a = .int .i64 (oldSeen (l.take k) x) ∧ b = .int .i64 (nowSeen (l.take k) x) ∧ i = .int .i64 (k : Int) ∧ Hid (Below w3.heap.size w3 wr)) (fun _ _ i _ => n - (iOf i).toNat)
            case atStart => exact ⟨0, by omega, rfl, rfl, rfl, HB4⟩
            case round =>
              obtain ⟨k, hk, rfl, rfl, rfl, HBK⟩ := hrel
              by_cases hkn : k < n
              · have dk : decide ((k : Int) < (n : Int)) = true := decide_eq_true (by omega)
                have hkl : k < l.length := by rw [HN.out]; exact hkn
                obtain ⟨b, o, rfl, hcc⟩ := HCE.out k hkl
                have HBW : Hid (∀ W, Le wr W → Below w3.heap.size w3 W) := Lib.hid (fun W hl => HBK.out.trans (hl.mono HBK.out.size))
                have HCK : Hid (∀ W, Below w3.heap.size w3 W → W.cell? ⟨b, o + k * 31 + 1, none⟩ = some (.int .i64 l[k].id) ∧ W.cell? ⟨b, o + k * 31 + 2, none⟩ = some (.int .i64 l[k].old) ∧ W.cell? ⟨b, o + k * 31 + 3, none⟩ = some (.int .i64 l[k].nw)) := Lib.hid (fun W hW => hcc W (HB3.out.trans (hW.mono HB3.out.size)))
                have HSE := Lib.hid (HSEEN.out k hkl x)
                have HLO := Lib.hid (HLOW.out k x)
                have ca : ∀ kk : LW wr, kk.val.cell? ⟨b, o + k * 31 + 1, none⟩ = some (.int .i64 l[k].id) := fun kk => (HCK.out _ (HBW.out _ kk.le)).1
                have cb : ∀ kk : LW wr, kk.val.cell? ⟨b3, o3 + j * 28 + 1, none⟩ = some (.int .i64 x) := fun kk => (HXJ.out _ (HBW.out _ kk.le)).2
                generalize l[k].id = z at ca HCK HSE
                generalize l[k].old = zo at HCK HSE
                generalize l[k].nw = zn at HCK HSE
                clear hcc HCE HSEEN HLOW HONCE HRISE
                generalize nowSeen (l.take k) x = N at HSE
                generalize oldSeen (l.take k) x = O at HSE HLO
                by_cases hz : z = x
                · have dz : decide (z = x) = true := decide_eq_true hz
                  have dz' : (z == x) = true := by simpa using hz
                  have HN1 : Hid (nowSeen (l.take (k + 1)) x = zn) := Lib.hid (by rw [HSE.out.1, if_pos hz])
                  have HO1 : Hid (O < 0 → oldSeen (l.take (k + 1)) x = zo) := Lib.hid (fun e => by rw [HSE.out.2, if_pos ⟨hz, HLO.out.1 e⟩])
                  have HO2 : Hid (¬ O < 0 → oldSeen (l.take (k + 1)) x = O) := Lib.hid (fun e => by rw [HSE.out.2, if_neg (fun h => e (HLO.out.2 h.2))])
                  clear hz HSE HLO
                  go_wp2_with fail
                  refine wp_region_steady [] 109 (by kernel_rfl) (by kernel_rfl) (by kernel_rfl) (by rfl) ?_
                  iterate 12 (refine wpG_quiet (by rfl) (by rfl) (by rfl) (fun K hK => ?_); go_big_quiet_op; refine hK _ ?_; clear hK K)
                  refine wpG_nil fun w5 hl _ => ?_
                  have HB5 := Lib.hid (HBW.out w5 hl)
                  have c2 := (HCK.out w5 HB5.out).2.1
                  have c3 := (HCK.out w5 HB5.out).2.2
                  clear HBW ca cb hl HCK
                  by_cases hO : O < 0
                  · have dO : decide (O < 0) = true := decide_eq_true hO
                    have HO := Lib.hid (HO1.out hO)
                    clear HO1 HO2 hO
                    go_wp2_with fail
                    go_roundw
                    case rel => exact ⟨k + 1, by omega, by rw [HO.out], by rw [HN1.out], by go_num, HB5⟩
                    case measure => simp [iOf]; omega
                  · have dO : decide (O < 0) = false := decide_eq_false hO
                    have HO := Lib.hid (HO2.out (by omega))
                    clear HO1 HO2 hO
                    go_wp2_with fail
                    go_roundw
                    case rel => exact ⟨k + 1, by omega, by rw [HO.out], by rw [HN1.out], by go_num, HB5⟩
                    case measure => simp [iOf]; omega
                · have dz : decide (z = x) = false := decide_eq_false hz
                  have dz' : (z == x) = false := by simpa using hz
                  have HN1 : Hid (nowSeen (l.take (k + 1)) x = N) := Lib.hid (by rw [HSE.out.1, if_neg hz])
                  have HO1 : Hid (oldSeen (l.take (k + 1)) x = O) := Lib.hid (by rw [HSE.out.2, if_neg (fun h => hz h.1)])
                  clear hz HSE HLO
                  go_wp2_with fail
                  refine wp_region_steady [] 109 (by kernel_rfl) (by kernel_rfl) (by kernel_rfl) (by rfl) ?_
                  iterate 12 (refine wpG_quiet (by rfl) (by rfl) (by rfl) (fun K hK => ?_); go_big_quiet_op; refine hK _ ?_; clear hK K)
                  refine wpG_nil fun w5 hl _ => ?_
                  have HB5 := Lib.hid (HBW.out w5 hl)
                  clear HBW ca cb hl HCK
                  go_wp2_with fail
                  go_roundw
                  case rel => exact ⟨k + 1, by omega, by rw [HO1.out], by rw [HN1.out], by go_num, HB5⟩
                  case measure => simp [iOf]; omega
              · obtain rfl : k = n := by omega
                have e9 : l.take k = l := List.take_of_length_le (by rw [HN.out]; exact Nat.le_refl _)
                rw [e9]
                have hon := HON.out
                have k0 := (HXJ.out wr HBK.out).1
                have HB2 := HBK
                clear HCE HSEEN HLOW HONCE HRISE HON HXJ HPR HRJ e9
                generalize oldSeen l x = O at hon
                generalize nowSeen l x = N at hon
                obtain ⟨o1, o2, o3', o4⟩ := hon
                have g1 : decide (O < 0) = false := decide_eq_false (by omega)
                have g2 : decide (O = N) = false := decide_eq_false o2
                have g2' : (O == N) = false := by simpa using o2
                by_cases e1 : kd = 1
                · by_cases e2 : kd = 2
                  · omega
                  · have z1 : O = 0 := o3'.1 e1
                    have z2 : N ≠ 0 := fun e => e2 (o4.2 e)
                    have f1 : decide (kd = 1) = true := decide_eq_true (by omega)
                    have f1' : (kd == 1) = true := by simpa using f1
                    have f2 : decide (O = 0) = true := decide_eq_true (by omega)
                    have f2' : (O == 0) = true := by simpa using f2
                    have f3 : decide (kd = 2) = false := decide_eq_false (by omega)
                    have f3' : (kd == 2) = false := by simpa using f3
                    have f4 : decide (N = 0) = false := decide_eq_false (by omega)
                    have f4' : (N == 0) = false := by simpa using f4
                    clear e1 e2 o1 o2 o3' o4 z1 z2
                    go_wp2_with fail
                    go_roundw
                    case rel => exact ⟨j + 1, by omega, by go_num, HB2⟩
                    case measure => simp [iOf]; omega
                · by_cases e2 : kd = 2
                  · have z1 : O ≠ 0 := fun e => e1 (o3'.2 e)
                    have z2 : N = 0 := o4.1 e2
                    have f1 : decide (kd = 1) = false := decide_eq_false (by omega)
                    have f1' : (kd == 1) = false := by simpa using f1
                    have f2 : decide (O = 0) = false := decide_eq_false (by omega)
                    have f2' : (O == 0) = false := by simpa using f2
                    have f3 : decide (kd = 2) = true := decide_eq_true (by omega)
                    have f3' : (kd == 2) = true := by simpa using f3
                    have f4 : decide (N = 0) = true := decide_eq_true (by omega)
                    have f4' : (N == 0) = true := by simpa using f4
                    clear e1 e2 o1 o2 o3' o4 z1 z2
                    go_wp2_with fail
                    go_roundw
                    case rel => exact ⟨j + 1, by omega, by go_num, HB2⟩
                    case measure => simp [iOf]; omega
                  · have z1 : O ≠ 0 := fun e => e1 (o3'.2 e)
                    have z2 : N ≠ 0 := fun e => e2 (o4.2 e)
                    have f1 : decide (kd = 1) = false := decide_eq_false (by omega)
                    have f1' : (kd == 1) = false := by simpa using f1
                    have f2 : decide (O = 0) = false := decide_eq_false (by omega)
                    have f2' : (O == 0) = false := by simpa using f2
                    have f3 : decide (kd = 2) = false := decide_eq_false (by omega)
                    have f3' : (kd == 2) = false := by simpa using f3
                    have f4 : decide (N = 0) = false := decide_eq_false (by omega)
                    have f4' : (N == 0) = false := by simpa using f4
                    clear e1 e2 o1 o2 o3' o4 z1 z2
                    go_wp2_with fail
                    go_roundw
                    case rel => exact ⟨j + 1, by omega, by go_num, HB2⟩
                    case measure => simp [iOf]; omega
        · obtain rfl : j = m := by omega
          have HBE := Lib.hid (HB3.out.trans (HB.out.mono HB3.out.size))
          have d9 : decide ((j : Int) ≤ (n : Int)) = true := decide_eq_true (by omega)
          have d9' : decide (j ≤ n) = true := decide_eq_true (by omega)
          clear HONCE HSEEN HLOW HRISE HCI HCE HM
          go_wp2_with fail
          refine (HAW.out _).mono ?_
          rintro e w4 ⟨rfl, hb4⟩
          have HB4 := Lib.hid (HBE.out.trans (hb4.mono HBE.out.size))
          clear hb4
          go_wp2_with fail
          go_ret
          exact ⟨rfl, HB4.out⟩
end Go.Proofs.Ytepefocpeeihdaa

/- What the frame gives of slices of turns, of items, of cards. -/
namespace Go.Proofs.Ytepefocpeeihdaa
set_option linter.unusedVariables false
open Go Go.RowKit Go.Deep Go.ChangeShapes Go.WideShapes Go.ChangeAt

/-- What each card of an argument is. -/
structure okC (c : Cd) : Prop where
  len : okCd c
  id : (Lit.int .i64 c.1).wf = true
  ver : (Lit.int .i64 c.2.1).wf = true
  lab : ∃ x : BitVec 32, c.2.2.1 = (x.toNat : Int)
  f : ∀ v ∈ c.2.2.2, okV v
structure okT (t : Tn) : Prop where
  cd : okC t.cd
  sq : (Lit.int .i64 t.sq).wf = true
  id : (Lit.int .i64 t.id).wf = true
  old : (Lit.int .i64 t.old).wf = true
  nw : (Lit.int .i64 t.nw).wf = true
instance : Inhabited Tn := ⟨⟨0, 0, 0, 0, zcd⟩⟩
instance : Inhabited Im := ⟨⟨0, zcd⟩⟩
section
variable {H : Type} {enc : TypeId × Value → H} {W : World}
set_option maxRecDepth 100000 in
theorem trod_cd {n : Nat} {cs : List Value} {x : DataW H × List MemPlace} (h : DataW.trod enc Try.prog W 0 (fun _ => true) true n 30 cs = some x) : ∃ c : Cd, cs = ccl c ∧ okC c := by
  obtain ⟨y0, y1, y2, y3, m, _, hl, h0, h1, h2, h3⟩ := Go.Joins.trod_struct4 Try.underlying30 h
  have c1 : Try.prog.cellsOf 3 = 1 := by kernel_rfl
  have c2 : Try.prog.cellsOf 25 = 1 := by kernel_rfl
  have c8 : Try.prog.cellsOf 28 = 24 := by kernel_rfl
  have c27 : Try.prog.cellsOf 30 = 27 := by kernel_rfl
  rw [c27] at hl
  simp only [c1] at h0 h1
  simp only [c2] at h2
  simp only [c8] at h3
  obtain ⟨a, e0, _, w0⟩ := DataW.trod_int Try.underlying3 h0
  obtain ⟨b, e1, _, w1⟩ := DataW.trod_int Try.underlying3 h1
  obtain ⟨c, e2, _, w2⟩ := DataW.trod_int Try.underlying25 h2
  obtain ⟨f, e3, hf8, hok⟩ := trod_fields h3
  obtain ⟨x, rfl⟩ := u32_wf w2
  refine ⟨(a, b, x.toNat, f), ?_, hf8, w0, w1, ⟨x, rfl⟩, hok⟩
  have e4 : cs.take 3 = [.int .i64 a, .int .i64 b, .int .u32 (x.toNat : Int)] := list3 (by rw [List.length_take, hl]; rfl) (by simpa [List.take_take, List.drop_take] using e0) (by simpa [List.take_take, List.drop_take] using e1) (by simpa [List.take_take, List.drop_take] using e2)
  rw [← List.take_append_drop 3 cs, e4]
  unfold ccl ccells
  rw [← e3, List.take_of_length_le (by rw [List.length_drop, hl]; omega)]
theorem list4 {α : Type} {l : List α} {a b c d : α} (hl : l.length = 4) (h0 : (l.drop 0).take 1 = [a]) (h1 : (l.drop 1).take 1 = [b]) (h2 : (l.drop 2).take 1 = [c]) (h3 : (l.drop 3).take 1 = [d]) : l = [a, b, c, d] := by
  match l, hl with
  | [x, y, z, u], _ => simp at h0 h1 h2 h3; rw [h0, h1, h2, h3]
set_option maxRecDepth 100000 in
theorem trod_tn {n : Nat} {cs : List Value} {x : DataW H × List MemPlace} (h : DataW.trod enc Try.prog W 0 (fun _ => true) true n 32 cs = some x) : ∃ t : Tn, cs = tcl t ∧ okT t := by
  obtain ⟨y0, y1, y2, y3, y4, m, _, hl, h0, h1, h2, h3, h4⟩ := trod_struct5 Try.underlying32 h
  have c1 : Try.prog.cellsOf 3 = 1 := by kernel_rfl
  have c27 : Try.prog.cellsOf 30 = 27 := by kernel_rfl
  have c31 : Try.prog.cellsOf 32 = 31 := by kernel_rfl
  rw [c31] at hl
  simp only [c1] at h0 h1 h2 h3
  simp only [c27] at h4
  obtain ⟨a, e0, _, w0⟩ := DataW.trod_int Try.underlying3 h0
  obtain ⟨b, e1, _, w1⟩ := DataW.trod_int Try.underlying3 h1
  obtain ⟨c, e2, _, w2⟩ := DataW.trod_int Try.underlying3 h2
  obtain ⟨d, e3, _, w3⟩ := DataW.trod_int Try.underlying3 h3
  obtain ⟨cd, e4, okc⟩ := trod_cd h4
  refine ⟨⟨a, b, c, d, cd⟩, ?_, okc, w0, w1, w2, w3⟩
  have e5 : cs.take 4 = [.int .i64 a, .int .i64 b, .int .i64 c, .int .i64 d] := list4 (by rw [List.length_take, hl]; rfl) (by simpa [List.take_take, List.drop_take] using e0) (by simpa [List.take_take, List.drop_take] using e1) (by simpa [List.take_take, List.drop_take] using e2) (by simpa [List.take_take, List.drop_take] using e3)
  rw [← List.take_append_drop 4 cs, e5]
  unfold tcl
  rw [← e4, List.take_of_length_le (by rw [List.length_drop, hl]; omega)]
theorem open_turns {r : Reach} {base : Nat} {v : Value} {d : DataW H} {ps : List MemPlace}
    (hv : Value.okWide Try.prog W r base 22 v) (h : DataW.Trod enc Try.prog W 0 (fun _ => true) true 22 v d ps) :
    ∃ A n c, ∃ l : List Tn, v = .slice A n c ∧ SeesR tcl W A n c l ∧ ∀ t ∈ l, okT t := by
  obtain ⟨A, n, c, l, e, hnc, hcm, hln, hok, hs⟩ := open_rows (f := tcl) (sz := 31) (ok := okT) Try.underlying22 (by kernel_rfl) (by decide) (fun t ht => tcl_len ht.cd.len) (fun n cs x h => trod_tn h) hv h
  exact ⟨A, n, c, l, e, ⟨hln, hnc, hcm, hs⟩, hok⟩
end
end Go.Proofs.Ytepefocpeeihdaa

/- The turn of a card: the program's Of. -/
namespace Go.Proofs.Ytepefocpeeihdaa
set_option linter.unusedVariables false
set_option linter.unusedSimpArgs false
open Go Go.RowKit BitM

set_option maxRecDepth 100000 in
set_option maxHeartbeats 3200000 in
theorem of_no (sq old id : Int) (c : Cd) (w : World) (hc : okCd c) (ho : old = 0) :
    Calls Try.prog 9 #[.int .i64 sq, .int .i64 old, .int .i64 id, .agg (ccl c).toArray, .bool false] w fun e w' =>
      e = .returned (.tuple #[.agg (tcl ⟨0, 0, 0, 0, zcd⟩).toArray, .bool false]) ∧ Below w.heap.size w w' := by
  have hu := Try.underlying32
  have huc := Try.underlying30
  obtain ⟨Z, hZ⟩ : ∃ Z, Z = tcl ⟨0, 0, 0, 0, zcd⟩ := ⟨_, rfl⟩
  obtain ⟨T, hT⟩ : ∃ T, T = tcl ⟨sq, id, old, 0, zcd⟩ := ⟨_, rfl⟩
  have hZl : Z.length = 31 := by rw [hZ]; rfl
  have hTl : T.length = 31 := by rw [hT]; rfl
  have hZ1 : ∀ v ∈ Z, v.oneCell' = true := by rw [hZ]; exact tcl_one _
  have hT1 : ∀ v ∈ T, v.oneCell' = true := by rw [hT]; exact tcl_one _
  obtain ⟨W1, hW1⟩ : ∃ W1, W1 = (w.alloc (.cells (ccl c).toArray 30)).alloc (.cells Z.toArray 32) := ⟨_, rfl⟩
  have s1 : W1.heap.size = w.heap.size + 2 := by rw [hW1]; simp
  have b1 : Below w.heap.size w W1 := by rw [hW1]; exact ((Below.refl w.heap.size w).alloc (Nat.le_refl _) _).alloc (by simp) _
  have R1 : Blk W1 (w.heap.size + 1) Z := by
    rw [hW1]
    have := Blk.new (w.alloc (.cells (ccl c).toArray 30)) Z 32
    rwa [show (w.alloc (.cells (ccl c).toArray 30)).heap.size = w.heap.size + 1 by simp] at this
  obtain ⟨W2, hW2⟩ : ∃ W2, W2 = W1.alloc (.cells Z.toArray 32) := ⟨_, rfl⟩
  have T2 : Blk W2 (w.heap.size + 2) Z := by rw [hW2, ← s1]; exact Blk.new W1 Z _
  have R2 : Blk W2 (w.heap.size + 1) Z := by rw [hW2]; exact R1.alloc _
  have b2 : Below w.heap.size w W2 := by rw [hW2]; exact b1.alloc b1.size _
  have TH2 := T2.there 0 31 (by rw [hZl]; omega)
  obtain ⟨W3, hW3⟩ : ∃ W3, W3 = W2.setCells (w.heap.size + 2) 0 T := ⟨_, rfl⟩
  have T3 : Blk W3 (w.heap.size + 2) T := by rw [hW3]; exact T2.whole (by rw [hZl, hTl])
  have R3 : Blk W3 (w.heap.size + 1) Z := by rw [hW3]; exact R2.setsOther (by omega) _ _
  have b3 : Below w.heap.size w W3 := by rw [hW3]; exact below_sets (by omega) _ _ b2
  have d2 : W3.cell? ⟨w.heap.size + 2, 2, none⟩ = some (.int .i64 old) := T3.cell (by rw [hT]; rfl)
  have d3 : W3.cell? ⟨w.heap.size + 2, 3, none⟩ = some (.int .i64 0) := T3.cell (by rw [hT]; rfl)
  have TH3 := R3.there 0 31 (by rw [hZl]; omega)
  have FIN := R3.whole (ds := Z) rfl
  have FB := below_sets (B := w.heap.size) (b := w.heap.size + 1) (by omega) Z 0 b3
  rw [← hZ]
  have HZ := Lib.hid hZ
  have HT := Lib.hid hT
  have HZL := Lib.hid hZl
  have HTL := Lib.hid hTl
  have HZ1 := Lib.hid hZ1
  have HT1 := Lib.hid hT1
  have HW1 := Lib.hid hW1
  have HW2 := Lib.hid hW2
  have HW3 := Lib.hid hW3
  have hzz : Z.toArray = #[Value.int .i64 0, .int .i64 0, .int .i64 0, .int .i64 0, .int .i64 0, .int .i64 0, .int .u32 0, .int .i64 0, .int .i64 0, .string { data := #[] }, .int .i64 0, .int .i64 0, .string { data := #[] }, .int .i64 0, .int .i64 0, .string { data := #[] }, .int .i64 0, .int .i64 0, .string { data := #[] }, .int .i64 0, .int .i64 0, .string { data := #[] }, .int .i64 0, .int .i64 0, .string { data := #[] }, .int .i64 0, .int .i64 0, .string { data := #[] }, .int .i64 0, .int .i64 0, .string { data := #[] }] := by rw [hZ]; exact zc31
  have HZZ := Lib.hid hzz
  clear hZ hT hZl hTl hZ1 hT1 R1 T2 R2 b1 b2 T3 R3 b3 hzz hW3
  subst ho
  have HG : Hid ((w.alloc (.cells (ccl c).toArray 30)).heap.size = w.heap.size + 1) := Lib.hid (by simp)
  rw [hW2, hW1, HZZ.out] at TH2
  clear hW2 hW1 s1
  go_enter Try.func9, Try.ntmps9
  go_wp2_with (first
    | (refine wpList_exec (by rfl) (.agg T.toArray) (by rw [HT.out]; exact exec_turn (.tmp 13) (.tmp 14) (.tmp 15) rfl sq id 0 rfl rfl rfl _) ?_)
    | (refine wpList_store_mid rfl 32 (.tmp 12) (.tmp 16) rfl (w.heap.size + 2) 0 T.toArray rfl rfl (by simpa [HTL.out] using TH2) (by simpa [HTL.out] using info_turn) (all_oneCell_toArray HT1.out) ?_; rw [← HZZ.out, ← HW1.out, ← HW2.out, ← HW3.out])
    | (refine wpList_exec (by rfl) (.agg Z.toArray) (by rw [HZ.out]; exact exec_t0 rfl _) ?_)
    | (refine wpList_store_mid rfl 32 (.tmp 10) (.tmp 28) rfl (w.heap.size + 1) 0 Z.toArray rfl rfl (by simpa [HZL.out] using TH3) (by simpa [HZL.out] using info_turn) (all_oneCell_toArray HZ1.out) ?_))
  exact bodyPost_ret (v := .tuple #[.agg Z.toArray, .bool false]) (tr_results (q := 10) (p := 11) rfl _ _ (w.heap.size + 1) Z _ (.bool false) rfl rfl FIN hu rfl (by rw [HZL.out]; exact info_turn)) rfl ⟨rfl, FB⟩
set_option maxRecDepth 100000 in
set_option maxHeartbeats 3200000 in
theorem of_off (sq old id : Int) (c : Cd) (w : World) (hc : okCd c) (ho : old ≠ 0) :
    Calls Try.prog 9 #[.int .i64 sq, .int .i64 old, .int .i64 id, .agg (ccl c).toArray, .bool false] w fun e w' =>
      e = .returned (.tuple #[.agg (tcl ⟨sq, id, old, 0, zcd⟩).toArray, .bool true]) ∧ Below w.heap.size w w' := by
  have hu := Try.underlying32
  have huc := Try.underlying30
  obtain ⟨Z, hZ⟩ : ∃ Z, Z = tcl ⟨0, 0, 0, 0, zcd⟩ := ⟨_, rfl⟩
  obtain ⟨T, hT⟩ : ∃ T, T = tcl ⟨sq, id, old, 0, zcd⟩ := ⟨_, rfl⟩
  have hZl : Z.length = 31 := by rw [hZ]; rfl
  have hTl : T.length = 31 := by rw [hT]; rfl
  have hZ1 : ∀ v ∈ Z, v.oneCell' = true := by rw [hZ]; exact tcl_one _
  have hT1 : ∀ v ∈ T, v.oneCell' = true := by rw [hT]; exact tcl_one _
  obtain ⟨W1, hW1⟩ : ∃ W1, W1 = (w.alloc (.cells (ccl c).toArray 30)).alloc (.cells Z.toArray 32) := ⟨_, rfl⟩
  have s1 : W1.heap.size = w.heap.size + 2 := by rw [hW1]; simp
  have b1 : Below w.heap.size w W1 := by rw [hW1]; exact ((Below.refl w.heap.size w).alloc (Nat.le_refl _) _).alloc (by simp) _
  have R1 : Blk W1 (w.heap.size + 1) Z := by
    rw [hW1]
    have := Blk.new (w.alloc (.cells (ccl c).toArray 30)) Z 32
    rwa [show (w.alloc (.cells (ccl c).toArray 30)).heap.size = w.heap.size + 1 by simp] at this
  obtain ⟨W2, hW2⟩ : ∃ W2, W2 = W1.alloc (.cells Z.toArray 32) := ⟨_, rfl⟩
  have T2 : Blk W2 (w.heap.size + 2) Z := by rw [hW2, ← s1]; exact Blk.new W1 Z _
  have R2 : Blk W2 (w.heap.size + 1) Z := by rw [hW2]; exact R1.alloc _
  have b2 : Below w.heap.size w W2 := by rw [hW2]; exact b1.alloc b1.size _
  have TH2 := T2.there 0 31 (by rw [hZl]; omega)
  obtain ⟨W3, hW3⟩ : ∃ W3, W3 = W2.setCells (w.heap.size + 2) 0 T := ⟨_, rfl⟩
  have T3 : Blk W3 (w.heap.size + 2) T := by rw [hW3]; exact T2.whole (by rw [hZl, hTl])
  have R3 : Blk W3 (w.heap.size + 1) Z := by rw [hW3]; exact R2.setsOther (by omega) _ _
  have b3 : Below w.heap.size w W3 := by rw [hW3]; exact below_sets (by omega) _ _ b2
  have d2 : W3.cell? ⟨w.heap.size + 2, 2, none⟩ = some (.int .i64 old) := T3.cell (by rw [hT]; rfl)
  have d3 : W3.cell? ⟨w.heap.size + 2, 3, none⟩ = some (.int .i64 0) := T3.cell (by rw [hT]; rfl)
  have TH3 := R3.there 0 31 (by rw [hZl]; omega)
  have FIN := R3.whole (ds := T) (by rw [hZl, hTl])
  have FB := below_sets (B := w.heap.size) (b := w.heap.size + 1) (by omega) T 0 b3
  have RT := T3.wholeC
  rw [← hT]
  have HZ := Lib.hid hZ
  have HT := Lib.hid hT
  have HZL := Lib.hid hZl
  have HTL := Lib.hid hTl
  have HZ1 := Lib.hid hZ1
  have HT1 := Lib.hid hT1
  have HW1 := Lib.hid hW1
  have HW2 := Lib.hid hW2
  have HW3 := Lib.hid hW3
  have hzz : Z.toArray = #[Value.int .i64 0, .int .i64 0, .int .i64 0, .int .i64 0, .int .i64 0, .int .i64 0, .int .u32 0, .int .i64 0, .int .i64 0, .string { data := #[] }, .int .i64 0, .int .i64 0, .string { data := #[] }, .int .i64 0, .int .i64 0, .string { data := #[] }, .int .i64 0, .int .i64 0, .string { data := #[] }, .int .i64 0, .int .i64 0, .string { data := #[] }, .int .i64 0, .int .i64 0, .string { data := #[] }, .int .i64 0, .int .i64 0, .string { data := #[] }, .int .i64 0, .int .i64 0, .string { data := #[] }] := by rw [hZ]; exact zc31
  have HZZ := Lib.hid hzz
  clear hZ hT hZl hTl hZ1 hT1 R1 T2 R2 b1 b2 T3 R3 b3 hzz hW3
  have g1 : decide (old = 0) = false := by simpa using ho
  have g2 : decide (0 = old) = false := decide_eq_false (fun e => ho e.symm)
  have HG : Hid ((w.alloc (.cells (ccl c).toArray 30)).heap.size = w.heap.size + 1) := Lib.hid (by simp)
  rw [hW2, hW1, HZZ.out] at TH2
  clear hW2 hW1 s1
  go_enter Try.func9, Try.ntmps9
  go_wp2_with (first
    | (refine wpList_exec (by rfl) (.agg T.toArray) (by rw [HT.out]; exact exec_turn (.tmp 13) (.tmp 14) (.tmp 15) rfl sq id old rfl rfl rfl _) ?_)
    | (refine wpList_store_mid rfl 32 (.tmp 12) (.tmp 16) rfl (w.heap.size + 2) 0 T.toArray rfl rfl (by simpa [HTL.out] using TH2) (by simpa [HTL.out] using info_turn) (all_oneCell_toArray HT1.out) ?_; rw [← HZZ.out, ← HW1.out, ← HW2.out, ← HW3.out])
    | (refine wpList_load_mid rfl 32 (.tmp 12) rfl (w.heap.size + 2) 0 rfl T _ RT hu rfl (by rw [HTL.out]; exact info_turn) ?_)
    | (refine wpList_store_mid rfl 32 (.tmp 10) (.tmp 29) rfl (w.heap.size + 1) 0 T.toArray rfl rfl (by simpa [HTL.out] using TH3) (by simpa [HTL.out] using info_turn) (all_oneCell_toArray HT1.out) ?_))
  exact bodyPost_ret (v := .tuple #[.agg T.toArray, .bool true]) (tr_results (q := 10) (p := 11) rfl _ _ (w.heap.size + 1) T _ (.bool true) rfl rfl FIN hu rfl (by rw [HTL.out]; exact info_turn)) rfl ⟨rfl, FB⟩
set_option maxRecDepth 100000 in
set_option maxHeartbeats 3200000 in
theorem of_same (sq old id : Int) (c : Cd) (w : World) (hc : okCd c) (ho : c.2.1 = old) :
    Calls Try.prog 9 #[.int .i64 sq, .int .i64 old, .int .i64 id, .agg (ccl c).toArray, .bool true] w fun e w' =>
      e = .returned (.tuple #[.agg (tcl ⟨0, 0, 0, 0, zcd⟩).toArray, .bool false]) ∧ Below w.heap.size w w' := by
  have hu := Try.underlying32
  have huc := Try.underlying30
  obtain ⟨Z, hZ⟩ : ∃ Z, Z = tcl ⟨0, 0, 0, 0, zcd⟩ := ⟨_, rfl⟩
  obtain ⟨T, hT⟩ : ∃ T, T = tcl ⟨sq, id, old, 0, zcd⟩ := ⟨_, rfl⟩
  have hZl : Z.length = 31 := by rw [hZ]; rfl
  have hTl : T.length = 31 := by rw [hT]; rfl
  have hZ1 : ∀ v ∈ Z, v.oneCell' = true := by rw [hZ]; exact tcl_one _
  have hT1 : ∀ v ∈ T, v.oneCell' = true := by rw [hT]; exact tcl_one _
  obtain ⟨W1, hW1⟩ : ∃ W1, W1 = (w.alloc (.cells (ccl c).toArray 30)).alloc (.cells Z.toArray 32) := ⟨_, rfl⟩
  have s1 : W1.heap.size = w.heap.size + 2 := by rw [hW1]; simp
  have b1 : Below w.heap.size w W1 := by rw [hW1]; exact ((Below.refl w.heap.size w).alloc (Nat.le_refl _) _).alloc (by simp) _
  have R1 : Blk W1 (w.heap.size + 1) Z := by
    rw [hW1]
    have := Blk.new (w.alloc (.cells (ccl c).toArray 30)) Z 32
    rwa [show (w.alloc (.cells (ccl c).toArray 30)).heap.size = w.heap.size + 1 by simp] at this
  obtain ⟨W2, hW2⟩ : ∃ W2, W2 = W1.alloc (.cells Z.toArray 32) := ⟨_, rfl⟩
  have T2 : Blk W2 (w.heap.size + 2) Z := by rw [hW2, ← s1]; exact Blk.new W1 Z _
  have R2 : Blk W2 (w.heap.size + 1) Z := by rw [hW2]; exact R1.alloc _
  have b2 : Below w.heap.size w W2 := by rw [hW2]; exact b1.alloc b1.size _
  have TH2 := T2.there 0 31 (by rw [hZl]; omega)
  obtain ⟨W3, hW3⟩ : ∃ W3, W3 = W2.setCells (w.heap.size + 2) 0 T := ⟨_, rfl⟩
  have T3 : Blk W3 (w.heap.size + 2) T := by rw [hW3]; exact T2.whole (by rw [hZl, hTl])
  have R3 : Blk W3 (w.heap.size + 1) Z := by rw [hW3]; exact R2.setsOther (by omega) _ _
  have b3 : Below w.heap.size w W3 := by rw [hW3]; exact below_sets (by omega) _ _ b2
  have G3 : Blk W3 w.heap.size (ccl c) := by
    rw [hW3, hW2, hW1]
    exact Blk.setsOther (by omega) _ _ ((((Blk.new w (ccl c) 30).alloc _).alloc _))
  obtain ⟨D3, hD3⟩ : ∃ D3, D3 = W3.drew := ⟨_, rfl⟩
  replace T3 : Blk D3 (w.heap.size + 2) T := by rw [hD3]; exact T3.drew
  replace R3 : Blk D3 (w.heap.size + 1) Z := by rw [hD3]; exact R3.drew
  replace G3 : Blk D3 w.heap.size (ccl c) := by rw [hD3]; exact G3.drew
  replace b3 : Below w.heap.size w D3 := by rw [hD3]; exact b3.drew
  have HS3 := Lib.hid (And.intro (show D3.cell? ⟨w.heap.size, 1, none⟩ = some (.int .i64 c.2.1) from G3.cell (j := 1) rfl) G3.wholeC)
  have HD3 := Lib.hid hD3
  have x1 : D3.cell? ⟨w.heap.size, 1, none⟩ = some (.int .i64 c.2.1) := G3.cell (j := 1) rfl
  have x3 : D3.cell? ⟨w.heap.size + 2, 3, none⟩ = some (.int .i64 0) := T3.cell (by rw [hT]; rfl)
  have x4 := T3.frozen 3
  obtain ⟨W4, hW4⟩ : ∃ W4, W4 = D3.setCell ⟨w.heap.size + 2, 3, none⟩ (.int .i64 c.2.1) := ⟨_, rfl⟩
  have HS4 := Lib.hid (show W4.cell? ⟨w.heap.size, 1, none⟩ = some (.int .i64 c.2.1) ∧ W4.rangeAt w.heap.size 0 (ccl c) from by
    have G := G3.setOther 3 (.int .i64 c.2.1) (show w.heap.size + 2 ≠ w.heap.size by omega)
    rw [← hW4] at G
    exact ⟨G.cell (j := 1) rfl, G.wholeC⟩)
  have T4 : Blk W4 (w.heap.size + 2) (T.set 3 (.int .i64 c.2.1)) := by rw [hW4]; exact T3.set 3 _
  have G4 : Blk W4 w.heap.size (ccl c) := by rw [hW4]; exact G3.setOther 3 _ (by omega)
  have R4 : Blk W4 (w.heap.size + 1) Z := by rw [hW4]; exact R3.setOther 3 _ (by omega)
  have b4 : Below w.heap.size w W4 := by rw [hW4]; exact b3.setCell (show w.heap.size ≤ w.heap.size + 2 by omega) _
  have RG := G4.wholeC
  have TH4 := T4.there 4 27 (by rw [List.length_set, hTl]; omega)
  obtain ⟨W5, hW5⟩ : ∃ W5, W5 = W4.setCells (w.heap.size + 2) 4 (ccl c) := ⟨_, rfl⟩
  obtain ⟨V, hV⟩ : ∃ V, V = tcl ⟨sq, id, old, c.2.1, c⟩ := ⟨_, rfl⟩
  have hVl : V.length = 31 := by rw [hV]; exact tcl_len (show okCd c from hc)
  have hV1 : ∀ v ∈ V, v.oneCell' = true := by rw [hV]; exact tcl_one _
  have T5 : Blk W5 (w.heap.size + 2) V := by
    rw [hW5]
    have := T4.sets (ccl c) 4 (by rw [List.length_set, hTl, ccl_len hc]; omega)
    have e : (T.set 3 (.int .i64 c.2.1)).take 4 ++ ccl c ++ (T.set 3 (.int .i64 c.2.1)).drop (4 + (ccl c).length) = V := by
      rw [hV, List.drop_eq_nil_of_le (by rw [List.length_set, hTl, ccl_len hc]; omega), List.append_nil, hT]
      rfl
    rwa [e] at this
  have R5 : Blk W5 (w.heap.size + 1) Z := by rw [hW5]; exact R4.setsOther (by omega) _ _
  have b5 : Below w.heap.size w W5 := by rw [hW5]; exact below_sets (by omega) _ _ b4
  have HS5 := Lib.hid (show W5.cell? ⟨w.heap.size, 1, none⟩ = some (.int .i64 c.2.1) ∧ W5.rangeAt w.heap.size 0 (ccl c) from by
    have G := G4.setsOther (show w.heap.size + 2 ≠ w.heap.size by omega) (ccl c) 4
    rw [← hW5] at G
    exact ⟨G.cell (j := 1) rfl, G.wholeC⟩)
  have d2 : W5.cell? ⟨w.heap.size + 2, 2, none⟩ = some (.int .i64 old) := T5.cell (by rw [hV]; rfl)
  have d3 : W5.cell? ⟨w.heap.size + 2, 3, none⟩ = some (.int .i64 c.2.1) := T5.cell (by rw [hV]; rfl)
  have TH3 := R5.there 0 31 (by rw [hZl]; omega)
  have FIN := R5.whole (ds := Z) rfl
  have FB := below_sets (B := w.heap.size) (b := w.heap.size + 1) (by omega) Z 0 b5
  rw [← hZ]
  have HZ := Lib.hid hZ
  have HT := Lib.hid hT
  have HZL := Lib.hid hZl
  have HTL := Lib.hid hTl
  have HZ1 := Lib.hid hZ1
  have HT1 := Lib.hid hT1
  have HW1 := Lib.hid hW1
  have HW2 := Lib.hid hW2
  have HW3 := Lib.hid hW3
  have HW4 := Lib.hid hW4
  have HW5 := Lib.hid hW5
  have HVL := Lib.hid hVl
  have HV1 := Lib.hid hV1
  have HCL := Lib.hid (ccl_len hc)
  have HC1 := Lib.hid (ccl_one c)
  have HX3 := Lib.hid (And.intro x3 x4)
  have HTH4 := Lib.hid TH4
  clear x1 x3 x4 TH4 RG hD3
  have hzz : Z.toArray = #[Value.int .i64 0, .int .i64 0, .int .i64 0, .int .i64 0, .int .i64 0, .int .i64 0, .int .u32 0, .int .i64 0, .int .i64 0, .string { data := #[] }, .int .i64 0, .int .i64 0, .string { data := #[] }, .int .i64 0, .int .i64 0, .string { data := #[] }, .int .i64 0, .int .i64 0, .string { data := #[] }, .int .i64 0, .int .i64 0, .string { data := #[] }, .int .i64 0, .int .i64 0, .string { data := #[] }, .int .i64 0, .int .i64 0, .string { data := #[] }, .int .i64 0, .int .i64 0, .string { data := #[] }] := by rw [hZ]; exact zc31
  have HZZ := Lib.hid hzz
  clear hZ hT hZl hTl hZ1 hT1 R1 T2 R2 b1 b2 T3 R3 b3 hzz hW3 G3 T4 G4 R4 b4 hW4 hW5 hV hVl hV1 T5 R5 b5
  subst ho
  have HG : Hid ((w.alloc (.cells (ccl c).toArray 30)).heap.size = w.heap.size + 1) := Lib.hid (by simp)
  rw [hW2, hW1, HZZ.out] at TH2
  clear hW2 hW1 s1
  go_enter Try.func9, Try.ntmps9
  go_wp2_with (first
    | (refine wpList_exec (by rfl) (.agg T.toArray) (by rw [HT.out]; exact exec_turn (.tmp 13) (.tmp 14) (.tmp 15) rfl sq id c.2.1 rfl rfl rfl _) ?_)
    | (refine wpList_store_mid rfl 32 (.tmp 12) (.tmp 16) rfl (w.heap.size + 2) 0 T.toArray rfl rfl (by simpa [HTL.out] using TH2) (by simpa [HTL.out] using info_turn) (all_oneCell_toArray HT1.out) ?_; rw [← HZZ.out, ← HW1.out, ← HW2.out, ← HW3.out])
    | fail)
  refine wp_region_held (S := fun wz => wz.cell? ⟨w.heap.size, 1, none⟩ = some (.int .i64 c.2.1) ∧ wz.rangeAt w.heap.size 0 (ccl c)) (by kernel_rfl) ?_
  show Go.wpAnyH Try.prog Region.Mode.any _ _ _ _ _ _ W3.drew
  rw [← HD3.out]
  have hS := HS3.out
  refine takeH (i := 0) (oi := _) (v := (.pointer (some ⟨w.heap.size, 1, none⟩))) (fuel := 6) (some 18) rfl rfl (by kernel_rfl) (by kernel_rfl) (by kernel_rfl) (fun _ _ _ h => h) (.inl ⟨by rfl, fun wz hS => by simp [go_sem]⟩) hS ?_
  simp only [Act.put, List.setIfInBounds_toArray, List.set_cons_zero, List.set_cons_succ]
  refine takeH (i := 1) (oi := _) (v := (.int .i64 c.2.1)) (fuel := 5) (some 19) rfl rfl (by kernel_rfl) (by kernel_rfl) (by kernel_rfl) (fun _ _ _ h => h) (.inl ⟨by rfl, fun wz hS => by simp [go_sem, hS.1]⟩) hS ?_
  simp only [Act.put, List.setIfInBounds_toArray, List.set_cons_zero, List.set_cons_succ]
  refine takeH (i := 2) (oi := _) (v := (.agg (ccl c).toArray)) (fuel := 4) (some 20) rfl rfl (by kernel_rfl) (by kernel_rfl) (by kernel_rfl) (fun _ _ _ h => h) (.inl ⟨by rfl, fun wz hS => exec_load 30 (.tmp 8) rfl w.heap.size 0 rfl (ccl c) _ hS.2 huc rfl (by rw [HCL.out]; exact info_card)⟩) hS ?_
  simp only [Act.put, List.setIfInBounds_toArray, List.set_cons_zero, List.set_cons_succ]
  refine takeH (i := 3) (oi := _) (v := (.pointer (some ⟨w.heap.size + 2, 3, none⟩))) (fuel := 3) (some 21) rfl rfl (by kernel_rfl) (by kernel_rfl) (by kernel_rfl) (fun _ _ _ h => h) (.inl ⟨by rfl, fun wz hS => by simp [go_sem]⟩) hS ?_
  simp only [Act.put, List.setIfInBounds_toArray, List.set_cons_zero, List.set_cons_succ]
  refine allH [4] 4 (fuel := 2) (by kernel_rfl) ?_
  refine store1H _ rfl rfl (by rfl) 3 (.tmp 21) (.tmp 19) rfl (w.heap.size + 2) 3 _ (.int .i64 c.2.1) rfl rfl (fun w => by kernel_rfl) (fun cs => by simp) rfl HX3.out.1 HX3.out.2 ?_
  rw [← HW4.out]
  refine ⟨HS4.out, ?_⟩
  refine takeH (i := 5) (oi := _) (v := (.pointer (some ⟨w.heap.size + 2, 4, none⟩))) (fuel := 1) (some 22) rfl rfl (by kernel_rfl) (by kernel_rfl) (by kernel_rfl) (fun _ _ _ h => h) (.inl ⟨by rfl, fun wz hS => by simp [go_sem]⟩) HS4.out ?_
  simp only [Act.put, List.setIfInBounds_toArray, List.set_cons_zero, List.set_cons_succ]
  refine allH [6] 6 (fuel := 0) (by kernel_rfl) ?_
  refine storeH _ rfl rfl (by rfl) 30 (.tmp 22) (.tmp 20) rfl (w.heap.size + 2) 4 (ccl c).toArray rfl rfl (by simpa [HCL.out] using HTH4.out) (by simpa [HCL.out] using info_card) (all_oneCell_toArray HC1.out) ?_
  rw [show W4.setCells (w.heap.size + 2) 4 (ccl c).toArray.toList = W5 from HW5.out.symm]
  refine ⟨HS5.out, ?_⟩
  refine wpAnyH_done (by kernel_rfl) ?_ 0
  go_wp2_with (first
    | (refine wpList_exec (by rfl) (.agg Z.toArray) (by rw [HZ.out]; exact exec_t0 rfl _) ?_)
    | (refine wpList_store_mid rfl 32 (.tmp 10) (.tmp 28) rfl (w.heap.size + 1) 0 Z.toArray rfl rfl (by simpa [HZL.out] using TH3) (by simpa [HZL.out] using info_turn) (all_oneCell_toArray HZ1.out) ?_))
  exact bodyPost_ret (v := .tuple #[.agg Z.toArray, .bool false]) (tr_results (q := 10) (p := 11) rfl _ _ (w.heap.size + 1) Z _ (.bool false) rfl rfl FIN hu rfl (by rw [HZL.out]; exact info_turn)) rfl ⟨rfl, FB⟩
set_option maxRecDepth 100000 in
set_option maxHeartbeats 3200000 in
theorem of_new (sq old id : Int) (c : Cd) (w : World) (hc : okCd c) (ho : c.2.1 ≠ old) :
    Calls Try.prog 9 #[.int .i64 sq, .int .i64 old, .int .i64 id, .agg (ccl c).toArray, .bool true] w fun e w' =>
      e = .returned (.tuple #[.agg (tcl ⟨sq, id, old, c.2.1, c⟩).toArray, .bool true]) ∧ Below w.heap.size w w' := by
  have hu := Try.underlying32
  have huc := Try.underlying30
  obtain ⟨Z, hZ⟩ : ∃ Z, Z = tcl ⟨0, 0, 0, 0, zcd⟩ := ⟨_, rfl⟩
  obtain ⟨T, hT⟩ : ∃ T, T = tcl ⟨sq, id, old, 0, zcd⟩ := ⟨_, rfl⟩
  have hZl : Z.length = 31 := by rw [hZ]; rfl
  have hTl : T.length = 31 := by rw [hT]; rfl
  have hZ1 : ∀ v ∈ Z, v.oneCell' = true := by rw [hZ]; exact tcl_one _
  have hT1 : ∀ v ∈ T, v.oneCell' = true := by rw [hT]; exact tcl_one _
  obtain ⟨W1, hW1⟩ : ∃ W1, W1 = (w.alloc (.cells (ccl c).toArray 30)).alloc (.cells Z.toArray 32) := ⟨_, rfl⟩
  have s1 : W1.heap.size = w.heap.size + 2 := by rw [hW1]; simp
  have b1 : Below w.heap.size w W1 := by rw [hW1]; exact ((Below.refl w.heap.size w).alloc (Nat.le_refl _) _).alloc (by simp) _
  have R1 : Blk W1 (w.heap.size + 1) Z := by
    rw [hW1]
    have := Blk.new (w.alloc (.cells (ccl c).toArray 30)) Z 32
    rwa [show (w.alloc (.cells (ccl c).toArray 30)).heap.size = w.heap.size + 1 by simp] at this
  obtain ⟨W2, hW2⟩ : ∃ W2, W2 = W1.alloc (.cells Z.toArray 32) := ⟨_, rfl⟩
  have T2 : Blk W2 (w.heap.size + 2) Z := by rw [hW2, ← s1]; exact Blk.new W1 Z _
  have R2 : Blk W2 (w.heap.size + 1) Z := by rw [hW2]; exact R1.alloc _
  have b2 : Below w.heap.size w W2 := by rw [hW2]; exact b1.alloc b1.size _
  have TH2 := T2.there 0 31 (by rw [hZl]; omega)
  obtain ⟨W3, hW3⟩ : ∃ W3, W3 = W2.setCells (w.heap.size + 2) 0 T := ⟨_, rfl⟩
  have T3 : Blk W3 (w.heap.size + 2) T := by rw [hW3]; exact T2.whole (by rw [hZl, hTl])
  have R3 : Blk W3 (w.heap.size + 1) Z := by rw [hW3]; exact R2.setsOther (by omega) _ _
  have b3 : Below w.heap.size w W3 := by rw [hW3]; exact below_sets (by omega) _ _ b2
  have G3 : Blk W3 w.heap.size (ccl c) := by
    rw [hW3, hW2, hW1]
    exact Blk.setsOther (by omega) _ _ ((((Blk.new w (ccl c) 30).alloc _).alloc _))
  obtain ⟨D3, hD3⟩ : ∃ D3, D3 = W3.drew := ⟨_, rfl⟩
  replace T3 : Blk D3 (w.heap.size + 2) T := by rw [hD3]; exact T3.drew
  replace R3 : Blk D3 (w.heap.size + 1) Z := by rw [hD3]; exact R3.drew
  replace G3 : Blk D3 w.heap.size (ccl c) := by rw [hD3]; exact G3.drew
  replace b3 : Below w.heap.size w D3 := by rw [hD3]; exact b3.drew
  have HS3 := Lib.hid (And.intro (show D3.cell? ⟨w.heap.size, 1, none⟩ = some (.int .i64 c.2.1) from G3.cell (j := 1) rfl) G3.wholeC)
  have HD3 := Lib.hid hD3
  have x1 : D3.cell? ⟨w.heap.size, 1, none⟩ = some (.int .i64 c.2.1) := G3.cell (j := 1) rfl
  have x3 : D3.cell? ⟨w.heap.size + 2, 3, none⟩ = some (.int .i64 0) := T3.cell (by rw [hT]; rfl)
  have x4 := T3.frozen 3
  obtain ⟨W4, hW4⟩ : ∃ W4, W4 = D3.setCell ⟨w.heap.size + 2, 3, none⟩ (.int .i64 c.2.1) := ⟨_, rfl⟩
  have HS4 := Lib.hid (show W4.cell? ⟨w.heap.size, 1, none⟩ = some (.int .i64 c.2.1) ∧ W4.rangeAt w.heap.size 0 (ccl c) from by
    have G := G3.setOther 3 (.int .i64 c.2.1) (show w.heap.size + 2 ≠ w.heap.size by omega)
    rw [← hW4] at G
    exact ⟨G.cell (j := 1) rfl, G.wholeC⟩)
  have T4 : Blk W4 (w.heap.size + 2) (T.set 3 (.int .i64 c.2.1)) := by rw [hW4]; exact T3.set 3 _
  have G4 : Blk W4 w.heap.size (ccl c) := by rw [hW4]; exact G3.setOther 3 _ (by omega)
  have R4 : Blk W4 (w.heap.size + 1) Z := by rw [hW4]; exact R3.setOther 3 _ (by omega)
  have b4 : Below w.heap.size w W4 := by rw [hW4]; exact b3.setCell (show w.heap.size ≤ w.heap.size + 2 by omega) _
  have RG := G4.wholeC
  have TH4 := T4.there 4 27 (by rw [List.length_set, hTl]; omega)
  obtain ⟨W5, hW5⟩ : ∃ W5, W5 = W4.setCells (w.heap.size + 2) 4 (ccl c) := ⟨_, rfl⟩
  obtain ⟨V, hV⟩ : ∃ V, V = tcl ⟨sq, id, old, c.2.1, c⟩ := ⟨_, rfl⟩
  have hVl : V.length = 31 := by rw [hV]; exact tcl_len (show okCd c from hc)
  have hV1 : ∀ v ∈ V, v.oneCell' = true := by rw [hV]; exact tcl_one _
  have T5 : Blk W5 (w.heap.size + 2) V := by
    rw [hW5]
    have := T4.sets (ccl c) 4 (by rw [List.length_set, hTl, ccl_len hc]; omega)
    have e : (T.set 3 (.int .i64 c.2.1)).take 4 ++ ccl c ++ (T.set 3 (.int .i64 c.2.1)).drop (4 + (ccl c).length) = V := by
      rw [hV, List.drop_eq_nil_of_le (by rw [List.length_set, hTl, ccl_len hc]; omega), List.append_nil, hT]
      rfl
    rwa [e] at this
  have R5 : Blk W5 (w.heap.size + 1) Z := by rw [hW5]; exact R4.setsOther (by omega) _ _
  have b5 : Below w.heap.size w W5 := by rw [hW5]; exact below_sets (by omega) _ _ b4
  have HS5 := Lib.hid (show W5.cell? ⟨w.heap.size, 1, none⟩ = some (.int .i64 c.2.1) ∧ W5.rangeAt w.heap.size 0 (ccl c) from by
    have G := G4.setsOther (show w.heap.size + 2 ≠ w.heap.size by omega) (ccl c) 4
    rw [← hW5] at G
    exact ⟨G.cell (j := 1) rfl, G.wholeC⟩)
  have d2 : W5.cell? ⟨w.heap.size + 2, 2, none⟩ = some (.int .i64 old) := T5.cell (by rw [hV]; rfl)
  have d3 : W5.cell? ⟨w.heap.size + 2, 3, none⟩ = some (.int .i64 c.2.1) := T5.cell (by rw [hV]; rfl)
  have TH3 := R5.there 0 31 (by rw [hZl]; omega)
  have FIN := R5.whole (ds := V) (by rw [hZl, hVl])
  have FB := below_sets (B := w.heap.size) (b := w.heap.size + 1) (by omega) V 0 b5
  have RT := T5.wholeC
  rw [← hV]
  have HZ := Lib.hid hZ
  have HT := Lib.hid hT
  have HZL := Lib.hid hZl
  have HTL := Lib.hid hTl
  have HZ1 := Lib.hid hZ1
  have HT1 := Lib.hid hT1
  have HW1 := Lib.hid hW1
  have HW2 := Lib.hid hW2
  have HW3 := Lib.hid hW3
  have HW4 := Lib.hid hW4
  have HW5 := Lib.hid hW5
  have HVL := Lib.hid hVl
  have HV1 := Lib.hid hV1
  have HCL := Lib.hid (ccl_len hc)
  have HC1 := Lib.hid (ccl_one c)
  have HX3 := Lib.hid (And.intro x3 x4)
  have HTH4 := Lib.hid TH4
  clear x1 x3 x4 TH4 RG hD3
  have hzz : Z.toArray = #[Value.int .i64 0, .int .i64 0, .int .i64 0, .int .i64 0, .int .i64 0, .int .i64 0, .int .u32 0, .int .i64 0, .int .i64 0, .string { data := #[] }, .int .i64 0, .int .i64 0, .string { data := #[] }, .int .i64 0, .int .i64 0, .string { data := #[] }, .int .i64 0, .int .i64 0, .string { data := #[] }, .int .i64 0, .int .i64 0, .string { data := #[] }, .int .i64 0, .int .i64 0, .string { data := #[] }, .int .i64 0, .int .i64 0, .string { data := #[] }, .int .i64 0, .int .i64 0, .string { data := #[] }] := by rw [hZ]; exact zc31
  have HZZ := Lib.hid hzz
  clear hZ hT hZl hTl hZ1 hT1 R1 T2 R2 b1 b2 T3 R3 b3 hzz hW3 G3 T4 G4 R4 b4 hW4 hW5 hV hVl hV1 T5 R5 b5
  have g1 : decide (old = c.2.1) = false := decide_eq_false (fun e => ho e.symm)
  have HG : Hid ((w.alloc (.cells (ccl c).toArray 30)).heap.size = w.heap.size + 1) := Lib.hid (by simp)
  rw [hW2, hW1, HZZ.out] at TH2
  clear hW2 hW1 s1
  go_enter Try.func9, Try.ntmps9
  go_wp2_with (first
    | (refine wpList_exec (by rfl) (.agg T.toArray) (by rw [HT.out]; exact exec_turn (.tmp 13) (.tmp 14) (.tmp 15) rfl sq id old rfl rfl rfl _) ?_)
    | (refine wpList_store_mid rfl 32 (.tmp 12) (.tmp 16) rfl (w.heap.size + 2) 0 T.toArray rfl rfl (by simpa [HTL.out] using TH2) (by simpa [HTL.out] using info_turn) (all_oneCell_toArray HT1.out) ?_; rw [← HZZ.out, ← HW1.out, ← HW2.out, ← HW3.out])
    | fail)
  refine wp_region_held (S := fun wz => wz.cell? ⟨w.heap.size, 1, none⟩ = some (.int .i64 c.2.1) ∧ wz.rangeAt w.heap.size 0 (ccl c)) (by kernel_rfl) ?_
  show Go.wpAnyH Try.prog Region.Mode.any _ _ _ _ _ _ W3.drew
  rw [← HD3.out]
  have hS := HS3.out
  refine takeH (i := 0) (oi := _) (v := (.pointer (some ⟨w.heap.size, 1, none⟩))) (fuel := 6) (some 18) rfl rfl (by kernel_rfl) (by kernel_rfl) (by kernel_rfl) (fun _ _ _ h => h) (.inl ⟨by rfl, fun wz hS => by simp [go_sem]⟩) hS ?_
  simp only [Act.put, List.setIfInBounds_toArray, List.set_cons_zero, List.set_cons_succ]
  refine takeH (i := 1) (oi := _) (v := (.int .i64 c.2.1)) (fuel := 5) (some 19) rfl rfl (by kernel_rfl) (by kernel_rfl) (by kernel_rfl) (fun _ _ _ h => h) (.inl ⟨by rfl, fun wz hS => by simp [go_sem, hS.1]⟩) hS ?_
  simp only [Act.put, List.setIfInBounds_toArray, List.set_cons_zero, List.set_cons_succ]
  refine takeH (i := 2) (oi := _) (v := (.agg (ccl c).toArray)) (fuel := 4) (some 20) rfl rfl (by kernel_rfl) (by kernel_rfl) (by kernel_rfl) (fun _ _ _ h => h) (.inl ⟨by rfl, fun wz hS => exec_load 30 (.tmp 8) rfl w.heap.size 0 rfl (ccl c) _ hS.2 huc rfl (by rw [HCL.out]; exact info_card)⟩) hS ?_
  simp only [Act.put, List.setIfInBounds_toArray, List.set_cons_zero, List.set_cons_succ]
  refine takeH (i := 3) (oi := _) (v := (.pointer (some ⟨w.heap.size + 2, 3, none⟩))) (fuel := 3) (some 21) rfl rfl (by kernel_rfl) (by kernel_rfl) (by kernel_rfl) (fun _ _ _ h => h) (.inl ⟨by rfl, fun wz hS => by simp [go_sem]⟩) hS ?_
  simp only [Act.put, List.setIfInBounds_toArray, List.set_cons_zero, List.set_cons_succ]
  refine allH [4] 4 (fuel := 2) (by kernel_rfl) ?_
  refine store1H _ rfl rfl (by rfl) 3 (.tmp 21) (.tmp 19) rfl (w.heap.size + 2) 3 _ (.int .i64 c.2.1) rfl rfl (fun w => by kernel_rfl) (fun cs => by simp) rfl HX3.out.1 HX3.out.2 ?_
  rw [← HW4.out]
  refine ⟨HS4.out, ?_⟩
  refine takeH (i := 5) (oi := _) (v := (.pointer (some ⟨w.heap.size + 2, 4, none⟩))) (fuel := 1) (some 22) rfl rfl (by kernel_rfl) (by kernel_rfl) (by kernel_rfl) (fun _ _ _ h => h) (.inl ⟨by rfl, fun wz hS => by simp [go_sem]⟩) HS4.out ?_
  simp only [Act.put, List.setIfInBounds_toArray, List.set_cons_zero, List.set_cons_succ]
  refine allH [6] 6 (fuel := 0) (by kernel_rfl) ?_
  refine storeH _ rfl rfl (by rfl) 30 (.tmp 22) (.tmp 20) rfl (w.heap.size + 2) 4 (ccl c).toArray rfl rfl (by simpa [HCL.out] using HTH4.out) (by simpa [HCL.out] using info_card) (all_oneCell_toArray HC1.out) ?_
  rw [show W4.setCells (w.heap.size + 2) 4 (ccl c).toArray.toList = W5 from HW5.out.symm]
  refine ⟨HS5.out, ?_⟩
  refine wpAnyH_done (by kernel_rfl) ?_ 0
  go_wp2_with (first
    | (refine wpList_load_mid rfl 32 (.tmp 12) rfl (w.heap.size + 2) 0 rfl V _ RT hu rfl (by rw [HVL.out]; exact info_turn) ?_)
    | (refine wpList_store_mid rfl 32 (.tmp 10) (.tmp 29) rfl (w.heap.size + 1) 0 V.toArray rfl rfl (by simpa [HVL.out] using TH3) (by simpa [HVL.out] using info_turn) (all_oneCell_toArray HV1.out) ?_))
  exact bodyPost_ret (v := .tuple #[.agg V.toArray, .bool true]) (tr_results (q := 10) (p := 11) rfl _ _ (w.heap.size + 1) V _ (.bool true) rfl rfl FIN hu rfl (by rw [HVL.out]; exact info_turn)) rfl ⟨rfl, FB⟩
theorem of23_any (sq old id : Int) (c : Cd) (is : Bool) (w : World) (hc : okCd c) :
    Calls Try.prog 9 #[.int .i64 sq, .int .i64 old, .int .i64 id, .agg (ccl c).toArray, .bool is] w fun e w' =>
      e = .returned (ofOut (ofT sq old id c is)) ∧ Below w.heap.size w w' := by
  cases is with
  | false =>
    by_cases h : old = 0
    · have e : ofT sq old id c false = none := by show (if (0 : Int) = old then none else _) = _; rw [if_pos h.symm]
      rw [e]
      exact of_no sq old id c w hc h
    · have e : ofT sq old id c false = some ⟨sq, id, old, 0, zcd⟩ := by show (if (0 : Int) = old then none else _) = _; rw [if_neg (fun x => h x.symm)]; rfl
      rw [e]
      exact of_off sq old id c w hc h
  | true =>
    by_cases h : c.2.1 = old
    · have e : ofT sq old id c true = none := by show (if c.2.1 = old then none else _) = _; rw [if_pos h]
      rw [e]
      exact of_same sq old id c w hc h
    · have e : ofT sq old id c true = some ⟨sq, id, old, c.2.1, c⟩ := by show (if c.2.1 = old then none else _) = _; rw [if_neg h]; rfl
      rw [e]
      exact of_new sq old id c w hc h
end Go.Proofs.Ytepefocpeeihdaa

/- Whole structs loaded and stored inside a fence: the laws of the plain walk, for a round. -/
namespace Go.Proofs.Ytepefocpeeihdaa
set_option linter.unusedVariables false
open Go Go.RowKit

section
variable {F : Fence} {n : Nat} {P : Program} {ops : Array Oper} {rest : List Oper} {o : Oper} {a : Act} {w : World} {Q : Exit → Act → World → Prop}
end
end Go.Proofs.Ytepefocpeeihdaa
