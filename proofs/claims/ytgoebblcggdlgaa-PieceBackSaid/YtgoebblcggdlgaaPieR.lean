/- PieceBack: the law's walk. -/
import Derived.Test.YtgoebblcggdlgaaPieQ
import Derived.Test.YtgoebblcggdlgaaRowS
import Derived.Test.YtgoebblcggdlgaaRowC
namespace Go.Proofs.Ytgoebblcggdlgaa
set_option linter.unusedVariables false
set_option linter.unusedSimpArgs false
open Go Go.RowKit OctM SumM

theorem row_some {w : World} {base size n c : Nat} {e : TypeId} {A : Option Addr} {xs : List Value} (h : w.ownsRow base e size (.slice A n c) n xs) (hn : 0 < n) : ∃ g, A = some ⟨g, 0, none⟩ ∧ base ≤ g ∧ n ≤ c ∧ c ≤ maxLen := by
  obtain ⟨_, h | ⟨g, cap, cur, h1, h2, _, h4, h5, _⟩⟩ := h
  · omega
  · injection h1 with ha _ hc
    subst hc
    exact ⟨g, ha, h2, h4, h5⟩
theorem run_p0 (w : World) : (Instr.buildSlice 42 0 #[]).run Try.prog w = .ok (.slice (some ⟨w.heap.size, 0, none⟩) 0 0) (w.alloc (.cells #[] 25)) := by kernel_rfl
theorem pok_cut {a b : Int} {r : List UInt8} {k m : Nat} (h : 1 ≤ a ∧ a ≤ 4294967295 ∧ 0 ≤ b ∧ b + (m : Int) ≤ 1099511627776) (hk : k < m) : pok (pcAt a b r k) = true := by
  rw [pok_at]
  exact decide_eq_true (by omega)

theorem cutU_small (a b : Int) (r : List UInt8) (k : Nat) : ∀ p ∈ cutU a b r k, p.2.2.2.2.length ≤ 52 := by
  intro p hp
  unfold cutU at hp
  obtain ⟨i, _, rfl⟩ := List.mem_map.1 hp
  show (chk r i).length ≤ 52
  rw [chk_len]
  omega
theorem pbs_len {p : Pc} (h : pok p = true) : (pbs p).length = 64 := by
  have h5 : p.2.2.2.2.length ≤ 52 := by
    unfold pok at h
    simp only [decide_eq_true_eq] at h
    exact h.2.2.2.2
  rw [pok_hea h, List.length_append, sec_len (by rw [hea_len]; omega), lo_len]

set_option maxRecDepth 100000 in
set_option maxHeartbeats 3200000 in
theorem walk_pback0 (y : Int) (r : List UInt8) (ka kb : Int) (w : World) (hr : r.length ≤ maxLen) :
    Calls Try.prog 5 #[.agg #[.int .u32 0, .int .u32 y], .string (str r), .agg #[.int .u8 ka, .int .u8 kb]] w fun e w' => e = .returned (.bool true) ∧ Below w.heap.size w w' := by
  have hz := str_size r
  obtain ⟨n, hn⟩ : ∃ n, n = r.length := ⟨_, rfl⟩
  rw [← hn] at hz hr
  unfold maxLen at hr
  obtain ⟨sr, hsr⟩ : ∃ sr, sr = str r := ⟨_, rfl⟩
  rw [← hsr] at hz ⊢
  clear hsr hn
  have HB0 : Hid (Below w.heap.size w ((w.alloc (.cells #[.int .u32 0, .int .u32 y] 51)).alloc (.cells #[.int .u8 ka, .int .u8 kb] 52))) := Lib.hid (((Below.refl w.heap.size w).alloc (Nat.le_refl _) _).alloc (by simp) _)
  have hcx := ((Blk.new w [.int .u32 0, .int .u32 y] 51).alloc (.cells #[.int .u8 ka, .int .u8 kb] 52)).cell (j := 0) rfl
  by_cases h6 : n ≤ 600
  · have d6 : decide ((600 : Int) < (n : Int)) = false := decide_eq_false (by omega)
    go_enter Try.func5, Try.ntmps5
    go_wp2_with fail
    refine (awake_any _).mono ?_
    rintro e w9 ⟨rfl, rfl⟩
    go_wp2_with fail
    go_ret
    exact ⟨rfl, HB0.out⟩
  · have d6 : decide ((600 : Int) < (n : Int)) = true := decide_eq_true (by omega)
    go_enter Try.func5, Try.ntmps5
    go_wp2_with fail
    refine (awake_any _).mono ?_
    rintro e w9 ⟨rfl, rfl⟩
    go_wp2_with fail
    go_ret
    exact ⟨rfl, HB0.out⟩

set_option maxRecDepth 100000 in
set_option maxHeartbeats 12800000 in
theorem walk_pback (x y : Nat) (r : List UInt8) (ka kb : Nat) (w : World) (hx : x < 4294967296) (hy : y < 4294967296) (hka : ka < 256) (hkb : kb < 256) (hr : r.length ≤ maxLen) (hxn : x ≠ 0) :
    Calls Try.prog 5 #[.agg #[.int .u32 (x : Int), .int .u32 (y : Int)], .string (str r), .agg #[.int .u8 (ka : Int), .int .u8 (kb : Int)]] w fun e w' => e = .returned (.bool true) ∧ Below w.heap.size w w' := by
  have hu1 := Try.underlying25
  have hz := str_size r
  obtain ⟨n, hn⟩ : ∃ n, n = r.length := ⟨_, rfl⟩
  rw [← hn] at hz hr
  unfold maxLen at hr
  obtain ⟨sr, hsr⟩ : ∃ sr, sr = str r := ⟨_, rfl⟩
  rw [← hsr] at hz ⊢
  have HSR := Lib.hid hsr
  have HN := Lib.hid hn
  obtain ⟨W0, hW0⟩ : ∃ W0, W0 = (w.alloc (.cells #[.int .u32 (x : Int), .int .u32 (y : Int)] 51)).alloc (.cells #[.int .u8 (ka : Int), .int .u8 (kb : Int)] 52) := ⟨_, rfl⟩
  have HB0 : Hid (Below w.heap.size w W0) := Lib.hid (by rw [hW0]; exact ((Below.refl w.heap.size w).alloc (Nat.le_refl _) _).alloc (by simp) _)
  have HQB : Hid (Blk W0 w.heap.size [.int .u32 (x : Int), .int .u32 (y : Int)]) := Lib.hid (by rw [hW0]; exact (Blk.new w _ _).alloc _)
  have HKB : Hid (Blk W0 (w.heap.size + 1) [.int .u8 (ka : Int), .int .u8 (kb : Int)]) := Lib.hid (by
    rw [hW0]
    have := Blk.new (w.alloc (.cells #[.int .u32 (x : Int), .int .u32 (y : Int)] 51)) [.int .u8 (ka : Int), .int .u8 (kb : Int)] 52
    rw [show (w.alloc (.cells #[Value.int .u32 (x : Int), .int .u32 (y : Int)] 51)).heap.size = w.heap.size + 1 by simp] at this
    exact this)
  have HW0 := Lib.hid hW0
  clear hsr hn hW0
  by_cases h6 : n ≤ 600
  · have d6 : decide ((600 : Int) < (n : Int)) = false := decide_eq_false (by omega)
    by_cases hx0 : x = 0
    · exact absurd hx0 hxn
    · have x0 : ((x : Int) == 0) = false := by rw [beq_eq_false_iff_ne]; omega
      have HMN : Hid (∀ wx, Calls Try.prog 15 #[.int .i64 (n : Int)] wx fun e w' => e = .returned (.int .i64 (mn n : Int)) ∧ wx = w') := Lib.hid (fun wx => by
        rw [← many_mn]
        exact many_any _ (by omega) wx)
      obtain ⟨m, hm⟩ : ∃ m, m = mn n := ⟨_, rfl⟩
      rw [← hm] at HMN
      have HMM : Hid (m = mn r.length ∧ r.length ≤ 600) := Lib.hid ⟨by rw [hm, HN.out], by rw [← HN.out]; exact h6⟩
      have hm0 : 0 < m := by rw [hm]; exact mn_pos n
      have hm12 : m ≤ 601 := by rw [hm]; have := mn_le n; omega
      obtain ⟨a, ha⟩ : ∃ a : Int, a = (x : Int) := ⟨_, rfl⟩
      obtain ⟨b, hb⟩ : ∃ b : Int, b = (y : Int) := ⟨_, rfl⟩
      have HST : Hid (1 ≤ a ∧ a ≤ 4294967295 ∧ 0 ≤ b ∧ b + (m : Int) ≤ 1099511627776) := Lib.hid (by omega)
      have HC : Hid (∀ wx, Calls Try.prog 22 #[.int .i64 a, .int .i64 b, .string sr] wx fun e w' => ∃ A c, e = .returned (.slice A m c) ∧ w'.ownsRow wx.heap.size 25 5 (.slice A m c) m (rws pcel (cutU a b r m)) ∧ Below wx.heap.size wx w') := Lib.hid (fun wx => by
        have h := cut_any a b r wx (by rw [← HN.out]; omega)
        rw [← HSR.out] at h
        have e : cutL a b r = cutU a b r m := by
          unfold cutL
          rw [← HMM.out.1]
          exact if_pos HST.out
        rw [e, cutU_len] at h
        exact h)
      have HCN : Hid ((cutU a b r m).length = m) := Lib.hid (cutU_len a b r m)
      have HBD : Hid (bod (cutU a b r m) = r.take (52 * m)) := Lib.hid (bod_cutU a b r m)
      have HJO : Hid (joi (cutU a b r m) = (r, true)) := Lib.hid (by
        have h := HMM.out.1
        have h2 := HST.out
        rw [h] at h2 ⊢
        exact joi_cut h2)
      have hcx := HQB.out.cell (j := 0) rfl
      have hcy := HQB.out.cell (j := 1) rfl
      rw [HW0.out] at hcx hcy
      rw [← ha] at hcx x0
      rw [← hb] at hcy
      have HWW : Hid (W0 = (w.alloc (.cells #[.int .u32 a, .int .u32 b] 51)).alloc (.cells #[.int .u8 (ka : Int), .int .u8 (kb : Int)] 52)) := Lib.hid (by rw [ha, hb]; exact HW0.out)
      have ha0 : 0 ≤ a ∧ a < 4294967296 := by omega
      have hb0 : 0 ≤ b ∧ b < 4294967296 := by omega
      have h0a := ha0.1
      have h1a := ha0.2
      have h0b := hb0.1
      have h1b := hb0.2
      rw [← ha, ← hb]
      clear ha hb hm HW0 ha0 hb0
      have mm0 : ((m : Int) == 0) = false := by rw [beq_eq_false_iff_ne]; omega
      go_enter Try.func5, Try.ntmps5
      go_wp2_with fail
      rw [← HWW.out]
      refine (HC.out W0).mono ?_
      rintro e w1 ⟨AL, cl, rfl, hrl, hb1⟩
      obtain ⟨gl, rfl, hgl, hmc, hcm⟩ := row_some hrl hm0
      have HSL := Lib.hid (row_sees hrl)
      have HB1 := Lib.hid (HB0.out.trans (hb1.mono HB0.out.size))
      have HKB1 := Lib.hid (HKB.out.later hb1)
      unfold maxLen at hcm
      clear hrl hb1 hgl hcx hcy HKB HQB
      go_wp2_with fail
      refine (HMN.out _).mono ?_
      rintro e wx ⟨rfl, rfl⟩
      have HROW0 := Lib.hid (row_lit w1 w1.heap.size 25 5 0 #[] (Nat.le_refl _) (by simp [maxLen]) rfl)
      have HBE := Lib.hid ((Below.refl w1.heap.size w1).alloc (Nat.le_refl _) (.cells #[] 25))
      go_wp2_with fail
      go_loopw [8, 9] (fun v i wr => ∃ k : Nat, k ≤ m ∧ i = .int .i64 (k : Int) ∧ (∃ A1 c1, v = .slice A1 k c1 ∧ Hid (wr.ownsRow w1.heap.size 25 5 v k (rws pcel ((cutU a b r m).take k)))) ∧ Hid (Below w1.heap.size w1 wr)) (fun _ i _ => m - (intOf i).toNat)
      case atStart => exact ⟨0, by omega, rfl, ⟨_, _, rfl, HROW0⟩, HBE⟩
      case round =>
        clear HROW0 HBE
        obtain ⟨k, hk, rfl, ⟨A1, c1, rfl, HR⟩, HBR⟩ := hrel
        obtain ⟨i1, ji, jz0, jz1, jz2⟩ := info_pied
        by_cases hlt : k < m
        · have d1 : decide ((k : Int) < (m : Int)) = true := decide_eq_true (by omega)
          have hkl : k < (cutU a b r m).length := by rw [HCN.out]; exact hlt
          obtain ⟨b0, o0, e1, hb0, hr0⟩ := sees_rw (pc_len _) (HSL.out.below HBR.out) (by decide : 0 < 5) k hkl
          cases e1
          rw [Nat.zero_add] at hr0
          have hp0 : (cutU a b r m)[k] = pcAt a b r k := by
            have := cutU_at a b r hlt
            rw [List.getElem?_eq_getElem hkl] at this
            exact Option.some.inj this
          have HSN : Hid (rws pcel ((cutU a b r m).take (k + 1)) = rws pcel ((cutU a b r m).take k) ++ pcel (cutU a b r m)[k]) := Lib.hid (by rw [List.take_succ_eq_append_getElem hkl, rws_append, rws_one])
          rw [hp0] at hr0 HSN
          have hok := pok_cut (r := r) HST.out hlt
          have hbl : (pcAt a b r k).2.2.2.2.length ≤ 4096 := by show (chk r k).length ≤ 4096; rw [chk_len]; omega
          have HPT := Lib.hid (fun wx => put_any (pcAt a b r k) wx hbl)
          have hpl : (pbs (pcAt a b r k)).length ≤ 4096 := by rw [pbs_len hok]; omega
          have HGT := Lib.hid (fun wx => get_any (pbs (pcAt a b r k)) hpl wx)
          rw [get_put hok] at HGT
          have HFR := Lib.hid (fun wx => from_any (pcAt a b r k) wx)
          have HQ : Hid (∀ wx, (Op.equalIn 10000 23 (.agg (pcel (pcAt a b r k)).toArray) (.agg (pcel (pcAt a b r k)).toArray)).run Try.prog wx = .ok true wx) := Lib.hid (fun wx => (eq_rpie 9998 _ _ wx).trans (by rw [decide_eq_true rfl]))
          have ONE := pcel_one (pcAt a b r k)
          have HLEN : Hid ((pcel (pcAt a b r k)).length = 5) := Lib.hid rfl
          obtain ⟨ps, hps⟩ : ∃ ps, ps = str (pbs (pcAt a b r k)) := ⟨_, rfl⟩
          obtain ⟨pc, hpc⟩ : ∃ pc, pc = pcel (pcAt a b r k) := ⟨_, rfl⟩
          have HPT2 : Hid (∀ wx, Calls Try.prog 12 #[.agg pc.toArray] wx fun e w' => e = .returned (.string ps) ∧ Below wx.heap.size wx w') := Lib.hid (fun wx => by rw [hpc, hps]; exact HPT.out wx)
          have HGT2 : Hid (∀ wx, Calls Try.prog 7 #[.string ps] wx fun e w' => e = .returned (.tuple #[.agg pc.toArray, .bool true]) ∧ Below wx.heap.size wx w') := Lib.hid (fun wx => by rw [hpc, hps]; exact HGT.out wx)
          rw [← hpc] at hr0 HSN HFR HQ ONE HLEN
          have hbz := HBR.out.size
          have HRG : Hid (∀ w2, Le wr w2 → w2.rangeAt gl (k * 5) pc) := Lib.hid (fun w2 h2 j v hj => (h2.cell (p := ⟨gl, k * 5 + j, none⟩) (by show gl < wr.heap.size; omega)).trans (hr0 j v hj))
          have ON1 := all_oneCell_toArray ONE
          have IN1 : (Try.prog.info? 25).map (·.size) = some pc.toArray.size := by rw [(List.size_toArray).trans HLEN.out]; exact info_pie
          clear HPT HGT hps hpc hp0 hok hbl hb0 hpl
          go_wp2_with (first
            | (refine wpList_load_mid rfl 25 (.tmp 60) rfl gl (k * 5) rfl pc _ hr0 hu1 rfl (by rw [HLEN.out]; exact info_pie) ?_)
            | fail)
          refine (HPT2.out _).mono ?_
          rintro e w2 ⟨rfl, h2⟩
          have HB2 := Lib.hid (HBR.out.trans (h2.mono hbz))
          have HL2 := Lib.hid h2
          have HR2 := Lib.hid (row_later HR.out h2)
          clear hr0 h2
          go_wp2_with fail
          refine (HGT2.out _).mono ?_
          rintro e w3 ⟨rfl, h3⟩
          have HB3 := Lib.hid (HB2.out.trans (h3.mono HB2.out.size))
          have HL3 : Hid (Le wr w3) := Lib.hid (HL2.out.trans (h3.mono HL2.out.size))
          have HR3 := Lib.hid (row_later HR2.out h3)
          clear h3
          obtain ⟨TH3, F3, g3, z3⟩ := new_put w1.heap.size w3 pc [.int .i64 0, .int .i64 0, .bool false, .bool false, .string { data := #[] }] 25 (by rw [HLEN.out]; rfl) HB3.out.size
          have F3 := Lib.hid F3
          have HR4 := Lib.hid (row_later HR3.out g3)
          have HB4 := Lib.hid (HB3.out.trans (g3.mono HB3.out.size))
          have HL4 := Lib.hid (Below.trans HL3.out (g3.mono HL3.out.size))
          clear g3 z3
          go_wp2_with (first
            | (refine wpList_store_mid rfl 25 (.tmp 10) (.tmp 64) rfl w3.heap.size 0 pc.toArray rfl rfl TH3 IN1 ON1 ?_
               simp only [Act.put]
               generalize hw4 : World.setCells _ w3.heap.size 0 pc.toArray.toList = w4
               have F4 : Blk w4 w3.heap.size pc := by rw [← hw4]; exact F3.out
               have R4 : w4.ownsRow w1.heap.size 25 5 (.slice A1 k c1) k (rws pcel ((cutU a b r m).take k)) := by rw [← hw4]; exact HR4.out
               have B4 : Below w1.heap.size w1 w4 := by rw [← hw4]; exact HB4.out
               have L4 : Le wr w4 := by rw [← hw4]; exact HL4.out
               have B4 := Lib.hid B4
               have L4 := Lib.hid L4
               have R4 := Lib.hid R4
               have HRG := Lib.hid (fun w2 (h : Le w4 w2) => HRG.out w2 (Le.trans L4.out h))
               clear hw4 TH3 F3 HR4 HB4 HL4 HR3 HB3 HL3 HR2 HB2 HL2)
            | fail)
          obtain ⟨g10, hg10⟩ : ∃ g10, g10 = w3.heap.size := ⟨_, rfl⟩
          rw [← hg10] at F4 ⊢
          clear hg10
          refine wp_region_steady [] 153 (by kernel_rfl) (by kernel_rfl) (by kernel_rfl) (by rfl) ?_
          iterate 3 (refine wpG_quiet (by rfl) (by rfl) (by rfl) (fun K hK => ?_); go_big_quiet_op; refine hK _ ?_; clear hK K)
          refine wpG_run (by rfl) (by rfl) (.agg pc.toArray) (fun wx hl => exec_load 25 (.tmp 10) rfl g10 0 rfl pc _ ((F4.later hl.1).range 0 pc (by rw [List.drop_zero, List.take_length])) hu1 rfl (by rw [HLEN.out]; exact info_pie)) ?_
          simp only [Act.put, List.setIfInBounds_toArray, List.set_cons_zero, List.set_cons_succ]
          refine wpG_call (by rfl) (by rfl) 14 #[.agg pc.toArray] (.agg pc.toArray) (by intro _; simp [go_sem]) (by kernel_rfl) (fun wx hl => HFR.out wx) ?_
          simp only [Act.put, List.setIfInBounds_toArray, List.set_cons_zero, List.set_cons_succ]
          iterate 3 (refine wpG_quiet (by rfl) (by rfl) (by rfl) (fun K hK => ?_); go_big_quiet_op; refine hK _ ?_; clear hK K)
          refine wpG_run (by rfl) (by rfl) (.agg pc.toArray) (fun wx hl => exec_load 25 (.tmp 73) rfl gl (k * 5) rfl pc _ (HRG.out wx hl.1) hu1 rfl (by rw [HLEN.out]; exact info_pie)) ?_
          simp only [Act.put, List.setIfInBounds_toArray, List.set_cons_zero, List.set_cons_succ]
          refine wpG_call (by rfl) (by rfl) 14 #[.agg pc.toArray] (.agg pc.toArray) (by intro _; simp [go_sem]) (by kernel_rfl) (fun wx hl => HFR.out wx) ?_
          simp only [Act.put, List.setIfInBounds_toArray, List.set_cons_zero, List.set_cons_succ]
          refine wpG_run (by rfl) (by rfl) (.bool (!true)) (fun wx hl => exec_neq 23 _ (.tmp 70) (.tmp 75) rfl _ _ rfl rfl guard_rpie true (HQ.out wx)) ?_
          simp only [Act.put, List.setIfInBounds_toArray, List.set_cons_zero, List.set_cons_succ]
          iterate 1 (refine wpG_quiet (by rfl) (by rfl) (by rfl) (fun K hK => ?_); go_big_quiet_op; refine hK _ ?_; clear hK K)
          refine wpG_nil fun wx hl _ => ?_
          have HB5 := Lib.hid (B4.out.trans (hl.mono B4.out.size))
          have F5 := F4.later hl
          have HR5 := Lib.hid (World.ownsRow.alloc (row_later R4.out hl) (.cells pc.toArray 25))
          have RG5 := F5.range 0 pc (by rw [List.drop_zero, List.take_length])
          clear F4 F5 hl R4 B4 L4 HRG
          go_wp2_with (first
            | (refine wpList_load_mid rfl 25 (.tmp 10) rfl g10 0 rfl pc _ RG5 hu1 rfl (by rw [HLEN.out]; exact info_pie) ?_)
            | (refine wpList_lit1 rfl 42 25 (.tmp 79) rfl (.agg pc.toArray) pc.toArray rfl (run_p1 pc HLEN.out _) ?_)
            | (at_builtin
               refine wpList_appk _ rfl (.tmp 78) (.tmp 80) 42 rfl w1.heap.size 25 i1 _ 5 40 Try.underlying42 ji jz0 jz1 jz2 rfl (by decide) (.slice A1 k c1) k (rws pcel ((cutU a b r m).take k)) rfl HR5.out (wx.heap.size + 1) (some ⟨wx.heap.size, 0, none⟩) 1 pc 1 rfl (by rw [HLEN.out]) (sees_lit wx _ 25 (0, 0) _ rfl) ONE (by unfold maxLen; omega) (by omega) (by have := HB5.out.size; simp; omega) ?_
               intro A5 c5 w5 hr5 hb5 hg5 hat5)
            | fail)
          rw [← HSN.out] at hr5
          have HR6 := Lib.hid hr5
          have HB6 := Lib.hid ((HB5.out.alloc HB5.out.size _).trans hb5)
          clear hr5 hb5 hg5 hat5 RG5
          go_roundw
          case rel => exact ⟨k + 1, by omega, by go_num, ⟨A5, c5, rfl, HR6⟩, HB6⟩
          case measure => simp [intOf]; omega
        · obtain rfl : k = m := by omega
          have d1 : decide ((k : Int) < (k : Int)) = false := by simp
          rw [List.take_of_length_le (by rw [HCN.out]; omega)] at HR
          obtain ⟨g, e1, hgb, hcc, hcx⟩ := row_some HR.out hm0
          cases e1
          have HGB := Lib.hid hgb
          have HI1 := Lib.hid (And.intro ji (And.intro jz0 (And.intro jz1 jz2)))
          clear hgb ji jz0 jz1 jz2
          go_wp2_with fail
          refine (join_any (some ⟨g, 0, none⟩) k c1 (cutU a b r k) wr HCN.out (by omega) (row_sees HR.out) (by rw [HBD.out, List.length_take]; have := HMM.out; omega)).mono ?_
          rw [HJO.out]
          rintro e W1 ⟨rfl, hj1⟩
          have HR1 := Lib.hid (row_later HR.out hj1)
          have HB2 := Lib.hid (HBR.out.trans (hj1.mono HBR.out.size))
          clear hj1
          rw [show str (r, true).1 = sr from HSR.out.symm]
          have hq : (!sr.toList == sr.toList) = false := by simp
          go_wp2_with fail
          have HKB2 := Lib.hid (HKB1.out.later HB2.out)
          have k0 : ∀ kk : LW W1, kk.val.cell? ⟨w.heap.size + 1, 0, none⟩ = some (.int .u8 (ka : Int)) := fun kk => (HKB2.out.later kk.le).cell (j := 0) rfl
          have k1 : ∀ kk : LW W1, kk.val.cell? ⟨w.heap.size + 1, 1, none⟩ = some (.int .u8 (kb : Int)) := fun kk => (HKB2.out.later kk.le).cell (j := 1) rfl
          have km0 : ((k : Int) == 0) = false := mm0
          have kne : (k : Int) ≠ 0 := by omega
          refine wp_region_steady [] 153 (by kernel_rfl) (by kernel_rfl) (by kernel_rfl) (by rfl) ?_
          obtain ⟨i, hi⟩ : ∃ i, i = ka % k := ⟨_, rfl⟩
          obtain ⟨j, hj⟩ : ∃ j, j = kb % k := ⟨_, rfl⟩
          have hik : i < k := by rw [hi]; exact Nat.mod_lt _ hm0
          have hjk : j < k := by rw [hj]; exact Nat.mod_lt _ hm0
          have t1 : Int.tmod (ka : Int) (k : Int) = (i : Int) := by rw [hi]; exact (Int.ofNat_tmod ka k).symm
          have t2 : Int.tmod (kb : Int) (k : Int) = (j : Int) := by rw [hj]; exact (Int.ofNat_tmod kb k).symm
          have t3 : (ka : Int) % (k : Int) = (i : Int) := by rw [hi]; omega
          have t4 : (kb : Int) % (k : Int) = (j : Int) := by rw [hj]; omega
          clear hi hj
          iterate 14 (refine wpG_quiet (by rfl) (by rfl) (by rfl) (fun K hK => ?_); go_big_quiet_op; refine hK _ ?_; clear hK K)
          refine wpG_nil fun W hl _ => ?_
          have HB3 := Lib.hid (HB2.out.trans (hl.mono HB2.out.size))
          have HR3 := Lib.hid (row_later HR1.out hl)
          have HMEM : Hid (∀ p ∈ cutU a b r k, p.2.2.2.2.length ≤ 52) := Lib.hid (cutU_small a b r k)
          have hxl : (rws pcel (cutU a b r k)).length = k * 5 := by rw [rws_len _ (pc_len _), HCN.out]
          obtain ⟨ad1, hr1, hsee1⟩ := rowcut_h 42 25 i1 5 Try.underlying42 HI1.out.1 HI1.out.2.2.1 ⟨gl, 0, none⟩ k i cl (i : Int) .i64 (by omega) rfl hmc
          obtain ⟨mm, hmm⟩ : ∃ mm, mm = k - (i + 1) := ⟨_, rfl⟩
          obtain ⟨ad2, hr2, hsee2⟩ := rowcut_l 42 25 i1 5 Try.underlying42 HI1.out.1 HI1.out.2.2.1 ⟨gl, 0, none⟩ k mm (i + 1) cl ((i : Int) + 1) .i64 (by omega) (by omega) hmc
          have HS1 := Lib.hid (fun (w2 : World) (hl : Below W.heap.size W w2) => (show Sees w2 w2.heap.size (some ad1) (rws pcel ((cutU a b r k).take i)) by
            rw [← rws_take _ _ (pc_len _)]
            have h := HB3.out.trans (hl.mono HB3.out.size)
            exact hsee1 w2 _ _ ((HSL.out.below h).more h.size)))
          have HS2 := Lib.hid (fun (w2 : World) (hl : Below W.heap.size W w2) => (show Sees w2 w2.heap.size (some ad2) (rws pcel ((cutU a b r k).drop (i + 1))) by
            rw [← rws_drop _ _ (pc_len _)]
            have h := HB3.out.trans (hl.mono HB3.out.size)
            exact hsee2 w2 _ _ hxl ((HSL.out.below h).more h.size)))
          have HL1 : Hid ((rws pcel ((cutU a b r k).take i)).length = i * 5) := Lib.hid (by rw [rws_len _ (pc_len _), List.length_take, HCN.out]; congr 1; omega)
          have HL2 : Hid ((rws pcel ((cutU a b r k).drop (i + 1))).length = mm * 5) := Lib.hid (by rw [rws_len _ (pc_len _), List.length_drop, HCN.out, hmm])
          have HLS : Hid ((joi ((cutU a b r k).take i ++ (cutU a b r k).drop (i + 1))).2 = false) := Lib.hid (joi_less HMM.out.1 hik)
          have HLL : Hid (((cutU a b r k).take i ++ (cutU a b r k).drop (i + 1)).length = i + mm ∧ (bod ((cutU a b r k).take i ++ (cutU a b r k).drop (i + 1))).length ≤ 65536) := Lib.hid (by
            have e : ((cutU a b r k).take i ++ (cutU a b r k).drop (i + 1)).length = i + mm := by
              rw [List.length_append, List.length_take, List.length_drop, HCN.out, hmm]; omega
            refine ⟨e, ?_⟩
            have := bod_len2 ((cutU a b r k).take i ++ (cutU a b r k).drop (i + 1)) 52 (fun p hp => by
              rcases List.mem_append.1 hp with h | h
              · exact HMEM.out p (List.mem_of_mem_take h)
              · exact HMEM.out p (List.mem_of_mem_drop h))
            rw [e] at this
            omega)
          have HR1c := Lib.hid hr1
          have HR2c := Lib.hid hr2
          have HMI : Hid (i + mm + 1 = k) := Lib.hid (by omega)
          have hmm601 : i + mm ≤ 601 := by omega
          obtain ⟨l1, hl1⟩ : ∃ l1, l1 = (cutU a b r k).take i := ⟨_, rfl⟩
          obtain ⟨l2, hl2⟩ : ∃ l2, l2 = (cutU a b r k).drop (i + 1) := ⟨_, rfl⟩
          rw [← hl1] at HS1 HL1 HLS HLL
          rw [← hl2] at HS2 HL2 HLS HLL
          have hpu := cutU_at a b r hik
          have hpv := cutU_at a b r hjk
          have hil : i < (cutU a b r k).length := by rw [HCN.out]; exact hik
          have hjl : j < (cutU a b r k).length := by rw [HCN.out]; exact hjk
          rw [List.getElem?_eq_getElem hil] at hpu
          rw [List.getElem?_eq_getElem hjl] at hpv
          replace hpu := Option.some.inj hpu
          replace hpv := Option.some.inj hpv
          have HUV : Hid ((∀ h : i < (cutU a b r k).length, (cutU a b r k)[i] = pcAt a b r i) ∧ ∀ h : j < (cutU a b r k).length, (cutU a b r k)[j] = pcAt a b r j) := Lib.hid ⟨fun _ => hpu, fun _ => hpv⟩
          obtain ⟨L8, hL8⟩ : ∃ L8, L8 = ((cutU a b r k).set i (pcAt a b r j)).set j (pcAt a b r i) := ⟨_, rfl⟩
          have HJ8 : Hid ((joi L8).2 = decide (i = j)) := Lib.hid (by
            rw [hL8]
            by_cases e : i = j
            · subst e
              rw [decide_eq_true rfl]
              rw [show ((cutU a b r k).set i (pcAt a b r i)).set i (pcAt a b r i) = cutU a b r k from by
                rw [← hpu, List.set_getElem_self, List.set_getElem_self], HJO.out]
            · rw [decide_eq_false e]
              exact joi_swap HMM.out.1 hik hjk e rfl rfl)
          have H8 : Hid (L8.length = k ∧ (bod L8).length ≤ 65536) := Lib.hid (by
            have e : L8.length = k := by rw [hL8, List.length_set, List.length_set, HCN.out]
            refine ⟨e, ?_⟩
            have := bod_len2 L8 52 (fun p hp => by
              rw [hL8] at hp
              rcases List.mem_or_eq_of_mem_set hp with h | h
              · rcases List.mem_or_eq_of_mem_set h with h | h
                · exact HMEM.out p h
                · rw [h, ← hpv]; exact HMEM.out _ (List.getElem_mem hjl)
              · rw [h, ← hpu]; exact HMEM.out _ (List.getElem_mem hil))
            rw [e] at this
            omega)
          have HL8 := Lib.hid hL8
          clear hsee1 hsee2 hr1 hr2 hl1 hl2 hmm hxl hpu hpv hil hjl hL8 t1 t2 t3 t4 hl k0 k1 HKB2 HKB1 HB2 HR1 HBR HR HJO hq
          go_wp2_with fail
          refine wp_region_tail [(106, relRow0 W.heap.size 25 5), (110, relRowN W.heap.size 25 5 i (rws pcel l1))] 153 9 (by kernel_rfl) (by kernel_rfl) (by kernel_rfl) (by rfl) ?_
          simp only [List.take_succ_cons, List.take_zero, List.drop_succ_cons, List.drop_zero]
          refine wpG_open (relRow0 W.heap.size 25 5) (by rfl) (by rfl) (fun wx hl => row0_gives 42 25 5 W.heap.size rfl run_p0 wx hl.1.size) ?_
          rintro _ ⟨_, _, _, ⟨_, bn, rfl, _⟩⟩
          simp only [Act.put, List.setIfInBounds_toArray, List.set_cons_zero, List.set_cons_succ]
          iterate 2 (refine wpG_quiet (by rfl) (by rfl) (by rfl) (fun K hK => ?_); go_big_quiet_op; refine hK _ ?_; clear hK K)
          refine wpG_run (by rfl) (by rfl) (.slice (some ad1) i cl) (fun wx hl => exec_slice_h 42 (.tmp 107) (.tmp 108) rfl 25 Try.underlying42 _ _ _ rfl rfl HR1c.out) ?_
          simp only [Act.put, List.setIfInBounds_toArray, List.set_cons_zero, List.set_cons_succ]
          refine wpG_open (relRowN W.heap.size 25 5 i (rws pcel l1)) (by rfl) (by rfl) (fun wx hl => ?_) ?_
          · have h10 := hl.2 106 _ (by simp [Op.operands, Call.operands]) rfl (by intro h; cases h)
            exact app_gives (.tmp 106) (.tmp 109) W.heap.size 42 25 i1 _ 5 40 rfl Try.underlying42 HI1.out.1 HI1.out.2.1 HI1.out.2.2.1 HI1.out.2.2.2 rfl (by omega) wx h10 ad1 i cl (rws pcel l1) rfl HL1.out (HS1.out wx hl.1) (pc_ones l1) (by unfold maxLen; omega) (by omega)
          rintro u ⟨_, _, _, hrow⟩
          obtain ⟨A1, cq, rfl⟩ := row_form hrow
          clear hrow
          simp only [Act.put, List.setIfInBounds_toArray, List.set_cons_zero, List.set_cons_succ]
          iterate 3 (refine wpG_quiet (by rfl) (by rfl) (by rfl) (fun K hK => ?_); go_big_quiet_op; refine hK _ ?_; clear hK K)
          refine wpG_run (by rfl) (by rfl) (.slice (some ad2) mm (cl - (i + 1))) (fun wx hl => exec_slice_l 42 (.tmp 111) (.tmp 113) rfl 25 Try.underlying42 _ _ _ rfl rfl HR2c.out) ?_
          simp only [Act.put, List.setIfInBounds_toArray, List.set_cons_zero, List.set_cons_succ]
          refine wpG_nil fun wx hl hS => ?_
          obtain ⟨⟨_, _⟩, hrow⟩ := hS
          have HROW := Lib.hid hrow
          have hsz1 : W.heap.size ≤ wx.heap.size := hl.size
          have HSE := Lib.hid (HS2.out wx hl)
          have HLE := Lib.hid hl
          refine wpList_appk _ rfl (.tmp 110) (.tmp 114) 42 rfl W.heap.size 25 i1 _ 5 40 Try.underlying42 HI1.out.1 HI1.out.2.1 HI1.out.2.2.1 HI1.out.2.2.2 rfl (by omega) (.slice A1 i cq) i (rws pcel l1) (by rfl) HROW.out wx.heap.size (some ad2) (cl - (i + 1)) (rws pcel l2) mm (by rfl) HL2.out HSE.out (pc_ones _) (by unfold maxLen; omega) (by omega) hsz1 ?_
          intro A3 c3 w3 hr3 hb3 hg3 hat3
          rw [← rws_append] at hr3
          have HRL := Lib.hid hr3
          have HLE2 : Hid (Below W.heap.size W w3) := Lib.hid (Below.trans HLE.out hb3)
          have HB4 := Lib.hid (HB3.out.trans (HLE2.out.mono HB3.out.size))
          have HR4 := Lib.hid (row_later HR3.out HLE2.out)
          clear hr3 hb3 hg3 hat3 HROW hsz1 HSE HLE HR3 HB3 HS1 HS2 HL1 HL2 HR1c HR2c HLE2
          go_wp2_with fail
          refine (join_any A3 (i + mm) c3 (l1 ++ l2) w3 HLL.out.1 (by omega) (row_sees HRL.out) HLL.out.2).mono ?_
          rw [HLS.out]
          obtain ⟨sJ, hsJ⟩ : ∃ sJ, sJ = str (joi (l1 ++ l2)).1 := ⟨_, rfl⟩
          rw [← hsJ]
          clear hsJ
          rintro e w5 ⟨rfl, hj5⟩
          have HB5 := Lib.hid (HB4.out.trans (hj5.mono HB4.out.size))
          have HR5 := row_later HR4.out hj5
          clear hj5 HR4 HB4 HRL HLL HLS
          have hil : i < (cutU a b r k).length := by rw [HCN.out]; exact hik
          have hjl : j < (cutU a b r k).length := by rw [HCN.out]; exact hjk
          obtain ⟨bi, oi, e1, hbi, hri⟩ := sees_rw (pc_len _) (row_sees HR5) (by decide : 0 < 5) i hil
          cases e1
          rw [HUV.out.1 hil, Nat.zero_add] at hri
          obtain ⟨W6, hW6⟩ : ∃ W6, W6 = (w5.alloc (.cells [Value.int .i64 0, .int .i64 0, .bool false, .bool false, .string { data := #[] }].toArray 25)).setCells w5.heap.size 0 (pcel (pcAt a b r i)) := ⟨_, rfl⟩
          obtain ⟨TH6, F6, G6, z6⟩ := new_put w1.heap.size w5 (pcel (pcAt a b r i)) [.int .i64 0, .int .i64 0, .bool false, .bool false, .string { data := #[] }] 25 rfl HB5.out.size
          rw [← hW6] at F6 G6 z6
          have HB6 := HB5.out.trans (G6.mono HB5.out.size)
          have HR6 := row_later HR5 G6
          obtain ⟨bj, oj, e1, hbj, hrj⟩ := sees_rw (pc_len _) (row_sees HR6) (by decide : 0 < 5) j hjl
          cases e1
          rw [HUV.out.2 hjl, Nat.zero_add] at hrj
          obtain ⟨W7, hW7⟩ : ∃ W7, W7 = W6.setCells g (i * 5) (pcel (pcAt a b r j)) := ⟨_, rfl⟩
          obtain ⟨HR7, TH7, _⟩ := row_sets (pc_len _) HR6 HCN.out i hik (pcAt a b r j) rfl
          rw [← hW7] at HR7
          have F7 : Blk W7 w5.heap.size (pcel (pcAt a b r i)) := by rw [hW7]; exact Blk.setsOther (b := g) (by omega) _ _ F6
          have HB7 : Below w1.heap.size w1 W7 := by rw [hW7]; exact below_sets HGB.out _ _ HB6
          obtain ⟨W8, hW8⟩ : ∃ W8, W8 = W7.setCells g (j * 5) (pcel (pcAt a b r i)) := ⟨_, rfl⟩
          obtain ⟨HR8, TH8, _⟩ := row_sets (pc_len _) HR7 (by rw [List.length_set, HCN.out]) j hjk (pcAt a b r i) rfl
          rw [← hW8, ← HL8.out] at HR8
          have HB8 : Below w1.heap.size w1 W8 := by rw [hW8]; exact below_sets HGB.out _ _ HB7
          have R7 := F7.range 0 (pcel (pcAt a b r i)) (by rw [List.drop_zero, List.take_length])
          have O1 := all_oneCell_toArray (pcel_one (pcAt a b r i))
          have O2 := all_oneCell_toArray (pcel_one (pcAt a b r j))
          obtain ⟨uc, huc⟩ : ∃ uc, uc = pcel (pcAt a b r i) := ⟨_, rfl⟩
          obtain ⟨vc, hvc⟩ : ∃ vc, vc = pcel (pcAt a b r j) := ⟨_, rfl⟩
          rw [← huc] at hri hW6 TH6 hW8 R7 O1
          rw [← hvc] at hrj hW7 O2
          have HU5 : Hid (uc.length = 5) := Lib.hid (by rw [huc]; rfl)
          have HV5 : Hid (vc.length = 5) := Lib.hid (by rw [hvc]; rfl)
          have IU : (Try.prog.info? 25).map (·.size) = some uc.toArray.size := by rw [(List.size_toArray).trans HU5.out]; exact info_pie
          have IV : (Try.prog.info? 25).map (·.size) = some vc.toArray.size := by rw [(List.size_toArray).trans HV5.out]; exact info_pie
          have TH7 : W6.there g (i * 5) vc.toArray.size := by rw [(List.size_toArray).trans HV5.out]; exact TH7
          have TH8 : W7.there g (j * 5) uc.toArray.size := by rw [(List.size_toArray).trans HU5.out]; exact TH8
          have HW6 := Lib.hid hW6
          have HW7 := Lib.hid hW7
          have HW8 := Lib.hid hW8
          have HR8 := Lib.hid HR8
          have HB8 := Lib.hid HB8
          obtain ⟨D, hD⟩ : ∃ D, D = decide (i = j) := ⟨_, rfl⟩
          rw [← hD] at HJ8
          have hDD : ((i : Int) == (j : Int)) = D := by rw [hD, Bool.eq_iff_iff]; simp; omega
          clear huc hvc hW6 hW7 hW8 F6 G6 z6 HB6 HR6 HR7 F7 HB7 HR5 hbi hbj hil hjl hD
          go_wp2_with (first
            | (refine wpList_load_mid rfl 25 (.tmp 123) rfl g (i * 5) rfl uc _ hri hu1 rfl (by rw [HU5.out]; exact info_pie) ?_)
            | (refine wpList_store_mid rfl 25 (.tmp 19) (.tmp 124) rfl w5.heap.size 0 uc.toArray rfl rfl TH6 IU O1 ?_
               simp only [Act.put]
               generalize hw6 : World.setCells _ w5.heap.size 0 uc.toArray.toList = w6
               have e6 : w6 = W6 := hw6.symm.trans HW6.out.symm
               subst e6
               clear hw6 TH6 hri)
            | (refine wpList_load_mid rfl 25 (.tmp 129) rfl g (j * 5) rfl vc _ hrj hu1 rfl (by rw [HV5.out]; exact info_pie) ?_)
            | (refine wpList_store_mid rfl 25 (.tmp 131) (.tmp 130) rfl g (i * 5) vc.toArray rfl rfl TH7 IV O2 ?_
               simp only [Act.put]
               generalize hw7 : World.setCells _ g (i * 5) vc.toArray.toList = w7
               have e7 : w7 = W7 := hw7.symm.trans HW7.out.symm
               subst e7
               clear hw7 TH7 hrj)
            | (refine wpList_load_mid rfl 25 (.tmp 19) rfl w5.heap.size 0 rfl uc _ R7 hu1 rfl (by rw [HU5.out]; exact info_pie) ?_)
            | (refine wpList_store_mid rfl 25 (.tmp 135) (.tmp 134) rfl g (j * 5) uc.toArray rfl rfl TH8 IU O1 ?_
               simp only [Act.put]
               generalize hw8 : World.setCells _ g (j * 5) uc.toArray.toList = w8
               have e8 : w8 = W8 := hw8.symm.trans HW8.out.symm
               subst e8
               clear hw8 TH8 R7)
            | fail)
          refine (join_any (some ⟨g, 0, none⟩) k c1 L8 _ H8.out.1 (by omega) (row_sees HR8.out) H8.out.2).mono ?_
          rw [HJ8.out]
          obtain ⟨sK, hsK⟩ : ∃ sK, sK = str (joi L8).1 := ⟨_, rfl⟩
          rw [← hsK]
          clear hsK
          rintro e w9 ⟨rfl, hj9⟩
          have HB9 := Lib.hid (HB8.out.trans (hj9.mono HB8.out.size))
          clear hj9 HB8 HR8
          cases D with
          | true =>
            go_wp2_with fail
            refine (awake_any _).mono ?_
            rintro e w10 ⟨rfl, rfl⟩
            go_wp2_with fail
            go_ret
            exact ⟨rfl, HB1.out.trans (HB9.out.mono HB1.out.size)⟩
          | false =>
            go_wp2_with fail
            refine (awake_any _).mono ?_
            rintro e w10 ⟨rfl, rfl⟩
            go_wp2_with fail
            go_ret
            exact ⟨rfl, HB1.out.trans (HB9.out.mono HB1.out.size)⟩
  · have d6 : decide ((600 : Int) < (n : Int)) = true := decide_eq_true (by omega)
    go_enter Try.func5, Try.ntmps5
    go_wp2_with fail
    rw [← HW0.out]
    refine (awake_any _).mono ?_
    rintro e w9 ⟨rfl, rfl⟩
    go_wp2_with fail
    go_ret
    exact ⟨rfl, HB0.out⟩
end Go.Proofs.Ytgoebblcggdlgaa
