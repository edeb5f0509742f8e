/- Filters: the chapter's examples; the walk of PredChecks. -/
import Derived.Test.YtgpbglmlakildaaPrdI
namespace Go.Proofs.Ytgpbglmlakildaa
set_option linter.unusedVariables false
set_option linter.unusedSimpArgs false
open Go Go.RowKit

theorem range_later {w w' : World} {B b o : Nat} {cs : List Value} (h : w.rangeAt b o cs) (hl : Below B w w') (hb : b < B) : w'.rangeAt b o cs := fun j v hj => (hl.cell (p := ⟨b, o + j, none⟩) hb).trans (h j v hj)

def exA : List Nd := [(10, 0, zv), (3, 3, zv)]
def exB : List Nd := [(11, 0, zv), (1, 0, zv)]
theorem exA_ok : lchk exA = 0 ∧ dep exA = 2 := by decide +kernel
theorem exB_ok : lchk exB = 1 := by decide +kernel

set_option maxRecDepth 100000 in
set_option maxHeartbeats 3200000 in
theorem paw_any (w : World) : Calls Try.prog 13 #[] w fun e w' => e = .returned (.bool true) ∧ Below w.heap.size w w' := by
  have S1 := sees_lit w #[.int .i64 10, .int .i64 0, .int .i64 0, .int .i64 0, .string ⟨#[]⟩, .int .i64 3, .int .i64 3, .int .i64 0, .int .i64 0, .string ⟨#[]⟩] 29 (0, 0) (ncs exA) rfl
  have b1 := (Below.refl w.heap.size w).alloc (Nat.le_refl _) (.cells #[.int .i64 10, .int .i64 0, .int .i64 0, .int .i64 0, .string ⟨#[]⟩, .int .i64 3, .int .i64 3, .int .i64 0, .int .i64 0, .string ⟨#[]⟩] 29)
  have HA := Lib.hid (fun wx (h : Sees wx wx.heap.size (some ⟨w.heap.size, 0, none⟩) (ncs exA)) => lcheck_any (some ⟨w.heap.size, 0, none⟩) 2 2 exA wx rfl h)
  have HD := Lib.hid (fun wx (h : Sees wx wx.heap.size (some ⟨w.heap.size, 0, none⟩) (ncs exA)) => depth_any (some ⟨w.heap.size, 0, none⟩) 2 2 exA wx rfl h (by omega))
  have HB := Lib.hid (fun (w2 : World) => lcheck_any (some ⟨w2.heap.size, 0, none⟩) 2 2 exB (w2.alloc (.cells #[.int .i64 11, .int .i64 0, .int .i64 0, .int .i64 0, .string ⟨#[]⟩, .int .i64 1, .int .i64 0, .int .i64 0, .int .i64 0, .string ⟨#[]⟩] 29)) rfl ((sees_lit w2 #[.int .i64 11, .int .i64 0, .int .i64 0, .int .i64 0, .string ⟨#[]⟩, .int .i64 1, .int .i64 0, .int .i64 0, .int .i64 0, .string ⟨#[]⟩] 29 (0, 0) (ncs exB) rfl).more (by simp)))
  rw [exA_ok.1] at HA
  rw [exA_ok.2] at HD
  rw [exB_ok] at HB
  have HS := Lib.hid S1
  clear S1
  go_enter Try.func13, Try.ntmps13
  go_wp2_with fail
  have s1 := HS.out
  refine (HA.out _ (s1.more (by simp))).mono ?_
  rintro e w1 ⟨rfl, hb1⟩
  have b2 := b1.trans (hb1.mono b1.size)
  have s2 := Lib.hid ((s1.more (by simp)).below hb1)
  have hz1 : w.heap.size + 1 ≤ w1.heap.size := by have := hb1.size; simp at this; omega
  have s3 := Lib.hid ((s1.below (hb1.mono (by simp))).more hz1)
  clear s1 s2 hb1 HA
  go_wp2_with fail
  refine (HD.out _ s3.out).mono ?_
  rintro e w2 ⟨rfl, hb2⟩
  have b3 := b2.trans (hb2.mono b2.size)
  clear hb2 HD s3
  go_wp2_with fail
  refine (HB.out _).mono ?_
  rintro e w3 ⟨rfl, hb3⟩
  have b4 := (b3.alloc b3.size (.cells #[.int .i64 11, .int .i64 0, .int .i64 0, .int .i64 0, .string ⟨#[]⟩, .int .i64 1, .int .i64 0, .int .i64 0, .int .i64 0, .string ⟨#[]⟩] 29)).trans (hb3.mono (by have := b3.size; simp; omega))
  go_wp2_with fail
  go_ret
  exact ⟨rfl, b4⟩

set_option maxRecDepth 100000 in
set_option maxHeartbeats 6400000 in
theorem walk_checks (A : Option Addr) (n c : Nat) (l : List Nd) (at_ : Int) (w : World) (hn : l.length = n) (hs : Sees w w.heap.size A (ncs l)) (hc : n ≤ c) :
    Calls Try.prog 3 #[.slice A n c, .int .i64 at_] w fun e w' => e = .returned (.bool true) ∧ Below w.heap.size w w' := by
  have HAW := Lib.hid (fun wx : World => paw_any wx)
  have HLA := Lib.hid (nlarge_any A n c l w w.heap.size hn hs)
  cases hbig : lbig l with
  | true =>
    rw [hbig] at HLA
    clear hbig hs hn
    go_enter Try.func3, Try.ntmps3
    go_wp2_with fail
    refine HLA.out.mono ?_
    rintro e w1 ⟨rfl, rfl⟩
    go_wp2_with fail
    refine (HAW.out _).mono ?_
    rintro e w1 ⟨rfl, hb1⟩
    go_wp2_with fail
    go_ret
    exact ⟨rfl, hb1⟩
  | false =>
    rw [hbig] at HLA
    have hn100 : n ≤ 100 := by
      unfold lbig at hbig
      rw [Bool.or_eq_false_iff] at hbig
      have := of_decide_eq_false hbig.1
      omega
    have hu := Try.underlying29
    have HN := Lib.hid hn
    have HE := Lib.hid (fun wx (h : Below w.heap.size w wx) => end_any A n c l at_ wx w.heap.size hn (hs.below h) (by omega))
    have HE' := Lib.hid (fun wx (h : Below w.heap.size w wx) => rend_any A n c l at_ wx w.heap.size hn (hs.below h) (by omega))
    have HC := Lib.hid (fun wx (h : Below w.heap.size w wx) => lcheck_any A n c l wx hn ((hs.below h).more h.size))
    have HC' := Lib.hid (fun wx (h : Below w.heap.size w wx) => rlcheck_any A n c l wx hn ((hs.below h).more h.size) hc)
    have HD := Lib.hid (fun wx (h : Below w.heap.size w wx) => depth_any A n c l wx hn ((hs.below h).more h.size) (by omega))
    have HD' := Lib.hid (fun wx (h : Below w.heap.size w wx) => rdepth_any A n c l wx hn ((hs.below h).more h.size) hc (by omega))
    generalize endAt l at_ = zE at HE HE'
    generalize lchk l = zC at HC HC'
    generalize dep l = zD at HD HD'
    clear hbig hn
    go_enter Try.func3, Try.ntmps3
    go_wp2_with fail
    refine HLA.out.mono ?_
    rintro e w1 ⟨rfl, rfl⟩
    go_wp2_with fail
    go_loopw [5] (fun i wr => ∃ k : Nat, k ≤ n ∧ i = .int .i64 k ∧ Below w.heap.size w wr) (fun i _ => n - (intOf i).toNat)
    case atStart => exact ⟨0, by omega, rfl, Below.refl _ _⟩
    case round =>
      obtain ⟨k, hk, rfl, hbr⟩ := hrel
      by_cases hlt : k < n
      · have hkl : k < l.length := by rw [HN.out]; exact hlt
        have d1 : decide ((k : Int) < (n : Int)) = true := by simp; omega
        obtain ⟨b, o, rfl, hb, hcc, hc2, hrg⟩ := sees_node ((hs.below hbr).more hbr.size) k hkl
        clear hc2
        have hcl : ∀ kk : LW wr, kk.val.cell? ⟨b, o + k * 5, none⟩ = some (.int .i64 l[k].1) := fun kk => (kk.le.cell (p := ⟨b, o + k * 5, none⟩) hb).trans hcc
        have HRG := Lib.hid (fun (w1 : World) (hl : Le wr w1) => range_later hrg hl hb)
        have HNN := Lib.hid (fun wx : World => node_any l[k] wx)
        have HNR := Lib.hid (fun wx : World => rnode_any l[k] wx)
        have HP := Lib.hid (fun wx : World => (parts_any l[k].1 wx).mono fun e w' h => (show e = .returned (.int .i64 (par l[k].1)) ∧ Below wx.heap.size wx w' from ⟨h.1, h.2 ▸ Below.refl _ _⟩))
        have HP' := Lib.hid (fun wx : World => (rparts_any l[k].1 wx).mono fun e w' h => (show e = .returned (.int .i64 (par l[k].1)) ∧ Below wx.heap.size wx w' from ⟨h.1, h.2 ▸ Below.refl _ _⟩))
        obtain ⟨nc, hnc⟩ : ∃ nc, nc = ncells l[k] := ⟨_, rfl⟩
        have HSZ := Lib.hid (show nc.length = 5 by rw [hnc]; rfl)
        rw [← hnc] at HRG HNN HNR
        obtain ⟨op, hop⟩ : ∃ op, op = l[k].1 := ⟨_, rfl⟩
        rw [← hop] at hcl HP HP'
        obtain ⟨R1, hR1⟩ : ∃ b, b = nok l[k] := ⟨_, rfl⟩
        rw [← hR1] at HNN HNR
        obtain ⟨p, hp⟩ : ∃ p, p = par op := ⟨_, rfl⟩
        rw [← hp] at HP HP'
        have r1 : (R1 != R1) = false := by simp
        have r2 : ((p : Int) != (p : Int)) = false := by simp
        clear hnc hR1 hop hp hcc hrg
        go_wp2_with fail
        refine wp_region_steady [] 65 (by kernel_rfl) (by kernel_rfl) (by kernel_rfl) (by rfl) ?_
        iterate 3 (refine wpG_quiet (by rfl) (by rfl) (by rfl) (fun K hK => ?_); go_big_quiet_op; refine hK _ ?_; clear hK K)
        refine wpG_run (by rfl) (by rfl) (.agg nc.toArray) (fun w1 hl => exec_load 29 (.tmp 17) rfl b (o + k * 5) rfl nc _ (HRG.out w1 hl.1) hu rfl (by rw [HSZ.out]; exact info_node)) ?_
        simp only [Act.put, List.setIfInBounds_toArray, List.set_cons_zero, List.set_cons_succ]
        refine wpG_call (by rfl) (by rfl) 14 #[.agg nc.toArray] (.bool R1) (by intro _; simp [go_sem]) (by kernel_rfl) (fun w1 hl => HNN.out w1) ?_
        simp only [Act.put, List.setIfInBounds_toArray, List.set_cons_zero, List.set_cons_succ]
        iterate 3 (refine wpG_quiet (by rfl) (by rfl) (by rfl) (fun K hK => ?_); go_big_quiet_op; refine hK _ ?_; clear hK K)
        refine wpG_run (by rfl) (by rfl) (.agg nc.toArray) (fun w1 hl => exec_load 29 (.tmp 22) rfl b (o + k * 5) rfl nc _ (HRG.out w1 hl.1) hu rfl (by rw [HSZ.out]; exact info_node)) ?_
        simp only [Act.put, List.setIfInBounds_toArray, List.set_cons_zero, List.set_cons_succ]
        refine wpG_call (by rfl) (by rfl) 15 #[.agg nc.toArray] (.bool R1) (by intro _; simp [go_sem]) (by kernel_rfl) (fun w1 hl => HNR.out w1) ?_
        simp only [Act.put, List.setIfInBounds_toArray, List.set_cons_zero, List.set_cons_succ]
        iterate 7 (refine wpG_quiet (by rfl) (by rfl) (by rfl) (fun K hK => ?_); go_big_quiet_op; refine hK _ ?_; clear hK K)
        refine wpG_call (by rfl) (by rfl) 16 #[.int .i64 op] (.int .i64 p) (by intro _; simp [go_sem]) (by kernel_rfl) (fun w1 hl => HP.out w1) ?_
        simp only [Act.put, List.setIfInBounds_toArray, List.set_cons_zero, List.set_cons_succ]
        iterate 5 (refine wpG_quiet (by rfl) (by rfl) (by rfl) (fun K hK => ?_); go_big_quiet_op; refine hK _ ?_; clear hK K)
        refine wpG_call (by rfl) (by rfl) 17 #[.int .i64 op] (.int .i64 p) (by intro _; simp [go_sem]) (by kernel_rfl) (fun w1 hl => HP'.out w1) ?_
        simp only [Act.put, List.setIfInBounds_toArray, List.set_cons_zero, List.set_cons_succ]
        iterate 2 (refine wpG_quiet (by rfl) (by rfl) (by rfl) (fun K hK => ?_); go_big_quiet_op; refine hK _ ?_; clear hK K)
        refine wpG_nil fun w1 hl _ => ?_
        have hb1 := hbr.trans (hl.mono hbr.size)
        clear hcl hbr
        go_wp2_with fail
        go_roundw
        case rel => exact ⟨k + 1, by omega, by go_num, hb1⟩
        case measure => simp [intOf]; omega
      · obtain rfl : k = n := by omega
        have r1 : (zE == zE) = true := by simp
        have r2 : (zC == zC) = true := by simp
        have r3 : ((zD : Int) == (zD : Int)) = true := by simp
        go_wp2_with fail
        refine (HE.out _ hbr).mono ?_
        rintro e w1 ⟨rfl, rfl⟩
        go_wp2_with fail
        refine (HE'.out _ hbr).mono ?_
        rintro e w1 ⟨rfl, rfl⟩
        go_wp2_with fail
        refine (HC.out _ hbr).mono ?_
        rintro e w1 ⟨rfl, hb1⟩
        have hb1 := hbr.trans (hb1.mono hbr.size)
        go_wp2_with fail
        refine (HC'.out _ hb1).mono ?_
        rintro e w2 ⟨rfl, hb2⟩
        have hb2 := hb1.trans (hb2.mono hb1.size)
        go_wp2_with fail
        refine (HD.out _ hb2).mono ?_
        rintro e w3 ⟨rfl, hb3⟩
        have hb3 := hb2.trans (hb3.mono hb2.size)
        go_wp2_with fail
        refine (HD'.out _ hb3).mono ?_
        rintro e w4 ⟨rfl, hb4⟩
        have hb4 := hb3.trans (hb4.mono hb3.size)
        go_wp2_with fail
        refine (HAW.out _).mono ?_
        rintro e w5 ⟨rfl, hb5⟩
        have hb5 := hb4.trans (hb5.mono hb4.size)
        go_wp2_with fail
        go_ret
        exact ⟨rfl, hb5⟩
end Go.Proofs.Ytgpbglmlakildaa
