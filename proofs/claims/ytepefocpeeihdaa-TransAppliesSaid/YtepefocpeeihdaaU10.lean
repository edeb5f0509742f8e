/- Which turns go on: the program's Check. -/
import Derived.Test.YtepefocpeeihdaaU5
import Derived.Test.YtepefocpeeihdaaU3
import Derived.Test.YtepefocpeeihdaaU9
import Derived.Test.YtepefocpeeihdaaU4
namespace Go.Proofs.Ytepefocpeeihdaa
set_option linter.unusedVariables false
set_option linter.unusedSimpArgs false
open Go Go.RowKit BitM

def iv64 (x : Int) : Value := .int .i64 x
set_option maxRecDepth 100000 in
set_option maxHeartbeats 6400000 in
theorem goes_any (A : Option Addr) (n c : Nat) (l : List Tn) (w : World) (h : SeesR tcl w A n c l) (hok : ∀ t ∈ l, okCd t.cd) (hz : n ≤ 65536) :
    Calls Try.prog 11 #[.slice A n c] w fun e w' => e = .returned (.bool (goes l)) ∧ Below w.heap.size w w' := by
  have hu := Try.underlying32
  have hkk := Try.underlying3
  have hmt := Try.underlying50
  have HS := Lib.hid h
  have HN := Lib.hid h.len
  obtain ⟨R, hR⟩ : ∃ R, R = goes l := ⟨_, rfl⟩
  rw [← hR]
  have HF0 := Lib.hid (fun k (hk : k < l.length) (e : tmay l[k] = false) => show R = false by rw [hR]; exact no_may hk e)
  have HF1 := Lib.hid (fun m (hk : m + 1 < l.length) (e : l[m + 1].sq ≤ l[m].sq) => show R = false by rw [hR]; exact no_seq hk e)
  have HF2 := Lib.hid (fun k (hk : k < l.length) u (e : lastT (l.take k) l[k].id = some u) (e2 : u.nw ≠ l[k].old) => show R = false by rw [hR]; exact no_old hk e e2)
  have HALL := Lib.hid (fun (e : goTo l l.length = true) => show R = true by rw [hR]; exact e)
  have HTU := Lib.hid (fun k (hk : k < l.length) wx => tmay_any l[k] wx (hok _ (List.getElem_mem hk)))
  have HTLN := Lib.hid (fun k (hk : k < l.length) => tcl_len (hok _ (List.getElem_mem hk)))
  have HLOOK : Hid (∀ W gm N k x, MapI Try.prog 3 W gm N (vmap iv64 (lmap (l.take k))) → (Lit.int .i64 x).wf = true → (Instr.lookup 50 (.map (some gm)) (.int .i64 x) true).run Try.prog W = .ok (.tuple #[((lastT (l.take k) x).map fun u => iv64 u.nw).getD (.int .i64 0), .bool (lastT (l.take k) x).isSome]) W) := Lib.hid (fun W gm N k x hI hx => by
    have := hI.look2 hkk hmt (z := .int .i64 0) (by kernel_rfl) hx
    rw [vmap_get, lmap_get] at this
    rw [this]
    cases lastT (l.take k) x <;> rfl)
  have HPUT : Hid (∀ k (hk : k < l.length), mput (vmap iv64 (lmap (l.take k))) l[k].id (.int .i64 l[k].nw) = vmap iv64 (lmap (l.take (k + 1)))) := Lib.hid (fun k hk => by
    rw [lmap_take hk]
    exact vmap_put iv64 _ _ _)
  have HWF : Hid (∀ k (hk : k < l.length), tmay l[k] = true → (Lit.int .i64 l[k].id).wf = true) := Lib.hid (fun k hk e => wf_small (by
    unfold tmay at e
    rw [Bool.and_eq_true] at e
    have := of_decide_eq_true e.1
    omega))
  have HCE : Hid (∀ k, k < l.length → ∃ b o, A = some ⟨b, o, none⟩ ∧ ∀ W, Below w.heap.size w W → ∀ k (hk : k < l.length), W.cell? ⟨b, o + k * 31, none⟩ = some (.int .i64 l[k].sq) ∧ W.cell? ⟨b, o + k * 31 + 1, none⟩ = some (.int .i64 l[k].id) ∧
      W.cell? ⟨b, o + k * 31 + 2, none⟩ = some (.int .i64 l[k].old) ∧ W.cell? ⟨b, o + k * 31 + 3, none⟩ = some (.int .i64 l[k].nw) ∧ W.rangeAt b (o + k * 31) (tcl l[k])) := Lib.hid (fun k hk => by
    obtain ⟨b, o, e, _, hc⟩ := turn_cells h hok (by omega)
    exact ⟨b, o, e, fun W hW k hk => ⟨(hc W hW k hk).1, (hc W hW k hk).2.1, (hc W hW k hk).2.2.1, (hc W hW k hk).2.2.2.1, (hc W hW k hk).2.2.2.2.1⟩⟩)
  obtain ⟨Z, hZ⟩ : ∃ Z, Z = tcl ⟨0, 0, 0, 0, zcd⟩ := ⟨_, rfl⟩
  have HZL := Lib.hid (show Z.length = 31 by rw [hZ]; rfl)
  have HZZ : Hid (Z.toArray = #[Value.int .i64 0, .int .i64 0, .int .i64 0, .int .i64 0, .int .i64 0, .int .i64 0, .int .u32 0, .int .i64 0, .int .i64 0, .string { data := #[] }, .int .i64 0, .int .i64 0, .string { data := #[] }, .int .i64 0, .int .i64 0, .string { data := #[] }, .int .i64 0, .int .i64 0, .string { data := #[] }, .int .i64 0, .int .i64 0, .string { data := #[] }, .int .i64 0, .int .i64 0, .string { data := #[] }, .int .i64 0, .int .i64 0, .string { data := #[] }, .int .i64 0, .int .i64 0, .string { data := #[] }]) := Lib.hid (by rw [hZ]; exact zc31)
  clear hR h hok hZ
  go_enter Try.func11, Try.ntmps11
  go_wp2_with (first
    | (refine wpList_mkM (k := 3) rfl rfl ?_
       intro w1 hI1 hb1
       have HI1 : Hid (MapI Try.prog 3 w1 w.heap.size 0 (vmap iv64 (lmap (l.take 0)))) := Lib.hid hI1
       have HB1 := Lib.hid hb1
       clear hI1 hb1)
    | fail)
  go_loopw [11] (fun i wr => ∃ k : Nat, k ≤ n ∧ i = .int .i64 (k : Int) ∧ Hid (goTo l k = true) ∧ Hid (MapI Try.prog 3 wr w.heap.size k (vmap iv64 (lmap (l.take k)))) ∧ Hid (Below w.heap.size w wr)) (fun i _ => n - (iOf i).toNat)
  case atStart => exact ⟨0, by omega, rfl, Lib.hid rfl, HI1, HB1⟩
  case round =>
    clear HI1 HB1
    obtain ⟨k, hk, rfl, HK, HI, HB⟩ := hrel
    by_cases hlt : k < n
    · have d0 : decide ((k : Int) < (n : Int)) = true := decide_eq_true (by omega)
      have hkl : k < l.length := by rw [HN.out]; exact hlt
      obtain ⟨b, o, rfl, hcc⟩ := HCE.out k hkl
      have HCC := Lib.hid hcc
      have HNEXT : Hid (tmay l[k] = true → (k = 0 ∨ sqAt l k < l[k].sq) → (∀ u, lastT (l.take k) l[k].id = some u → u.nw = l[k].old) → goTo l (k + 1) = true) := Lib.hid (go_next hkl HK.out)
      have HNM := Lib.hid (HF0.out k hkl)
      have HNO := Lib.hid (HF2.out k hkl)
      have HNS : Hid (∀ m (hm : k = m + 1), l[k].sq ≤ (l[m]'(by omega)).sq → R = false) := Lib.hid (fun m hm e => by subst hm; exact HF1.out m hkl e)
      have HSQ : Hid (∀ m (hm : k = m + 1), (l[m]'(by omega)).sq < l[k].sq → sqAt l k < l[k].sq) := Lib.hid (fun m hm e => by subst hm; exact sq_prev hkl e)
      have HT := Lib.hid (HTU.out k hkl)
      have HWFK := Lib.hid (HWF.out k hkl)
      have HPK := Lib.hid (HPUT.out k hkl)
      have HLK := Lib.hid (fun W gm N x => HLOOK.out W gm N k x)
      obtain ⟨TT, hTT⟩ : ∃ TT, TT = tcl l[k] := ⟨_, rfl⟩
      have hrg := (HCC.out wr HB.out k hkl).2.2.2.2
      have HTL := Lib.hid (HTLN.out k hkl)
      have HT1 := Lib.hid (tcl_one l[k])
      have HTC : Hid (∀ W, Blk W wr.heap.size TT → W.cell? ⟨wr.heap.size, 0, none⟩ = some (.int .i64 l[k].sq) ∧ W.cell? ⟨wr.heap.size, 1, none⟩ = some (.int .i64 l[k].id) ∧ W.cell? ⟨wr.heap.size, 2, none⟩ = some (.int .i64 l[k].old) ∧ W.cell? ⟨wr.heap.size, 3, none⟩ = some (.int .i64 l[k].nw)) := Lib.hid (fun W hW => by
        rw [hTT] at hW
        exact ⟨hW.cell (j := 0) rfl, hW.cell (j := 1) rfl, hW.cell (j := 2) rfl, hW.cell (j := 3) rfl⟩)
      rw [← hTT] at hrg HTL HT1
      have B1 := Blk.new wr Z 32
      have hb2 := (Below.refl wr.heap.size wr).alloc (Nat.le_refl _) (.cells Z.toArray 32)
      have TH1 := B1.there 0 31 (by rw [HZL.out]; omega)
      obtain ⟨W1, hW1⟩ : ∃ W1, W1 = (wr.alloc (.cells Z.toArray 32)).setCells wr.heap.size 0 TT := ⟨_, rfl⟩
      have HBI : Hid (Blk W1 wr.heap.size TT) := Lib.hid (by rw [hW1]; exact B1.whole (by rw [HZL.out, HTL.out]))
      have hb3 : Below wr.heap.size wr W1 := by rw [hW1]; exact below_sets (Nat.le_refl _) _ _ hb2
      have HBE := Lib.hid (HB.out.trans (hb3.mono HB.out.size))
      have HLE := Lib.hid hb3
      have HW1 := Lib.hid hW1
      rw [HZZ.out] at TH1
      rw [← hTT] at HT
      obtain ⟨tm, htm⟩ : ∃ tm, tm = tmay l[k] := ⟨_, rfl⟩
      rw [← htm] at HT HNEXT HNM HWFK
      have HPREV : Hid (∀ m (hm : k = m + 1), ∀ W, Below w.heap.size w W → W.cell? ⟨b, o + m * 31, none⟩ = some (.int .i64 (l[m]'(by omega)).sq)) := Lib.hid (fun m hm W hW => (HCC.out W hW m (by omega)).1)
      have HPV : Hid (∀ m (hm : k = m + 1), ∃ p, p = (l[m]'(by omega)).sq) := Lib.hid (fun m hm => ⟨_, rfl⟩)
      have HI2 := Lib.hid (HI.out.later HLE.out)
      have HBW : Hid (∀ W, Le W1 W → Below w.heap.size w W) := Lib.hid (fun W hl => HBE.out.trans (hl.mono HBE.out.size))
      have HBL : Hid (∀ W, Le W1 W → Blk W wr.heap.size TT) := Lib.hid (fun W hl => HBI.out.later hl)
      generalize l[k].id = x at HNEXT HNO HTC HWFK HPK
      generalize l[k].old = y at HNEXT HNO HTC
      generalize l[k].nw = z at HTC HPK
      generalize l[k].sq = q at HNEXT HNS HSQ HTC
      have HQ : Hid (∀ W, Le W1 W → W.cell? ⟨wr.heap.size, 0, none⟩ = some (.int .i64 q)) := Lib.hid (fun W hl => (HTC.out W (HBL.out W hl)).1)
      clear hcc hTT htm HF0 HF1 HF2 HTU HTLN HALL HS B1 hb2 hW1 hb3 HCE HCC HLOOK HPUT HWF HI HB HPV
      have cq : ∀ kk : LW W1, kk.val.cell? ⟨wr.heap.size, 0, none⟩ = some (.int .i64 q) := fun kk => HQ.out _ kk.le
      cases tm with
      | false =>
        have HR := Lib.hid (HNM.out rfl)
        go_wp2_with (first
          | (refine wpList_load_mid rfl 32 (.tmp 14) rfl b (o + k * 31) rfl TT _ hrg hu rfl (by rw [HTL.out]; exact info_turn) ?_
             simp only [Act.put, List.setIfInBounds_toArray, List.set_cons_zero, List.set_cons_succ])
          | (refine wpList_store_mid rfl 32 (.tmp 5) (.tmp 15) rfl wr.heap.size 0 TT.toArray rfl rfl (by simpa [HTL.out] using TH1) (by simpa [HTL.out] using info_turn) (all_oneCell_toArray HT1.out) ?_
             rw [← HZZ.out, ← HW1.out]
             clear TH1 hrg HT1)
          | fail)
        refine wp_region_steady [] 54 (by kernel_rfl) (by kernel_rfl) (by kernel_rfl) (by rfl) ?_
        refine wpG_run (by rfl) (by rfl) (.agg TT.toArray) (fun wx hl => exec_load 32 (.tmp 5) rfl wr.heap.size 0 rfl TT _ (HBL.out wx hl.1).wholeC hu rfl (by rw [HTL.out]; exact info_turn)) ?_
        simp only [Act.put, List.setIfInBounds_toArray, List.set_cons_zero, List.set_cons_succ]
        refine wpG_call (by rfl) (by rfl) 26 #[.agg TT.toArray] (.bool false) (by intro _; simp [go_sem]) (by kernel_rfl) (fun wx hl => HT.out wx) ?_
        simp only [Act.put, List.setIfInBounds_toArray, List.set_cons_zero, List.set_cons_succ]
        iterate 2 (refine wpG_quiet (by rfl) (by rfl) (by rfl) (fun K hK => ?_); go_big_quiet_op; refine hK _ ?_; clear hK K)
        iterate 13 (refine wpG_skip (by rfl) ?_; simp only [Act.put, List.setIfInBounds_toArray, List.set_cons_zero, List.set_cons_succ])
        iterate 1 (refine wpG_quiet (by rfl) (by rfl) (by rfl) (fun K hK => ?_); go_big_quiet_op; refine hK _ ?_; clear hK K)
        refine wpG_nil fun w2 hl _ => ?_
        have HB2 := Lib.hid (HBW.out w2 hl)
        clear HBW
        go_wp2_with fail
        go_ret
        exact ⟨by rw [HR.out]; rfl, HB2.out⟩
      | true =>
        by_cases h0 : k = 0
        · have d1 : decide ((0 : Int) < (k : Int)) = false := decide_eq_false (by omega)
          have d1' : decide (0 < k) = false := decide_eq_false (by omega)
          have H0 := Lib.hid h0
          clear h0
          go_wp2_with (first
            | (refine wpList_load_mid rfl 32 (.tmp 14) rfl b (o + k * 31) rfl TT _ hrg hu rfl (by rw [HTL.out]; exact info_turn) ?_
               simp only [Act.put, List.setIfInBounds_toArray, List.set_cons_zero, List.set_cons_succ])
            | (refine wpList_store_mid rfl 32 (.tmp 5) (.tmp 15) rfl wr.heap.size 0 TT.toArray rfl rfl (by simpa [HTL.out] using TH1) (by simpa [HTL.out] using info_turn) (all_oneCell_toArray HT1.out) ?_
               rw [← HZZ.out, ← HW1.out]
               clear TH1 hrg HT1)
            | fail)
          refine wp_region_steady [] 54 (by kernel_rfl) (by kernel_rfl) (by kernel_rfl) (by rfl) ?_
          refine wpG_run (by rfl) (by rfl) (.agg TT.toArray) (fun wx hl => exec_load 32 (.tmp 5) rfl wr.heap.size 0 rfl TT _ (HBL.out wx hl.1).wholeC hu rfl (by rw [HTL.out]; exact info_turn)) ?_
          simp only [Act.put, List.setIfInBounds_toArray, List.set_cons_zero, List.set_cons_succ]
          refine wpG_call (by rfl) (by rfl) 26 #[.agg TT.toArray] (.bool true) (by intro _; simp [go_sem]) (by kernel_rfl) (fun wx hl => HT.out wx) ?_
          simp only [Act.put, List.setIfInBounds_toArray, List.set_cons_zero, List.set_cons_succ]
          iterate 5 (refine wpG_quiet (by rfl) (by rfl) (by rfl) (fun K hK => ?_); go_big_quiet_op; refine hK _ ?_; clear hK K)
          iterate 9 (refine wpG_skip (by rfl) ?_; simp only [Act.put, List.setIfInBounds_toArray, List.set_cons_zero, List.set_cons_succ])
          iterate 2 (refine wpG_quiet (by rfl) (by rfl) (by rfl) (fun K hK => ?_); go_big_quiet_op; refine hK _ ?_; clear hK K)
          refine wpG_nil fun w2 hl _ => ?_
          have HB2 := Lib.hid (HBW.out w2 hl)
          have HX2 := HTC.out w2 (HBL.out w2 hl)
          have x1 := HX2.2.1
          have x2 := HX2.2.2.1
          have x3 := HX2.2.2.2
          have HI3 := Lib.hid (HI2.out.later hl)
          have HKW := Lib.hid (HWFK.out (by trivial))
          have hlk := HLK.out w2 w.heap.size k x HI3.out HKW.out
          have HSTEP : Hid ((∀ u, lastT (l.take k) x = some u → u.nw = y) → goTo l (k + 1) = true) := Lib.hid (HNEXT.out (by trivial) (.inl H0.out))
          clear HBW HNEXT HNS HSQ HT HTL HTC HPREV HLK HWFK HBL HI2 HNM HX2 HQ cq hl d1 d1'
          cases hla : lastT (l.take k) x with
          | none =>
            rw [hla] at hlk
            have HLK := Lib.hid (show (Instr.lookup 50 (.map (some w.heap.size)) (.int .i64 x) true).run Try.prog w2 = .ok (.tuple #[.int .i64 0, .bool false]) w2 from hlk)
            have HG := Lib.hid (HSTEP.out (fun u e => by rw [hla] at e; cases e))
            clear hla hlk HSTEP HNO
            go_wp2_with (first
              | (refine wpList_exec (by rfl) (.tuple #[.int .i64 0, .bool false]) (exec_lookM2 (.tmp 35) (.tmp 37) rfl x rfl rfl HLK.out) ?_
                 simp only [Act.put, List.setIfInBounds_toArray, List.set_cons_zero, List.set_cons_succ])
              | (refine wpList_putM rfl (.tmp 48) (.tmp 50) (.tmp 52) x rfl HI3.out hkk hmt (by unfold maxLen; omega) rfl rfl HKW.out (.int .i64 z) rfl ?_
                 intro w4 hI4 hg4
                 rw [HPK.out] at hI4
                 have HI4 := Lib.hid hI4
                 have HB4 := Lib.hid (HB2.out.trans (below_rowM hg4 (Nat.le_refl _) HB2.out.size))
                 clear hI4 hg4)
              | fail)
            go_roundw
            case rel => exact ⟨k + 1, by omega, by go_num, HG, HI4, HB4⟩
            case measure => simp [iOf]; omega
          | some u =>
            rw [hla] at hlk
            have HLK := Lib.hid (show (Instr.lookup 50 (.map (some w.heap.size)) (.int .i64 x) true).run Try.prog w2 = .ok (.tuple #[.int .i64 u.nw, .bool true]) w2 from hlk)
            have HNO2 := Lib.hid (HNO.out u hla)
            have HG2 : Hid (u.nw = y → goTo l (k + 1) = true) := Lib.hid (fun e => HSTEP.out (fun u' e' => by rw [hla] at e'; cases e'; exact e))
            clear hla hlk HSTEP HNO
            generalize u.nw = v at HLK HNO2 HG2
            by_cases hv : v = y
            · have dv : decide (v = y) = true := decide_eq_true hv
              have dv' : (v != y) = false := by simpa using hv
              have HG := Lib.hid (HG2.out hv)
              clear hv HG2 HNO2
              go_wp2_with (first
                | (refine wpList_exec (by rfl) (.tuple #[.int .i64 v, .bool true]) (exec_lookM2 (.tmp 35) (.tmp 37) rfl x rfl rfl HLK.out) ?_
                   simp only [Act.put, List.setIfInBounds_toArray, List.set_cons_zero, List.set_cons_succ])
                | (refine wpList_putM rfl (.tmp 48) (.tmp 50) (.tmp 52) x rfl HI3.out hkk hmt (by unfold maxLen; omega) rfl rfl HKW.out (.int .i64 z) rfl ?_
                   intro w4 hI4 hg4
                   rw [HPK.out] at hI4
                   have HI4 := Lib.hid hI4
                   have HB4 := Lib.hid (HB2.out.trans (below_rowM hg4 (Nat.le_refl _) HB2.out.size))
                   clear hI4 hg4)
                | fail)
              go_roundw
              case rel => exact ⟨k + 1, by omega, by go_num, HG, HI4, HB4⟩
              case measure => simp [iOf]; omega
            · have dv : decide (v = y) = false := decide_eq_false hv
              have dv' : (v != y) = true := by simpa using hv
              have HR := Lib.hid (HNO2.out hv)
              clear hv HG2 HNO2
              go_wp2_with (first
                | (refine wpList_exec (by rfl) (.tuple #[.int .i64 v, .bool true]) (exec_lookM2 (.tmp 35) (.tmp 37) rfl x rfl rfl HLK.out) ?_
                   simp only [Act.put, List.setIfInBounds_toArray, List.set_cons_zero, List.set_cons_succ])
                | fail)
              go_ret
              exact ⟨by rw [HR.out]; rfl, HB2.out⟩
        · obtain ⟨m, hm⟩ : ∃ m, k = m + 1 := ⟨k - 1, by omega⟩
          have d1 : decide ((0 : Int) < (k : Int)) = true := decide_eq_true (by omega)
          have d1' : decide (0 < k) = true := decide_eq_true (by omega)
          obtain ⟨p, hp⟩ : ∃ p, p = (l[m]'(by omega)).sq := ⟨_, rfl⟩
          have cp : ∀ kk : LW W1, kk.val.cell? ⟨b, o + m * 31, none⟩ = some (.int .i64 p) := fun kk => by rw [hp]; exact HPREV.out m hm _ (HBW.out _ kk.le)
          have HNS2 : Hid (q ≤ p → R = false) := Lib.hid (fun e => HNS.out m hm (by rw [← hp]; exact e))
          have HSQ2 : Hid (p < q → sqAt l k < q) := Lib.hid (fun e => HSQ.out m hm (by rw [← hp]; exact e))
          have km : (k : Int) - 1 = (m : Int) := by omega
          have hmn : m < n := by omega
          clear hp hm h0
          by_cases h4 : q ≤ p
          · have d4 : decide (q ≤ p) = true := decide_eq_true h4
            have HR := Lib.hid (HNS2.out h4)
            clear h4
            go_wp2_with (first
              | (refine wpList_load_mid rfl 32 (.tmp 14) rfl b (o + k * 31) rfl TT _ hrg hu rfl (by rw [HTL.out]; exact info_turn) ?_
                 simp only [Act.put, List.setIfInBounds_toArray, List.set_cons_zero, List.set_cons_succ])
              | (refine wpList_store_mid rfl 32 (.tmp 5) (.tmp 15) rfl wr.heap.size 0 TT.toArray rfl rfl (by simpa [HTL.out] using TH1) (by simpa [HTL.out] using info_turn) (all_oneCell_toArray HT1.out) ?_
                 rw [← HZZ.out, ← HW1.out]
                 clear TH1 hrg HT1)
              | fail)
            refine wp_region_steady [] 54 (by kernel_rfl) (by kernel_rfl) (by kernel_rfl) (by rfl) ?_
            refine wpG_run (by rfl) (by rfl) (.agg TT.toArray) (fun wx hl => exec_load 32 (.tmp 5) rfl wr.heap.size 0 rfl TT _ (HBL.out wx hl.1).wholeC hu rfl (by rw [HTL.out]; exact info_turn)) ?_
            simp only [Act.put, List.setIfInBounds_toArray, List.set_cons_zero, List.set_cons_succ]
            refine wpG_call (by rfl) (by rfl) 26 #[.agg TT.toArray] (.bool true) (by intro _; simp [go_sem]) (by kernel_rfl) (fun wx hl => HT.out wx) ?_
            simp only [Act.put, List.setIfInBounds_toArray, List.set_cons_zero, List.set_cons_succ]
            iterate 16 (refine wpG_quiet (by rfl) (by rfl) (by rfl) (fun K hK => ?_); go_big_quiet_op; refine hK _ ?_; clear hK K)
            refine wpG_nil fun w2 hl _ => ?_
            have HB2 := Lib.hid (HBW.out w2 hl)
            clear HBW
            go_wp2_with fail
            go_ret
            exact ⟨by rw [HR.out]; rfl, HB2.out⟩
          · have d4 : decide (q ≤ p) = false := decide_eq_false h4
            have HQP := Lib.hid (HSQ2.out (by omega))
            clear h4
            go_wp2_with (first
              | (refine wpList_load_mid rfl 32 (.tmp 14) rfl b (o + k * 31) rfl TT _ hrg hu rfl (by rw [HTL.out]; exact info_turn) ?_
                 simp only [Act.put, List.setIfInBounds_toArray, List.set_cons_zero, List.set_cons_succ])
              | (refine wpList_store_mid rfl 32 (.tmp 5) (.tmp 15) rfl wr.heap.size 0 TT.toArray rfl rfl (by simpa [HTL.out] using TH1) (by simpa [HTL.out] using info_turn) (all_oneCell_toArray HT1.out) ?_
                 rw [← HZZ.out, ← HW1.out]
                 clear TH1 hrg HT1)
              | fail)
            refine wp_region_steady [] 54 (by kernel_rfl) (by kernel_rfl) (by kernel_rfl) (by rfl) ?_
            refine wpG_run (by rfl) (by rfl) (.agg TT.toArray) (fun wx hl => exec_load 32 (.tmp 5) rfl wr.heap.size 0 rfl TT _ (HBL.out wx hl.1).wholeC hu rfl (by rw [HTL.out]; exact info_turn)) ?_
            simp only [Act.put, List.setIfInBounds_toArray, List.set_cons_zero, List.set_cons_succ]
            refine wpG_call (by rfl) (by rfl) 26 #[.agg TT.toArray] (.bool true) (by intro _; simp [go_sem]) (by kernel_rfl) (fun wx hl => HT.out wx) ?_
            simp only [Act.put, List.setIfInBounds_toArray, List.set_cons_zero, List.set_cons_succ]
            iterate 16 (refine wpG_quiet (by rfl) (by rfl) (by rfl) (fun K hK => ?_); go_big_quiet_op; refine hK _ ?_; clear hK K)
            refine wpG_nil fun w2 hl _ => ?_
            have HB2 := Lib.hid (HBW.out w2 hl)
            have HX2 := HTC.out w2 (HBL.out w2 hl)
            have x1 := HX2.2.1
            have x2 := HX2.2.2.1
            have x3 := HX2.2.2.2
            have HI3 := Lib.hid (HI2.out.later hl)
            have HKW := Lib.hid (HWFK.out (by trivial))
            have hlk := HLK.out w2 w.heap.size k x HI3.out HKW.out
            have HSTEP : Hid ((∀ u, lastT (l.take k) x = some u → u.nw = y) → goTo l (k + 1) = true) := Lib.hid (HNEXT.out (by trivial) (.inr HQP.out))
            clear HBW HNEXT HNS HSQ HT HTL HTC HPREV HLK HWFK HBL HI2 HNM HX2 HQ cq hl cp d1 d1' d4 km hmn HNS2 HSQ2
            cases hla : lastT (l.take k) x with
            | none =>
              rw [hla] at hlk
              have HLK := Lib.hid (show (Instr.lookup 50 (.map (some w.heap.size)) (.int .i64 x) true).run Try.prog w2 = .ok (.tuple #[.int .i64 0, .bool false]) w2 from hlk)
              have HG := Lib.hid (HSTEP.out (fun u e => by rw [hla] at e; cases e))
              clear hla hlk HSTEP HNO
              go_wp2_with (first
                | (refine wpList_exec (by rfl) (.tuple #[.int .i64 0, .bool false]) (exec_lookM2 (.tmp 35) (.tmp 37) rfl x rfl rfl HLK.out) ?_
                   simp only [Act.put, List.setIfInBounds_toArray, List.set_cons_zero, List.set_cons_succ])
                | (refine wpList_putM rfl (.tmp 48) (.tmp 50) (.tmp 52) x rfl HI3.out hkk hmt (by unfold maxLen; omega) rfl rfl HKW.out (.int .i64 z) rfl ?_
                   intro w4 hI4 hg4
                   rw [HPK.out] at hI4
                   have HI4 := Lib.hid hI4
                   have HB4 := Lib.hid (HB2.out.trans (below_rowM hg4 (Nat.le_refl _) HB2.out.size))
                   clear hI4 hg4)
                | fail)
              go_roundw
              case rel => exact ⟨k + 1, by omega, by go_num, HG, HI4, HB4⟩
              case measure => simp [iOf]; omega
            | some u =>
              rw [hla] at hlk
              have HLK := Lib.hid (show (Instr.lookup 50 (.map (some w.heap.size)) (.int .i64 x) true).run Try.prog w2 = .ok (.tuple #[.int .i64 u.nw, .bool true]) w2 from hlk)
              have HNO2 := Lib.hid (HNO.out u hla)
              have HG2 : Hid (u.nw = y → goTo l (k + 1) = true) := Lib.hid (fun e => HSTEP.out (fun u' e' => by rw [hla] at e'; cases e'; exact e))
              clear hla hlk HSTEP HNO
              generalize u.nw = v at HLK HNO2 HG2
              by_cases hv : v = y
              · have dv : decide (v = y) = true := decide_eq_true hv
                have dv' : (v != y) = false := by simpa using hv
                have HG := Lib.hid (HG2.out hv)
                clear hv HG2 HNO2
                go_wp2_with (first
                  | (refine wpList_exec (by rfl) (.tuple #[.int .i64 v, .bool true]) (exec_lookM2 (.tmp 35) (.tmp 37) rfl x rfl rfl HLK.out) ?_
                     simp only [Act.put, List.setIfInBounds_toArray, List.set_cons_zero, List.set_cons_succ])
                  | (refine wpList_putM rfl (.tmp 48) (.tmp 50) (.tmp 52) x rfl HI3.out hkk hmt (by unfold maxLen; omega) rfl rfl HKW.out (.int .i64 z) rfl ?_
                     intro w4 hI4 hg4
                     rw [HPK.out] at hI4
                     have HI4 := Lib.hid hI4
                     have HB4 := Lib.hid (HB2.out.trans (below_rowM hg4 (Nat.le_refl _) HB2.out.size))
                     clear hI4 hg4)
                  | fail)
                go_roundw
                case rel => exact ⟨k + 1, by omega, by go_num, HG, HI4, HB4⟩
                case measure => simp [iOf]; omega
              · have dv : decide (v = y) = false := decide_eq_false hv
                have dv' : (v != y) = true := by simpa using hv
                have HR := Lib.hid (HNO2.out hv)
                clear hv HG2 HNO2
                go_wp2_with (first
                  | (refine wpList_exec (by rfl) (.tuple #[.int .i64 v, .bool true]) (exec_lookM2 (.tmp 35) (.tmp 37) rfl x rfl rfl HLK.out) ?_
                     simp only [Act.put, List.setIfInBounds_toArray, List.set_cons_zero, List.set_cons_succ])
                  | fail)
                go_ret
                exact ⟨by rw [HR.out]; rfl, HB2.out⟩
    · obtain rfl : k = n := by omega
      have HR := Lib.hid (HALL.out (by rw [HN.out]; exact HK.out))
      clear HF0 HF1 HF2 HALL HTU HTLN HCE HS HLOOK HPUT HWF HI
      go_wp2_with fail
      go_ret
      exact ⟨by rw [HR.out]; rfl, HB.out⟩
end Go.Proofs.Ytepefocpeeihdaa

/- What turns come to: the program's Net. -/
namespace Go.Proofs.Ytepefocpeeihdaa
set_option linter.unusedVariables false
set_option linter.unusedSimpArgs false
open Go Go.RowKit BitM

def tv64 (t : Tn) : Value := .agg (tcl t).toArray
theorem wmap_len (l : List Tn) : (wmap l).length ≤ l.length := by
  have h : ∀ (l : List Tn) (m : KV Tn), (l.foldl wstep m).length ≤ m.length + l.length := by
    intro l
    induction l with
    | nil => intro m; simp
    | cons t l ih =>
      intro m
      have h1 := ih (wstep m t)
      have h2 : (wstep m t).length ≤ m.length + 1 := kput_len _ _ _
      simp only [List.foldl_cons, List.length_cons]
      omega
  have := h l []
  simpa [wmap] using this
theorem wmap_at {l : List Tn} {k : Nat} (hk : k < (wmap l).length) : whole l (wmap l)[k].1 = some (wmap l)[k].2 := by
  rw [← wmap_get]
  exact kget_at (wmap_rise l) hk
theorem whole_mem {l : List Tn} {i : Int} {t : Tn} (h : whole l i = some t) : ∃ u ∈ l, u.id = i ∧ t.cd = u.cd ∧ t.id = i := by
  unfold whole at h
  split at h
  · rename_i f u hf hu
    cases h
    exact ⟨u, (last_id hu).2, (last_id hu).1, rfl, (last_id hu).1⟩
  · cases h
theorem kget_cd {l : List Tn} {i : Int} {t : Tn} (h : kget (wmap l) i = some t) (hok : ∀ t ∈ l, okCd t.cd) : okCd t.cd := by
  rw [wmap_get] at h
  obtain ⟨u, hu, _, e, _⟩ := whole_mem h
  rw [e]
  exact hok u hu
theorem tcl_set2 (t : Tn) (x : Int) : (tcl t).set 2 (.int .i64 x) = tcl { t with old := x } := rfl
set_option maxRecDepth 100000 in
set_option maxHeartbeats 6400000 in
theorem nets_any (A : Option Addr) (n c : Nat) (l : List Tn) (w : World) (h : SeesR tcl w A n c l) (hok : ∀ t ∈ l, okCd t.cd) (hwf : ∀ t ∈ l, (Lit.int .i64 t.id).wf = true) (hz : n ≤ 65000) :
    Calls Try.prog 14 #[.slice A n c] w (GivesS w (net l)) := by
  have hu := Try.underlying32
  have hui := Try.underlying49
  have hkk := Try.underlying3
  have hmt := Try.underlying53
  obtain ⟨i1, ji, jz0, jz1, jz2⟩ := info_itm
  have HS := Lib.hid h
  have HN := Lib.hid h.len
  have HTLN := Lib.hid (fun k (hk : k < l.length) => tcl_len (hok _ (List.getElem_mem hk)))
  have HWF := Lib.hid (fun k (hk : k < l.length) => hwf _ (List.getElem_mem hk))
  have HLEN : Hid ((wmap l).length ≤ n) := Lib.hid (by have := wmap_len l; have := h.len; omega)
  have HOKW : Hid (∀ k (hk : k < (wmap l).length), okCd (wmap l)[k].2.cd ∧ (Lit.int .i64 (wmap l)[k].1).wf = true) := Lib.hid (fun k hk => by
    obtain ⟨u, hu, e1, e2, e3⟩ := whole_mem (wmap_at hk)
    refine ⟨by rw [e2]; exact hok u hu, by rw [← e1]; exact hwf u hu⟩)
  have HCE : Hid (∀ k, k < l.length → ∃ b o, A = some ⟨b, o, none⟩ ∧ ∀ W, Below w.heap.size w W → ∀ k (hk : k < l.length), W.cell? ⟨b, o + k * 31, none⟩ = some (.int .i64 l[k].sq) ∧ W.cell? ⟨b, o + k * 31 + 1, none⟩ = some (.int .i64 l[k].id) ∧
      W.cell? ⟨b, o + k * 31 + 2, none⟩ = some (.int .i64 l[k].old) ∧ W.cell? ⟨b, o + k * 31 + 3, none⟩ = some (.int .i64 l[k].nw) ∧ W.rangeAt b (o + k * 31) (tcl l[k])) := Lib.hid (fun k hk => by
    obtain ⟨b, o, e, _, hc⟩ := turn_cells h hok (by omega)
    exact ⟨b, o, e, fun W hW k hk => ⟨(hc W hW k hk).1, (hc W hW k hk).2.1, (hc W hW k hk).2.2.1, (hc W hW k hk).2.2.2.1, (hc W hW k hk).2.2.2.2.1⟩⟩)
  obtain ⟨Z, hZ⟩ : ∃ Z, Z = tcl ⟨0, 0, 0, 0, zcd⟩ := ⟨_, rfl⟩
  have HZL := Lib.hid (show Z.length = 31 by rw [hZ]; rfl)
  have HZZ : Hid (Z.toArray = #[Value.int .i64 0, .int .i64 0, .int .i64 0, .int .i64 0, .int .i64 0, .int .i64 0, .int .u32 0, .int .i64 0, .int .i64 0, .string { data := #[] }, .int .i64 0, .int .i64 0, .string { data := #[] }, .int .i64 0, .int .i64 0, .string { data := #[] }, .int .i64 0, .int .i64 0, .string { data := #[] }, .int .i64 0, .int .i64 0, .string { data := #[] }, .int .i64 0, .int .i64 0, .string { data := #[] }, .int .i64 0, .int .i64 0, .string { data := #[] }, .int .i64 0, .int .i64 0, .string { data := #[] }]) := Lib.hid (by rw [hZ]; exact zc31)
  have HLOOK : Hid (∀ W gm N m x, MapI Try.prog 3 W gm N (vmap tv64 m) → (Lit.int .i64 x).wf = true → (Instr.lookup 53 (.map (some gm)) (.int .i64 x) true).run Try.prog W = .ok (.tuple #[((kget m x).map tv64).getD (.agg Z.toArray), .bool (kget m x).isSome]) W) := Lib.hid (fun W gm N m x hI hx => by
    have := hI.look2 hkk hmt (z := .agg Z.toArray) (by rw [hZ]; kernel_rfl) hx
    rw [vmap_get] at this
    rw [this, Option.isSome_map])
  have HLOOK1 : Hid (∀ W gm N m x u, MapI Try.prog 3 W gm N (vmap tv64 m) → (Lit.int .i64 x).wf = true → kget m x = some u → (Instr.lookup 53 (.map (some gm)) (.int .i64 x) false).run Try.prog W = .ok (.agg (tcl u).toArray) W) := Lib.hid (fun W gm N m x u hI hx hu => by
    have := hI.look1 hkk hmt (z := .agg Z.toArray) (by rw [hZ]; kernel_rfl) hx
    rw [vmap_get, hu] at this
    exact this)
  have HPUT : Hid (∀ k (hk : k < l.length), (kget (wmap (l.take k)) l[k].id = none → mput (vmap tv64 (wmap (l.take k))) l[k].id (.agg (tcl l[k]).toArray) = vmap tv64 (wmap (l.take (k + 1)))) ∧
      ∀ f, kget (wmap (l.take k)) l[k].id = some f → mput (vmap tv64 (wmap (l.take k))) l[k].id (.agg ((tcl l[k]).set 2 (.int .i64 f.old)).toArray) = vmap tv64 (wmap (l.take (k + 1)))) := Lib.hid (fun k hk => by
    rw [wmap_take hk]
    unfold wstep
    refine ⟨fun e => ?_, fun f e => ?_⟩
    · rw [e]
      exact vmap_put tv64 _ _ _
    · rw [e, tcl_set2]
      exact vmap_put tv64 _ _ _)
  have HKCD : Hid (∀ k x f, kget (wmap (l.take k)) x = some f → okCd f.cd) := Lib.hid (fun k x f e => kget_cd e (fun t ht => hok t (List.mem_of_mem_take ht)))
  have HRISE := Lib.hid (wmap_rise l)
  have HZ1 : Hid (∀ v ∈ Z, v.oneCell' = true) := Lib.hid (by rw [hZ]; exact tcl_one _)
  clear h hok hwf hZ
  go_enter Try.func14, Try.ntmps14
  go_wp2_with (first
    | (refine wpList_mkM (k := 3) rfl rfl ?_
       intro w1 hI1 hb1
       have HI1 : Hid (MapI Try.prog 3 w1 w.heap.size 0 (vmap tv64 (wmap (l.take 0)))) := Lib.hid hI1
       have HB1 := Lib.hid hb1
       clear hI1 hb1)
    | fail)
  go_loopw [15] (fun i wr => ∃ k : Nat, k ≤ n ∧ i = .int .i64 (k : Int) ∧ Hid (MapI Try.prog 3 wr w.heap.size k (vmap tv64 (wmap (l.take k)))) ∧ Hid (Below w.heap.size w wr)) (fun i _ => n - (iOf i).toNat)
  case atStart => exact ⟨0, by omega, rfl, HI1, HB1⟩
  case round =>
    clear HI1 HB1
    obtain ⟨k, hk, rfl, HI, HB⟩ := hrel
    by_cases hlt : k < n
    · have d0 : decide ((k : Int) < (n : Int)) = true := decide_eq_true (by omega)
      have hkl : k < l.length := by rw [HN.out]; exact hlt
      obtain ⟨b, o, rfl, hcc⟩ := HCE.out k hkl
      have HCC := Lib.hid hcc
      have HWK := Lib.hid (HWF.out k hkl)
      have HPK := Lib.hid (HPUT.out k hkl)
      have HLK := Lib.hid (fun W gm N x => HLOOK.out W gm N (wmap (l.take k)) x)
      have HKC := Lib.hid (fun x f => HKCD.out k x f)
      obtain ⟨TT, hTT⟩ : ∃ TT, TT = tcl l[k] := ⟨_, rfl⟩
      have hrg := (HCC.out wr HB.out k hkl).2.2.2.2
      have HTL := Lib.hid (HTLN.out k hkl)
      have HT1 := Lib.hid (tcl_one l[k])
      have HTC : Hid (∀ W, Blk W wr.heap.size TT → W.cell? ⟨wr.heap.size, 0, none⟩ = some (.int .i64 l[k].sq) ∧ W.cell? ⟨wr.heap.size, 1, none⟩ = some (.int .i64 l[k].id) ∧ W.cell? ⟨wr.heap.size, 2, none⟩ = some (.int .i64 l[k].old) ∧ W.cell? ⟨wr.heap.size, 3, none⟩ = some (.int .i64 l[k].nw)) := Lib.hid (fun W hW => by
        rw [hTT] at hW
        exact ⟨hW.cell (j := 0) rfl, hW.cell (j := 1) rfl, hW.cell (j := 2) rfl, hW.cell (j := 3) rfl⟩)
      rw [← hTT] at hrg HTL HT1
      have B1 := Blk.new wr Z 32
      have hb2 := (Below.refl wr.heap.size wr).alloc (Nat.le_refl _) (.cells Z.toArray 32)
      have TH1 := B1.there 0 31 (by rw [HZL.out]; omega)
      obtain ⟨W1, hW1⟩ : ∃ W1, W1 = (wr.alloc (.cells Z.toArray 32)).setCells wr.heap.size 0 TT := ⟨_, rfl⟩
      have HBI : Hid (Blk W1 wr.heap.size TT) := Lib.hid (by rw [hW1]; exact B1.whole (by rw [HZL.out, HTL.out]))
      have hb3 : Below wr.heap.size wr W1 := by rw [hW1]; exact below_sets (Nat.le_refl _) _ _ hb2
      have HBE := Lib.hid (HB.out.trans (hb3.mono HB.out.size))
      have HLE := Lib.hid hb3
      have HW1 := Lib.hid hW1
      rw [HZZ.out] at TH1
      rw [← hTT] at HPK
      have HI2 := Lib.hid (HI.out.later HLE.out)
      have hlk := HLK.out W1 w.heap.size k l[k].id HI2.out HWK.out
      have HGM : Hid (w.heap.size < wr.heap.size) := Lib.hid HI.out.lt
      have HTX : Hid (TT[1]? = some (.int .i64 l[k].id)) := Lib.hid (by rw [hTT]; rfl)
      generalize l[k].id = x at HTC HWK HPK hlk HTX
      generalize l[k].old = y at HTC
      generalize l[k].nw = z at HTC
      generalize l[k].sq = q at HTC
      clear hcc hTT HS B1 hb2 hW1 hb3 HCE HCC HLOOK HLOOK1 HPUT HWF HI HB HTLN HOKW HLEN HKCD HRISE HLK
      have hx0 := (HTC.out W1 HBI.out).2.1
      have B5 := Blk.new W1 Z 32
      have hb5 := (Below.refl W1.heap.size W1).alloc (Nat.le_refl _) (.cells Z.toArray 32)
      have TH5 := B5.there 0 31 (by rw [HZL.out]; omega)
      cases hla : kget (wmap (l.take k)) x with
      | none =>
        rw [hla] at hlk
        have HLK := Lib.hid (show (Instr.lookup 53 (.map (some w.heap.size)) (.int .i64 x) true).run Try.prog W1 = .ok (.tuple #[.agg Z.toArray, .bool false]) W1 from hlk)
        have HPN := Lib.hid (HPK.out.1 hla)
        obtain ⟨W2, hW2⟩ : ∃ W2, W2 = (W1.alloc (.cells Z.toArray 32)).setCells W1.heap.size 0 Z := ⟨_, rfl⟩
        have hb6 : Below W1.heap.size W1 W2 := by rw [hW2]; exact below_sets (Nat.le_refl _) _ _ hb5
        have HBI2 := Lib.hid (HBI.out.later hb6)
        have HI3 := Lib.hid (HI2.out.later hb6)
        have HB2 := Lib.hid (HBE.out.trans (hb6.mono HBE.out.size))
        have x1 := (HTC.out W2 HBI2.out).2.1
        have RG := HBI2.out.wholeC
        have HW2 := Lib.hid hW2
        rw [HZZ.out] at TH5
        clear hla hlk HPK B5 hb5 hb6 hW2 HKC
        go_wp2_with (first
          | (refine wpList_load_mid rfl 32 (.tmp 17) rfl b (o + k * 31) rfl TT _ hrg hu rfl (by rw [HTL.out]; exact info_turn) ?_
             simp only [Act.put, List.setIfInBounds_toArray, List.set_cons_zero, List.set_cons_succ])
          | (refine wpList_store_mid rfl 32 (.tmp 5) (.tmp 18) rfl wr.heap.size 0 TT.toArray rfl rfl (by simpa [HTL.out] using TH1) (by simpa [HTL.out] using info_turn) (all_oneCell_toArray HT1.out) ?_
             rw [← HZZ.out, ← HW1.out]
             clear TH1 hrg HT1)
          | (refine wpList_exec (by rfl) (.tuple #[.agg Z.toArray, .bool false]) (exec_lookM2 (.tmp 20) (.tmp 22) rfl x rfl rfl HLK.out) ?_
             simp only [Act.put, List.setIfInBounds_toArray, List.set_cons_zero, List.set_cons_succ])
          | (refine wpList_store_mid rfl 32 (.tmp 6) (.tmp 24) rfl W1.heap.size 0 Z.toArray rfl rfl (by simpa [HZL.out] using TH5) (by simpa [HZL.out] using info_turn) (all_oneCell_toArray HZ1.out) ?_
             rw [← HZZ.out, ← HW2.out]
             clear TH5)
          | (refine wpList_load_mid rfl 32 (.tmp 5) rfl wr.heap.size 0 rfl TT _ RG hu rfl (by rw [HTL.out]; exact info_turn) ?_
             simp only [Act.put, List.setIfInBounds_toArray, List.set_cons_zero, List.set_cons_succ])
          | (refine wpList_putM rfl (.tmp 30) (.tmp 32) (.tmp 33) x rfl HI3.out hkk hmt (by unfold maxLen; omega) rfl rfl HWK.out (.agg TT.toArray) rfl ?_
             intro w4 hI4 hg4
             rw [HPN.out] at hI4
             have HI4 := Lib.hid hI4
             have HB4 := Lib.hid (HB2.out.trans (below_rowM hg4 (Nat.le_refl _) HB2.out.size))
             clear hI4 hg4)
          | fail)
        go_roundw
        case rel => exact ⟨k + 1, by omega, by go_num, HI4, HB4⟩
        case measure => simp [iOf]; omega
      | some f =>
        rw [hla] at hlk
        obtain ⟨FF, hFF⟩ : ∃ FF, FF = tcl f := ⟨_, rfl⟩
        have hfl : FF.length = 31 := by rw [hFF]; exact tcl_len (HKC.out x f hla)
        have hf1 : ∀ v ∈ FF, v.oneCell' = true := by rw [hFF]; exact tcl_one f
        have HLK := Lib.hid (show (Instr.lookup 53 (.map (some w.heap.size)) (.int .i64 x) true).run Try.prog W1 = .ok (.tuple #[.agg FF.toArray, .bool true]) W1 from by rw [hFF]; exact hlk)
        have HPN := Lib.hid (HPK.out.2 f hla)
        obtain ⟨W2, hW2⟩ : ∃ W2, W2 = (W1.alloc (.cells Z.toArray 32)).setCells W1.heap.size 0 FF := ⟨_, rfl⟩
        have hb6 : Below W1.heap.size W1 W2 := by rw [hW2]; exact below_sets (Nat.le_refl _) _ _ hb5
        have BF : Blk W2 W1.heap.size FF := by rw [hW2]; exact B5.whole (by rw [HZL.out, hfl])
        have HBI2 := Lib.hid (HBI.out.later hb6)
        have HB2 := Lib.hid (HBE.out.trans (hb6.mono HBE.out.size))
        have f2 : W2.cell? ⟨W1.heap.size, 2, none⟩ = some (.int .i64 f.old) := by rw [hFF] at BF; exact BF.cell (j := 2) rfl
        have x2 := (HTC.out W2 HBI2.out).2.2.1
        have z2 := HBI2.out.frozen 2
        have HI3 := Lib.hid ((HI2.out.later hb6).setCell (a := ⟨wr.heap.size, 2, none⟩) (by show w.heap.size ≠ wr.heap.size; exact Nat.ne_of_lt HGM.out) (.int .i64 f.old))
        have HBI3 := Lib.hid (HBI2.out.set 2 (.int .i64 f.old))
        have HB3 := Lib.hid (HB2.out.setCell (p := ⟨wr.heap.size, 2, none⟩) (by show w.heap.size ≤ wr.heap.size; exact Nat.le_of_lt HGM.out) (.int .i64 f.old))
        have x1 : (W2.setCell ⟨wr.heap.size, 2, none⟩ (.int .i64 f.old)).cell? ⟨wr.heap.size, 1, none⟩ = some (.int .i64 x) := by
          have := (HTC.out W2 HBI2.out).2.1
          have h2 : TT[1]? = some (.int .i64 x) := HTX.out
          exact HBI3.out.cell (j := 1) (by rw [List.getElem?_set_ne (by omega)]; exact h2)
        have RG := HBI3.out.wholeC
        have HW2 := Lib.hid hW2
        have HFL := Lib.hid hfl
        have HF1 := Lib.hid hf1
        rw [HZZ.out] at TH5
        obtain ⟨T3, hT3⟩ : ∃ T3, T3 = TT.set 2 (.int .i64 f.old) := ⟨_, rfl⟩
        have HT3 := Lib.hid (show T3.length = 31 by rw [hT3, List.length_set, HTL.out])
        rw [← hT3] at RG HPN
        generalize f.old = fo at f2 x1 RG HI3 HB3
        clear hla hlk HPK B5 hb5 hb6 hW2 HKC BF hFF hfl hf1 hT3 HBI3
        go_wp2_with (first
          | (refine wpList_load_mid rfl 32 (.tmp 17) rfl b (o + k * 31) rfl TT _ hrg hu rfl (by rw [HTL.out]; exact info_turn) ?_
             simp only [Act.put, List.setIfInBounds_toArray, List.set_cons_zero, List.set_cons_succ])
          | (refine wpList_store_mid rfl 32 (.tmp 5) (.tmp 18) rfl wr.heap.size 0 TT.toArray rfl rfl (by simpa [HTL.out] using TH1) (by simpa [HTL.out] using info_turn) (all_oneCell_toArray HT1.out) ?_
             rw [← HZZ.out, ← HW1.out]
             clear TH1 hrg HT1)
          | (refine wpList_exec (by rfl) (.tuple #[.agg FF.toArray, .bool true]) (exec_lookM2 (.tmp 20) (.tmp 22) rfl x rfl rfl HLK.out) ?_
             simp only [Act.put, List.setIfInBounds_toArray, List.set_cons_zero, List.set_cons_succ])
          | (refine wpList_store_mid rfl 32 (.tmp 6) (.tmp 24) rfl W1.heap.size 0 FF.toArray rfl rfl (by simpa [HFL.out] using TH5) (by simpa [HFL.out] using info_turn) (all_oneCell_toArray HF1.out) ?_
             rw [← HZZ.out, ← HW2.out]
             clear TH5)
          | (refine wpList_load_mid rfl 32 (.tmp 5) rfl wr.heap.size 0 rfl T3 _ RG hu rfl (by rw [HT3.out]; exact info_turn) ?_
             simp only [Act.put, List.setIfInBounds_toArray, List.set_cons_zero, List.set_cons_succ])
          | (refine wpList_putM rfl (.tmp 30) (.tmp 32) (.tmp 33) x rfl HI3.out hkk hmt (by unfold maxLen; omega) rfl rfl HWK.out (.agg T3.toArray) rfl ?_
             intro w4 hI4 hg4
             rw [HPN.out] at hI4
             have HI4 := Lib.hid hI4
             have HB4 := Lib.hid (HB3.out.trans (below_rowM hg4 (Nat.le_refl _) HB3.out.size))
             clear hI4 hg4)
          | fail)
        go_roundw
        case rel => exact ⟨k + 1, by omega, by go_num, HI4, HB4⟩
        case measure => simp [iOf]; omega
    · obtain rfl : k = n := by omega
      have HI2 : Hid (MapI Try.prog 3 wr w.heap.size k (vmap tv64 (wmap l))) := Lib.hid (by
        have := HI.out
        rwa [List.take_of_length_le (by rw [HN.out]; exact Nat.le_refl _)] at this)
      obtain ⟨K, hK⟩ : ∃ K, K = (wmap l).map (·.1) := ⟨_, rfl⟩
      have HSO := Lib.hid (sortedT_any tv64 w.heap.size k (wmap l) wr HRISE.out HI2.out (by have := HLEN.out; omega))
      rw [← hK] at HSO
      have HKL : Hid (K.length = (wmap l).length) := Lib.hid (by rw [hK, List.length_map])
      have HKX : Hid (∀ j (hj : j < K.length) (hj2 : j < (wmap l).length), K[j] = (wmap l)[j].1) := Lib.hid (fun j hj hj2 => by subst hK; simp)
      have hKn : K.length ≤ k := by rw [hK, List.length_map]; exact HLEN.out
      have HB2 : Hid (Below w.heap.size w (wr.alloc (.cells #[.map (some w.heap.size)] 53))) := Lib.hid (HB.out.alloc HB.out.size _)
      have HI3 := Lib.hid (HI2.out.later ((Below.refl wr.heap.size wr).alloc (Nat.le_refl _) (.cells #[.map (some w.heap.size)] 53)))
      have HAT : Hid (∀ j (hj : j < (wmap l).length), kget (wmap l) (wmap l)[j].1 = some (wmap l)[j].2) := Lib.hid (fun j hj => kget_at HRISE.out hj)
      clear hK HI HB HI2 HCE HTLN HS HWF HPUT HKCD HLOOK HLEN HRISE HN
      go_wp2_with fail
      refine (keysT_any _ _).mono ?_
      rintro e w2 ⟨rfl, rfl⟩
      go_wp2_with fail
      refine HSO.out.mono ?_
      rintro e w3 ⟨A3, c3, rfl, hs3, hc3, hb3⟩
      have HS3 := Lib.hid hs3
      have HB3 := Lib.hid (HB2.out.trans (hb3.mono HB2.out.size))
      have HI4 := Lib.hid (HI3.out.later hb3)
      have HR0 := Lib.hid (World.ownsRow_nil w3 w3.heap.size 49 28)
      obtain ⟨m, hm⟩ : ∃ m, m = K.length := ⟨_, rfl⟩
      rw [← hm] at hc3 hKn
      rw [← hm]
      have HM := Lib.hid hm
      clear hs3 hb3 HB2 HI3 HSO hm
      go_wp2_with fail
      go_loopw [8, 39] (fun v i wr => ∃ (j mm cc : Nat) (AA : Option Addr), j ≤ m ∧ v = .slice AA mm cc ∧ i = .int .i64 (j : Int) ∧ mm ≤ j ∧ Hid (mm = (((wmap l).take j).filterMap pick).length) ∧ Hid (wr.ownsRow w3.heap.size 49 28 (.slice AA mm cc) mm (rws icl (((wmap l).take j).filterMap pick))) ∧ Hid (Below w3.heap.size w3 wr)) (fun _ i _ => m - (iOf i).toNat)
      case atStart => exact ⟨0, 0, 0, none, by omega, rfl, rfl, by omega, Lib.hid rfl, HR0, Lib.hid (Below.refl _ _)⟩
      case round =>
        clear HR0
        obtain ⟨j, mm, cc, AA, hj, rfl, rfl, hmm, HMM, HRW, HBJ⟩ := hrel
        by_cases hlt : j < m
        · have d0 : decide ((j : Int) < (m : Int)) = true := decide_eq_true (by omega)
          have hjk : j < K.length := by rw [← HM.out]; exact hlt
          have hjw : j < (wmap l).length := by rw [← HKL.out]; exact hjk
          have HBW := Lib.hid (HB3.out.trans (HBJ.out.mono HB3.out.size))
          obtain ⟨b2, o2, rfl, hb2, hci⟩ := ((HS3.out.below HBJ.out).more HBJ.out.size) (by rw [List.length_map]; omega)
          have hkc : wr.cell? ⟨b2, o2 + j, none⟩ = some (.int .i64 K[j]) := by
            have := hci j (by simpa using hjk)
            simpa using this
          have HI5 := Lib.hid (HI4.out.later HBJ.out)
          have HOK := Lib.hid (HOKW.out j hjw)
          have HLK : Hid ((Instr.lookup 53 (.map (some w.heap.size)) (.int .i64 K[j]) false).run Try.prog wr = .ok (.agg (tcl (wmap l)[j].2).toArray) wr) := Lib.hid (by
            rw [HKX.out j hjk hjw]
            exact HLOOK1.out wr w.heap.size k (wmap l) _ _ HI5.out HOK.out.2 (HAT.out j hjw))
          have HPT := Lib.hid (pick_take hjw)
          generalize K[j] = x at hkc HLK
          have HOK1 := Lib.hid HOK.out.1
          have HPN : Hid ((wmap l)[j].2.old = (wmap l)[j].2.nw → ((wmap l).take (j + 1)).filterMap pick = ((wmap l).take j).filterMap pick) := Lib.hid (fun e => by
            rw [HPT.out]; unfold pick; rw [if_pos e]; simp)
          have HPY : Hid ((wmap l)[j].2.old ≠ (wmap l)[j].2.nw → ((wmap l).take (j + 1)).filterMap pick = ((wmap l).take j).filterMap pick ++ [itm (wmap l)[j].2]) := Lib.hid (fun e => by
            rw [HPT.out]; unfold pick; rw [if_neg e])
          generalize (wmap l)[j].2 = u at HLK HOK1 HPN HPY
          obtain ⟨UU, hUU⟩ : ∃ UU, UU = tcl u := ⟨_, rfl⟩
          have hul : UU.length = 31 := by rw [hUU]; exact tcl_len HOK1.out
          have hu1 : ∀ v ∈ UU, v.oneCell' = true := by rw [hUU]; exact tcl_one u
          have HIT := Lib.hid (fun wx => item_any u wx HOK1.out)
          rw [← hUU] at HLK HIT
          have B1 := Blk.new wr Z 32
          have hb5 := (Below.refl wr.heap.size wr).alloc (Nat.le_refl _) (.cells Z.toArray 32)
          have TH1 := B1.there 0 31 (by rw [HZL.out]; omega)
          obtain ⟨W1, hW1⟩ : ∃ W1, W1 = (wr.alloc (.cells Z.toArray 32)).setCells wr.heap.size 0 UU := ⟨_, rfl⟩
          have BU : Blk W1 wr.heap.size UU := by rw [hW1]; exact B1.whole (by rw [HZL.out, hul])
          have hb6 : Below wr.heap.size wr W1 := by rw [hW1]; exact below_sets (Nat.le_refl _) _ _ hb5
          have u2 : W1.cell? ⟨wr.heap.size, 2, none⟩ = some (.int .i64 u.old) := by rw [hUU] at BU; exact BU.cell (j := 2) rfl
          have u3 : W1.cell? ⟨wr.heap.size, 3, none⟩ = some (.int .i64 u.nw) := by rw [hUU] at BU; exact BU.cell (j := 3) rfl
          have RG := BU.wholeC
          have HBJ1 := Lib.hid (HBJ.out.trans (hb6.mono HBJ.out.size))
          have HRW1 := Lib.hid (row_later HRW.out hb6)
          have HW1 := Lib.hid hW1
          have HUL := Lib.hid hul
          have HU1 := Lib.hid hu1
          have HIO : Hid (okCd (itm u).cd) := Lib.hid (okCd_itm HOK1.out)
          generalize u.old = y at HPN HPY u2
          generalize u.nw = z at HPN HPY u3
          rw [HZZ.out] at TH1
          clear hUU hul hu1 B1 hb5 hW1 BU hb6 HPT HOK HKX HLOOK1 HOKW HAT HI5 HBJ HRW hci HBW
          by_cases hyz : y = z
          · have dy : decide (y = z) = true := decide_eq_true hyz
            have dy' : (y != z) = false := by simpa using hyz
            have HG := Lib.hid (HPN.out hyz)
            clear hyz HPN HPY HIT
            go_wp2_with (first
              | (refine wpList_exec (by rfl) (.agg UU.toArray) (exec_lookM1 (.tmp 43) (.tmp 44) rfl x rfl rfl HLK.out) ?_
                 simp only [Act.put, List.setIfInBounds_toArray, List.set_cons_zero, List.set_cons_succ])
              | (refine wpList_store_mid rfl 32 (.tmp 11) (.tmp 45) rfl wr.heap.size 0 UU.toArray rfl rfl (by simpa [HUL.out] using TH1) (by simpa [HUL.out] using info_turn) (all_oneCell_toArray HU1.out) ?_
                 rw [← HZZ.out, ← HW1.out]
                 clear TH1)
              | fail)
            go_roundw
            case rel => exact ⟨j + 1, mm, cc, AA, by omega, rfl, by go_num, by omega, Lib.hid (by rw [HG.out]; exact HMM.out), Lib.hid (by rw [HG.out]; exact HRW1.out), HBJ1⟩
            case measure => simp [iOf]; omega
          · have dy : decide (y = z) = false := decide_eq_false hyz
            have dy' : (y != z) = true := by simpa using hyz
            have HG := Lib.hid (HPY.out hyz)
            clear hyz HPN HPY
            go_wp2_with (first
              | (refine wpList_exec (by rfl) (.agg UU.toArray) (exec_lookM1 (.tmp 43) (.tmp 44) rfl x rfl rfl HLK.out) ?_
                 simp only [Act.put, List.setIfInBounds_toArray, List.set_cons_zero, List.set_cons_succ])
              | (refine wpList_store_mid rfl 32 (.tmp 11) (.tmp 45) rfl wr.heap.size 0 UU.toArray rfl rfl (by simpa [HUL.out] using TH1) (by simpa [HUL.out] using info_turn) (all_oneCell_toArray HU1.out) ?_
                 rw [← HZZ.out, ← HW1.out]
                 clear TH1)
              | (refine wpList_load_mid rfl 32 (.tmp 11) rfl wr.heap.size 0 rfl UU _ RG hu rfl (by rw [HUL.out]; exact info_turn) ?_
                 simp only [Act.put, List.setIfInBounds_toArray, List.set_cons_zero, List.set_cons_succ])
              | fail)
            refine (HIT.out _).mono ?_
            rintro e w5 ⟨rfl, hb7⟩
            have HBJ2 := Lib.hid (HBJ1.out.trans (hb7.mono HBJ1.out.size))
            have HRW2 := Lib.hid (row_later HRW1.out hb7)
            have HEX := Lib.hid (fun (a : Act) (op : Oper) (y : Operand) (ho : op.op = .buildSlice 36 1 #[(0, y)]) (hy : a.eval y = .agg (icl (itm u)).toArray) => exec_is1 (a := a) (op := op) y ho (itm u) HIO.out hy w5)
            obtain ⟨X, hX⟩ : ∃ X, X = icl (itm u) := ⟨_, rfl⟩
            have hxl : X.length = 28 := by rw [hX]; exact icl_len HIO.out
            have hx1 : ∀ v ∈ X, v.oneCell' = true := by rw [hX]; exact icl_one _
            rw [← hX] at HEX
            rw [← hX]
            have B7 := Blk.new w5 X 49
            have hb8 := (Below.refl w5.heap.size w5).alloc (Nat.le_refl _) (.cells X.toArray 49)
            obtain ⟨W7, hW7⟩ : ∃ W7, W7 = w5.alloc (.cells X.toArray 49) := ⟨_, rfl⟩
            rw [← hW7] at B7 hb8 HEX
            have HRW3 := Lib.hid (row_later HRW2.out hb8)
            have HBJ3 := Lib.hid (HBJ2.out.trans (hb8.mono HBJ2.out.size))
            have HS7 : Hid (Sees W7 W7.heap.size (some ⟨w5.heap.size, 0, none⟩) X) := Lib.hid (fun _ => ⟨w5.heap.size, 0, rfl, B7.lt, fun j hj => by rw [Nat.zero_add]; exact B7.cell (List.getElem?_eq_getElem hj)⟩)
            have HZ7 := Lib.hid HBJ3.out.size
            have HRN : Hid (rws icl (((wmap l).take j).filterMap pick) ++ X = rws icl (((wmap l).take (j + 1)).filterMap pick)) := Lib.hid (by rw [HG.out, rws_append, rws_one, hX])
            have HLN : Hid (mm + 1 = (((wmap l).take (j + 1)).filterMap pick).length) := Lib.hid (by rw [HG.out, List.length_append, ← HMM.out]; rfl)
            have HXL := Lib.hid hxl
            have HX1 := Lib.hid hx1
            clear hb7 hX hxl hx1 B7 hb8 hW7 HIT RG u2 u3 hkc HLK HBJ1 HRW1 HBJ2 HRW2 HW1
            go_wp2_with (first
              | (refine wpList_execx (by rfl) (.slice (some ⟨w5.heap.size, 0, none⟩) 1 1) (HEX.out _ _ (.tmp 53) rfl rfl) ?_
                 simp only [Act.put, List.setIfInBounds_toArray, List.set_cons_zero, List.set_cons_succ])
              | (at_builtin
                 refine wpList_appk _ rfl (.tmp 51) (.tmp 54) 36 rfl w3.heap.size 49 i1 _ 28 288 Try.underlying36 ji jz0 jz1 jz2 rfl (by decide) (.slice AA mm cc) mm (rws icl (((wmap l).take j).filterMap pick)) rfl HRW3.out _ (some ⟨w5.heap.size, 0, none⟩) 1 X 1 rfl (by rw [HXL.out]) HS7.out HX1.out (by unfold maxLen; omega) (by omega) HZ7.out ?_
                 intro A9 c9 w9 hr9 hb9 hg9 hat9
                 rw [HRN.out] at hr9
                 have HR9 := Lib.hid hr9
                 have HB9 := Lib.hid (HBJ3.out.trans hb9)
                 clear hr9 hg9 hat9 hb9)
              | fail)
            go_roundw
            case rel => exact ⟨j + 1, mm + 1, c9, A9, by omega, rfl, by go_num, by omega, HLN, HR9, HB9⟩
            case measure => simp [iOf]; omega
        · obtain rfl : j = m := by omega
          have HF : Hid (GivesS w (net l) (.returned (.slice AA mm cc)) wr) := Lib.hid (by
            have h1 := HRW.out
            have h2 := HMM.out
            rw [List.take_of_length_le (by have := HKL.out; have := HM.out; omega)] at h1 h2
            refine ⟨AA, cc, by unfold net; rw [← h2], ?_, HB3.out.trans (HBJ.out.mono HB3.out.size)⟩
            unfold net
            rw [← h2]
            exact SeesR.of_row h1 h2.symm (row_capi h1))
          clear HRW HMM HKL HM HBJ HLOOK1 HOKW HAT HKX HS3 HI4
          go_wp2_with fail
          go_ret
          exact HF.out
end Go.Proofs.Ytepefocpeeihdaa

/- Turns: the chapter's example. -/
namespace Go.Proofs.Ytepefocpeeihdaa
set_option linter.unusedVariables false
set_option linter.unusedSimpArgs false
open Go Go.RowKit BitM

theorem run_cw (i v : Int) (w : World) : (Instr.build 30 #[(0, .int .i64 i), (1, .int .i64 v)]).run Try.prog w = .ok (.agg (ccl (i, v, 0, zeros)).toArray) w := by kernel_rfl
theorem exec_cw {a : Act} {op : Oper} (x y : Operand) (ho : op.op = .build 30 #[(0, x), (1, y)]) (i v : Int) (hx : a.eval x = .int .i64 i) (hy : a.eval y = .int .i64 v) (w : World) : (execOp a.eval op).run Try.prog w = .ok (.value (.agg (ccl (i, v, 0, zeros)).toArray)) w := by
  unfold execOp
  simp only [ho, List.map_toArray, List.map_cons, List.map_nil, hx, hy, Sem.run_bind, run_cw, Result.andThen_ok, Sem.run_pure]
theorem run_tw (sq id nw : Int) (c : Cd) (h : okCd c) (w : World) : (Instr.build 32 #[(0, .int .i64 sq), (1, .int .i64 id), (3, .int .i64 nw), (4, .agg (ccl c).toArray)]).run Try.prog w = .ok (.agg (tcl ⟨sq, id, 0, nw, c⟩).toArray) w := by
  obtain ⟨i, v, lb, f⟩ := c
  obtain ⟨⟨_, _, _⟩, ⟨_, _, _⟩, ⟨_, _, _⟩, ⟨_, _, _⟩, ⟨_, _, _⟩, ⟨_, _, _⟩, ⟨_, _, _⟩, ⟨_, _, _⟩, e⟩ := tr_eight (show f.length = 8 from h)
  subst e
  kernel_rfl
theorem exec_tw {a : Act} {op : Oper} (x y z u : Operand) (ho : op.op = .build 32 #[(0, x), (1, y), (3, z), (4, u)]) (sq id nw : Int) (c : Cd) (h : okCd c) (hx : a.eval x = .int .i64 sq) (hy : a.eval y = .int .i64 id) (hz : a.eval z = .int .i64 nw) (hu : a.eval u = .agg (ccl c).toArray) (w : World) :
    (execOp a.eval op).run Try.prog w = .ok (.value (.agg (tcl ⟨sq, id, 0, nw, c⟩).toArray)) w := by
  unfold execOp
  simp only [ho, List.map_toArray, List.map_cons, List.map_nil, hx, hy, hz, hu, Sem.run_bind, run_tw sq id nw c h, Result.andThen_ok, Sem.run_pure]
theorem run_ts2 (s t : Tn) (hs : okCd s.cd) (ht : okCd t.cd) (w : World) : (Instr.buildSlice 22 2 #[(0, .agg (tcl s).toArray), (1, .agg (tcl t).toArray)]).run Try.prog w = .ok (.slice (some ⟨w.heap.size, 0, none⟩) 2 2) (w.alloc (.cells (rws tcl [s, t]).toArray 32)) := by
  obtain ⟨_, _, _, _, i, v, lb, f⟩ := s
  obtain ⟨_, _, _, _, i2, v2, lb2, f2⟩ := t
  obtain ⟨⟨_, _, _⟩, ⟨_, _, _⟩, ⟨_, _, _⟩, ⟨_, _, _⟩, ⟨_, _, _⟩, ⟨_, _, _⟩, ⟨_, _, _⟩, ⟨_, _, _⟩, e⟩ := tr_eight (show f.length = 8 from hs)
  obtain ⟨⟨_, _, _⟩, ⟨_, _, _⟩, ⟨_, _, _⟩, ⟨_, _, _⟩, ⟨_, _, _⟩, ⟨_, _, _⟩, ⟨_, _, _⟩, ⟨_, _, _⟩, e2⟩ := tr_eight (show f2.length = 8 from ht)
  subst e e2
  kernel_rfl
theorem exec_ts2 {a : Act} {op : Oper} (x y : Operand) (ho : op.op = .buildSlice 22 2 #[(0, x), (1, y)]) (s t : Tn) (hs : okCd s.cd) (ht : okCd t.cd) (hx : a.eval x = .agg (tcl s).toArray) (hy : a.eval y = .agg (tcl t).toArray) (w : World) :
    (execOp a.eval op).run Try.prog w = .ok (.value (.slice (some ⟨w.heap.size, 0, none⟩) 2 2)) (w.alloc (.cells (rws tcl [s, t]).toArray 32)) := by
  unfold execOp
  simp only [ho, List.map_toArray, List.map_cons, List.map_nil, hx, hy, Sem.run_bind, run_ts2 s t hs ht, Result.andThen_ok, Sem.run_pure]
theorem info_trn : ∃ i0, Try.prog.info? 32 = some i0 ∧ i0.size = 31 := by
  have h := info_turn
  cases hi : Try.prog.info? 32 with
  | none => rw [hi] at h; cases h
  | some i0 => rw [hi] at h; exact ⟨i0, rfl, by simpa using h⟩
def exA : Tn := ⟨3, 1, 0, 2, (1, 2, 0, zeros)⟩
def exB : Tn := ⟨4, 1, 2, 0, zcd⟩
theorem ex_goes : goes [exA, exB] = true := by decide +kernel
theorem ex_net2 : (net [exA, exB]).length = 0 := by decide +kernel
theorem ex_net1 : (net [exA]).length = 1 := by decide +kernel
theorem zc27a : (ccl zcd).toArray = #[Value.int .i64 0, .int .i64 0, .int .u32 0, .int .i64 0, .int .i64 0, .string { data := #[] }, .int .i64 0, .int .i64 0, .string { data := #[] }, .int .i64 0, .int .i64 0, .string { data := #[] }, .int .i64 0, .int .i64 0, .string { data := #[] }, .int .i64 0, .int .i64 0, .string { data := #[] }, .int .i64 0, .int .i64 0, .string { data := #[] }, .int .i64 0, .int .i64 0, .string { data := #[] }, .int .i64 0, .int .i64 0, .string { data := #[] }] := rfl
set_option maxRecDepth 100000 in
set_option maxHeartbeats 3200000 in
theorem tr_awake (w : World) : Calls Try.prog 8 #[] w fun e w' => e = .returned (.bool true) ∧ Below w.heap.size w w' := by
  have huc := Try.underlying30
  obtain ⟨i1, ji, jz1⟩ := info_trn
  obtain ⟨Z, hZ⟩ : ∃ Z, Z = ccl zcd := ⟨_, rfl⟩
  have HZL := Lib.hid (show Z.length = 27 by rw [hZ]; rfl)
  have HZZ : Hid (Z.toArray = #[Value.int .i64 0, .int .i64 0, .int .u32 0, .int .i64 0, .int .i64 0, .string { data := #[] }, .int .i64 0, .int .i64 0, .string { data := #[] }, .int .i64 0, .int .i64 0, .string { data := #[] }, .int .i64 0, .int .i64 0, .string { data := #[] }, .int .i64 0, .int .i64 0, .string { data := #[] }, .int .i64 0, .int .i64 0, .string { data := #[] }, .int .i64 0, .int .i64 0, .string { data := #[] }, .int .i64 0, .int .i64 0, .string { data := #[] }]) := Lib.hid (by rw [hZ]; exact zc27a)
  obtain ⟨CC, hCC⟩ : ∃ CC, CC = ccl (1, 2, 0, zeros) := ⟨_, rfl⟩
  have HCL := Lib.hid (show CC.length = 27 by rw [hCC]; rfl)
  have HC1 := Lib.hid (show ∀ v ∈ CC, v.oneCell' = true by rw [hCC]; exact ccl_one _)
  have B0 := Blk.new w Z 30
  have hb0 := (Below.refl w.heap.size w).alloc (Nat.le_refl _) (.cells Z.toArray 30)
  have TH0 := B0.there 0 27 (by rw [HZL.out]; omega)
  obtain ⟨W1, hW1⟩ : ∃ W1, W1 = (w.alloc (.cells Z.toArray 30)).setCells w.heap.size 0 CC := ⟨_, rfl⟩
  have B1 : Blk W1 w.heap.size CC := by rw [hW1]; exact B0.whole (by rw [HZL.out, HCL.out])
  have hb1 : Below w.heap.size w W1 := by rw [hW1]; exact below_sets (Nat.le_refl _) _ _ hb0
  have RG := B1.wholeC
  obtain ⟨TA, hTA⟩ : ∃ TA, TA = tcl exA := ⟨_, rfl⟩
  obtain ⟨TB, hTB⟩ : ∃ TB, TB = tcl exB := ⟨_, rfl⟩
  have HEC : Hid (∀ (a : Act) (op : Oper) (x y : Operand), op.op = .build 30 #[(0, x), (1, y)] → a.eval x = .int .i64 1 → a.eval y = .int .i64 2 → ∀ w, (execOp a.eval op).run Try.prog w = .ok (.value (.agg CC.toArray)) w) := Lib.hid (fun a op x y ho hx hy w => by rw [hCC]; exact exec_cw x y ho 1 2 hx hy w)
  have HEA : Hid (∀ (a : Act) (op : Oper) (x y z u : Operand), op.op = .build 32 #[(0, x), (1, y), (3, z), (4, u)] → a.eval x = .int .i64 3 → a.eval y = .int .i64 1 → a.eval z = .int .i64 2 → a.eval u = .agg CC.toArray → ∀ w, (execOp a.eval op).run Try.prog w = .ok (.value (.agg TA.toArray)) w) := Lib.hid (fun a op x y z u ho hx hy hz hu w => by rw [hTA]; exact exec_tw x y z u ho 3 1 2 (1, 2, 0, zeros) rfl hx hy hz (by rw [hu, hCC]) w)
  have HEB : Hid (∀ (a : Act) (op : Oper) (x y z : Operand), op.op = .build 32 #[(0, x), (1, y), (2, z)] → a.eval x = .int .i64 4 → a.eval y = .int .i64 1 → a.eval z = .int .i64 2 → ∀ w, (execOp a.eval op).run Try.prog w = .ok (.value (.agg TB.toArray)) w) := Lib.hid (fun a op x y z ho hx hy hz w => by rw [hTB]; exact exec_turn x y z ho 4 1 2 hx hy hz w)
  obtain ⟨L2, hL2⟩ : ∃ L2, L2 = rws tcl [exA, exB] := ⟨_, rfl⟩
  have HES : Hid (∀ (a : Act) (op : Oper) (x y : Operand), op.op = .buildSlice 22 2 #[(0, x), (1, y)] → a.eval x = .agg TA.toArray → a.eval y = .agg TB.toArray → ∀ w, (execOp a.eval op).run Try.prog w = .ok (.value (.slice (some ⟨w.heap.size, 0, none⟩) 2 2)) (w.alloc (.cells L2.toArray 32))) := Lib.hid (fun a op x y ho hx hy w => by
    rw [hL2]
    exact exec_ts2 x y ho exA exB rfl rfl (by rw [hx, hTA]) (by rw [hy, hTB]) w)
  obtain ⟨W2, hW2⟩ : ∃ W2, W2 = W1.alloc (.cells L2.toArray 32) := ⟨_, rfl⟩
  have B2 : Blk W2 W1.heap.size L2 := by rw [hW2]; exact Blk.new W1 L2 _
  have hb2 : Below w.heap.size w W2 := by rw [hW2]; exact hb1.alloc hb1.size _
  have hok2 : ∀ t ∈ [exA, exB], okCd t.cd := by
    intro t ht
    simp only [List.mem_cons, List.not_mem_nil, or_false] at ht
    rcases ht with rfl | rfl <;> rfl
  have hok1 : ∀ t ∈ [exA], okCd t.cd := fun t ht => hok2 t (by simp at ht; subst ht; simp)
  have hwf2 : ∀ t ∈ [exA, exB], (Lit.int .i64 t.id).wf = true := by
    intro t ht
    simp only [List.mem_cons, List.not_mem_nil, or_false] at ht
    rcases ht with rfl | rfl <;> exact wf_small ⟨by decide, by decide⟩
  have hwf1 : ∀ t ∈ [exA], (Lit.int .i64 t.id).wf = true := fun t ht => hwf2 t (by simp at ht; subst ht; simp)
  have HS2 : Hid (∀ W, Below W2.heap.size W2 W → SeesR tcl W (some ⟨W1.heap.size, 0, none⟩) 2 2 [exA, exB]) := Lib.hid (fun W hW => by
    have : SeesR tcl W2 (some ⟨W1.heap.size, 0, none⟩) 2 2 [exA, exB] := ⟨rfl, by omega, by simp [maxLen], fun _ => ⟨W1.heap.size, 0, rfl, B2.lt, fun j hj => by rw [Nat.zero_add]; exact B2.cell (by rw [hL2]; exact List.getElem?_eq_getElem hj)⟩⟩
    exact this.later hW)
  obtain ⟨ad, hrun, hcut⟩ := rowcut_h (P := Try.prog) 22 32 i1 31 Try.underlying22 ji jz1 ⟨W1.heap.size, 0, none⟩ 2 1 2 1 .i64 (by omega) rfl (by omega)
  have HRUN := Lib.hid hrun
  have HS1 : Hid (∀ W, Below W2.heap.size W2 W → SeesR tcl W (some ad) 1 2 [exA]) := Lib.hid (fun W hW => ⟨rfl, by omega, by simp [maxLen], by
    have := hcut W W.heap.size _ (HS2.out W hW).see
    rw [show (1 * 31 : Nat) = 1 * 31 from rfl, rws_take (sz := 31) [exA, exB] 1 (tcl_lens hok2)] at this
    exact this⟩)
  have HG := Lib.hid (fun W hW => goes_any _ 2 2 [exA, exB] W (HS2.out W hW) hok2 (by omega))
  rw [ex_goes] at HG
  have HN2 := Lib.hid (fun W hW => nets_any _ 2 2 [exA, exB] W (HS2.out W hW) hok2 hwf2 (by omega))
  have HN1 := Lib.hid (fun W hW => nets_any _ 1 2 [exA] W (HS1.out W hW) hok1 hwf1 (by omega))
  have HB2 := Lib.hid hb2
  have HW1 := Lib.hid hW1
  have HW2 := Lib.hid hW2
  rw [HZZ.out] at TH0
  clear hZ hCC B0 hb0 hW1 B1 hb1 hTA hTB hL2 hW2 B2 hb2 hok2 hok1 hwf2 hwf1 hrun hcut
  go_enter Try.func8, Try.ntmps8
  go_wp2_with (first
    | (refine wpList_exec (by rfl) (.agg CC.toArray) (HEC.out _ _ (.const (.int .i64 1)) (.const (.int .i64 2)) rfl rfl rfl _) ?_
       simp only [Act.put, List.setIfInBounds_toArray, List.set_cons_zero, List.set_cons_succ])
    | (refine wpList_store_mid rfl 30 (.tmp 1) (.tmp 3) rfl w.heap.size 0 CC.toArray rfl rfl (by simpa [HCL.out] using TH0) (by simpa [HCL.out] using info_card) (all_oneCell_toArray HC1.out) ?_
       rw [← HZZ.out, ← HW1.out]
       clear TH0)
    | (refine wpList_load_mid rfl 30 (.tmp 1) rfl w.heap.size 0 rfl CC _ RG huc rfl (by rw [HCL.out]; exact info_card) ?_
       simp only [Act.put, List.setIfInBounds_toArray, List.set_cons_zero, List.set_cons_succ])
    | (refine wpList_exec (by rfl) (.agg TA.toArray) (HEA.out _ _ (.const (.int .i64 3)) (.const (.int .i64 1)) (.const (.int .i64 2)) (.tmp 4) rfl rfl rfl rfl rfl _) ?_
       simp only [Act.put, List.setIfInBounds_toArray, List.set_cons_zero, List.set_cons_succ])
    | (refine wpList_exec (by rfl) (.agg TB.toArray) (HEB.out _ _ (.const (.int .i64 4)) (.const (.int .i64 1)) (.const (.int .i64 2)) rfl rfl rfl rfl _) ?_
       simp only [Act.put, List.setIfInBounds_toArray, List.set_cons_zero, List.set_cons_succ])
    | (refine wpList_execx (by rfl) (.slice (some ⟨W1.heap.size, 0, none⟩) 2 2) (HES.out _ _ (.tmp 5) (.tmp 6) rfl rfl rfl _) ?_
       rw [← HW2.out]
       simp only [Act.put, List.setIfInBounds_toArray, List.set_cons_zero, List.set_cons_succ])
    | fail)
  refine (HG.out W2 (Below.refl _ _)).mono ?_
  rintro e w3 ⟨rfl, hb3⟩
  have HB3 := Lib.hid hb3
  clear hb3 HG RG
  go_wp2_with fail
  refine (HN2.out w3 HB3.out).mono ?_
  rintro e w4 ⟨A4, c4, rfl, _, hb4⟩
  have HB4 := Lib.hid (HB3.out.trans (hb4.mono HB3.out.size))
  clear hb4 HN2
  rw [ex_net2]
  go_wp2_with (first
    | (refine wpList_exec (by rfl) (.slice (some ad) 1 2) (exec_slice_h 22 (.tmp 17) (.const (.int .i64 1)) rfl 32 Try.underlying22 _ _ _ rfl rfl HRUN.out) ?_
       simp only [Act.put, List.setIfInBounds_toArray, List.set_cons_zero, List.set_cons_succ])
    | fail)
  refine (HN1.out w4 HB4.out).mono ?_
  rintro e w5 ⟨A5, c5, rfl, _, hb5⟩
  have HB5 := Lib.hid (HB2.out.trans ((HB4.out.trans (hb5.mono HB4.out.size)).mono HB2.out.size))
  clear hb5 HN1
  rw [ex_net1]
  go_wp2_with fail
  go_ret
  exact ⟨rfl, HB5.out⟩
end Go.Proofs.Ytepefocpeeihdaa

/- TransOnce: the law's walk. -/
namespace Go.Proofs.Ytepefocpeeihdaa
set_option linter.unusedVariables false
set_option linter.unusedSimpArgs false
open Go Go.RowKit BitM

end Go.Proofs.Ytepefocpeeihdaa
