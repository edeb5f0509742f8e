/- The program's Done: what is left, what is dropped. -/
import Derived.Test.YtjlpccdlpgkgoaaQeC
namespace Go.Proofs.Ytjlpccdlpgkgoaa
set_option linter.unusedVariables false
set_option linter.unusedSimpArgs false
open Go Go.RowKit Go.Shelf BitM

/-- s[k:] of elements of any size. -/
theorem cutd_fact {P : Program} (t e : TypeId) (i : TypeInfo) (size : Nat) (ht : P.underlying t = some (.slice e)) (hi : P.info? e = some i) (hsz : i.size = size) {w : World} {B : Nat} {A : Option Addr} {xs : List Value} (h : Sees w B A xs)
    (n k m c : Nat) (K : Int) (kl : IntKind) (hn : xs.length = n * size) (hkm : n = k + m) (hK : K = (k : Int)) (hc : n ≤ c) :
    ∃ A2, (∀ wx, (Instr.slice t (.slice A n c) (some (.int kl K)) none none).run P wx = .ok (.slice A2 m (c - k)) wx) ∧ Sees w B A2 (xs.drop (k * size)) := by
  refine ⟨if c = k then A else A.map (·.add (k * size)), fun wx => ?_, ?_⟩
  · have he : P.elem t = e := by simp [Program.elem, ht]
    have ht' : P.underlying t = some (.slice (P.elem t)) := by rw [he]; exact ht
    rw [run_slice_l wx t A n c ht' kl K (by omega) (by omega), he]
    have hm : n - k = m := by omega
    simp [sizeOf, typeInfo, hi, hsz, sliced, hK, hm]
  · intro hx
    rw [List.length_drop] at hx
    have hm : 0 < m := by
      rcases Nat.eq_zero_or_pos m with h0 | h0
      · rw [hn, hkm, h0, Nat.add_zero, Nat.sub_self] at hx; omega
      · exact h0
    obtain ⟨b, o, rfl, hb, hcell⟩ := h (by omega)
    rw [if_neg (by omega)]
    refine ⟨b, o + k * size, by simp [Addr.add], hb, fun j hj => ?_⟩
    rw [List.length_drop] at hj
    rw [Nat.add_assoc, hcell (k * size + j) (by omega)]
    simp
/-- Two rows that lie in blocks of their own. -/
def Apart (u v : Value) : Prop := u.ownBlock = none ∨ v.ownBlock = none ∨ u.ownBlock ≠ v.ownBlock
theorem Apart.symm {u v : Value} (h : Apart u v) : Apart v u := h.elim (fun a => .inr (.inl a)) (fun h => h.elim (fun a => .inl a) (fun a => .inr (.inr fun e => a e.symm)))
theorem Apart.keep {u v : Value} (h : Apart u v) {w w' : World} {base : Nat} {e : TypeId} {size n : Nat} {xs : List Value} (hr : w.ownsRow base e size u n xs) (hg : w.grownBy w' v.ownBlock) : w'.ownsRow base e size u n xs := by
  refine World.ownsRow.kept hr hg ?_
  rcases h with h | h | h
  · exact .inl h
  · by_cases hu : u.ownBlock = none
    · exact .inl hu
    · exact .inr (by rw [h]; exact hu)
  · exact .inr h
theorem Apart.next {u v v' : Value} (h : Apart u v) {w : World} {base : Nat} {e : TypeId} {size n : Nat} {xs : List Value} (hr : w.ownsRow base e size u n xs) (hat : v'.ownBlock = v.ownBlock ∨ v'.ownBlock = some w.heap.size) : Apart u v' := by
  rcases hat with ha | ha
  · rcases h with h | h | h
    · exact .inl h
    · exact .inr (.inl (by rw [ha]; exact h))
    · exact .inr (.inr (by rw [ha]; exact h))
  · by_cases hu : u.ownBlock = none
    · exact .inl hu
    · refine .inr (.inr fun e => ?_)
      rw [ha] at e
      have := (hr.lt _ e).2
      omega
theorem wpList_bs1 {T L : TypeId} {P : Program} {ops : Array Oper} {rest : List Oper} {o : Oper} {a : Act} {w : World} {Q : Exit → Act → World → Prop} (hg : o.guard = none) (y : Operand) (cs : Array Value) (ho : o.op = .buildSlice L 1 #[(0, y)]) (hx : a.eval y = .agg cs)
    (hrun : (Instr.buildSlice L 1 #[(0, .agg cs)]).run P w = .ok (.slice (some ⟨w.heap.size, 0, none⟩) 1 1) (w.alloc (.cells cs T)))
    (h : wpList P ops Q rest (a.put o.dst (.slice (some ⟨w.heap.size, 0, none⟩) 1 1)) (w.alloc (.cells cs T))) : wpList P ops Q (o :: rest) a w := by
  refine wpList_plain hg fun K hK => ?_
  unfold Oper.wp execOp
  simp only [ho, List.map_toArray, List.map_cons, List.map_nil, hx, Sem.run_bind, hrun, Result.andThen_ok, Sem.run_pure]
  exact hK _ _ h

/-- What Done gives. -/
def GivesDone (w : World) (T : TypeId) (left gone : List Wr) : Ending → World → Prop := fun e w' => ∃ Al cl Ag cg, e = .returned (.tuple #[.slice Al left.length cl, .slice Ag gone.length cg]) ∧
  w'.ownsRow w.heap.size T 28 (.slice Al left.length cl) left.length (wrs left) ∧ w'.ownsRow w.heap.size T 28 (.slice Ag gone.length cg) gone.length (wrs gone) ∧ Below w.heap.size w w'
set_option maxRecDepth 100000 in
set_option maxHeartbeats 3200000 in
theorem done_ok (A : Option Addr) (n c : Nat) (l : List Wr) (w : World) (hn : l.length = n) (hw : Whole l) (hs : Sees w w.heap.size A (wrs l)) (hc : n ≤ c) (hm : n ≤ 65536) (hpos : 0 < n) :
    Calls Try.prog 11 #[.slice A n c, .bool true] w (GivesDone w 55 (l.drop 1) []) := by
  obtain ⟨i1, ji, jz0, jz1, jz2⟩ := info_parts info_qwd
  obtain ⟨m, hm1⟩ : ∃ m, m = (l.drop 1).length := ⟨_, rfl⟩
  have hnm : n = 1 + m := by rw [hm1, List.length_drop]; omega
  obtain ⟨A2, hsl, hse⟩ := cutd_fact 25 55 i1 28 Try.underlying25 ji jz1 hs n 1 m c 1 .i64 (by rw [wrs_len hw, hn]) hnm rfl hc
  have hcl := clone_wrs A2 m (c - 1) (l.drop 1) w hm1.symm (hw.drop 1) (by
    have e : (wrs l).drop (1 * 28) = wrs (l.drop 1) := fm_drop l 1 hw.len
    rwa [e] at hse) (by omega)
  unfold GivesWrs at hcl
  rw [← hm1] at hcl
  have HCL := Lib.hid hcl
  have HM1 := Lib.hid hm1
  clear hcl hm1 hnm
  have d0 : ((n : Int) == 0) = false := by simp; omega
  clear hse hs jz0 jz1 jz2 ji
  go_enter Try.func11, Try.ntmps11
  go_wp2_with fail
  refine HCL.out.mono ?_
  rintro e w1 ⟨A', c', rfl, ho, hb⟩
  go_wp2_with fail
  exact bodyPost_ret (results_tmp2 rfl _ _ _) rfl ⟨A', c', none, 0, by rw [← HM1.out]; rfl, by rw [← HM1.out]; exact ho, World.ownsRow_nil _ _ _ _, hb⟩
theorem done_none (A : Option Addr) (c : Nat) (ok : Bool) (w : World) : Calls Try.prog 11 #[.slice A 0 c, .bool ok] w (GivesDone w 55 [] []) := by
  go_enter Try.func11, Try.ntmps11
  go_wp2_with fail
  exact bodyPost_ret (results_tmp2 rfl _ _ _) rfl ⟨none, 0, none, 0, rfl, World.ownsRow_nil _ _ _ _, World.ownsRow_nil _ _ _ _, Below.refl _ _⟩
set_option maxRecDepth 100000 in
set_option maxHeartbeats 8000000 in
theorem done_not (A : Option Addr) (n c : Nat) (l : List Wr) (w : World) (hn : l.length = n) (hw : Whole l) (hs : Sees w w.heap.size A (wrs l)) (hm : n ≤ 65536) (hpos : 0 < l.length) :
    Calls Try.prog 11 #[.slice A n c, .bool false] w (GivesDone w 55 (rest l[0].1 l) (mine l[0].1 l)) := by
  obtain ⟨i1, ji, jz0, jz1, jz2⟩ := info_parts info_qwd
  have hu := Try.underlying55
  have d0 : ((n : Int) == 0) = false := by simp; omega
  have hn0 : (0 : Int) < (n : Int) := by omega
  obtain ⟨b, o, rfl, hb, q1, h0, q2⟩ := sees_wr hs hw 0 hpos
  rw [Nat.zero_mul, Nat.add_zero] at h0
  obtain ⟨id, hid⟩ : ∃ id, id = l[0].1 := ⟨_, rfl⟩
  rw [← hid] at h0 ⊢
  have HID := Lib.hid (fun wx (h : Below w.heap.size w wx) => (h.cell (p := ⟨b, o, none⟩) hb).trans h0)
  have HS := Lib.hid (fun wx (h : Below w.heap.size w wx) => sees_wr (hs.below h) hw)
  have HN := Lib.hid hn
  have HW := Lib.hid hw
  clear q1 q2 hn hw hs h0 hid hpos
  go_enter Try.func11, Try.ntmps11
  go_wp2_with fail
  go_loopw [6, 7, 19] (fun lv gv i wr => ∃ (k a bb : Nat) (Al Ag : Option Addr) (cl cg : Nat), k ≤ n ∧ i = .int .i64 k ∧ lv = .slice Al a cl ∧ gv = .slice Ag bb cg ∧ Hid (a = (rest id (l.take k)).length) ∧ Hid (bb = (mine id (l.take k)).length) ∧ a ≤ k ∧ bb ≤ k ∧
    Hid (wr.ownsRow w.heap.size 55 28 (.slice Al a cl) a (wrs (rest id (l.take k)))) ∧ Hid (wr.ownsRow w.heap.size 55 28 (.slice Ag bb cg) bb (wrs (mine id (l.take k)))) ∧ Hid (Apart (.slice Al a cl) (.slice Ag bb cg)) ∧ Hid (Below w.heap.size w wr)) (fun _ _ i _ => n - (intOf i).toNat)
  case atStart => exact ⟨0, 0, 0, none, none, 0, 0, Nat.zero_le _, rfl, rfl, rfl, Lib.hid rfl, Lib.hid rfl, Nat.le_refl _, Nat.le_refl _, Lib.hid (World.ownsRow_nil _ _ _ _), Lib.hid (World.ownsRow_nil _ _ _ _), Lib.hid (.inl rfl), Lib.hid (Below.refl _ _)⟩
  case round =>
    obtain ⟨k, a, bb, Al, Ag, cl, cg, hk, rfl, rfl, rfl, HA, HBB, hak, hbk, HL, HG, HAP, HB⟩ := hrel
    by_cases hlt : k < n
    · have d1 : decide ((k : Int) < (n : Int)) = true := by simp; omega
      have hki : (k : Int) < (n : Int) := by omega
      have hkl : k < l.length := by rw [HN.out]; exact hlt
      obtain ⟨b2, o2, e2, hb2, hrg, _, _⟩ := HS.out wr HB.out k hkl
      injection e2 with e2
      injection e2 with e2 e3
      subst e2
      subst e3
      have hxw : l[k].2.2.2.2.length = 8 := HW.out _ (List.getElem_mem hkl)
      have HMS := Lib.hid (mine_succ id l k hkl)
      have HRS := Lib.hid (rest_succ id l k hkl)
      obtain ⟨y, hy⟩ : ∃ y, y = l[k] := ⟨_, rfl⟩
      rw [← hy] at hrg HMS HRS hxw
      obtain ⟨W3, hW3, TH, F3, B3⟩ := wr_put wr 55 y hxw
      subst hW3
      have ON := all_oneCell_toArray (wrc_one y)
      have HSZ := Lib.hid (wrc_len hxw)
      have R3 := Lib.hid F3
      have HB3 := Lib.hid B3
      have HXW := Lib.hid hxw
      have HC0 := Lib.hid (fun wx (h : Blk wx wr.heap.size (wrc y)) => h.cell (j := 0) rfl)
      have HO1 := Lib.hid (wrc_one y)
      have HBS := Lib.hid (fun wx => run_qw1 y hxw wx)
      have HSN1 := Lib.hid (fun (q : List Wr) => wrs_snoc q y)
      obtain ⟨wc, hwc⟩ : ∃ wc, wc = wrc y := ⟨_, rfl⟩
      rw [← hwc] at hrg ON HSZ R3 HB3 HC0 HO1 HBS HSN1
      obtain ⟨yi, hyi⟩ : ∃ yi, yi = y.1 := ⟨_, rfl⟩
      rw [← hyi] at HMS HRS HC0
      have hs4 : wc.toArray.size = 28 := (List.size_toArray).trans HSZ.out
      have TH2 : (wr.alloc (.cells (wrc zwr).toArray 55)).there wr.heap.size 0 wc.toArray.size := by rw [hs4]; exact TH
      have IN2 : (Try.prog.info? 55).map (·.size) = some wc.toArray.size := by rw [hs4]; exact info_qw
      rw [zwr_cells] at TH2 R3 HB3
      clear hs4 TH F3 B3 hwc hyi hxw
      go_wp2_with (first
        | (refine wpList_load_mid rfl 55 (.tmp 21) rfl b (o + k * 28) rfl wc _ hrg hu rfl (by rw [HSZ.out]; exact info_qw) ?_)
        | (refine wpList_store_mid rfl 55 (.tmp 9) (.tmp 22) rfl wr.heap.size 0 wc.toArray rfl rfl TH2 IN2 ON ?_
           simp only [Act.put]
           generalize hw4 : World.setCells _ wr.heap.size 0 wc.toArray.toList = w4
           have F4 : Hid (Blk w4 wr.heap.size wc) := Lib.hid (hw4 ▸ R3.out)
           have B4 : Hid (Below wr.heap.size wr w4) := Lib.hid (hw4 ▸ HB3.out)
           clear hw4 TH2 IN2 R3 HB3)
        | fail)
      refine wp_region_steady [] 41 (by kernel_rfl) (by kernel_rfl) (by kernel_rfl) (by rfl) ?_
      iterate 1 (refine wpG_quiet (by rfl) (by rfl) (by rfl) (fun K hK => ?_); go_big_quiet_op; refine hK _ ?_; clear hK K)
      refine wpG_run (by rfl) (by rfl) (.int .i64 yi) (fun wx hl => ?_) ?_
      · have kc := HC0.out wx (F4.out.later hl.1)
        simp [go_sem, kc]
      simp only [Act.put, List.setIfInBounds_toArray, List.set_cons_zero, List.set_cons_succ]
      iterate 3 (refine wpG_quiet (by rfl) (by rfl) (by rfl) (fun K hK => ?_); go_big_quiet_op; refine hK _ ?_; clear hK K)
      refine wpG_run (by rfl) (by rfl) (.int .i64 id) (fun wx hl => ?_) ?_
      · have kc := HID.out wx (HB.out.trans ((B4.out.trans (hl.1.mono B4.out.size)).mono HB.out.size))
        simp [go_sem, kc]
      simp only [Act.put, List.setIfInBounds_toArray, List.set_cons_zero, List.set_cons_succ]
      iterate 1 (refine wpG_quiet (by rfl) (by rfl) (by rfl) (fun K hK => ?_); go_big_quiet_op; refine hK _ ?_; clear hK K)
      refine wpG_nil fun w5 hl hS => ?_
      have F5 := Lib.hid (F4.out.later hl)
      have B5 := Lib.hid (B4.out.trans (hl.mono B4.out.size))
      have hwb := HB.out.trans (B5.out.mono HB.out.size)
      have HWB := Lib.hid hwb
      have HL5 := Lib.hid (row_later HL.out B5.out)
      have HG5 := Lib.hid (row_later HG.out B5.out)
      have rg5 := F5.out.range 0 wc (by rw [List.drop_zero, List.take_length])
      have HSE : Hid (Sees (w5.alloc (.cells wc.toArray 55)) (w5.heap.size + 1) (some ⟨w5.heap.size, 0, none⟩) wc) := Lib.hid (sees_lit w5 wc.toArray 55 (0, 0) wc rfl)
      have HL6 := Lib.hid (World.ownsRow.alloc HL5.out (.cells wc.toArray 55))
      have HG6 := Lib.hid (World.ownsRow.alloc HG5.out (.cells wc.toArray 55))
      have hb6 := hwb.alloc hwb.size (.cells wc.toArray 55)
      have HB6 := Lib.hid hb6
      clear hl hS F4 B4 hwb hb6 hrg
      by_cases hid : yi = id
      · have bid : (yi == id) = true := by simpa using hid
        rw [if_pos hid] at HMS HRS
        go_wp2_with (first
          | (refine wpList_load_mid rfl 55 (.tmp 9) rfl wr.heap.size 0 rfl wc _ rg5 hu rfl (by rw [HSZ.out]; exact info_qw) ?_)
          | (refine wpList_bs1 (T := 55) rfl (.tmp 31) wc.toArray rfl rfl (HBS.out _) ?_)
          | (at_builtin
             refine wpList_appk _ rfl (.tmp 30) (.tmp 32) 25 rfl w.heap.size 55 i1 _ 28 280 Try.underlying25 ji jz0 jz1 jz2 (by rfl) (by decide) (.slice Ag bb cg) bb (wrs (mine id (l.take k))) rfl HG6.out (w5.heap.size + 1) (some ⟨w5.heap.size, 0, none⟩) 1 wc 1 rfl (by rw [HSZ.out]) HSE.out HO1.out (by unfold maxLen; omega) (by omega) HB6.out.size ?_
             intro A3 c3 w7 hr7 hb7 hg7 hat7
             have R7 := Lib.hid hr7
             have B7 := Lib.hid (HB6.out.trans hb7)
             have L7 := Lib.hid (HAP.out.keep HL6.out hg7)
             have AP7 : Hid (Apart (.slice Al a cl) (.slice A3 (bb + 1) c3)) := Lib.hid (HAP.out.next HL6.out hat7)
             clear hr7 hb7 hg7 hat7)
          | fail)
        go_roundw
        case rel => exact ⟨k + 1, a, bb + 1, Al, A3, cl, c3, by omega, by go_num, rfl, rfl, Lib.hid (by rw [HRS.out]; exact HA.out), Lib.hid (by rw [HMS.out, List.length_append, ← HBB.out]; rfl), by omega, by omega, Lib.hid (by rw [HRS.out]; exact L7.out), Lib.hid (by rw [HMS.out, HSN1.out]; exact R7.out), AP7, B7⟩
        case measure => simp [intOf]; omega
      · have bid : (yi == id) = false := by simpa using hid
        rw [if_neg hid] at HMS HRS
        go_wp2_with (first
          | (refine wpList_load_mid rfl 55 (.tmp 9) rfl wr.heap.size 0 rfl wc _ rg5 hu rfl (by rw [HSZ.out]; exact info_qw) ?_)
          | (refine wpList_bs1 (T := 55) rfl (.tmp 35) wc.toArray rfl rfl (HBS.out _) ?_)
          | (at_builtin
             refine wpList_appk _ rfl (.tmp 34) (.tmp 36) 25 rfl w.heap.size 55 i1 _ 28 280 Try.underlying25 ji jz0 jz1 jz2 (by rfl) (by decide) (.slice Al a cl) a (wrs (rest id (l.take k))) rfl HL6.out (w5.heap.size + 1) (some ⟨w5.heap.size, 0, none⟩) 1 wc 1 rfl (by rw [HSZ.out]) HSE.out HO1.out (by unfold maxLen; omega) (by omega) HB6.out.size ?_
             intro A3 c3 w7 hr7 hb7 hg7 hat7
             have R7 := Lib.hid hr7
             have B7 := Lib.hid (HB6.out.trans hb7)
             have L7 := Lib.hid (HAP.out.symm.keep HG6.out hg7)
             have AP7 : Hid (Apart (.slice A3 (a + 1) c3) (.slice Ag bb cg)) := Lib.hid (HAP.out.symm.next HG6.out hat7).symm
             clear hr7 hb7 hg7 hat7)
          | fail)
        go_roundw
        case rel => exact ⟨k + 1, a + 1, bb, A3, Ag, c3, cg, by omega, by go_num, rfl, rfl, Lib.hid (by rw [HRS.out, List.length_append, ← HA.out]; rfl), Lib.hid (by rw [HMS.out]; exact HBB.out), by omega, by omega, Lib.hid (by rw [HRS.out, HSN1.out]; exact R7.out), Lib.hid (by rw [HMS.out]; exact L7.out), AP7, B7⟩
        case measure => simp [intOf]; omega
    · obtain rfl : k = n := by omega
      have d1 : decide ((k : Int) < (k : Int)) = false := by simp
      have ht : l.take k = l := List.take_of_length_le (by rw [HN.out]; exact Nat.le_refl _)
      rw [ht] at HA HBB HL HG
      have ha := HA.out
      have hbb := HBB.out
      clear HA HBB ht hak hbk
      go_wp2_with fail
      subst ha
      subst hbb
      exact bodyPost_ret (results_tmp2 rfl _ _ _) rfl ⟨Al, cl, Ag, cg, rfl, HL.out, HG.out, HB.out⟩
end Go.Proofs.Ytjlpccdlpgkgoaa
