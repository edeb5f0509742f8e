/- The document's Done; writes of one kind as the other's. -/
import Derived.Test.YtjlpccdlpgkgoaaQeL
import Derived.Test.YtjlpccdlpgkgoaaQeK
namespace Go.Proofs.Ytjlpccdlpgkgoaa
set_option linter.unusedVariables false
set_option linter.unusedSimpArgs false
open Go Go.RowKit Go.Shelf BitM

theorem cutd_some {P : Program} (t e : TypeId) (i : TypeInfo) (size : Nat) (ht : P.underlying t = some (.slice e)) (hi : P.info? e = some i) (hsz : i.size = size) {w : World} {B : Nat} {b o : Nat} {xs : List Value} (h : Sees w B (some ⟨b, o, none⟩) xs)
    (n k m c : Nat) (K : Int) (kl : IntKind) (hn : xs.length = n * size) (hkm : n = k + m) (hK : K = (k : Int)) (hc : n ≤ c) (hpos : 0 < xs.length) :
    ∃ b2 o2, (∀ wx, (Instr.slice t (.slice (some ⟨b, o, none⟩) n c) (some (.int kl K)) none none).run P wx = .ok (.slice (some ⟨b2, o2, none⟩) m (c - k)) wx) ∧ Sees w B (some ⟨b2, o2, none⟩) (xs.drop (k * size)) := by
  obtain ⟨b', o', e1, hb, hcell⟩ := h hpos
  injection e1 with e1
  injection e1 with e1 e2
  subst e1
  subst e2
  refine ⟨b, if c = k then o else o + k * size, fun wx => ?_, fun hx => ?_⟩
  · have he : P.elem t = e := by simp [Program.elem, ht]
    have ht' : P.underlying t = some (.slice (P.elem t)) := by rw [he]; exact ht
    rw [run_slice_l wx t _ n c ht' kl K (by omega) (by omega), he]
    have hm : n - k = m := by omega
    simp [sizeOf, typeInfo, hi, hsz, sliced, hK, hm]
    split <;> simp [Addr.add]
  · rw [List.length_drop] at hx
    have hm : 0 < m := by
      rcases Nat.eq_zero_or_pos m with h0 | h0
      · rw [hn, hkm, h0, Nat.add_zero, Nat.sub_self] at hx; omega
      · exact h0
    rw [if_neg (by omega)]
    refine ⟨b, o + k * size, rfl, hb, fun j hj => ?_⟩
    rw [List.length_drop] at hj
    rw [Nat.add_assoc, hcell (k * size + j) (by omega)]
    simp
/-- What the document's Done gives. -/
def GivesRDone (w : World) (left gone : List Wr) : Ending → World → Prop := fun e w' => ∃ Al cl Ag cg, e = .returned (.tuple #[.slice Al left.length cl, .slice Ag gone.length cg]) ∧
  Sees w' w'.heap.size Al (wrs left) ∧ (Al = none → cl = 0) ∧ left.length ≤ cl ∧ Sees w' w'.heap.size Ag (wrs gone) ∧ Below w.heap.size w w'
set_option maxRecDepth 100000 in
set_option maxHeartbeats 6400000 in
theorem rdone_ok (A : Option Addr) (n c : Nat) (l : List Wr) (w : World) (hn : l.length = n) (hw : Whole l) (hs : Sees w w.heap.size A (wrs l)) (hc : n ≤ c) (hpos : 0 < n) :
    Calls Try.prog 12 #[.slice A n c, .bool true] w (GivesRDone w (l.drop 1) []) := by
  obtain ⟨i1, ji, jz0, jz1, jz2⟩ := info_parts info_rwd
  obtain ⟨m, hm1⟩ : ∃ m, m = (l.drop 1).length := ⟨_, rfl⟩
  have hnm : n = 1 + m := by rw [hm1, List.length_drop]; omega
  have hpl : 0 < (wrs l).length := by rw [wrs_len hw, hn]; omega
  obtain ⟨b, o, rfl, _, _⟩ := hs hpl
  obtain ⟨b2, o2, hsl, hse⟩ := cutd_some 26 63 i1 28 Try.underlying26 ji jz1 hs n 1 m c 1 .i64 (by rw [wrs_len hw, hn]) hnm rfl hc hpl
  have e : (wrs l).drop (1 * 28) = wrs (l.drop 1) := fm_drop l 1 hw.len
  rw [e] at hse
  have HSE := Lib.hid hse
  have HM1 := Lib.hid hm1
  have hcm : m ≤ c - 1 := by omega
  have d0 : ((n : Int) == 0) = false := by simp; omega
  clear hse hs jz0 jz1 jz2 ji hm1 hnm e hpl
  go_enter Try.func12, Try.ntmps12
  go_wp2_with fail
  exact bodyPost_ret (results_tmp2 rfl _ _ _) rfl ⟨some ⟨b2, o2, none⟩, c - 1, none, 0, by rw [← HM1.out]; rfl, HSE.out, (fun h => by cases h), by rw [← HM1.out]; exact hcm, Sees.nil_, Below.refl _ _⟩
theorem rdone_none (A : Option Addr) (c : Nat) (ok : Bool) (w : World) : Calls Try.prog 12 #[.slice A 0 c, .bool ok] w (GivesRDone w [] []) := by
  go_enter Try.func12, Try.ntmps12
  go_wp2_with fail
  exact bodyPost_ret (results_tmp2 rfl _ _ _) rfl ⟨none, 0, none, 0, rfl, Sees.nil_, fun _ => rfl, Nat.le_refl _, Sees.nil_, Below.refl _ _⟩
theorem row_cap2 {w : World} {base : Nat} {e : TypeId} {size n : Nat} {A : Option Addr} {c : Nat} {xs : List Value} (h : w.ownsRow base e size (.slice A n c) n xs) : n ≤ c := by
  rcases h.2 with ⟨hv, h0⟩ | ⟨g, cap, cur, hv, _, _, hnc, _⟩
  · injection hv with h1 h2 h3; omega
  · injection hv with h1 h2 h3; subst h3; exact hnc
set_option maxRecDepth 100000 in
set_option maxHeartbeats 6400000 in
theorem rdone_not (A : Option Addr) (n c : Nat) (l : List Wr) (w : World) (hn : l.length = n) (hw : Whole l) (hs : Sees w w.heap.size A (wrs l)) (hm : n ≤ 65536) (hpos : 0 < l.length) :
    Calls Try.prog 12 #[.slice A n c, .bool false] w (GivesRDone w (rest l[0].1 l) (mine l[0].1 l)) := by
  obtain ⟨i1, ji, jz0, jz1, jz2⟩ := info_parts info_rwd
  have hu := Try.underlying63
  have d0 : ((n : Int) == 0) = false := by simp; omega
  have hn0 : (0 : Int) < (n : Int) := by omega
  obtain ⟨b, o, rfl, hb, q1, h0, q2⟩ := sees_wr hs hw 0 hpos
  rw [Nat.zero_mul, Nat.add_zero] at h0
  obtain ⟨id, hid⟩ : ∃ id, id = l[0].1 := ⟨_, rfl⟩
  rw [← hid] at h0 ⊢
  have HID := Lib.hid (fun wx (h : Below w.heap.size w wx) => (h.cell (p := ⟨b, o, none⟩) hb).trans h0)
  have HS := Lib.hid (fun wx (h : Below w.heap.size w wx) => sees_wr (hs.below h) hw)
  have HN := Lib.hid hn
  have HW := Lib.hid hw
  clear q1 q2 hn hw hs h0 hid hpos
  have r0 := row_lit w w.heap.size 63 28 0 #[] (Nat.le_refl _) (by simp [maxLen]) rfl
  have r0' := Lib.hid (World.ownsRow.alloc r0 (.cells #[] 63))
  have hz1 : (w.alloc (.cells #[] 63)).heap.size = w.heap.size + 1 := by simp
  have r1 := row_lit (w.alloc (.cells #[] 63)) w.heap.size 63 28 0 #[] (by simp) (by simp [maxLen]) rfl
  rw [hz1] at r1
  have R1 := Lib.hid r1
  have HB0 := Lib.hid (((Below.refl _ w).alloc (Nat.le_refl _) (.cells #[] 63)).alloc (by simp) (.cells #[] 63))
  clear r0 r1 hz1
  go_enter Try.func12, Try.ntmps12
  go_wp2_with fail
  go_loopw [6, 7, 8] (fun lv gv i wr => ∃ (k a bb : Nat) (Al Ag : Option Addr) (cl cg : Nat), k ≤ n ∧ i = .int .i64 k ∧ lv = .slice Al a cl ∧ gv = .slice Ag bb cg ∧ Hid (a = (rest id (l.take k)).length) ∧ Hid (bb = (mine id (l.take k)).length) ∧ a ≤ k ∧ bb ≤ k ∧
    Hid (wr.ownsRow w.heap.size 63 28 (.slice Al a cl) a (wrs (rest id (l.take k)))) ∧ Hid (wr.ownsRow w.heap.size 63 28 (.slice Ag bb cg) bb (wrs (mine id (l.take k)))) ∧ Hid (Apart (.slice Al a cl) (.slice Ag bb cg)) ∧ Hid (Below w.heap.size w wr)) (fun _ _ i _ => n - (intOf i).toNat)
  case atStart => exact ⟨0, 0, 0, _, _, 0, 0, Nat.zero_le _, rfl, rfl, rfl, Lib.hid rfl, Lib.hid rfl, Nat.le_refl _, Nat.le_refl _, r0', R1, Lib.hid (.inr (.inr (by simp [Value.ownBlock]))), HB0⟩
  case round =>
    obtain ⟨k, a, bb, Al, Ag, cl, cg, hk, rfl, rfl, rfl, HA, HBB, hak, hbk, HL, HG, HAP, HB⟩ := hrel
    by_cases hlt : k < n
    · have d1 : decide ((k : Int) < (n : Int)) = true := by simp; omega
      have hki : (k : Int) < (n : Int) := by omega
      have hkl : k < l.length := by rw [HN.out]; exact hlt
      obtain ⟨b2, o2, e2, hb2, hrg, _, _⟩ := HS.out wr HB.out k hkl
      injection e2 with e2
      injection e2 with e2 e3
      subst e2
      subst e3
      have hxw : l[k].2.2.2.2.length = 8 := HW.out _ (List.getElem_mem hkl)
      have HMS := Lib.hid (mine_succ id l k hkl)
      have HRS := Lib.hid (rest_succ id l k hkl)
      have HAT := Lib.hid (fun wx (h : Below w.heap.size w wx) => (show wx.rangeAt b (o + k * 28) (wrc l[k]) ∧ wx.cell? ⟨b, o + k * 28, none⟩ = some (.int .i64 l[k].1) from by
        obtain ⟨b3, o3, e3, _, h1, h2, _⟩ := HS.out wx h k hkl
        injection e3 with e3
        injection e3 with e3 e4
        subst e3
        subst e4
        exact ⟨h1, h2⟩))
      obtain ⟨y, hy⟩ : ∃ y, y = l[k] := ⟨_, rfl⟩
      rw [← hy] at HMS HRS hxw HAT
      have HSZ := Lib.hid (wrc_len hxw)
      have HO1 := Lib.hid (wrc_one y)
      have HBS := Lib.hid (fun wx => run_rw1 y hxw wx)
      have HSN1 := Lib.hid (fun (q : List Wr) => wrs_snoc q y)
      obtain ⟨wc, hwc⟩ : ∃ wc, wc = wrc y := ⟨_, rfl⟩
      rw [← hwc] at HSZ HO1 HBS HSN1 HAT
      obtain ⟨yi, hyi⟩ : ∃ yi, yi = y.1 := ⟨_, rfl⟩
      rw [← hyi] at HMS HRS HAT
      clear hwc hyi hxw hrg hy
      go_wp2_with fail
      refine wp_region_steady [] 49 (by kernel_rfl) (by kernel_rfl) (by kernel_rfl) (by rfl) ?_
      repeat (refine wpG_quiet (by rfl) (by rfl) (by rfl) (fun K hK => ?_); go_big_quiet_op; refine hK _ ?_; clear hK K)
      refine wpG_run (by rfl) (by rfl) (.int .i64 yi) (fun wx hl => ?_) ?_
      · have kc := (HAT.out wx (HB.out.trans (hl.1.mono HB.out.size))).2
        simp [go_sem, kc]
      simp only [Act.put, List.setIfInBounds_toArray, List.set_cons_zero, List.set_cons_succ]
      repeat (refine wpG_quiet (by rfl) (by rfl) (by rfl) (fun K hK => ?_); go_big_quiet_op; refine hK _ ?_; clear hK K)
      refine wpG_run (by rfl) (by rfl) (.int .i64 id) (fun wx hl => ?_) ?_
      · have kc := HID.out wx (HB.out.trans (hl.1.mono HB.out.size))
        simp [go_sem, kc]
      simp only [Act.put, List.setIfInBounds_toArray, List.set_cons_zero, List.set_cons_succ]
      repeat (refine wpG_quiet (by rfl) (by rfl) (by rfl) (fun K hK => ?_); go_big_quiet_op; refine hK _ ?_; clear hK K)
      refine wpG_nil fun w5 hl hS => ?_
      have hwb := HB.out.trans (hl.mono HB.out.size)
      have HL5 := Lib.hid (row_later HL.out hl)
      have HG5 := Lib.hid (row_later HG.out hl)
      have rg5 := (HAT.out w5 hwb).1
      have HSE : Hid (Sees (w5.alloc (.cells wc.toArray 63)) (w5.heap.size + 1) (some ⟨w5.heap.size, 0, none⟩) wc) := Lib.hid (sees_lit w5 wc.toArray 63 (0, 0) wc rfl)
      have HL6 := Lib.hid (World.ownsRow.alloc HL5.out (.cells wc.toArray 63))
      have HG6 := Lib.hid (World.ownsRow.alloc HG5.out (.cells wc.toArray 63))
      have hb6 := hwb.alloc hwb.size (.cells wc.toArray 63)
      have HB6 := Lib.hid hb6
      clear hl hS hwb hb6
      by_cases hid : yi = id
      · have bid : (yi == id) = true := by simpa using hid
        rw [if_pos hid] at HMS HRS
        go_wp2_with (first
          | (refine wpList_load_mid rfl 63 (.tmp 36) rfl b (o + k * 28) rfl wc _ rg5 hu rfl (by rw [HSZ.out]; exact info_rw) ?_)
          | (refine wpList_bs1 (T := 63) rfl (.tmp 37) wc.toArray rfl rfl (HBS.out _) ?_)
          | (at_builtin
             refine wpList_appk _ rfl (.tmp 33) (.tmp 38) 26 rfl w.heap.size 63 i1 _ 28 280 Try.underlying26 ji jz0 jz1 jz2 (by rfl) (by decide) (.slice Ag bb cg) bb (wrs (mine id (l.take k))) rfl HG6.out (w5.heap.size + 1) (some ⟨w5.heap.size, 0, none⟩) 1 wc 1 rfl (by rw [HSZ.out]) HSE.out HO1.out (by unfold maxLen; omega) (by omega) HB6.out.size ?_
             intro A3 c3 w7 hr7 hb7 hg7 hat7
             have R7 := Lib.hid hr7
             have B7 := Lib.hid (HB6.out.trans hb7)
             have L7 := Lib.hid (HAP.out.keep HL6.out hg7)
             have AP7 : Hid (Apart (.slice Al a cl) (.slice A3 (bb + 1) c3)) := Lib.hid (HAP.out.next HL6.out hat7)
             clear hr7 hb7 hg7 hat7)
          | fail)
        go_roundw
        case rel => exact ⟨k + 1, a, bb + 1, Al, A3, cl, c3, by omega, by go_num, rfl, rfl, Lib.hid (by rw [HRS.out]; exact HA.out), Lib.hid (by rw [HMS.out, List.length_append, ← HBB.out]; rfl), by omega, by omega, Lib.hid (by rw [HRS.out]; exact L7.out), Lib.hid (by rw [HMS.out, HSN1.out]; exact R7.out), AP7, B7⟩
        case measure => simp [intOf]; omega
      · have bid : (yi == id) = false := by simpa using hid
        rw [if_neg hid] at HMS HRS
        go_wp2_with (first
          | (refine wpList_load_mid rfl 63 (.tmp 43) rfl b (o + k * 28) rfl wc _ rg5 hu rfl (by rw [HSZ.out]; exact info_rw) ?_)
          | (refine wpList_bs1 (T := 63) rfl (.tmp 44) wc.toArray rfl rfl (HBS.out _) ?_)
          | (at_builtin
             refine wpList_appk _ rfl (.tmp 40) (.tmp 45) 26 rfl w.heap.size 63 i1 _ 28 280 Try.underlying26 ji jz0 jz1 jz2 (by rfl) (by decide) (.slice Al a cl) a (wrs (rest id (l.take k))) rfl HL6.out (w5.heap.size + 1) (some ⟨w5.heap.size, 0, none⟩) 1 wc 1 rfl (by rw [HSZ.out]) HSE.out HO1.out (by unfold maxLen; omega) (by omega) HB6.out.size ?_
             intro A3 c3 w7 hr7 hb7 hg7 hat7
             have R7 := Lib.hid hr7
             have B7 := Lib.hid (HB6.out.trans hb7)
             have L7 := Lib.hid (HAP.out.symm.keep HG6.out hg7)
             have AP7 : Hid (Apart (.slice A3 (a + 1) c3) (.slice Ag bb cg)) := Lib.hid (HAP.out.symm.next HG6.out hat7).symm
             clear hr7 hb7 hg7 hat7)
          | fail)
        go_roundw
        case rel => exact ⟨k + 1, a + 1, bb, A3, Ag, c3, cg, by omega, by go_num, rfl, rfl, Lib.hid (by rw [HRS.out, List.length_append, ← HA.out]; rfl), Lib.hid (by rw [HMS.out]; exact HBB.out), by omega, by omega, Lib.hid (by rw [HRS.out, HSN1.out]; exact R7.out), Lib.hid (by rw [HMS.out]; exact L7.out), AP7, B7⟩
        case measure => simp [intOf]; omega
    · obtain rfl : k = n := by omega
      have d1 : decide ((k : Int) < (k : Int)) = false := by simp
      have ht : l.take k = l := List.take_of_length_le (by rw [HN.out]; exact Nat.le_refl _)
      rw [ht] at HA HBB HL HG
      have ha := HA.out
      have hbb := HBB.out
      clear HA HBB ht hak hbk
      go_wp2_with fail
      subst ha
      subst hbb
      exact bodyPost_ret (results_tmp2 rfl _ _ _) rfl ⟨Al, cl, Ag, cg, rfl, row_sees HL.out, row_nil HL.out, row_cap2 HL.out, row_sees HG.out, HB.out⟩
set_option maxRecDepth 100000 in
set_option maxHeartbeats 6400000 in
theorem from_any (A : Option Addr) (n c : Nat) (l : List Wr) (w : World) (hn : l.length = n) (hw : Whole l) (hs : Sees w w.heap.size A (wrs l)) (hm : n ≤ 65536) :
    Calls Try.prog 10 #[.slice A n c] w (GivesWrs w 63 l) := by
  obtain ⟨i1, ji, jz0, jz1, jz2⟩ := info_parts info_rwd
  have hup := Try.underlying34
  have HN := Lib.hid hn
  have HW := Lib.hid hw
  have HS := Lib.hid (fun wx (h : Below w.heap.size w wx) => sees_wr (hs.below h) hw)
  have R0 := Lib.hid (row_lit w w.heap.size 63 28 0 #[] (Nat.le_refl _) (by simp [maxLen]) rfl)
  have HB0 := Lib.hid ((Below.refl _ w).alloc (Nat.le_refl _) (.cells #[] 63))
  clear hn hw hs
  go_enter Try.func10, Try.ntmps10
  go_wp2_with fail
  go_loopw [3, 4] (fun v i wr => ∃ (k cc : Nat) (AA : Option Addr), k ≤ n ∧ i = .int .i64 k ∧ v = .slice AA k cc ∧ Hid (wr.ownsRow w.heap.size 63 28 (.slice AA k cc) k (wrs (l.take k))) ∧ Hid (Below w.heap.size w wr)) (fun _ i _ => n - (intOf i).toNat)
  case atStart => exact ⟨0, 0, _, Nat.zero_le _, rfl, rfl, R0, HB0⟩
  case round =>
    obtain ⟨k, cc, AA, hk, rfl, rfl, HR, HB⟩ := hrel
    clear R0 HB0
    by_cases hlt : k < n
    · have d1 : decide ((k : Int) < (n : Int)) = true := by simp; omega
      have hki : (k : Int) < (n : Int) := by omega
      have hkl : k < l.length := by rw [HN.out]; exact hlt
      obtain ⟨b, o, rfl, _, _, _, _⟩ := HS.out wr HB.out k hkl
      have HAT := Lib.hid (fun wx (h : Below w.heap.size w wx) => (show wx.rangeAt b (o + k * 28 + 2) (pcells (l[k].2.2.1.toNat : Int) (l[k].2.2.2.1.toNat : Int) l[k].2.2.2.2) ∧ wx.cell? ⟨b, o + k * 28, none⟩ = some (.int .i64 l[k].1) ∧ wx.cell? ⟨b, o + k * 28 + 1, none⟩ = some (.int .i64 l[k].2.1) from by
        obtain ⟨b3, o3, e3, _, h1, h2, h3⟩ := HS.out wx h k hkl
        injection e3 with e3
        injection e3 with e3 e4
        subst e3
        subst e4
        exact ⟨wr_patch h1, h2, h3⟩))
      have hyw := HW.out _ (List.getElem_mem hkl)
      have HTS := Lib.hid (List.take_succ_eq_append_getElem hkl)
      obtain ⟨⟨yi, yb, ym, yl, yf⟩, hy⟩ : ∃ y, y = l[k] := ⟨_, rfl⟩
      rw [← hy] at HAT hyw HTS
      dsimp only at hyw
      have HF := Lib.hid hyw
      have HPL := Lib.hid (pcells_len (ym.toNat : Int) (yl.toNat : Int) hyw)
      clear hy hyw
      go_wp2_with fail
      refine wp_region_tail [(29, relWr (yi, yb, ym, yl, yf))] 32 18 (by kernel_rfl) (by kernel_rfl) (by kernel_rfl) (by rfl) ?_
      simp only [List.take_succ_cons, List.take_zero, List.drop_succ_cons, List.drop_zero]
      repeat (refine wpG_quiet (by rfl) (by rfl) (by rfl) (fun K hK => ?_); go_big_quiet_op; refine hK _ ?_; clear hK K)
      refine wpG_run (by rfl) (by rfl) (.int .i64 yi) (fun wx hl => ?_) ?_
      · have kc := (HAT.out wx (HB.out.trans (hl.1.mono HB.out.size))).2.1
        simp [go_sem, kc]
      simp only [Act.put, List.setIfInBounds_toArray, List.set_cons_zero, List.set_cons_succ]
      repeat (refine wpG_quiet (by rfl) (by rfl) (by rfl) (fun K hK => ?_); go_big_quiet_op; refine hK _ ?_; clear hK K)
      refine wpG_run (by rfl) (by rfl) (.int .i64 yb) (fun wx hl => ?_) ?_
      · have kc := (HAT.out wx (HB.out.trans (hl.1.mono HB.out.size))).2.2
        simp [go_sem, kc]
      simp only [Act.put, List.setIfInBounds_toArray, List.set_cons_zero, List.set_cons_succ]
      repeat (refine wpG_quiet (by rfl) (by rfl) (by rfl) (fun K hK => ?_); go_big_quiet_op; refine hK _ ?_; clear hK K)
      refine wpG_run (by rfl) (by rfl) (.agg (pcells (ym.toNat : Int) (yl.toNat : Int) yf).toArray) (fun wx hl => exec_load 34 (.tmp 26) rfl b (o + k * 28 + 2) rfl (pcells (ym.toNat : Int) (yl.toNat : Int) yf) _ (HAT.out wx (HB.out.trans (hl.1.mono HB.out.size))).1 hup rfl (by rw [HPL.out]; exact info_patch)) ?_
      simp only [Act.put, List.setIfInBounds_toArray, List.set_cons_zero, List.set_cons_succ]
      refine wpG_run (by rfl) (by rfl) (.agg (wrc (yi, yb, ym, yl, yf)).toArray) (fun wx hl => exec_rwb (.tmp 17) (.tmp 22) (.tmp 27) rfl yi yb ym yl yf HF.out rfl rfl rfl wx) ?_
      simp only [Act.put, List.setIfInBounds_toArray, List.set_cons_zero, List.set_cons_succ]
      refine wpG_open (relWr (yi, yb, ym, yl, yf)) (by rfl) (by rfl) (fun wx hl => rr1_gives (.tmp 28) (yi, yb, ym, yl, yf) rfl rfl HF.out wx) ?_
      rintro _ ⟨_, _, _, ⟨g, rfl, _⟩⟩
      simp only [Act.put, List.setIfInBounds_toArray, List.set_cons_zero, List.set_cons_succ]
      refine wpG_nil fun w5 hl hS => ?_
      obtain ⟨_, ⟨g', eg, hB5⟩⟩ := hS
      cases eg
      have hb5 := HB.out.trans (hl.mono HB.out.size)
      have hsee : Sees w5 w5.heap.size (some ⟨g, 0, none⟩) (wrc (yi, yb, ym, yl, yf)) := fun _ => ⟨g, 0, rfl, hB5.lt, fun j hj => by rw [Nat.zero_add]; exact hB5.cell (List.getElem?_eq_getElem hj)⟩
      have hrw := Lib.hid (row_later HR.out hl)
      have hl28 := wrc_len (x := (yi, yb, ym, yl, yf)) HF.out
      refine wpList_appk _ rfl (.tmp 12) (.tmp 29) 26 rfl w.heap.size 63 i1 _ 28 280 Try.underlying26 ji jz0 jz1 jz2 (by rfl) (by decide) (.slice AA k cc) k (wrs (l.take k)) (by rfl) hrw.out w5.heap.size (some ⟨g, 0, none⟩) 1 (wrc (yi, yb, ym, yl, yf)) 1 (by rfl) (by rw [hl28]) hsee (wrc_one _) (by unfold maxLen; omega) (by omega) hb5.size ?_
      intro A3 c3 w6 hr6 hb6 hg6 hat6
      rw [← wrs_snoc, ← HTS.out] at hr6
      have HR6 := Lib.hid hr6
      have HB6 := Lib.hid (hb5.trans hb6)
      clear hsee hB5 hl hl28 hg6 hat6 hb5 hb6 hr6
      go_wp2_with fail
      go_roundw
      case rel => exact ⟨k + 1, c3, A3, by omega, by go_num, rfl, HR6, HB6⟩
      case measure => simp [intOf]; omega
    · obtain rfl : k = n := by omega
      have d1 : decide ((k : Int) < (k : Int)) = false := by simp
      have ht : l.take k = l := List.take_of_length_le (by rw [HN.out]; exact Nat.le_refl _)
      rw [ht] at HR
      clear ht
      go_wp2_with fail
      go_ret
      exact ⟨AA, cc, by rw [HN.out]; rfl, by rw [HN.out]; exact HR.out, HB.out⟩
set_option maxRecDepth 100000 in
set_option maxHeartbeats 6400000 in
theorem to_any (A : Option Addr) (n c : Nat) (l : List Wr) (w : World) (hn : l.length = n) (hw : Whole l) (hs : Sees w w.heap.size A (wrs l)) (hm : n ≤ 65536) :
    Calls Try.prog 18 #[.slice A n c] w (GivesWrs w 55 l) := by
  obtain ⟨i1, ji, jz0, jz1, jz2⟩ := info_parts info_qwd
  have hup := Try.underlying34
  have HN := Lib.hid hn
  have HW := Lib.hid hw
  have HS := Lib.hid (fun wx (h : Below w.heap.size w wx) => sees_wr (hs.below h) hw)
  have R0 := Lib.hid (row_lit w w.heap.size 55 28 0 #[] (Nat.le_refl _) (by simp [maxLen]) rfl)
  have HB0 := Lib.hid ((Below.refl _ w).alloc (Nat.le_refl _) (.cells #[] 55))
  clear hn hw hs
  go_enter Try.func18, Try.ntmps18
  go_wp2_with fail
  go_loopw [3, 4] (fun v i wr => ∃ (k cc : Nat) (AA : Option Addr), k ≤ n ∧ i = .int .i64 k ∧ v = .slice AA k cc ∧ Hid (wr.ownsRow w.heap.size 55 28 (.slice AA k cc) k (wrs (l.take k))) ∧ Hid (Below w.heap.size w wr)) (fun _ i _ => n - (intOf i).toNat)
  case atStart => exact ⟨0, 0, _, Nat.zero_le _, rfl, rfl, R0, HB0⟩
  case round =>
    obtain ⟨k, cc, AA, hk, rfl, rfl, HR, HB⟩ := hrel
    clear R0 HB0
    by_cases hlt : k < n
    · have d1 : decide ((k : Int) < (n : Int)) = true := by simp; omega
      have hki : (k : Int) < (n : Int) := by omega
      have hkl : k < l.length := by rw [HN.out]; exact hlt
      obtain ⟨b, o, rfl, _, _, _, _⟩ := HS.out wr HB.out k hkl
      have HAT := Lib.hid (fun wx (h : Below w.heap.size w wx) => (show wx.rangeAt b (o + k * 28 + 2) (pcells (l[k].2.2.1.toNat : Int) (l[k].2.2.2.1.toNat : Int) l[k].2.2.2.2) ∧ wx.cell? ⟨b, o + k * 28, none⟩ = some (.int .i64 l[k].1) ∧ wx.cell? ⟨b, o + k * 28 + 1, none⟩ = some (.int .i64 l[k].2.1) from by
        obtain ⟨b3, o3, e3, _, h1, h2, h3⟩ := HS.out wx h k hkl
        injection e3 with e3
        injection e3 with e3 e4
        subst e3
        subst e4
        exact ⟨wr_patch h1, h2, h3⟩))
      have hyw := HW.out _ (List.getElem_mem hkl)
      have HTS := Lib.hid (List.take_succ_eq_append_getElem hkl)
      obtain ⟨⟨yi, yb, ym, yl, yf⟩, hy⟩ : ∃ y, y = l[k] := ⟨_, rfl⟩
      rw [← hy] at HAT hyw HTS
      dsimp only at hyw
      have HF := Lib.hid hyw
      have HPL := Lib.hid (pcells_len (ym.toNat : Int) (yl.toNat : Int) hyw)
      clear hy hyw
      go_wp2_with fail
      refine wp_region_tail [(29, relWr (yi, yb, ym, yl, yf))] 32 18 (by kernel_rfl) (by kernel_rfl) (by kernel_rfl) (by rfl) ?_
      simp only [List.take_succ_cons, List.take_zero, List.drop_succ_cons, List.drop_zero]
      repeat (refine wpG_quiet (by rfl) (by rfl) (by rfl) (fun K hK => ?_); go_big_quiet_op; refine hK _ ?_; clear hK K)
      refine wpG_run (by rfl) (by rfl) (.int .i64 yi) (fun wx hl => ?_) ?_
      · have kc := (HAT.out wx (HB.out.trans (hl.1.mono HB.out.size))).2.1
        simp [go_sem, kc]
      simp only [Act.put, List.setIfInBounds_toArray, List.set_cons_zero, List.set_cons_succ]
      repeat (refine wpG_quiet (by rfl) (by rfl) (by rfl) (fun K hK => ?_); go_big_quiet_op; refine hK _ ?_; clear hK K)
      refine wpG_run (by rfl) (by rfl) (.int .i64 yb) (fun wx hl => ?_) ?_
      · have kc := (HAT.out wx (HB.out.trans (hl.1.mono HB.out.size))).2.2
        simp [go_sem, kc]
      simp only [Act.put, List.setIfInBounds_toArray, List.set_cons_zero, List.set_cons_succ]
      repeat (refine wpG_quiet (by rfl) (by rfl) (by rfl) (fun K hK => ?_); go_big_quiet_op; refine hK _ ?_; clear hK K)
      refine wpG_run (by rfl) (by rfl) (.agg (pcells (ym.toNat : Int) (yl.toNat : Int) yf).toArray) (fun wx hl => exec_load 34 (.tmp 26) rfl b (o + k * 28 + 2) rfl (pcells (ym.toNat : Int) (yl.toNat : Int) yf) _ (HAT.out wx (HB.out.trans (hl.1.mono HB.out.size))).1 hup rfl (by rw [HPL.out]; exact info_patch)) ?_
      simp only [Act.put, List.setIfInBounds_toArray, List.set_cons_zero, List.set_cons_succ]
      refine wpG_run (by rfl) (by rfl) (.agg (wrc (yi, yb, ym, yl, yf)).toArray) (fun wx hl => exec_qwb (.tmp 17) (.tmp 22) (.tmp 27) rfl yi yb ym yl yf HF.out rfl rfl rfl wx) ?_
      simp only [Act.put, List.setIfInBounds_toArray, List.set_cons_zero, List.set_cons_succ]
      refine wpG_open (relWr (yi, yb, ym, yl, yf)) (by rfl) (by rfl) (fun wx hl => wr1_gives (.tmp 28) (yi, yb, ym, yl, yf) rfl rfl HF.out wx) ?_
      rintro _ ⟨_, _, _, ⟨g, rfl, _⟩⟩
      simp only [Act.put, List.setIfInBounds_toArray, List.set_cons_zero, List.set_cons_succ]
      refine wpG_nil fun w5 hl hS => ?_
      obtain ⟨_, ⟨g', eg, hB5⟩⟩ := hS
      cases eg
      have hb5 := HB.out.trans (hl.mono HB.out.size)
      have hsee : Sees w5 w5.heap.size (some ⟨g, 0, none⟩) (wrc (yi, yb, ym, yl, yf)) := fun _ => ⟨g, 0, rfl, hB5.lt, fun j hj => by rw [Nat.zero_add]; exact hB5.cell (List.getElem?_eq_getElem hj)⟩
      have hrw := Lib.hid (row_later HR.out hl)
      have hl28 := wrc_len (x := (yi, yb, ym, yl, yf)) HF.out
      refine wpList_appk _ rfl (.tmp 12) (.tmp 29) 25 rfl w.heap.size 55 i1 _ 28 280 Try.underlying25 ji jz0 jz1 jz2 (by rfl) (by decide) (.slice AA k cc) k (wrs (l.take k)) (by rfl) hrw.out w5.heap.size (some ⟨g, 0, none⟩) 1 (wrc (yi, yb, ym, yl, yf)) 1 (by rfl) (by rw [hl28]) hsee (wrc_one _) (by unfold maxLen; omega) (by omega) hb5.size ?_
      intro A3 c3 w6 hr6 hb6 hg6 hat6
      rw [← wrs_snoc, ← HTS.out] at hr6
      have HR6 := Lib.hid hr6
      have HB6 := Lib.hid (hb5.trans hb6)
      clear hsee hB5 hl hl28 hg6 hat6 hb5 hb6 hr6
      go_wp2_with fail
      go_roundw
      case rel => exact ⟨k + 1, c3, A3, by omega, by go_num, rfl, HR6, HB6⟩
      case measure => simp [intOf]; omega
    · obtain rfl : k = n := by omega
      have d1 : decide ((k : Int) < (k : Int)) = false := by simp
      have ht : l.take k = l := List.take_of_length_le (by rw [HN.out]; exact Nat.le_refl _)
      rw [ht] at HR
      clear ht
      go_wp2_with fail
      go_ret
      exact ⟨AA, cc, by rw [HN.out]; rfl, by rw [HN.out]; exact HR.out, HB.out⟩
end Go.Proofs.Ytjlpccdlpgkgoaa
