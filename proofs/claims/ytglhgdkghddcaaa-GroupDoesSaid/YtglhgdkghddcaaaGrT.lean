/- Groups: Open and Close of any groups, by the document. -/
import Derived.Test.YtglhgdkghddcaaaGrS
namespace Go.Proofs.Ytglhgdkghddcaaa
set_option linter.unusedVariables false
set_option linter.unusedSimpArgs false
open Go Go.RowKit IdsM

theorem rws_next (l : List Gp) (k : Nat) (hk : k < l.length) : rws gpc (l.take k) ++ gpc l[k] = rws gpc (l.take (k + 1)) := by
  rw [List.take_succ_eq_append_getElem hk, rws_append, rws_one]
theorem run_gp0 (w : World) : (Instr.buildSlice 22 0 #[]).run Try.prog w = .ok (.slice (some ⟨w.heap.size, 0, none⟩) 0 0) (w.alloc (.cells #[] 41)) := by kernel_rfl
theorem seesG_of {w W : World} {A A' : Option Addr} {n n' c c' : Nat} {l ys : List Gp} (h : SeesG w A n c l) (hb : Below w.heap.size w W) (hr : W.ownsRow w.heap.size 41 2 (.slice A' n' c') n' (rws gpc ys)) (hn : ys.length = n') (hy : ∀ x ∈ ys, x ∈ l ∨ ∃ g, x = xg g) : SeesG W A' n' c' ys := by
  have hc := row_cap hr
  refine ⟨hn, hc.1, hc.2, row_sees hr, fun x hx => ?_⟩
  rcases hy x hx with hx | ⟨g, rfl⟩
  · exact (h.ok x hx).later hb
  · exact xg_ok g W

set_option maxRecDepth 100000 in
set_option maxHeartbeats 1600000 in
theorem rclose_any (A : Option Addr) (n c : Nat) (l : List Gp) (g : Int) (w : World) (h : SeesG w A n c l) (hz : n ≤ 65536) (hup : Up (gnos l)) :
    Calls Try.prog 14 #[.slice A n c, .int .i64 g] w (GivesGE w (cres l g) (ccode l g)) := by
  have HB0 := Lib.hid (Below.refl w.heap.size w)
  by_cases h0 : 0 ≤ g ∧ g < 16
  · have d1 : decide (g < 0) = false := decide_eq_false (by omega)
    have d2 : decide (16 ≤ g) = false := decide_eq_false (by omega)
    have HP := Lib.hid (rplace_any A n c l g w h hz)
    by_cases hm : g ∈ gnos l
    · obtain ⟨_, ⟨e1, e2⟩⟩ := oc_in h0 hm
      rw [e1, e2]
      have ek := (gat_up hup g).1 hm
      have hk : gplc l g < l.length := by
        obtain ⟨h1, _⟩ := gmem_up hup g hm
        exact h1
      rw [ek] at HP
      unfold gplc at hk ⊢
      generalize (gnos l).countP (· < g) = k at HP hk ⊢
      have hkn : k < n := by rw [← h.len]; exact hk
      obtain ⟨i1, ji, jz0, jz1, jz2⟩ := info_grp
      obtain ⟨b, o, e, _, hg⟩ := h.get k hk
      subst e
      obtain ⟨ad1, hr1, hs1⟩ := rowcut_h (P := Try.prog) 22 41 i1 2 Try.underlying22 ji jz1 ⟨b, o, none⟩ n k c (k : Int) .i64 (by omega) rfl h.cap
      obtain ⟨ad2, hr2, hs2⟩ := rowcut_l (P := Try.prog) 22 41 i1 2 Try.underlying22 ji jz1 ⟨b, o, none⟩ n (n - (k + 1)) (k + 1) c ((k : Int) + 1) .i64 (by omega) (by omega) h.cap
      have HR1 := Lib.hid hr1
      have HR2 := Lib.hid hr2
      have hgl : (rws gpc l).length = n * 2 := by rw [rws_len _ (gp_len _), h.len]
      have HS1 := Lib.hid (fun W (hW : Below w.heap.size w W) => show Sees W W.heap.size (some ad1) (rws gpc (l.take k)) from by
        have := hs1 W W.heap.size _ (h.later hW).see
        rwa [rws_take l k (gp_len l)] at this)
      have HS2 := Lib.hid (fun W (hW : Below w.heap.size w W) => show Sees W W.heap.size (some ad2) (rws gpc (l.drop (k + 1))) from by
        have := hs2 W W.heap.size _ hgl (h.later hW).see
        rwa [rws_drop l (k + 1) (gp_len l)] at this)
      have HL1 : Hid ((rws gpc (l.take k)).length = k * 2) := Lib.hid (by rw [rws_len _ (gp_len _), List.length_take]; congr 1; omega)
      have HL2 : Hid ((rws gpc (l.drop (k + 1))).length = (n - (k + 1)) * 2) := Lib.hid (by rw [rws_len _ (gp_len _), List.length_drop, h.len])
      have HFIN : Hid (∀ W A' c', Below w.heap.size w W → W.ownsRow w.heap.size 41 2 (.slice A' (n - 1) c') (n - 1) (rws gpc (l.take k) ++ rws gpc (l.drop (k + 1))) → SeesG W A' (n - 1) c' (l.take k ++ l.drop (k + 1))) := Lib.hid (fun W A' c' hb hr => by
        rw [← rws_append] at hr
        have hln := h.len
        refine seesG_of h hb hr (by simp only [List.length_append, List.length_take, List.length_drop]; omega) (fun x hx => ?_)
        rw [List.mem_append] at hx
        exact .inl (hx.elim List.mem_of_mem_take List.mem_of_mem_drop))
      have HABS := Lib.hid (gabs_del l k)
      have hnum : k + (n - (k + 1)) = n - 1 := by omega
      have d3 : decide ((k : Int) < 0) = false := decide_eq_false (by omega)
      have hw1 : IntKind.i64.wrap ((k : Int) + 1) = (k : Int) + 1 := by rw [IntKind.wrap_i64]; omega
      have hcap := h.cap
      have hcm := h.max
      have ones : Hid (∀ m : List Gp, ∀ u ∈ rws gpc m, u.oneCell' = true) := Lib.hid (fun m => rws_all (fun y _ => gpc_one y))
      clear h hg hup hm hk h0 ek e1 e2 hr1 hr2 hs1 hs2 hgl
      go_enter Try.func14, Try.ntmps14
      go_wp2_with fail
      refine (HP.out).mono ?_
      rintro e w3 ⟨rfl, hb3⟩
      have HB3 := Lib.hid (hb3)
      clear hb3
      go_wp2_with fail
      refine wp_region_tail [(18, relRow0 w3.heap.size 41 2), (22, relRowN w3.heap.size 41 2 k (rws gpc (l.take k)))] 28 9 (by kernel_rfl) (by kernel_rfl) (by kernel_rfl) (by rfl) ?_
      simp only [List.take_succ_cons, List.take_zero, List.drop_succ_cons, List.drop_zero]
      refine wpG_open (relRow0 w3.heap.size 41 2) (by rfl) (by rfl) (fun wx hl => row0_gives 22 41 2 w3.heap.size rfl run_gp0 wx hl.1.size) ?_
      rintro _ ⟨_, _, _, ⟨_, bn, rfl, _⟩⟩
      simp only [Act.put, List.setIfInBounds_toArray, List.set_cons_zero, List.set_cons_succ]
      iterate 2 (refine wpG_quiet (by rfl) (by rfl) (by rfl) (fun K hK => ?_); go_big_quiet_op; refine hK _ ?_; clear hK K)
      refine wpG_run (by rfl) (by rfl) (.slice (some ad1) k c) (fun wx hl => exec_slice_h 22 (.tmp 19) (.tmp 20) rfl 41 Try.underlying22 _ _ _ rfl rfl HR1.out) ?_
      simp only [Act.put, List.setIfInBounds_toArray, List.set_cons_zero, List.set_cons_succ]
      refine wpG_open (relRowN w3.heap.size 41 2 k (rws gpc (l.take k))) (by rfl) (by rfl) (fun wx hl => ?_) ?_
      · have h10 := hl.2 18 _ (by simp [Op.operands, Call.operands]) rfl (by intro h; cases h)
        exact app_gives (.tmp 18) (.tmp 21) w3.heap.size 22 41 i1 _ 2 32 rfl Try.underlying22 ji jz0 jz1 jz2 rfl (by omega) wx h10 ad1 k c (rws gpc (l.take k)) rfl HL1.out (HS1.out wx (HB3.out.trans (hl.1.mono HB3.out.size))) (ones.out _) (by unfold maxLen; omega) (by omega)
      rintro u ⟨_, _, _, hrow⟩
      obtain ⟨A1, cq, rfl⟩ := row_form hrow
      clear hrow
      simp only [Act.put, List.setIfInBounds_toArray, List.set_cons_zero, List.set_cons_succ]
      iterate 3 (refine wpG_quiet (by rfl) (by rfl) (by rfl) (fun K hK => ?_); go_big_quiet_op; refine hK _ ?_; clear hK K)
      refine wpG_run (by rfl) (by rfl) (.slice (some ad2) (n - (k + 1)) (c - (k + 1))) (fun wx hl => exec_slice_l 22 (.tmp 23) (.tmp 25) rfl 41 Try.underlying22 _ _ _ rfl rfl HR2.out) ?_
      simp only [Act.put, List.setIfInBounds_toArray, List.set_cons_zero, List.set_cons_succ]
      refine wpG_nil fun wx hl hS => ?_
      obtain ⟨⟨_, _⟩, hrow⟩ := hS
      have HROW := Lib.hid hrow
      have hsz1 : w3.heap.size ≤ wx.heap.size := hl.size
      have HLE := Lib.hid hl
      have HBX := Lib.hid (HB3.out.trans (hl.mono HB3.out.size))
      have HSE := Lib.hid (HS2.out wx HBX.out)
      refine wpList_appk _ rfl (.tmp 22) (.tmp 26) 22 rfl w3.heap.size 41 i1 _ 2 32 Try.underlying22 ji jz0 jz1 jz2 rfl (by omega) (.slice A1 k cq) k (rws gpc (l.take k)) (by rfl) HROW.out wx.heap.size (some ad2) (c - (k + 1)) (rws gpc (l.drop (k + 1))) (n - (k + 1)) (by rfl) HL2.out HSE.out (ones.out _) (by unfold maxLen; omega) (by omega) hsz1 ?_
      intro A5 c5 w5 hr5 hb5 hg5 hat5
      rw [hnum] at hr5
      have HB5 := Lib.hid (HB3.out.trans ((Below.trans HLE.out hb5).mono HB3.out.size))
      have F1 := Lib.hid (HFIN.out w5 A5 c5 HB5.out (row_lower hr5 HB3.out.size))
      have HNUM := Lib.hid hnum
      clear hr5 hb5 hg5 hat5 HROW hsz1 HSE HLE HBX HS1 HS2 HL1 HL2 HR1 HR2 HFIN ones hl hnum
      go_wp2_with fail
      rw [HNUM.out]
      go_ret2
      exact ⟨A5, n - 1, c5, _, rfl, F1.out, HABS.out, HB5.out⟩
    · obtain ⟨_, ⟨e1, e2⟩⟩ := oc_out h0 hm
      rw [e1, e2]
      rw [(gat_up hup g).2 hm] at HP
      clear h hup h0 hm e1 e2
      go_enter Try.func14, Try.ntmps14
      go_wp2_with fail
      refine (HP.out).mono ?_
      rintro e w3 ⟨rfl, hb3⟩
      have HB3 := Lib.hid (hb3)
      clear hb3
      go_wp2_with fail
      go_ret2
      exact ⟨none, 0, 0, [], rfl, SeesG.nil_ _, rfl, HB3.out⟩
  · obtain ⟨_, ⟨e1, e2⟩⟩ := oc_arg (l := l) h0
    rw [e1, e2]
    clear h hup e1 e2
    by_cases d1 : g < 0
    · have d1 : decide (g < 0) = true := decide_eq_true d1
      clear h0
      go_enter Try.func14, Try.ntmps14
      go_wp2_with fail
      go_ret2
      exact ⟨none, 0, 0, [], rfl, SeesG.nil_ _, rfl, HB0.out⟩
    · have b1 : decide (g < 0) = false := decide_eq_false d1
      have d2 : decide (16 ≤ g) = true := decide_eq_true (by omega)
      clear h0
      go_enter Try.func14, Try.ntmps14
      go_wp2_with fail
      go_ret2
      exact ⟨none, 0, 0, [], rfl, SeesG.nil_ _, rfl, HB0.out⟩

set_option maxRecDepth 100000 in
set_option maxHeartbeats 3200000 in
theorem ropen_any (A : Option Addr) (n c : Nat) (l : List Gp) (g : Int) (w : World) (h : SeesG w A n c l) (hz : n ≤ 65535) (hup : Up (gnos l)) :
    Calls Try.prog 11 #[.slice A n c, .int .i64 g] w (GivesGE w (ores l g) (ocode l g)) := by
  have hu := Try.underlying41
  have HB0 := Lib.hid (Below.refl w.heap.size w)
  by_cases h0 : 0 ≤ g ∧ g < 16
  · have d1 : decide (g < 0) = false := decide_eq_false (by omega)
    have d2 : decide (16 ≤ g) = false := decide_eq_false (by omega)
    have HP := Lib.hid (rplace_any A n c l g w h (by omega))
    by_cases hm : g ∈ gnos l
    · obtain ⟨⟨e1, e2⟩, _⟩ := oc_in h0 hm
      rw [e1, e2]
      rw [(gat_up hup g).1 hm] at HP
      generalize (gnos l).countP (· < g) = k at HP
      have d3 : decide (0 ≤ (k : Int)) = true := decide_eq_true (by omega)
      clear h hup h0 hm e1 e2
      go_enter Try.func11, Try.ntmps11
      go_wp2_with fail
      refine (HP.out).mono ?_
      rintro e w3 ⟨rfl, hb3⟩
      have HB3 := Lib.hid (hb3)
      clear hb3
      go_wp2_with fail
      go_ret2
      exact ⟨none, 0, 0, [], rfl, SeesG.nil_ _, rfl, HB3.out⟩
    · obtain ⟨⟨e1, e2⟩, _⟩ := oc_out h0 hm
      rw [e1, e2]
      rw [(gat_up hup g).2 hm] at HP
      have hpn : gplc l g ≤ n := by rw [← h.len]; exact gplc_le l g
      have HLOW := Lib.hid (fun k (hk : k < l.length) (hp : k < gplc l g) => gplc_low hup g k hk hp)
      have HHIGH := Lib.hid (fun k (hk : k < l.length) (hp : gplc l g ≤ k) => gplc_high hup g k hk hp)
      obtain ⟨i1, ji, jz0, jz1, jz2⟩ := info_grp
      obtain ⟨A2, hcut, hs2⟩ := gcut h (gplc l g) hpn
      have HCUT := Lib.hid hcut
      have HS2 := Lib.hid hs2
      have HNX := Lib.hid (fun k (hk : k < l.length) => rws_next l k hk)
      have HS := Lib.hid h
      have HN := Lib.hid h.len
      have HFIN : Hid (∀ W A' c', Below w.heap.size w W → W.ownsRow w.heap.size 41 2 (.slice A' (n + 1) c') (n + 1) (rws gpc (l.take (gplc l g)) ++ gpc (xg g) ++ rws gpc (l.drop (gplc l g))) → SeesG W A' (n + 1) c' (l.take (gplc l g) ++ xg g :: l.drop (gplc l g))) := Lib.hid (fun W A' c' hb hr => by
        have e : rws gpc (l.take (gplc l g)) ++ gpc (xg g) ++ rws gpc (l.drop (gplc l g)) = rws gpc (l.take (gplc l g) ++ xg g :: l.drop (gplc l g)) := by rw [rws_append, rws_cons, List.append_assoc]
        rw [e] at hr
        have hln := h.len
        refine seesG_of h hb hr (by simp only [List.length_append, List.length_cons, List.length_take, List.length_drop]; omega) (fun x hx => ?_)
        rw [List.mem_append, List.mem_cons] at hx
        rcases hx with hx | rfl | hx
        · exact .inl (List.mem_of_mem_take hx)
        · exact .inr ⟨g, rfl⟩
        · exact .inl (List.mem_of_mem_drop hx))
      have HABS := Lib.hid (gabs_ins l (gplc l g) (xg g))
      have HL2 : Hid ((rws gpc (l.drop (gplc l g))).length = (n - gplc l g) * 2) := Lib.hid (by rw [rws_len _ (gp_len _), List.length_drop, h.len])
      generalize gplc l g = p at hpn HLOW HHIGH HCUT HS2 HFIN HABS HL2 ⊢
      have ones : Hid (∀ m : List Gp, ∀ u ∈ rws gpc m, u.oneCell' = true) := Lib.hid (fun m => rws_all (fun y _ => gpc_one y))
      have HCAP := Lib.hid h.cap
      clear h hup hm h0 e1 e2 hcut hs2
      go_enter Try.func11, Try.ntmps11
      go_wp2_with fail
      refine (HP.out).mono ?_
      rintro e w3 ⟨rfl, hb3⟩
      have HB3 := Lib.hid (hb3)
      clear hb3
      have HLA := Lib.hid (HB3.out.alloc HB3.out.size (.cells #[] 41))
      have HROW0 := Lib.hid (row_lit w3 w.heap.size 41 2 0 #[] HB3.out.size (by simp [maxLen]) rfl)
      go_wp2_with fail
      go_loopw [7, 6] (fun i v wr => ∃ k : Nat, k ≤ p ∧ i = .int .i64 (k : Int) ∧ (∃ A1 c1, v = .slice A1 k c1 ∧ Hid (wr.ownsRow w.heap.size 41 2 v k (rws gpc (l.take k)))) ∧ Hid (Below w.heap.size w wr)) (fun i _ _ => p - (intOf i).toNat)
      case atStart => exact ⟨0, by omega, rfl, ⟨_, _, rfl, HROW0⟩, HLA⟩
      case round =>
        clear HROW0 HLA HB3 HB0
        obtain ⟨k, hk, rfl, ⟨A1, c1, rfl, HR⟩, HB⟩ := hrel
        by_cases hlt : k < p
        · have d0 : decide ((k : Int) < (n : Int)) = true := decide_eq_true (by omega)
          have hkl : k < l.length := by rw [HN.out]; omega
          obtain ⟨b, o, rfl, _, hg⟩ := HS.out.get k hkl
          have HC : Hid (∀ W, Below w.heap.size w W → W.cell? ⟨b, o + k * 2, none⟩ = some (.int .i64 l[k].no) ∧ W.cell? ⟨b, o + k * 2 + 1, none⟩ = some (.slice l[k].A l[k].n l[k].c) ∧ W.rangeAt b (o + k * 2) [.int .i64 l[k].no, .slice l[k].A l[k].n l[k].c]) := Lib.hid (fun W hW => ⟨(hg W hW).2.1, (hg W hW).2.2.1, (hg W hW).1⟩)
          have hx : rws gpc (l.take k) ++ [.int .i64 l[k].no, .slice l[k].A l[k].n l[k].c] = rws gpc (l.take (k + 1)) := HNX.out k hkl
          have dq : decide (l[k].no < g) = true := decide_eq_true (HLOW.out k hkl hlt)
          have hone : Hid (∀ u ∈ ([.int .i64 l[k].no, .slice l[k].A l[k].n l[k].c] : List Value), u.oneCell' = true) := Lib.hid (gpc_one l[k])
          clear hg HFIN HABS HHIGH HLOW HCUT HS2 HL2 ones
          generalize l[k].no = q at HC hx dq hone
          generalize l[k].A = qA at HC hx hone
          generalize l[k].n = qn at HC hx hone
          generalize l[k].c = qc at HC hx hone
          have HX := Lib.hid hx
          clear hx
          have hcx := (HC.out wr HB.out).1
          have hrg := (HC.out wr HB.out).2.2
          have hlw := (Below.refl wr.heap.size wr).alloc (Nat.le_refl _) (.cells #[.int .i64 q, .slice qA qn qc] 41)
          have HLW := Lib.hid (HB.out.alloc HB.out.size (.cells #[.int .i64 q, .slice qA qn qc] 41))
          have HR5 := Lib.hid (row_later HR.out hlw)
          have FIN : Blk (wr.alloc (.cells #[.int .i64 q, .slice qA qn qc] 41)) wr.heap.size [.int .i64 q, .slice qA qn qc] := Blk.new wr [.int .i64 q, .slice qA qn qc] 41
          have HSEE : Hid (Sees (wr.alloc (.cells #[.int .i64 q, .slice qA qn qc] 41)) (wr.alloc (.cells #[.int .i64 q, .slice qA qn qc] 41)).heap.size (some ⟨wr.heap.size, 0, none⟩) [.int .i64 q, .slice qA qn qc]) := Lib.hid (fun _ => ⟨wr.heap.size, 0, rfl, FIN.lt, fun j hj => by rw [Nat.zero_add]; exact FIN.cell (List.getElem?_eq_getElem hj)⟩)
          have HBS := Lib.hid HLW.out.size
          clear hlw FIN
          go_wp2_with (first
            | (refine wpList_load_mid rfl 41 (.tmp 38) rfl b (o + k * 2) rfl [.int .i64 q, .slice qA qn qc] _ hrg hu rfl info_gp ?_
               simp only [Act.put, List.setIfInBounds_toArray, List.set_cons_zero, List.set_cons_succ])
            | (at_builtin
               refine wpList_appk _ rfl (.tmp 35) (.tmp 40) 22 rfl w.heap.size 41 i1 _ 2 32 Try.underlying22 ji jz0 jz1 jz2 rfl (by decide) (.slice A1 k c1) k (rws gpc (l.take k)) rfl HR5.out _ (some ⟨wr.heap.size, 0, none⟩) 1 [.int .i64 q, .slice qA qn qc] 1 rfl rfl HSEE.out hone.out (by unfold maxLen; omega) (by omega) HBS.out ?_
               intro A6 c6 w6 hr6 hb6 hg6 hat6
               rw [HX.out] at hr6
               have HR6 := Lib.hid hr6
               have HB6 := Lib.hid (HLW.out.trans hb6)
               clear hr6 hb6 hg6 hat6)
            | fail)
          go_roundw
          case rel => exact ⟨k + 1, by omega, by go_num, ⟨A6, c6, rfl, HR6⟩, HB6⟩
          case measure => simp [intOf]; omega
        · obtain rfl : k = p := by omega
          have hb4 := (Below.refl wr.heap.size wr).alloc (Nat.le_refl _) (.cells #[.int .i64 g, .slice none 0 0] 41)
          have HB4 := Lib.hid (HB.out.alloc HB.out.size (.cells #[.int .i64 g, .slice none 0 0] 41))
          have HR4 := Lib.hid (row_later HR.out hb4)
          have FIN : Blk (wr.alloc (.cells #[.int .i64 g, .slice none 0 0] 41)) wr.heap.size [.int .i64 g, .slice none 0 0] := Blk.new wr [.int .i64 g, .slice none 0 0] 41
          have HSEE : Hid (Sees (wr.alloc (.cells #[.int .i64 g, .slice none 0 0] 41)) (wr.alloc (.cells #[.int .i64 g, .slice none 0 0] 41)).heap.size (some ⟨wr.heap.size, 0, none⟩) [.int .i64 g, .slice none 0 0]) := Lib.hid (fun _ => ⟨wr.heap.size, 0, rfl, FIN.lt, fun j hj => by rw [Nat.zero_add]; exact FIN.cell (List.getElem?_eq_getElem hj)⟩)
          have HBS := Lib.hid HB4.out.size
          have hone : Hid (∀ u ∈ ([.int .i64 g, .slice none 0 0] : List Value), u.oneCell' = true) := Lib.hid (gpc_one (xg g))
          clear hb4 FIN HLOW HNX
          by_cases hkn : k < n
          · have d0 : decide ((k : Int) < (n : Int)) = true := decide_eq_true (by omega)
            have hkl : k < l.length := by rw [HN.out]; exact hkn
            obtain ⟨b, o, eA, _, hg⟩ := HS.out.get k hkl
            subst eA
            have hcx := (hg wr HB.out).2.1
            have dq : decide (l[k].no < g) = false := decide_eq_false (by have := HHIGH.out k hkl (Nat.le_refl _); omega)
            clear hg HHIGH
            generalize l[k].no = q at hcx dq
            go_wp2_with (first
              | (at_builtin
                 refine wpList_appk _ rfl (.tmp 44) (.tmp 47) 22 rfl w.heap.size 41 i1 _ 2 32 Try.underlying22 ji jz0 jz1 jz2 rfl (by decide) (.slice A1 k c1) k (rws gpc (l.take k)) rfl HR4.out _ (some ⟨wr.heap.size, 0, none⟩) 1 [.int .i64 g, .slice none 0 0] 1 rfl rfl HSEE.out hone.out (by unfold maxLen; omega) (by omega) HBS.out ?_
                 intro A6 c6 w6 hr6 hb6 hg6 hat6
                 have HR6 := Lib.hid hr6
                 have HB6 := Lib.hid (HB4.out.trans hb6)
                 have HSE6 := Lib.hid (HS2.out w6 HB6.out)
                 have HBS6 := Lib.hid HB6.out.size
                 clear hr6 hb6 hg6 hat6)
              | (refine wpList_exec (by rfl) (.slice A2 (n - k) (c - k)) (exec_slice_l 22 (.tmp 50) (.tmp 51) rfl 41 Try.underlying22 _ _ _ rfl rfl HCUT.out) ?_
                 simp only [Act.put, List.setIfInBounds_toArray, List.set_cons_zero, List.set_cons_succ])
              | (at_builtin
                 refine wpList_appk _ rfl (.tmp 49) (.tmp 52) 22 rfl w.heap.size 41 i1 _ 2 32 Try.underlying22 ji jz0 jz1 jz2 rfl (by decide) (.slice A6 (k + 1) c6) (k + 1) _ rfl HR6.out _ A2 (c - k) (rws gpc (l.drop k)) (n - k) rfl HL2.out HSE6.out (ones.out _) (by unfold maxLen; omega) (by omega) HBS6.out ?_
                 intro A7 c7 w7 hr7 hb7 hg7 hat7
                 rw [show k + 1 + (n - k) = n + 1 by omega] at hr7 ⊢
                 have HB7 := Lib.hid (HB6.out.trans hb7)
                 have F1 := Lib.hid (HFIN.out w7 A7 c7 HB7.out hr7)
                 clear hr7 hb7 hg7 hat7)
              | fail)
            go_ret2
            exact ⟨A7, n + 1, c7, _, rfl, F1.out, HABS.out, HB7.out⟩
          · have d0 : decide ((k : Int) < (n : Int)) = false := decide_eq_false (by omega)
            clear HHIGH
            go_wp2_with (first
              | (at_builtin
                 refine wpList_appk _ rfl (.tmp 44) (.tmp 47) 22 rfl w.heap.size 41 i1 _ 2 32 Try.underlying22 ji jz0 jz1 jz2 rfl (by decide) (.slice A1 k c1) k (rws gpc (l.take k)) rfl HR4.out _ (some ⟨wr.heap.size, 0, none⟩) 1 [.int .i64 g, .slice none 0 0] 1 rfl rfl HSEE.out hone.out (by unfold maxLen; omega) (by omega) HBS.out ?_
                 intro A6 c6 w6 hr6 hb6 hg6 hat6
                 have HR6 := Lib.hid hr6
                 have HB6 := Lib.hid (HB4.out.trans hb6)
                 have HSE6 := Lib.hid (HS2.out w6 HB6.out)
                 have HBS6 := Lib.hid HB6.out.size
                 clear hr6 hb6 hg6 hat6)
              | (refine wpList_exec (by rfl) (.slice A2 (n - k) (c - k)) (exec_slice_l 22 (.tmp 50) (.tmp 51) rfl 41 Try.underlying22 _ _ _ rfl rfl HCUT.out) ?_
                 simp only [Act.put, List.setIfInBounds_toArray, List.set_cons_zero, List.set_cons_succ])
              | (at_builtin
                 refine wpList_appk _ rfl (.tmp 49) (.tmp 52) 22 rfl w.heap.size 41 i1 _ 2 32 Try.underlying22 ji jz0 jz1 jz2 rfl (by decide) (.slice A6 (k + 1) c6) (k + 1) _ rfl HR6.out _ A2 (c - k) (rws gpc (l.drop k)) (n - k) rfl HL2.out HSE6.out (ones.out _) (by unfold maxLen; omega) (by omega) HBS6.out ?_
                 intro A7 c7 w7 hr7 hb7 hg7 hat7
                 rw [show k + 1 + (n - k) = n + 1 by omega] at hr7 ⊢
                 have HB7 := Lib.hid (HB6.out.trans hb7)
                 have F1 := Lib.hid (HFIN.out w7 A7 c7 HB7.out hr7)
                 clear hr7 hb7 hg7 hat7)
              | fail)
            go_ret2
            exact ⟨A7, n + 1, c7, _, rfl, F1.out, HABS.out, HB7.out⟩
  · obtain ⟨⟨e1, e2⟩, _⟩ := oc_arg (l := l) h0
    rw [e1, e2]
    clear h hup e1 e2
    by_cases d1 : g < 0
    · have d1 : decide (g < 0) = true := decide_eq_true d1
      clear h0
      go_enter Try.func11, Try.ntmps11
      go_wp2_with fail
      go_ret2
      exact ⟨none, 0, 0, [], rfl, SeesG.nil_ _, rfl, HB0.out⟩
    · have b1 : decide (g < 0) = false := decide_eq_false d1
      have d2 : decide (16 ≤ g) = true := decide_eq_true (by omega)
      clear h0
      go_enter Try.func11, Try.ntmps11
      go_wp2_with fail
      go_ret2
      exact ⟨none, 0, 0, [], rfl, SeesG.nil_ _, rfl, HB0.out⟩
end Go.Proofs.Ytglhgdkghddcaaa
