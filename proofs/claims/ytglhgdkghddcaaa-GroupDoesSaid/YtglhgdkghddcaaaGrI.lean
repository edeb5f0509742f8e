/- Groups: a group is opened where there is none; the chapter's example. -/
import Derived.Test.YtglhgdkghddcaaaGrH
namespace Go.Proofs.Ytglhgdkghddcaaa
set_option linter.unusedVariables false
set_option linter.unusedSimpArgs false
open Go Go.RowKit IdsM

set_option maxRecDepth 100000 in
set_option maxHeartbeats 1600000 in
theorem alln_any (v : Value) (w : World) : Calls Try.prog 35 #[.slice none 0 0, v] w fun e w' => e = .returned (.slice none 0 0) ∧ w = w' := by
  go_enter Try.func35, Try.ntmps35
  go_wp2_with fail
  go_loopw [10, 5] (fun i s wr => i = .int .i64 0 ∧ s = .slice none 0 0 ∧ wr = w) (fun _ _ _ => 0)
  case atStart => exact ⟨rfl, rfl, rfl⟩
  case round =>
    obtain ⟨rfl, rfl, rfl⟩ := hrel
    go_wp2_with fail
    go_ret
    exact ⟨rfl, rfl⟩

set_option maxRecDepth 100000 in
set_option maxHeartbeats 1600000 in
theorem insert0_any (b : Nat) (x : Gp) (w : World) (hb : Blk w b (gpc x)) (hx : okGp w x) :
    Calls Try.prog 34 #[.slice none 0 0, .int .i64 0, .slice (some ⟨b, 0, none⟩) 1 1] w (GivesG w [gab x]) := by
  obtain ⟨i1, ji, jz0, jz1, jz2⟩ := info_grp
  have hsee : Sees w w.heap.size (some ⟨b, 0, none⟩) (gpc x) := fun _ => ⟨b, 0, rfl, hb.lt, fun j hj => by rw [Nat.zero_add]; exact hb.cell (List.getElem?_eq_getElem hj)⟩
  have HX := Lib.hid hx
  have HSEE := Lib.hid hsee
  clear hb hx hsee
  go_enter Try.func34, Try.ntmps34
  go_wp2_with (first
    | (at_builtin
       refine wpList_appk _ rfl (.tmp 23) (.tmp 24) 22 rfl w.heap.size 41 i1 _ 2 32 Try.underlying22 ji jz0 jz1 jz2 rfl (by decide) (.slice none 0 0) 0 [] rfl (World.ownsRow_nil w w.heap.size 41 2) w.heap.size (some ⟨b, 0, none⟩) 1 (gpc x) 1 rfl rfl HSEE.out (gpc_one x) (by unfold maxLen; omega) (by omega) (Nat.le_refl _) ?_
       intro A5 c5 w5 hr5 hb5 hg5 hat5)
    | fail)
  have HR5 := Lib.hid hr5
  have HB5 := Lib.hid hb5
  have HX5 := Lib.hid (HX.out.later hb5)
  clear hr5 hb5 hg5 hat5
  go_ret
  refine ⟨A5, 1, c5, [x], rfl, ⟨rfl, (row_cap HR5.out).1, (row_cap HR5.out).2, ?_, fun g hg => ?_⟩, rfl, HB5.out⟩
  · have := row_sees HR5.out
    rw [rws_one]
    exact this
  · rw [List.mem_singleton] at hg
    subst hg
    exact HX5.out
def x3 : Gp := ⟨3, none, 0, 0, []⟩
theorem x3_ok (w : World) : okGp w x3 := ⟨rfl, Nat.le_refl _, by simp [x3, maxLen], Sees.nil_⟩

set_option maxRecDepth 100000 in
set_option maxHeartbeats 1600000 in
theorem open0_any (w : World) : Calls Try.prog 10 #[.slice none 0 0, .int .i64 3] w (GivesGE w [(3, [])] 0) := by
  have HG := Lib.hid (fun wx : World => grp_any 3 wx)
  rw [decide_eq_true (show (0 : Int) ≤ 3 ∧ (3 : Int) < 16 by omega)] at HG
  have HP := Lib.hid (fun wx : World => gplace_any none 0 0 [] 3 wx (SeesG.nil_ wx) (by omega) List.Pairwise.nil)
  rw [decide_eq_false (show (3 : Int) ∉ gnos [] by simp [gnos]), show (gnos []).countP (· < 3) = 0 from rfl] at HP
  have HI := Lib.hid (fun (b : Nat) (wx : World) (hb : Blk wx b (gpc x3)) => insert0_any b x3 wx hb (x3_ok wx))
  have HAL := Lib.hid (fun wx : World => alln_any (.func (.func 36) #[] #[]) wx)
  go_enter Try.func10, Try.ntmps10
  go_wp2_with fail
  refine (HG.out _).mono ?_
  rintro e w2 ⟨rfl, rfl⟩
  go_wp2_with fail
  refine (HP.out _).mono ?_
  rintro e w2 ⟨rfl, hb2⟩
  have HB2 := Lib.hid hb2
  clear hb2
  go_wp2_with fail
  refine (HAL.out _).mono ?_
  rintro e w3 ⟨rfl, rfl⟩
  have HB3 := Lib.hid (HB2.out.alloc HB2.out.size (.cells #[.int .i64 3, .slice none 0 0] 41))
  have HI2 := Lib.hid (HI.out w2.heap.size (w2.alloc (.cells #[.int .i64 3, .slice none 0 0] 41)) (Blk.new w2 (gpc x3) 41))
  go_wp2_with fail
  refine HI2.out.mono ?_
  intro e w4 hh
  obtain ⟨A3, n3, c3, gs, rfl, hs, hg, hb3⟩ := hh.base HB3.out
  have HS := Lib.hid hs
  have HG4 := Lib.hid hg
  have HB4 := Lib.hid hb3
  clear hs hg hb3 hh
  go_wp2_with fail
  go_ret2
  exact ⟨A3, n3, c3, gs, rfl, HS.out, HG4.out, HB4.out⟩

theorem gabs_one {gs : List Gp} {q : Int} {m : List Int} (h : gabs gs = [(q, m)]) : ∃ x, gs = [x] ∧ x.no = q ∧ x.m = m := by
  match gs, h with
  | [x], h =>
    simp only [gabs, gab, List.map_cons, List.map_nil, List.cons.injEq, Prod.mk.injEq, and_true] at h
    exact ⟨x, rfl, h.1, h.2⟩
theorem ok_one (x : Gp) (h : x.no = 3) (hr : Rise x.m) : GOk [x] := ⟨List.pairwise_singleton _ _, fun g hg => by
  rw [List.mem_singleton] at hg; subst hg; exact ⟨by omega, hr⟩⟩
theorem gmem_one (x : Gp) (h : x.no = 3) : gmem [x] 3 = x.m := gmem_here 0 (by simp) h (fun i _ hi => absurd hi (by omega))
theorem code_one (x : Gp) (h : x.no = 3) : acode [x] 3 5 = 0 ∧ ais [x] 3 5 = decide (5 ∈ x.m) := by
  have := acode_ok (l := [x]) (g := 3) (id := 5) (by omega) (by simp [gnos, h])
  rwa [gmem_one x h] at this
theorem join_one (x : Gp) (h : x.no = 3) (hm : x.m = []) : jcode [x] 3 5 = 0 ∧ jres [x] 3 5 = [(3, [5])] := by
  obtain ⟨a, b⟩ := code_one x h
  rw [hm] at b
  have e : jcode [x] 3 5 = 0 := by unfold jcode; rw [a, b]; rfl
  refine ⟨e, ?_⟩
  unfold jres
  rw [if_pos e]
  have hp : put [] 5 = [5] := by rw [put_ref Rise.nil_ 5]; first | rfl | decide | simp [refPut]
  simp only [chg1, List.map_cons, List.map_nil, h, hm, if_true, hp]
theorem join_two (x : Gp) (h : x.no = 3) (hm : x.m = [5]) : jcode [x] 3 5 = 7 := by
  obtain ⟨a, b⟩ := code_one x h
  rw [hm] at b
  unfold jcode; rw [a, b]; rfl
theorem of_one (x : Gp) (h : x.no = 3) (hm : x.m = [5]) : gof [x] 5 = 8#32 := by
  simp only [gof, gof1, List.foldl_cons, List.foldl_nil, h, hm]
  rfl

set_option maxRecDepth 100000 in
set_option maxHeartbeats 3200000 in
theorem gr_awake (w : World) : Calls Try.prog 7 #[] w fun e w' => e = .returned (.bool true) ∧ Below w.heap.size w w' := by
  go_enter Try.func7, Try.ntmps7
  go_wp2_with fail
  refine (open0_any _).mono ?_
  rintro e w1 ⟨A1, n1, c1, gs1, rfl, hs1, hg1, hb1⟩
  obtain ⟨x, rfl, hx1, hx2⟩ := gabs_one hg1
  have HJ := Lib.hid (join_any A1 n1 c1 [x] 3 5 w1 hs1 (by rw [← hs1.len]; simp) (fun g hg => by rw [List.mem_singleton] at hg; subst hg; rw [← (hs1.ok g List.mem_cons_self).len, hx2]; simp) (ok_one x hx1 (by rw [hx2]; exact Rise.nil_)))
  rw [(join_one x hx1 hx2).1, (join_one x hx1 hx2).2] at HJ
  have HB1 := Lib.hid hb1
  clear hs1 hg1 hb1
  go_wp2_with fail
  refine HJ.out.mono ?_
  rintro e w2 ⟨A2, n2, c2, gs2, rfl, hs2, hg2, hb2⟩
  obtain ⟨y, rfl, hy1, hy2⟩ := gabs_one hg2
  have hn2 : n2 ≤ 65536 := by rw [← hs2.len]; simp
  have hz2 : ∀ g ∈ [y], g.n ≤ 65000 := fun g hg => by rw [List.mem_singleton] at hg; subst hg; rw [← (hs2.ok g List.mem_cons_self).len, hy2]; simp
  have hok2 : GOk [y] := ok_one y hy1 (by rw [hy2]; exact rise_next0 (l := [5]) (by simp) (by simp))
  have HJ2 := Lib.hid (join_any A2 n2 c2 [y] 3 5 w2 hs2 hn2 hz2 hok2)
  rw [join_two y hy1 hy2] at HJ2
  have HOF : Hid (∀ W, Below w2.heap.size w2 W → Calls Try.prog 23 #[.slice A2 n2 c2, .int .i64 5] W fun e w' => e = .returned (.int .u32 8) ∧ Below W.heap.size W w') := Lib.hid (fun W hW => by
    have := gof_any A2 n2 c2 [y] 5 W (hs2.later hW) hn2 (fun g hg => by have := hz2 g hg; omega) hok2
    rw [of_one y hy1 hy2] at this
    exact this)
  have HB2 := Lib.hid (HB1.out.trans (hb2.mono HB1.out.size))
  clear hs2 hg2 hb2 hn2 hz2 hok2 hx1 hx2 hy1 hy2 HJ
  go_wp2_with fail
  refine HJ2.out.mono ?_
  rintro e w3 ⟨A3, n3, c3, gs3, rfl, _, _, hb3⟩
  have HOF3 := Lib.hid (HOF.out w3 hb3)
  have HB3 := Lib.hid (HB2.out.trans (hb3.mono HB2.out.size))
  clear hb3 HJ2 HOF
  go_wp2_with fail
  refine HOF3.out.mono ?_
  rintro e w4 ⟨rfl, hb4⟩
  have HB4 := Lib.hid (HB3.out.trans (hb4.mono HB3.out.size))
  clear hb4
  go_wp2_with fail
  go_ret
  exact ⟨rfl, HB4.out⟩
end Go.Proofs.Ytglhgdkghddcaaa
