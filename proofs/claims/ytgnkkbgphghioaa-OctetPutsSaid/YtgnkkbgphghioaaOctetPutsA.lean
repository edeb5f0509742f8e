/- OctetPuts: the walk where the bytes ahead and the text are within bounds. -/
import Derived.Test.YtgnkkbgphghioaaOctetBack
import Derived.Test.YtgnkkbgphghioaaOctP
import Derived.Test.YtgnkkbgphghioaaSteady
namespace Go.Proofs.Ytgnkkbgphghioaa
set_option linter.unusedVariables false
open Go.ChangeShapes Go.WideShapes Go.ChangeAt Go.RowKit OctM
open Go.ChangeMaps (open_string shut_string)

theorem str_conv (w : World) (B : Nat) (A : Option Addr) (n c : Nat) (l : List UInt8) (s : ByteArray) (hn : l.length = n) (hs : Sees w B A (bvs l)) (h : s = str l) : (convert 22 9 (.slice A n c)).run Try.prog w = .ok (.string s) w := by
  subst h
  exact run_str (P := Try.prog) w B 22 5 9 Try.underlying22 Try.underlying5 Try.underlying9 A n c l hn hs

/-- A slot that holds a slice of these bytes. -/
def relBytes (n : Nat) (l : List UInt8) : Rel where
  rel v w := ∃ A c, v = .slice A n c ∧ Sees w w.heap.size A (bvs l)
  mono := fun v w w' h ⟨A, c, e, hs⟩ => ⟨A, c, e, sees_on hs h⟩
  real := fun w ⟨A, c, e, _⟩ => by cases e

theorem below_drew {B : Nat} {a w : World} (h : Below B a w) : Below B a w.drew := ⟨h.os, h.tape, h.output, h.size, h.block⟩

set_option maxHeartbeats 6400000 in
theorem walk_puts_main (z : Int) (t : List UInt8) (A : Option Addr) (c : Nat) (la : List UInt8) (w : World) (hnc : la.length ≤ c) (hcm : c ≤ maxLen) (hs : Sees w w.heap.size A (bvs la)) (h2 : t.length ≤ 1000) (h3 : la.length ≤ 1000) :
    Calls Try.prog 3 #[.slice A la.length c, .int .i64 z, .string (str t)] w fun e w' => e = .returned (.bool true) ∧ Below w.heap.size w w' := by
  obtain ⟨b, hb⟩ : ∃ b, b = (z.tmod 2 == 0) := ⟨_, rfl⟩
  obtain ⟨ln, hln⟩ : ∃ l, l = la ++ enc (held z) := ⟨_, rfl⟩
  obtain ⟨ls, hls⟩ : ∃ l, l = la ++ (enc t.length ++ t) := ⟨_, rfl⟩
  obtain ⟨lf, hlf⟩ : ∃ l, l = la ++ enc (truth b) := ⟨_, rfl⟩
  obtain ⟨rn, hrn⟩ : ∃ s, s = str (enc (held z)) := ⟨_, rfl⟩
  obtain ⟨rs, hrs⟩ : ∃ s, s = str (enc t.length ++ t) := ⟨_, rfl⟩
  obtain ⟨rf, hrf⟩ : ∃ s, s = str (enc (truth b)) := ⟨_, rfl⟩
  obtain ⟨sn, hsn⟩ : ∃ s, s = str ln := ⟨_, rfl⟩
  obtain ⟨ss, hss⟩ : ∃ s, s = str ls := ⟨_, rfl⟩
  obtain ⟨sf, hsf⟩ : ∃ s, s = str lf := ⟨_, rfl⟩
  obtain ⟨sp, hsp⟩ : ∃ sp, sp = str la := ⟨_, rfl⟩
  obtain ⟨st, hst'⟩ : ∃ st, st = str t := ⟨_, rfl⟩
  obtain ⟨kn, hkn⟩ : ∃ k, k = ln.length := ⟨_, rfl⟩
  obtain ⟨ks, hks⟩ : ∃ k, k = ls.length := ⟨_, rfl⟩
  obtain ⟨kf, hkf⟩ : ∃ k, k = lf.length := ⟨_, rfl⟩
  obtain ⟨n, hn⟩ : ∃ n, n = la.length := ⟨_, rfl⟩
  have add1 : sp ++ rn = sn := by rw [hsp, hrn, str_append, hsn, hln]
  have add2 : sp ++ rs = ss := by rw [hsp, hrs, str_append, hss, hls]
  have add3 : sp ++ rf = sf := by rw [hsp, hrf, str_append, hsf, hlf]
  have zp : sp.size = n := by rw [hsp, str_size, hn]
  have zt : st.size = t.length := by rw [hst', str_size]
  have zn : rn.size ≤ 6 := by rw [hrn, str_size]; exact held_len z
  have het : (enc t.length).length ≤ 6 := enc_len 5 _ (by simp; omega)
  have zs : rs.size ≤ 1006 := by rw [hrs, str_size, List.length_append]; omega
  have zf : rf.size ≤ 1 := by rw [hrf, str_size]; exact enc_len 0 _ (by cases b <;> simp [truth])
  have HNUM := Lib.hid (fun (wx : World) (h : Sees wx wx.heap.size A (bvs la)) => (oct_num A n c la z wx hn.symm h (by omega)).mono (fun e w' (hx : GivesBytes wx (la ++ enc (held z)) e w') =>
    (show ∃ A' c', e = .returned (.slice A' kn c') ∧ Sees w' w'.heap.size A' (bvs ln) ∧ Below wx.heap.size wx w' from by
      obtain ⟨A', c', he, ho, hb'⟩ := hx
      rw [← hln] at he ho; rw [← hkn] at he
      exact ⟨A', c', he, ho.sees, hb'⟩)))
  have HSTR := Lib.hid (fun (wx : World) (h : Sees wx wx.heap.size A (bvs la)) => (oct_str A n c la t t.length wx hn.symm h (by omega) rfl (by omega)).mono (fun e w' (hx : GivesBytes wx (la ++ (enc t.length ++ t)) e w') =>
    (show ∃ A' c', e = .returned (.slice A' ks c') ∧ Sees w' w'.heap.size A' (bvs ls) ∧ Below wx.heap.size wx w' from by
      obtain ⟨A', c', he, ho, hb'⟩ := hx
      rw [← hls] at he ho; rw [← hks] at he
      exact ⟨A', c', he, ho.sees, hb'⟩)))
  have HFLG := Lib.hid (fun (wx : World) (h : Sees wx wx.heap.size A (bvs la)) => (oct_flag A n c la b wx hn.symm h (by omega)).mono (fun e w' (hx : GivesBytes wx (la ++ enc (truth b)) e w') =>
    (show ∃ A' c', e = .returned (.slice A' kf c') ∧ Sees w' w'.heap.size A' (bvs lf) ∧ Below wx.heap.size wx w' from by
      obtain ⟨A', c', he, ho, hb'⟩ := hx
      rw [← hlf] at he ho; rw [← hkf] at he
      exact ⟨A', c', he, ho.sees, hb'⟩)))
  have HRN := Lib.hid (fun wx : World => ref_num z wx)
  have HRS := Lib.hid (fun wx : World => ref_str t wx (by omega))
  have HRF := Lib.hid (fun wx : World => ref_flag b wx)
  rw [← hrn] at HRN
  rw [← hrs, ← hst'] at HRS
  rw [← hrf] at HRF
  rw [← hst'] at HSTR
  have CN := Lib.hid (fun (wx : World) (A' : Option Addr) (c' : Nat) (h : Sees wx wx.heap.size A' (bvs ln)) => str_conv wx wx.heap.size A' kn c' ln sn hkn.symm h hsn)
  have CS := Lib.hid (fun (wx : World) (A' : Option Addr) (c' : Nat) (h : Sees wx wx.heap.size A' (bvs ls)) => str_conv wx wx.heap.size A' ks c' ls ss hks.symm h hss)
  have CF := Lib.hid (fun (wx : World) (A' : Option Addr) (c' : Nat) (h : Sees wx wx.heap.size A' (bvs lf)) => str_conv wx wx.heap.size A' kf c' lf sf hkf.symm h hsf)
  have CP := Lib.hid (fun (wx : World) (h : Sees wx wx.heap.size A (bvs la)) => str_conv wx wx.heap.size A n c la sp hn.symm h hsp)
  rw [← hst', ← hn]
  rw [← hn] at h3
  have hkb : (z.tmod 2 == 0) = b := hb.symm
  have d2 : decide ((1000 : Int) < (t.length : Int)) = false := by simp; omega
  have d3 : decide ((1000 : Int) < (n : Int)) = false := by simp; omega
  have hc0 := CP.out w hs
  have hsw := hs
  have hbw : Below w.heap.size w w.drew := below_drew (Below.refl _ _)
  clear hb hln hls hlf hrn hrs hrf hsn hss hsf hsp hst' hkn hks hkf hn het hnc hcm
  have hlw : ∀ k : LW w, (convert 22 9 (.slice A n c)).run Try.prog k.val = .ok (.string sp) k.val := fun k => CP.out k.val (sees_on hsw k.le)
  go_enter Try.func3, Try.ntmps3
  go_wp2_with fail
  refine wp_region_steady [(25, relBytes kn ln), (35, relBytes ks ls), (46, relBytes kf lf)] 63 (by kernel_rfl) (by kernel_rfl) (by kernel_rfl) (by rfl) ?_
  repeat (refine wpG_quiet (by rfl) (by rfl) (by rfl) (fun K hK => ?_); go_big_quiet_op; refine hK _ ?_; clear hK K)
  refine wpG_calls (relBytes kn ln) (by rfl) (by rfl) 14 #[.slice A n c, .int .i64 z] (by intro _; simp [go_sem]) (fun w1 hl => (HNUM.out w1 (sees_on hsw hl.1)).mono ?_) ?_
  · rintro e w2 ⟨A2, c2, rfl, s2, b2⟩
    exact ⟨_, rfl, b2, A2, c2, rfl, s2⟩
  rintro _ ⟨_, _, _, ⟨A1, c1, rfl, _⟩⟩
  simp only [Act.put, List.setIfInBounds_toArray, List.set_cons_zero, List.set_cons_succ]
  refine wpG_run (by rfl) (by rfl) (.string sn) (fun w1 hl => ?_) ?_
  · obtain ⟨A2, c2, h2, s2⟩ := hl.2 25 _ (by simp [Op.operands]) rfl (by intro h; cases h)
    cases h2
    have hr := CN.out w1 A1 c1 s2
    simp [go_sem, hr]
  simp only [Act.put, List.setIfInBounds_toArray, List.set_cons_zero, List.set_cons_succ]
  repeat (refine wpG_quiet (by rfl) (by rfl) (by rfl) (fun K hK => ?_); go_big_quiet_op; refine hK _ ?_; clear hK K)
  refine wpG_call (by rfl) (by rfl) 15 #[.int .i64 z] (.string rn) (by intro _; simp [go_sem]) (by kernel_rfl) (fun w1 hl => HRN.out w1) ?_
  simp only [Act.put, List.setIfInBounds_toArray, List.set_cons_zero, List.set_cons_succ]
  repeat (refine wpG_quiet (by rfl) (by rfl) (by rfl) (fun K hK => ?_); go_big_quiet_op; refine hK _ ?_; clear hK K)
  refine wpG_calls (relBytes ks ls) (by rfl) (by rfl) 16 #[.slice A n c, .string st] (by intro _; simp [go_sem]) (fun w1 hl => (HSTR.out w1 (sees_on hsw hl.1)).mono ?_) ?_
  · rintro e w2 ⟨A2, c2, rfl, s2, b2⟩
    exact ⟨_, rfl, b2, A2, c2, rfl, s2⟩
  rintro _ ⟨_, _, _, ⟨A3, c3, rfl, _⟩⟩
  simp only [Act.put, List.setIfInBounds_toArray, List.set_cons_zero, List.set_cons_succ]
  refine wpG_run (by rfl) (by rfl) (.string ss) (fun w1 hl => ?_) ?_
  · obtain ⟨A2, c2, h2, s2⟩ := hl.2 35 _ (by simp [Op.operands]) rfl (by intro h; cases h)
    cases h2
    have hr := CS.out w1 A3 c3 s2
    simp [go_sem, hr]
  simp only [Act.put, List.setIfInBounds_toArray, List.set_cons_zero, List.set_cons_succ]
  repeat (refine wpG_quiet (by rfl) (by rfl) (by rfl) (fun K hK => ?_); go_big_quiet_op; refine hK _ ?_; clear hK K)
  refine wpG_call (by rfl) (by rfl) 17 #[.string st] (.string rs) (by intro _; simp [go_sem]) (by kernel_rfl) (fun w1 hl => HRS.out w1) ?_
  simp only [Act.put, List.setIfInBounds_toArray, List.set_cons_zero, List.set_cons_succ]
  repeat (refine wpG_quiet (by rfl) (by rfl) (by rfl) (fun K hK => ?_); go_big_quiet_op; refine hK _ ?_; clear hK K)
  refine wpG_calls (relBytes kf lf) (by rfl) (by rfl) 18 #[.slice A n c, .bool b] (by intro _; simp [go_sem]) (fun w1 hl => (HFLG.out w1 (sees_on hsw hl.1)).mono ?_) ?_
  · rintro e w2 ⟨A2, c2, rfl, s2, b2⟩
    exact ⟨_, rfl, b2, A2, c2, rfl, s2⟩
  rintro _ ⟨_, _, _, ⟨A5, c5, rfl, _⟩⟩
  simp only [Act.put, List.setIfInBounds_toArray, List.set_cons_zero, List.set_cons_succ]
  refine wpG_run (by rfl) (by rfl) (.string sf) (fun w1 hl => ?_) ?_
  · obtain ⟨A2, c2, h2, s2⟩ := hl.2 46 _ (by simp [Op.operands]) rfl (by intro h; cases h)
    cases h2
    have hr := CF.out w1 A5 c5 s2
    simp [go_sem, hr]
  simp only [Act.put, List.setIfInBounds_toArray, List.set_cons_zero, List.set_cons_succ]
  repeat (refine wpG_quiet (by rfl) (by rfl) (by rfl) (fun K hK => ?_); go_big_quiet_op; refine hK _ ?_; clear hK K)
  refine wpG_call (by rfl) (by rfl) 19 #[.bool b] (.string rf) (by intro _; simp [go_sem]) (by kernel_rfl) (fun w1 hl => HRF.out w1) ?_
  simp only [Act.put, List.setIfInBounds_toArray, List.set_cons_zero, List.set_cons_succ]
  repeat (refine wpG_quiet (by rfl) (by rfl) (by rfl) (fun K hK => ?_); go_big_quiet_op; refine hK _ ?_; clear hK K)
  refine wpG_call (by rfl) (by rfl) 13 #[] (.bool true) (by intro _; simp [go_sem]) (by kernel_rfl) (fun w1 hl => oct_awake w1) ?_
  simp only [Act.put, List.setIfInBounds_toArray, List.set_cons_zero, List.set_cons_succ]
  repeat (refine wpG_quiet (by rfl) (by rfl) (by rfl) (fun K hK => ?_); go_big_quiet_op; refine hK _ ?_; clear hK K)
  refine wpG_nil (fun w1 hl _ => ?_)
  go_wp2
  go_ret
  exact ⟨rfl, hl⟩
end Go.Proofs.Ytgnkkbgphghioaa
