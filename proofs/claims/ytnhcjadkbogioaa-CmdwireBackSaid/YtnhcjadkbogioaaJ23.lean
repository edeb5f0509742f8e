/- Commands: what Put gives, by the program: a put. -/
import Derived.Test.YtnhcjadkbogioaaJ22
import Derived.Test.YtnhcjadkbogioaaJ8
import Derived.Test.YtnhcjadkbogioaaJ13
set_option maxRecDepth 100000
set_option maxHeartbeats 6400000
namespace Go.Proofs.Ytnhcjadkbogioaa
set_option linter.unusedVariables false
set_option linter.unusedSimpArgs false
open Go Go.RowKit OctM
theorem cput_2 (AB : Option Addr) (nb cb : Nat) (lb : List UInt8) (x : Cm) (w : World) (hnb : lb.length = nb) (hsb : Sees w w.heap.size AB (bvs lb)) (hmb : nb ≤ 10000) (h : okCm w x) (hk : cok x) (h5 : x.kd = 2) :
    Calls Try.prog 7 #[.slice AB nb cb, .agg (cmc x).toArray] w (GivesBytes w (lb ++ putC x)) := by
  have hup := Try.underlying27
  have huc := Try.underlying32
  have B0 := Blk.new w (cmc x) 32
  have hb0 := below_a1C w (.cells (cmc x).toArray 32)
  have hck := ccheck_any x (w.alloc (.cells (cmc x).toArray 32)) (h.later hb0)
  have RG0 := B0.range 0 (cmc x) (by rw [List.drop_zero, List.take_length])
  have HLC := hid (cmc_len h.e8 h.p8)
  have HPX := hid (cm_at h.e8 h.p8)
  have HSB := hid hsb
  have HNB := hid hnb
  have HEL := hid (cmP_len h.p8)
  have HCE := hid (cm_patch h.e8 h.p8)
  obtain ⟨xc, hxc⟩ : ∃ c, c = cmc x := ⟨_, rfl⟩
  rw [← hxc] at B0 hb0 hck RG0 HLC HPX ⊢
  have HB0 := hid B0
  have HBE := hid hb0
  rw [decide_eq_true hk] at hck
  have HCK := hid hck
  obtain ⟨R, hR⟩ : ∃ R, R = lb ++ putC x := ⟨_, rfl⟩
  rw [← hR]
  have HR : Hid (R = lb ++ (enc (held x.kd) ++ ((enc (held x.dv) ++ enc (held x.rq)) ++ ((enc (held x.id) ++ enc (held x.bs)) ++ pbs x.pm (x.pl.toNat : Int) x.pf)))) := hid (by rw [hR]; unfold putC cmb; rw [if_pos hk, if_neg (by omega), if_neg (by omega), if_pos h5])
  obtain ⟨l1, hl1⟩ : ∃ l, l = [] ++ enc (held (x.kd)) := ⟨_, rfl⟩
  obtain ⟨n1, hn1⟩ : ∃ n, n = l1.length := ⟨_, rfl⟩
  have L1 : Hid (n1 ≤ 6) := hid (by have := held_len (x.kd); rw [hn1, hl1, List.length_append]; simp only [List.length_nil]; omega)
  have M1 := hid hn1
  have Q1 := hid hl1
  have N1 : Hid (∀ wx : World, Calls Try.prog 21 #[.slice none 0 0, .int .i64 (x.kd)] wx (GivesBytes wx l1)) := hid (fun wx => by rw [hl1]; exact oct_num none 0 0 [] (x.kd) wx rfl Sees.nil_ (by omega))
  clear hl1 hn1
  obtain ⟨l2, hl2⟩ : ∃ l, l = l1 ++ enc (held (x.dv)) := ⟨_, rfl⟩
  obtain ⟨n2, hn2⟩ : ∃ n, n = l2.length := ⟨_, rfl⟩
  have L2 : Hid (n2 ≤ 12) := hid (by have := held_len (x.dv); have := L1.out; have := M1.out; rw [hn2, hl2, List.length_append]; omega)
  have M2 := hid hn2
  have Q2 := hid hl2
  have N2 : Hid (∀ (A' : Option Addr) (c' : Nat) (wx : World), Sees wx wx.heap.size A' (bvs l1) → Calls Try.prog 21 #[.slice A' n1 c', .int .i64 (x.dv)] wx (GivesBytes wx l2)) := hid (fun A' c' wx h => by rw [hl2]; exact oct_num A' n1 c' l1 (x.dv) wx M1.out.symm h (by have := L1.out; omega))
  clear hl2 hn2
  obtain ⟨l3, hl3⟩ : ∃ l, l = l2 ++ enc (held (x.rq)) := ⟨_, rfl⟩
  obtain ⟨n3, hn3⟩ : ∃ n, n = l3.length := ⟨_, rfl⟩
  have L3 : Hid (n3 ≤ 18) := hid (by have := held_len (x.rq); have := L2.out; have := M2.out; rw [hn3, hl3, List.length_append]; omega)
  have M3 := hid hn3
  have Q3 := hid hl3
  have N3 : Hid (∀ (A' : Option Addr) (c' : Nat) (wx : World), Sees wx wx.heap.size A' (bvs l2) → Calls Try.prog 21 #[.slice A' n2 c', .int .i64 (x.rq)] wx (GivesBytes wx l3)) := hid (fun A' c' wx h => by rw [hl3]; exact oct_num A' n2 c' l2 (x.rq) wx M2.out.symm h (by have := L2.out; omega))
  clear hl3 hn3
  obtain ⟨l4, hl4⟩ : ∃ l, l = l3 ++ enc (held (x.id)) := ⟨_, rfl⟩
  obtain ⟨n4, hn4⟩ : ∃ n, n = l4.length := ⟨_, rfl⟩
  have L4 : Hid (n4 ≤ 24) := hid (by have := held_len (x.id); have := L3.out; have := M3.out; rw [hn4, hl4, List.length_append]; omega)
  have M4 := hid hn4
  have Q4 := hid hl4
  have N4 : Hid (∀ (A' : Option Addr) (c' : Nat) (wx : World), Sees wx wx.heap.size A' (bvs l3) → Calls Try.prog 21 #[.slice A' n3 c', .int .i64 (x.id)] wx (GivesBytes wx l4)) := hid (fun A' c' wx h => by rw [hl4]; exact oct_num A' n3 c' l3 (x.id) wx M3.out.symm h (by have := L3.out; omega))
  clear hl4 hn4
  obtain ⟨l5, hl5⟩ : ∃ l, l = l4 ++ enc (held (x.bs)) := ⟨_, rfl⟩
  obtain ⟨n5, hn5⟩ : ∃ n, n = l5.length := ⟨_, rfl⟩
  have L5 : Hid (n5 ≤ 30) := hid (by have := held_len (x.bs); have := L4.out; have := M4.out; rw [hn5, hl5, List.length_append]; omega)
  have M5 := hid hn5
  have Q5 := hid hl5
  have N5 : Hid (∀ (A' : Option Addr) (c' : Nat) (wx : World), Sees wx wx.heap.size A' (bvs l4) → Calls Try.prog 21 #[.slice A' n4 c', .int .i64 (x.bs)] wx (GivesBytes wx l5)) := hid (fun A' c' wx h => by rw [hl5]; exact oct_num A' n4 c' l4 (x.bs) wx M4.out.symm h (by have := L4.out; omega))
  clear hl5 hn5
  obtain ⟨l6, hl6⟩ : ∃ l, l = l5 ++ pbs x.pm (x.pl.toNat : Int) x.pf := ⟨_, rfl⟩
  obtain ⟨n6, hn6⟩ : ∃ n, n = l6.length := ⟨_, rfl⟩
  have L6 : Hid (n6 ≤ 430) := hid (by have := pbs_len x.pm (x.pl.toNat : Int) x.pf; have := L5.out; have := M5.out; rw [hn6, hl6, List.length_append]; omega)
  have M6 := hid hn6
  have Q6 := hid hl6
  have N6 : Hid (∀ (A' : Option Addr) (c' : Nat) (wx : World), Sees wx wx.heap.size A' (bvs l5) → Calls Try.prog 23 #[.slice A' n5 c', .agg (cmP x).toArray] wx (GivesBytes wx l6)) := hid (fun A' c' wx hs => by rw [hl6]; exact putpatch_any x.pm (x.pl.toNat : Int) x.pf A' n5 c' l5 wx h.p8 (Int.natCast_nonneg _) M5.out.symm hs (by have := L5.out; omega))
  clear hl6 hn6
  have e1 : (x.kd == 1) = false := by rw [h5]; rfl
  have e5 : (x.kd == 5) = false := by rw [h5]; rfl
  have e2 : (x.kd == 2) = true := by rw [h5]; rfl
  have e3 : (x.kd == 3) = false := by rw [h5]; rfl
  have HFL : Hid ([lb, l6].flatten = R) := hid (by rw [HR.out, Q6.out, Q5.out, Q4.out, Q3.out, Q2.out, Q1.out]; simp)
  obtain ⟨xe, hxe⟩ : ∃ c, c = cmP x := ⟨_, rfl⟩
  rw [← hxe] at HEL HCE N6
  rw [← hxc] at HCE
  clear hck hxc hxe B0 hb0 hsb hnb hk h5 hR
  go_enter Try.func7, Try.ntmps7
  go_wp2_with (first
    | (refine wpList_load_mid rfl 32 (.tmp 3) rfl w.heap.size 0 rfl xc _ RG0 huc rfl (by rw [HLC.out]; exact info_cm) ?_; simp only [pq4])
    | fail)
  refine HCK.out.mono ?_
  rintro e w1 ⟨rfl, hb1⟩
  have HB1 := hid (HB0.out.later hb1)
  have HBE1 := hid (HBE.out.trans (hb1.mono HBE.out.size))
  clear hb1 RG0
  have k1_0 := HB1.out.cell HPX.out.1
  go_wp2_with fail
  refine (N1.out _).mono ?_
  rintro e w2 ⟨A1, c1, rfl, o1, b1⟩
  have s1 := o1.sees
  rw [← M1.out]
  have HB2 := hid (HB1.out.later b1)
  have HBE2 := hid (HBE1.out.trans (b1.mono HBE1.out.size))
  clear b1 o1
  have k2_0 := HB2.out.cell HPX.out.1
  clear k1_0
  have kx1 : ∀ kk : LW w2, kk.val.cell? ⟨w.heap.size, 30, none⟩ = some (.int .i64 x.dv) := fun kk => (kk.le.cell (p := ⟨w.heap.size, 30, none⟩) HB2.out.lt).trans (HB2.out.cell HPX.out.2.1)
  have kx2 : ∀ kk : LW w2, kk.val.cell? ⟨w.heap.size, 31, none⟩ = some (.int .i64 x.rq) := fun kk => (kk.le.cell (p := ⟨w.heap.size, 31, none⟩) HB2.out.lt).trans (HB2.out.cell HPX.out.2.2.1)
  go_wp2_with fail
  refine wp_region_steady [(19, relSee n2 l2), (22, relSee n3 l3)] 63 (by kernel_rfl) (by kernel_rfl) (by kernel_rfl) (by rfl) ?_
  iterate 3 (refine wpG_quiet (by rfl) (by rfl) (by rfl) (fun K hK => ?_); go_big_quiet_op; refine hK _ ?_; clear hK K)
  refine wpG_calls (relSee n2 l2) (by rfl) (by rfl) 21 #[.slice A1 n1 c1, .int .i64 x.dv] (by intro _; simp [go_sem]) (fun wx hl => (N2.out _ _ _ ((s1.below hl.1).more hl.1.size)).mono fun e w' h => gives_see M2.out.symm h) ?_
  rintro _ ⟨_, _, _, ⟨AX, cX, rfl, _⟩⟩
  simp only [pq4]
  iterate 2 (refine wpG_quiet (by rfl) (by rfl) (by rfl) (fun K hK => ?_); go_big_quiet_op; refine hK _ ?_; clear hK K)
  refine wpG_calls (relSee n3 l3) (by rfl) (by rfl) 21 #[.slice AX n2 cX, .int .i64 x.rq] (by intro _; simp [go_sem]) (fun wx hl => ?_) ?_
  · obtain ⟨AY, cY, hY, sY⟩ := hl.2 19 _ (by simp [Op.operands, Call.operands]) rfl (by intro h; cases h)
    cases hY
    exact (N3.out _ _ _ sY).mono fun e w' h => gives_see M3.out.symm h
  rintro _ ⟨_, _, _, ⟨A3, c3, rfl, _⟩⟩
  simp only [pq4]
  iterate 1 (refine wpG_quiet (by rfl) (by rfl) (by rfl) (fun K hK => ?_); go_big_quiet_op; refine hK _ ?_; clear hK K)
  refine wpG_nil fun w4 hl hsz => ?_
  obtain ⟨_, AW, cW, eqz, s3⟩ := hsz
  cases eqz
  have HB4 := hid (HB2.out.later hl)
  have HBE4 := hid (HBE2.out.trans (hl.mono HBE2.out.size))
  clear kx1 kx2 hl
  clear k2_0
  have k4_0 := HB4.out.cell HPX.out.1
  have kx1 : ∀ kk : LW w4, kk.val.cell? ⟨w.heap.size, 32, none⟩ = some (.int .i64 x.id) := fun kk => (kk.le.cell (p := ⟨w.heap.size, 32, none⟩) HB4.out.lt).trans (HB4.out.cell HPX.out.2.2.2.1)
  have kx2 : ∀ kk : LW w4, kk.val.cell? ⟨w.heap.size, 33, none⟩ = some (.int .i64 x.bs) := fun kk => (kk.le.cell (p := ⟨w.heap.size, 33, none⟩) HB4.out.lt).trans (HB4.out.cell HPX.out.2.2.2.2.1)
  go_wp2_with fail
  refine wp_region_steady [(42, relSee n4 l4), (45, relSee n5 l5), (48, relSee n6 l6)] 63 (by kernel_rfl) (by kernel_rfl) (by kernel_rfl) (by rfl) ?_
  iterate 3 (refine wpG_quiet (by rfl) (by rfl) (by rfl) (fun K hK => ?_); go_big_quiet_op; refine hK _ ?_; clear hK K)
  refine wpG_calls (relSee n4 l4) (by rfl) (by rfl) 21 #[.slice A3 n3 c3, .int .i64 x.id] (by intro _; simp [go_sem]) (fun wx hl => ?_) ?_
  · exact (N4.out _ _ _ ((s3.below hl.1).more hl.1.size)).mono fun e w' h => gives_see M4.out.symm h
  rintro _ ⟨_, _, _, ⟨AX1, cX1, rfl, _⟩⟩
  simp only [pq4]
  iterate 2 (refine wpG_quiet (by rfl) (by rfl) (by rfl) (fun K hK => ?_); go_big_quiet_op; refine hK _ ?_; clear hK K)
  refine wpG_calls (relSee n5 l5) (by rfl) (by rfl) 21 #[.slice AX1 n4 cX1, .int .i64 x.bs] (by intro _; simp [go_sem]) (fun wx hl => ?_) ?_
  · obtain ⟨AY, cY, hY, sY⟩ := hl.2 42 _ (by simp [Op.operands, Call.operands]) rfl (by intro h; cases h)
    cases hY
    exact (N5.out _ _ _ sY).mono fun e w' h => gives_see M5.out.symm h
  rintro _ ⟨_, _, _, ⟨AX2, cX2, rfl, _⟩⟩
  simp only [pq4]
  iterate 1 (refine wpG_quiet (by rfl) (by rfl) (by rfl) (fun K hK => ?_); go_big_quiet_op; refine hK _ ?_; clear hK K)
  refine wpG_run (by rfl) (by rfl) (.agg xe.toArray) (fun wx hl => exec_load 27 (.tmp 46) rfl w.heap.size 35 rfl xe _ ((HB4.out.later hl.1).range 35 xe HCE.out) hup rfl (by rw [HEL.out]; exact info_patch)) ?_
  simp only [pq4]
  refine wpG_calls (relSee n6 l6) (by rfl) (by rfl) 23 #[.slice AX2 n5 cX2, .agg xe.toArray] (by intro _; simp [go_sem]) (fun wx hl => ?_) ?_
  · obtain ⟨AY, cY, hY, sY⟩ := hl.2 45 _ (by simp [Op.operands, Call.operands]) rfl (by intro h; cases h)
    cases hY
    exact (N6.out _ _ _ sY).mono fun e w' h => gives_see M6.out.symm h
  rintro _ ⟨_, _, _, ⟨A6, c6, rfl, _⟩⟩
  simp only [pq4]
  iterate 1 (refine wpG_quiet (by rfl) (by rfl) (by rfl) (fun K hK => ?_); go_big_quiet_op; refine hK _ ?_; clear hK K)
  refine wpG_nil fun w7 hl hsz => ?_
  obtain ⟨_, AW, cW, eqz, s6⟩ := hsz
  cases eqz
  have HB7 := hid (HB4.out.later hl)
  have HBE7 := hid (HBE4.out.trans (hl.mono HBE4.out.size))
  clear hl kx1 kx2
  clear k4_0
  go_wp2_with fail
  have hsA : Sees w7 w7.heap.size AB (bvs lb) := (HSB.out.below HBE7.out).more HBE7.out.size
  have HCC := hid (concat_any w7.heap.size 2 2 [lb, l6] (w7.alloc (.cells #[.slice AB nb cb, .slice A6 n6 c6] 33)) rfl (by simp) (flat2 33 HNB.out M6.out.symm hsA s6) (by omega) (by have := HNB.out; have := M6.out; have := L6.out; simp; omega))
  rw [HFL.out] at HCC
  have HBW := hid (HBE7.out.alloc HBE7.out.size (.cells #[.slice AB nb cb, .slice A6 n6 c6] 33))
  clear hsA s6
  go_wp2_with fail
  refine HCC.out.mono ?_
  rintro e w9 ⟨A9, c9, rfl, o9, b9⟩
  have HF : Hid (GivesBytes w R (.returned (.slice A9 R.length c9)) w9) := hid ⟨A9, c9, rfl, o9.lower HBW.out.size, HBW.out.trans (b9.mono HBW.out.size)⟩
  clear o9 b9
  go_wp2_with fail
  go_ret
  exact HF.out
theorem put_nodes (AB : Option Addr) (nb cb : Nat) (lb : List UInt8) (A : Option Addr) (n c : Nat) (l : List Nd) (w : World) (hnb : lb.length = nb) (hsb : Sees w w.heap.size AB (bvs lb)) (hmb : nb ≤ 10000) (hn : l.length = n) (hs : Sees w w.heap.size A (ncs l)) :
    Calls Try.prog 24 #[.slice AB nb cb, .slice A n c] w (GivesBytes w (lb ++ lbs l)) := by
  have HC := hid (lcheck_any A n c l w hn hs)
  by_cases hok : lchk l = 0
  · rw [hok] at HC
    have hu := Try.underlying76
    have huv := Try.underlying24
    have hn31 : n ≤ 31 := by rw [← hn]; exact (lchk_ok hok).1
    have HB : Hid (lb ++ lbs l = lb ++ (enc (held (n : Int)) ++ l.flatMap nbs)) := hid (by unfold lbs; rw [if_pos hok, hn])
    obtain ⟨R, hR⟩ : ∃ R, R = lb ++ lbs l := ⟨_, rfl⟩
    rw [← hR] at HB ⊢
    have HN := hid hn
    have HNB := hid hnb
    have HS := hid (show Sees w w.heap.size A (ncs l) from hs)
    have HSB := hid (show Sees w w.heap.size AB (bvs lb) from hsb)
    have HNUM0 := hid (fun wx : World => oct_num none 0 0 [] (n : Int) wx rfl Sees.nil_ (by omega))
    obtain ⟨r0, hr0⟩ : ∃ r, r = [] ++ enc (held (n : Int)) := ⟨_, rfl⟩
    rw [← hr0] at HNUM0
    have hr06 : r0.length ≤ 6 := by rw [hr0, List.nil_append]; exact held_len _
    have HR0 : Hid (r0 = enc (held (n : Int))) := hid (by rw [hr0]; rfl)
    clear hR hok hn hnb hs hsb hr0
    go_enter Try.func24, Try.ntmps24
    go_wp2_with fail
    refine HC.out.mono ?_
    rintro e w1 ⟨rfl, hb1⟩
    clear HC
    go_wp2_with fail
    refine (HNUM0.out _).mono ?_
    rintro e w2 ⟨A2, c2, rfl, o2, b2⟩
    have hbw := hb1.trans (b2.mono hb1.size)
    have hs2 := o2.sees
    obtain ⟨n2, hn2⟩ : ∃ n, n = r0.length := ⟨_, rfl⟩
    rw [← hn2]
    have HN2 := hid hn2.symm
    have hn26 : n2 ≤ 6 := by rw [hn2]; exact hr06
    clear o2 b2 hb1 hn2 hr06
    go_wp2_with fail
    go_loopw [20, 5] (fun i v wr => ∃ (k la : Nat) (acc : List UInt8), k ≤ n ∧ i = .int .i64 k ∧ (∃ A1 c1, v = .slice A1 la c1 ∧ Sees wr wr.heap.size A1 (bvs acc)) ∧ Hid (acc.length = la) ∧ la ≤ 6 + 52 * k ∧ Hid (acc = r0 ++ (l.take k).flatMap nbs) ∧ Below w.heap.size w wr) (fun i _ _ => n - (intOf i).toNat)
    case atStart => exact ⟨0, n2, r0, Nat.zero_le _, rfl, ⟨A2, c2, rfl, hs2⟩, HN2, by omega, hid (by simp), hbw⟩
    case round =>
      obtain ⟨k, la, acc, hk, rfl, ⟨A1, c1, rfl, hsa⟩, HLA, hla, HACC, hbr⟩ := hrel
      clear hbw hs2
      by_cases hlt : k < n
      · have hkl : k < l.length := by rw [HN.out]; exact hlt
        have d1 : decide ((k : Int) < (n : Int)) = true := by simp; omega
        obtain ⟨b, o, rfl, hb, hcc, hc2, hrg⟩ := sees_node (HS.out.below hbr) k hkl
        clear hcc hc2
        have HSTEP := hid (nbs_take l k hkl)
        have BN := Blk.new wr (ncells zn) 76
        have TH := BN.there 0 5 (by rw [ncells_len]; exact Nat.le_refl 5)
        have FIN := BN.sets (ncells l[k]) 0 (by rw [ncells_len, ncells_len]; exact Nat.le_refl 5)
        have e1 : (ncells zn).take 0 ++ ncells l[k] ++ (ncells zn).drop (0 + (ncells l[k]).length) = ncells l[k] := by simp [ncells]
        rw [e1] at FIN
        have HB2 := below_sets hbr.size (ncells l[k]) 0 (hbr.alloc hbr.size (.cells (ncells zn).toArray 76))
        have HBR := below_sets (Nat.le_refl wr.heap.size) (ncells l[k]) 0 ((Below.refl wr.heap.size wr).alloc (Nat.le_refl _) (.cells (ncells zn).toArray 76))
        have HONE := hid (show ∀ v ∈ ncells l[k], v.oneCell' = true from fun v hv => ncs_one [l[k]] v (by simpa [ncs] using hv))
        obtain ⟨⟨op, m, v0, v1, v2⟩, hnd⟩ : ∃ nd, nd = l[k] := ⟨_, rfl⟩
        have HNBS : Hid (nbs l[k] = enc (held op) ++ ((if hasN op = true then enc (held m) else []) ++ (if hasV op = true then vbs (v0, v1, v2) else []))) := hid (by rw [← hnd]; rfl)
        obtain ⟨nc, hnc⟩ : ∃ nc, nc = ncells l[k] := ⟨_, rfl⟩
        have HSZ := hid (show nc.length = 5 by rw [hnc]; rfl)
        have HNC : Hid (nc = [.int .i64 op, .int .i64 m, .int .i64 v0, .int .i64 v1, .string v2]) := hid (by rw [hnc, ← hnd]; rfl)
        rw [← hnc] at hrg FIN HB2 HBR HONE
        clear e1 hnc BN hnd
        rw [zc5] at TH HB2 HBR FIN
        rw [HNC.out] at FIN
        have hsa2 := (hsa.below HBR).more HBR.size
        obtain ⟨W2, hW2⟩ : ∃ W2, W2 = (wr.alloc (.cells #[.int .i64 0, .int .i64 0, .int .i64 0, .int .i64 0, .string ⟨#[]⟩] 76)).setCells wr.heap.size 0 nc := ⟨_, rfl⟩
        have HW2 := hid hW2
        have FIN2 : Blk W2 wr.heap.size [.int .i64 op, .int .i64 m, .int .i64 v0, .int .i64 v1, .string v2] := by rw [hW2, HNC.out]; exact FIN
        have HB3 : Below w.heap.size w W2 := by rw [hW2]; exact HB2
        have hsa3 : Sees W2 W2.heap.size A1 (bvs acc) := by rw [hW2]; exact hsa2
        obtain ⟨b1, hb1⟩ : ∃ b, b = hasN op := ⟨_, rfl⟩
        obtain ⟨b2, hb2⟩ : ∃ b, b = hasV op := ⟨_, rfl⟩
        have HM := hid (fun wx : World => most_any op wx)
        have HH := hid (fun wx : World => pholds_any op wx)
        rw [← hb1] at HM HNBS
        rw [← hb2] at HH HNBS
        obtain ⟨mm, hmm⟩ : ∃ mm, mm = npm op := ⟨_, rfl⟩
        rw [← hmm] at HM
        -- what is put in turn
        obtain ⟨x1, hx1⟩ : ∃ x, x = acc ++ enc (held op) := ⟨_, rfl⟩
        have hx1l : x1.length ≤ la + 6 := by rw [hx1, List.length_append, HLA.out]; have := held_len op; omega
        have HX1 := hid hx1
        have HN1 := hid (fun (wx : World) (AX : Option Addr) (cX : Nat) (h : Sees wx wx.heap.size AX (bvs acc)) => oct_num AX la cX acc op wx HLA.out h (by omega))
        rw [← hx1] at HN1
        obtain ⟨p1, hp1⟩ : ∃ p, p = x1.length := ⟨_, rfl⟩
        have HP1 := hid hp1.symm
        rw [← hp1] at hx1l
        clear hb1 hb2 hmm hx1 hW2 FIN HB2 HBR hsa2 hp1
        go_wp2_with (first
          | (refine wpList_load_mid rfl 76 (.tmp 22) rfl b (o + k * 5) rfl nc _ hrg hu rfl (by rw [HSZ.out]; exact info_node) ?_)
          | (refine wpList_store_mid rfl 76 (.tmp 7) (.tmp 23) rfl wr.heap.size 0 nc.toArray rfl rfl (by simpa [HSZ.out] using TH) (by simpa [HSZ.out] using info_node) (all_oneCell_toArray HONE.out) ?_
             rw [show (wr.alloc (.cells #[.int .i64 0, .int .i64 0, .int .i64 0, .int .i64 0, .string ⟨#[]⟩] 76)).setCells wr.heap.size 0 nc.toArray.toList = W2 from HW2.out.symm]
             have q0 := FIN2.cell (j := 0) rfl)
          | fail)
        refine (HN1.out _ _ _ hsa3).mono ?_
        rintro e w3 ⟨A3, c3, rfl, o3, b3⟩
        have hb3 := HB3.trans (b3.mono HB3.size)
        have F3 := FIN2.later b3
        have s3 := o3.sees
        have q0 := F3.cell (j := 0) rfl
        have q1 := F3.cell (j := 1) rfl
        rw [HP1.out]
        clear o3 b3 HB3 FIN2 hsa3 TH hrg HN1 hsa
        go_wp2_with fail
        refine (HM.out _).mono ?_
        rintro e w' ⟨rfl, rfl⟩
        cases b1 with
        | false =>
          go_wp2_with fail
          refine (HH.out _).mono ?_
          rintro e w' ⟨rfl, rfl⟩
          cases b2 with
          | false =>
            go_wp2_with fail
            go_roundw
            case rel => exact ⟨k + 1, p1, x1, by omega, by go_num, ⟨_, _, rfl, s3⟩, HP1, by omega, hid (by rw [HSTEP.out, HNBS.out, ← List.append_assoc, ← HACC.out]; simp only [HX1.out, List.append_assoc, List.append_nil, if_true, if_false, reduceCtorEq, List.nil_append, Bool.false_eq_true, ite_true, ite_false]), hb3⟩
            case measure => simp [intOf]; omega
          | true =>
            obtain ⟨x3, hx3⟩ : ∃ x, x = x1 ++ vbs (v0, v1, v2) := ⟨_, rfl⟩
            have hx3l : x3.length ≤ p1 + 40 := by rw [hx3, List.length_append, HP1.out]; have := vbs_len (v0, v1, v2); omega
            have HX3 := hid hx3
            have HN3 := hid (putval_any v0 v1 v2 A3 p1 c3 x1 _ HP1.out s3 (by omega))
            rw [← hx3] at HN3
            obtain ⟨p3, hp3⟩ : ∃ p, p = x3.length := ⟨_, rfl⟩
            have HP3 := hid hp3.symm
            rw [← hp3] at hx3l
            have RV := F3.range 2 [.int .i64 v0, .int .i64 v1, .string v2] rfl
            clear hx3 hp3
            go_wp2_with (first
              | (refine wpList_load_mid rfl 24 (.tmp 43) rfl wr.heap.size 2 rfl [.int .i64 v0, .int .i64 v1, .string v2] _ RV huv rfl info_val3 ?_)
              | fail)
            refine HN3.out.mono ?_
            rintro e w5 ⟨A5, c5, rfl, o5, b5⟩
            have hb5 := hb3.trans (b5.mono hb3.size)
            have s5 := o5.sees
            rw [HP3.out]
            clear o5 b5 RV HN3
            go_wp2_with fail
            go_roundw
            case rel => exact ⟨k + 1, p3, x3, by omega, by go_num, ⟨_, _, rfl, s5⟩, HP3, by omega, hid (by rw [HSTEP.out, HNBS.out, ← List.append_assoc, ← HACC.out]; simp only [HX1.out, HX3.out, List.append_assoc, List.append_nil, if_true, if_false, reduceCtorEq, List.nil_append, Bool.false_eq_true, ite_true, ite_false]), hb5⟩
            case measure => simp [intOf]; omega
        | true =>
          obtain ⟨x2, hx2⟩ : ∃ x, x = x1 ++ enc (held m) := ⟨_, rfl⟩
          have hx2l : x2.length ≤ p1 + 6 := by rw [hx2, List.length_append, HP1.out]; have := held_len m; omega
          have HX2 := hid hx2
          have HN4 := hid (oct_num A3 p1 c3 x1 m _ HP1.out s3 (by omega))
          rw [← hx2] at HN4
          obtain ⟨p2, hp2⟩ : ∃ p, p = x2.length := ⟨_, rfl⟩
          have HP2 := hid hp2.symm
          rw [← hp2] at hx2l
          clear hx2 hp2
          go_wp2_with fail
          refine HN4.out.mono ?_
          rintro e w4 ⟨A4, c4, rfl, o4, b4⟩
          have hb4 := hb3.trans (b4.mono hb3.size)
          have F4 := F3.later b4
          have s4 := o4.sees
          have q0 := F4.cell (j := 0) rfl
          rw [HP2.out]
          clear o4 b4 HN4 q1 s3
          go_wp2_with fail
          refine (HH.out _).mono ?_
          rintro e w' ⟨rfl, rfl⟩
          cases b2 with
          | false =>
            go_wp2_with fail
            go_roundw
            case rel => exact ⟨k + 1, p2, x2, by omega, by go_num, ⟨_, _, rfl, s4⟩, HP2, by omega, hid (by rw [HSTEP.out, HNBS.out, ← List.append_assoc, ← HACC.out]; simp only [HX1.out, HX2.out, List.append_assoc, List.append_nil, if_true, if_false, reduceCtorEq, List.nil_append, Bool.false_eq_true, ite_true, ite_false]), hb4⟩
            case measure => simp [intOf]; omega
          | true =>
            obtain ⟨x3, hx3⟩ : ∃ x, x = x2 ++ vbs (v0, v1, v2) := ⟨_, rfl⟩
            have hx3l : x3.length ≤ p2 + 40 := by rw [hx3, List.length_append, HP2.out]; have := vbs_len (v0, v1, v2); omega
            have HX3 := hid hx3
            have HN3 := hid (putval_any v0 v1 v2 A4 p2 c4 x2 _ HP2.out s4 (by omega))
            rw [← hx3] at HN3
            obtain ⟨p3, hp3⟩ : ∃ p, p = x3.length := ⟨_, rfl⟩
            have HP3 := hid hp3.symm
            rw [← hp3] at hx3l
            have RV := F4.range 2 [.int .i64 v0, .int .i64 v1, .string v2] rfl
            clear hx3 hp3
            go_wp2_with (first
              | (refine wpList_load_mid rfl 24 (.tmp 43) rfl wr.heap.size 2 rfl [.int .i64 v0, .int .i64 v1, .string v2] _ RV huv rfl info_val3 ?_)
              | fail)
            refine HN3.out.mono ?_
            rintro e w5 ⟨A5, c5, rfl, o5, b5⟩
            have hb5 := hb4.trans (b5.mono hb4.size)
            have s5 := o5.sees
            rw [HP3.out]
            clear o5 b5 RV HN3
            go_wp2_with fail
            go_roundw
            case rel => exact ⟨k + 1, p3, x3, by omega, by go_num, ⟨_, _, rfl, s5⟩, HP3, by omega, hid (by rw [HSTEP.out, HNBS.out, ← List.append_assoc, ← HACC.out]; simp only [HX1.out, HX2.out, HX3.out, List.append_assoc, List.append_nil, if_true, if_false, reduceCtorEq, List.nil_append, Bool.false_eq_true, ite_true, ite_false]), hb5⟩
            case measure => simp [intOf]; omega
      · obtain rfl : k = n := by omega
        have HA2 : Hid (lb ++ acc = R) := hid (by rw [HACC.out, HB.out, HR0.out, List.take_of_length_le (by rw [HN.out]; exact Nat.le_refl _)])
        have hsA : Sees wr wr.heap.size AB (bvs lb) := (HSB.out.below hbr).more hbr.size
        have HCC := hid (concat_any wr.heap.size 2 2 [lb, acc] (wr.alloc (.cells #[.slice AB nb cb, .slice A1 la c1] 33)) rfl (by simp) (flat2 33 HNB.out HLA.out hsA hsa) (by omega) (by have h1 := HNB.out; have h2 := HLA.out; simp; omega))
        have HFL2 : Hid ([lb, acc].flatten = R) := hid (by rw [← HA2.out]; simp)
        rw [HFL2.out] at HCC
        have hbw2 := hbr.alloc hbr.size (.cells #[.slice AB nb cb, .slice A1 la c1] 33)
        clear hsA hsa
        go_wp2_with fail
        refine HCC.out.mono ?_
        rintro e w7 ⟨A7, c7, rfl, o7, b7⟩
        go_wp2_with fail
        go_ret
        exact ⟨A7, c7, rfl, o7.lower hbw2.size, hbw2.trans (b7.mono hbw2.size)⟩
  · have HB : Hid (lb ++ lbs l = lb) := hid (by unfold lbs; rw [if_neg hok]; simp)
    rw [HB.out]
    obtain ⟨er, her⟩ : ∃ er, er = lchk l := ⟨_, rfl⟩
    rw [← her] at HC hok
    have be : (er != 0) = true := by simp [hok]
    have HCL := hid (fun (wx : World) (hb : Below w.heap.size w wx) => clone_any AB nb cb lb wx hnb ((hsb.below hb).more hb.size) (by omega))
    obtain ⟨q, hq⟩ : ∃ q, q = lb.length := ⟨_, rfl⟩
    clear HB her hok hn hs hnb hsb
    go_enter Try.func24, Try.ntmps24
    go_wp2_with fail
    refine HC.out.mono ?_
    rintro e w1 ⟨rfl, hb1⟩
    clear HC
    go_wp2_with fail
    refine (HCL.out _ hb1).mono ?_
    rintro e w7 ⟨A7, c7, rfl, o7, b7⟩
    have HO := hid o7
    clear o7
    go_wp2_with fail
    go_ret
    exact ⟨A7, c7, rfl, HO.out.lower hb1.size, hb1.trans (b7.mono hb1.size)⟩
theorem cput_3 (AB : Option Addr) (nb cb : Nat) (lb : List UInt8) (x : Cm) (w : World) (hnb : lb.length = nb) (hsb : Sees w w.heap.size AB (bvs lb)) (hmb : nb ≤ 10000) (h : okCm w x) (hk : cok x) (h5 : x.kd = 3) :
    Calls Try.prog 7 #[.slice AB nb cb, .agg (cmc x).toArray] w (GivesBytes w (lb ++ putC x)) := by
  have huc := Try.underlying32
  have B0 := Blk.new w (cmc x) 32
  have hb0 := below_a1C w (.cells (cmc x).toArray 32)
  have hck := ccheck_any x (w.alloc (.cells (cmc x).toArray 32)) (h.later hb0)
  have RG0 := B0.range 0 (cmc x) (by rw [List.drop_zero, List.take_length])
  have HLC := hid (cmc_len h.e8 h.p8)
  have HPX := hid (cm_at h.e8 h.p8)
  have HSB := hid hsb
  have HNB := hid hnb
  obtain ⟨xc, hxc⟩ : ∃ c, c = cmc x := ⟨_, rfl⟩
  rw [← hxc] at B0 hb0 hck RG0 HLC HPX ⊢
  have HB0 := hid B0
  have HBE := hid hb0
  rw [decide_eq_true hk] at hck
  have HCK := hid hck
  have HLT : Hid ((x.ms.toNat : Int) < 4294967296) := hid (by have := x.ms.isLt; omega)
  have HNX := hid h.len
  have HCX := hid h.cap
  have HSX := hid h.see
  obtain ⟨R, hR⟩ : ∃ R, R = lb ++ putC x := ⟨_, rfl⟩
  rw [← hR]
  have HR : Hid (R = lb ++ (enc (held x.kd) ++ ((enc (held x.dv) ++ enc (held x.rq)) ++ (lbs x.f ++ enc (held (x.ms.toNat : Int)))))) := hid (by rw [hR]; unfold putC cmb; rw [if_pos hk, if_neg (by omega), if_neg (by omega), if_neg (by omega), if_pos h5])
  obtain ⟨l1, hl1⟩ : ∃ l, l = [] ++ enc (held (x.kd)) := ⟨_, rfl⟩
  obtain ⟨n1, hn1⟩ : ∃ n, n = l1.length := ⟨_, rfl⟩
  have L1 : Hid (n1 ≤ 6) := hid (by have := held_len (x.kd); rw [hn1, hl1, List.length_append]; simp only [List.length_nil]; omega)
  have M1 := hid hn1
  have Q1 := hid hl1
  have N1 : Hid (∀ wx : World, Calls Try.prog 21 #[.slice none 0 0, .int .i64 (x.kd)] wx (GivesBytes wx l1)) := hid (fun wx => by rw [hl1]; exact oct_num none 0 0 [] (x.kd) wx rfl Sees.nil_ (by omega))
  clear hl1 hn1
  obtain ⟨l2, hl2⟩ : ∃ l, l = l1 ++ enc (held (x.dv)) := ⟨_, rfl⟩
  obtain ⟨n2, hn2⟩ : ∃ n, n = l2.length := ⟨_, rfl⟩
  have L2 : Hid (n2 ≤ 12) := hid (by have := held_len (x.dv); have := L1.out; have := M1.out; rw [hn2, hl2, List.length_append]; omega)
  have M2 := hid hn2
  have Q2 := hid hl2
  have N2 : Hid (∀ (A' : Option Addr) (c' : Nat) (wx : World), Sees wx wx.heap.size A' (bvs l1) → Calls Try.prog 21 #[.slice A' n1 c', .int .i64 (x.dv)] wx (GivesBytes wx l2)) := hid (fun A' c' wx h => by rw [hl2]; exact oct_num A' n1 c' l1 (x.dv) wx M1.out.symm h (by have := L1.out; omega))
  clear hl2 hn2
  obtain ⟨l3, hl3⟩ : ∃ l, l = l2 ++ enc (held (x.rq)) := ⟨_, rfl⟩
  obtain ⟨n3, hn3⟩ : ∃ n, n = l3.length := ⟨_, rfl⟩
  have L3 : Hid (n3 ≤ 18) := hid (by have := held_len (x.rq); have := L2.out; have := M2.out; rw [hn3, hl3, List.length_append]; omega)
  have M3 := hid hn3
  have Q3 := hid hl3
  have N3 : Hid (∀ (A' : Option Addr) (c' : Nat) (wx : World), Sees wx wx.heap.size A' (bvs l2) → Calls Try.prog 21 #[.slice A' n2 c', .int .i64 (x.rq)] wx (GivesBytes wx l3)) := hid (fun A' c' wx h => by rw [hl3]; exact oct_num A' n2 c' l2 (x.rq) wx M2.out.symm h (by have := L2.out; omega))
  clear hl3 hn3
  obtain ⟨l4, hl4⟩ : ∃ l, l = l3 ++ lbs x.f := ⟨_, rfl⟩
  obtain ⟨n4, hn4⟩ : ∃ n, n = l4.length := ⟨_, rfl⟩
  have L4 : Hid (n4 ≤ 1640) := hid (by have := lbs_len x.f; have := L3.out; have := M3.out; rw [hn4, hl4, List.length_append]; omega)
  have M4 := hid hn4
  have Q4 := hid hl4
  have N4 : Hid (∀ (A' : Option Addr) (c' : Nat) (wx : World), Sees wx wx.heap.size A' (bvs l3) → Below w.heap.size w wx → Calls Try.prog 24 #[.slice A' n3 c', .slice x.A x.n x.c] wx (GivesBytes wx l4)) := hid (fun A' c' wx hs hb => by rw [hl4]; exact put_nodes A' n3 c' l3 x.A x.n x.c x.f wx M3.out.symm hs (by have := L3.out; omega) HNX.out ((HSX.out.below hb).more hb.size))
  clear hl4 hn4
  obtain ⟨l5, hl5⟩ : ∃ l, l = l4 ++ enc (held ((x.ms.toNat : Int))) := ⟨_, rfl⟩
  obtain ⟨n5, hn5⟩ : ∃ n, n = l5.length := ⟨_, rfl⟩
  have L5 : Hid (n5 ≤ 1650) := hid (by have := held_len ((x.ms.toNat : Int)); have := L4.out; have := M4.out; rw [hn5, hl5, List.length_append]; omega)
  have M5 := hid hn5
  have Q5 := hid hl5
  have N5 : Hid (∀ (A' : Option Addr) (c' : Nat) (wx : World), Sees wx wx.heap.size A' (bvs l4) → Calls Try.prog 21 #[.slice A' n4 c', .int .i64 ((x.ms.toNat : Int))] wx (GivesBytes wx l5)) := hid (fun A' c' wx h => by rw [hl5]; exact oct_num A' n4 c' l4 ((x.ms.toNat : Int)) wx M4.out.symm h (by have := L4.out; omega))
  clear hl5 hn5
  have e1 : (x.kd == 1) = false := by rw [h5]; rfl
  have e5 : (x.kd == 5) = false := by rw [h5]; rfl
  have e2 : (x.kd == 2) = false := by rw [h5]; rfl
  have e3 : (x.kd == 3) = true := by rw [h5]; rfl
  have HFL : Hid ([lb, l5].flatten = R) := hid (by rw [HR.out, Q5.out, Q4.out, Q3.out, Q2.out, Q1.out]; simp)
  have hms0 : (0 : Int) ≤ (x.ms.toNat : Int) := Int.natCast_nonneg _
  obtain ⟨mz, hmz⟩ : ∃ z, z = (x.ms.toNat : Int) := ⟨_, rfl⟩
  rw [← hmz] at N5 HLT HPX hms0
  have hmlt : mz < 4294967296 := HLT.out
  clear hck hxc B0 hb0 hsb hnb hk h5 hR hmz
  go_enter Try.func7, Try.ntmps7
  go_wp2_with (first
    | (refine wpList_load_mid rfl 32 (.tmp 3) rfl w.heap.size 0 rfl xc _ RG0 huc rfl (by rw [HLC.out]; exact info_cm) ?_; simp only [pq4])
    | fail)
  refine HCK.out.mono ?_
  rintro e w1 ⟨rfl, hb1⟩
  have HB1 := hid (HB0.out.later hb1)
  have HBE1 := hid (HBE.out.trans (hb1.mono HBE.out.size))
  clear hb1 RG0
  have k1_0 := HB1.out.cell HPX.out.1
  go_wp2_with fail
  refine (N1.out _).mono ?_
  rintro e w2 ⟨A1, c1, rfl, o1, b1⟩
  have s1 := o1.sees
  rw [← M1.out]
  have HB2 := hid (HB1.out.later b1)
  have HBE2 := hid (HBE1.out.trans (b1.mono HBE1.out.size))
  clear b1 o1
  have k2_0 := HB2.out.cell HPX.out.1
  clear k1_0
  have kx1 : ∀ kk : LW w2, kk.val.cell? ⟨w.heap.size, 30, none⟩ = some (.int .i64 x.dv) := fun kk => (kk.le.cell (p := ⟨w.heap.size, 30, none⟩) HB2.out.lt).trans (HB2.out.cell HPX.out.2.1)
  have kx2 : ∀ kk : LW w2, kk.val.cell? ⟨w.heap.size, 31, none⟩ = some (.int .i64 x.rq) := fun kk => (kk.le.cell (p := ⟨w.heap.size, 31, none⟩) HB2.out.lt).trans (HB2.out.cell HPX.out.2.2.1)
  go_wp2_with fail
  refine wp_region_steady [(19, relSee n2 l2), (22, relSee n3 l3)] 63 (by kernel_rfl) (by kernel_rfl) (by kernel_rfl) (by rfl) ?_
  iterate 3 (refine wpG_quiet (by rfl) (by rfl) (by rfl) (fun K hK => ?_); go_big_quiet_op; refine hK _ ?_; clear hK K)
  refine wpG_calls (relSee n2 l2) (by rfl) (by rfl) 21 #[.slice A1 n1 c1, .int .i64 x.dv] (by intro _; simp [go_sem]) (fun wx hl => (N2.out _ _ _ ((s1.below hl.1).more hl.1.size)).mono fun e w' h => gives_see M2.out.symm h) ?_
  rintro _ ⟨_, _, _, ⟨AX, cX, rfl, _⟩⟩
  simp only [pq4]
  iterate 2 (refine wpG_quiet (by rfl) (by rfl) (by rfl) (fun K hK => ?_); go_big_quiet_op; refine hK _ ?_; clear hK K)
  refine wpG_calls (relSee n3 l3) (by rfl) (by rfl) 21 #[.slice AX n2 cX, .int .i64 x.rq] (by intro _; simp [go_sem]) (fun wx hl => ?_) ?_
  · obtain ⟨AY, cY, hY, sY⟩ := hl.2 19 _ (by simp [Op.operands, Call.operands]) rfl (by intro h; cases h)
    cases hY
    exact (N3.out _ _ _ sY).mono fun e w' h => gives_see M3.out.symm h
  rintro _ ⟨_, _, _, ⟨A3, c3, rfl, _⟩⟩
  simp only [pq4]
  iterate 1 (refine wpG_quiet (by rfl) (by rfl) (by rfl) (fun K hK => ?_); go_big_quiet_op; refine hK _ ?_; clear hK K)
  refine wpG_nil fun w4 hl hsz => ?_
  obtain ⟨_, AW, cW, eqz, s3⟩ := hsz
  cases eqz
  have HB4 := hid (HB2.out.later hl)
  have HBE4 := hid (HBE2.out.trans (hl.mono HBE2.out.size))
  clear kx1 kx2 hl
  clear k2_0
  have k4_0 := HB4.out.cell HPX.out.1
  have kx1 : ∀ kk : LW w4, kk.val.cell? ⟨w.heap.size, 61, none⟩ = some (.slice x.A x.n x.c) := fun kk => (kk.le.cell (p := ⟨w.heap.size, 61, none⟩) HB4.out.lt).trans (HB4.out.cell HPX.out.2.2.2.2.2.2.1)
  have kx2 : ∀ kk : LW w4, kk.val.cell? ⟨w.heap.size, 62, none⟩ = some (.int .u32 mz) := fun kk => (kk.le.cell (p := ⟨w.heap.size, 62, none⟩) HB4.out.lt).trans (HB4.out.cell HPX.out.2.2.2.2.2.2.2)
  go_wp2_with fail
  refine wp_region_steady [(54, relSee n4 l4), (58, relSee n5 l5)] 63 (by kernel_rfl) (by kernel_rfl) (by kernel_rfl) (by rfl) ?_
  iterate 3 (refine wpG_quiet (by rfl) (by rfl) (by rfl) (fun K hK => ?_); go_big_quiet_op; refine hK _ ?_; clear hK K)
  refine wpG_calls (relSee n4 l4) (by rfl) (by rfl) 24 #[.slice A3 n3 c3, .slice x.A x.n x.c] (by intro _; simp [go_sem]) (fun wx hl => ?_) ?_
  · exact (N4.out _ _ _ ((s3.below hl.1).more hl.1.size) (HBE4.out.trans (hl.1.mono HBE4.out.size))).mono fun e w' h => gives_see M4.out.symm h
  rintro _ ⟨_, _, _, ⟨AX1, cX1, rfl, _⟩⟩
  simp only [pq4]
  iterate 3 (refine wpG_quiet (by rfl) (by rfl) (by rfl) (fun K hK => ?_); go_big_quiet_op; refine hK _ ?_; clear hK K)
  refine wpG_calls (relSee n5 l5) (by rfl) (by rfl) 21 #[.slice AX1 n4 cX1, .int .i64 mz] (by intro _; simp [go_sem]) (fun wx hl => ?_) ?_
  · obtain ⟨AY, cY, hY, sY⟩ := hl.2 54 _ (by simp [Op.operands, Call.operands]) rfl (by intro h; cases h)
    cases hY
    exact (N5.out _ _ _ sY).mono fun e w' h => gives_see M5.out.symm h
  rintro _ ⟨_, _, _, ⟨A5, c5, rfl, _⟩⟩
  simp only [pq4]
  iterate 1 (refine wpG_quiet (by rfl) (by rfl) (by rfl) (fun K hK => ?_); go_big_quiet_op; refine hK _ ?_; clear hK K)
  refine wpG_nil fun w6 hl hsz => ?_
  obtain ⟨_, AW, cW, eqz, s5⟩ := hsz
  cases eqz
  have HB6 := hid (HB4.out.later hl)
  have HBE6 := hid (HBE4.out.trans (hl.mono HBE4.out.size))
  clear hl kx1 kx2
  clear k4_0
  go_wp2_with fail
  have hsA : Sees w6 w6.heap.size AB (bvs lb) := (HSB.out.below HBE6.out).more HBE6.out.size
  have HCC := hid (concat_any w6.heap.size 2 2 [lb, l5] (w6.alloc (.cells #[.slice AB nb cb, .slice A5 n5 c5] 33)) rfl (by simp) (flat2 33 HNB.out M5.out.symm hsA s5) (by omega) (by have := HNB.out; have := M5.out; have := L5.out; simp; omega))
  rw [HFL.out] at HCC
  have HBW := hid (HBE6.out.alloc HBE6.out.size (.cells #[.slice AB nb cb, .slice A5 n5 c5] 33))
  clear hsA s5
  go_wp2_with fail
  refine HCC.out.mono ?_
  rintro e w9 ⟨A9, c9, rfl, o9, b9⟩
  have HF : Hid (GivesBytes w R (.returned (.slice A9 R.length c9)) w9) := hid ⟨A9, c9, rfl, o9.lower HBW.out.size, HBW.out.trans (b9.mono HBW.out.size)⟩
  clear o9 b9
  go_wp2_with fail
  go_ret
  exact HF.out
theorem cput_4 (AB : Option Addr) (nb cb : Nat) (lb : List UInt8) (x : Cm) (w : World) (hnb : lb.length = nb) (hsb : Sees w w.heap.size AB (bvs lb)) (hmb : nb ≤ 10000) (h : okCm w x) (hk : cok x) (h5 : x.kd = 4) :
    Calls Try.prog 7 #[.slice AB nb cb, .agg (cmc x).toArray] w (GivesBytes w (lb ++ putC x)) := by
  have huc := Try.underlying32
  have B0 := Blk.new w (cmc x) 32
  have hb0 := below_a1C w (.cells (cmc x).toArray 32)
  have hck := ccheck_any x (w.alloc (.cells (cmc x).toArray 32)) (h.later hb0)
  have RG0 := B0.range 0 (cmc x) (by rw [List.drop_zero, List.take_length])
  have HLC := hid (cmc_len h.e8 h.p8)
  have HPX := hid (cm_at h.e8 h.p8)
  have HSB := hid hsb
  have HNB := hid hnb
  obtain ⟨xc, hxc⟩ : ∃ c, c = cmc x := ⟨_, rfl⟩
  rw [← hxc] at B0 hb0 hck RG0 HLC HPX ⊢
  have HB0 := hid B0
  have HBE := hid hb0
  rw [decide_eq_true hk] at hck
  have HCK := hid hck
  obtain ⟨R, hR⟩ : ∃ R, R = lb ++ putC x := ⟨_, rfl⟩
  rw [← hR]
  have HR : Hid (R = lb ++ (enc (held x.kd) ++ (enc (held x.dv) ++ enc (held x.rq)))) := hid (by rw [hR]; unfold putC cmb; rw [if_pos hk, if_neg (by omega), if_neg (by omega), if_neg (by omega), if_neg (by omega), List.append_nil])
  obtain ⟨l1, hl1⟩ : ∃ l, l = [] ++ enc (held (x.kd)) := ⟨_, rfl⟩
  obtain ⟨n1, hn1⟩ : ∃ n, n = l1.length := ⟨_, rfl⟩
  have L1 : Hid (n1 ≤ 6) := hid (by have := held_len (x.kd); rw [hn1, hl1, List.length_append]; simp only [List.length_nil]; omega)
  have M1 := hid hn1
  have Q1 := hid hl1
  have N1 : Hid (∀ wx : World, Calls Try.prog 21 #[.slice none 0 0, .int .i64 (x.kd)] wx (GivesBytes wx l1)) := hid (fun wx => by rw [hl1]; exact oct_num none 0 0 [] (x.kd) wx rfl Sees.nil_ (by omega))
  clear hl1 hn1
  obtain ⟨l2, hl2⟩ : ∃ l, l = l1 ++ enc (held (x.dv)) := ⟨_, rfl⟩
  obtain ⟨n2, hn2⟩ : ∃ n, n = l2.length := ⟨_, rfl⟩
  have L2 : Hid (n2 ≤ 12) := hid (by have := held_len (x.dv); have := L1.out; have := M1.out; rw [hn2, hl2, List.length_append]; omega)
  have M2 := hid hn2
  have Q2 := hid hl2
  have N2 : Hid (∀ (A' : Option Addr) (c' : Nat) (wx : World), Sees wx wx.heap.size A' (bvs l1) → Calls Try.prog 21 #[.slice A' n1 c', .int .i64 (x.dv)] wx (GivesBytes wx l2)) := hid (fun A' c' wx h => by rw [hl2]; exact oct_num A' n1 c' l1 (x.dv) wx M1.out.symm h (by have := L1.out; omega))
  clear hl2 hn2
  obtain ⟨l3, hl3⟩ : ∃ l, l = l2 ++ enc (held (x.rq)) := ⟨_, rfl⟩
  obtain ⟨n3, hn3⟩ : ∃ n, n = l3.length := ⟨_, rfl⟩
  have L3 : Hid (n3 ≤ 18) := hid (by have := held_len (x.rq); have := L2.out; have := M2.out; rw [hn3, hl3, List.length_append]; omega)
  have M3 := hid hn3
  have Q3 := hid hl3
  have N3 : Hid (∀ (A' : Option Addr) (c' : Nat) (wx : World), Sees wx wx.heap.size A' (bvs l2) → Calls Try.prog 21 #[.slice A' n2 c', .int .i64 (x.rq)] wx (GivesBytes wx l3)) := hid (fun A' c' wx h => by rw [hl3]; exact oct_num A' n2 c' l2 (x.rq) wx M2.out.symm h (by have := L2.out; omega))
  clear hl3 hn3
  have e1 : (x.kd == 1) = false := by rw [h5]; rfl
  have e5 : (x.kd == 5) = false := by rw [h5]; rfl
  have e2 : (x.kd == 2) = false := by rw [h5]; rfl
  have e3 : (x.kd == 3) = false := by rw [h5]; rfl
  have HFL : Hid ([lb, l3].flatten = R) := hid (by rw [HR.out, Q3.out, Q2.out, Q1.out]; simp)
  clear hck hxc B0 hb0 hsb hnb hk h5 hR
  go_enter Try.func7, Try.ntmps7
  go_wp2_with (first
    | (refine wpList_load_mid rfl 32 (.tmp 3) rfl w.heap.size 0 rfl xc _ RG0 huc rfl (by rw [HLC.out]; exact info_cm) ?_; simp only [pq4])
    | fail)
  refine HCK.out.mono ?_
  rintro e w1 ⟨rfl, hb1⟩
  have HB1 := hid (HB0.out.later hb1)
  have HBE1 := hid (HBE.out.trans (hb1.mono HBE.out.size))
  clear hb1 RG0
  have k1_0 := HB1.out.cell HPX.out.1
  go_wp2_with fail
  refine (N1.out _).mono ?_
  rintro e w2 ⟨A1, c1, rfl, o1, b1⟩
  have s1 := o1.sees
  rw [← M1.out]
  have HB2 := hid (HB1.out.later b1)
  have HBE2 := hid (HBE1.out.trans (b1.mono HBE1.out.size))
  clear b1 o1
  have k2_0 := HB2.out.cell HPX.out.1
  clear k1_0
  have kx1 : ∀ kk : LW w2, kk.val.cell? ⟨w.heap.size, 30, none⟩ = some (.int .i64 x.dv) := fun kk => (kk.le.cell (p := ⟨w.heap.size, 30, none⟩) HB2.out.lt).trans (HB2.out.cell HPX.out.2.1)
  have kx2 : ∀ kk : LW w2, kk.val.cell? ⟨w.heap.size, 31, none⟩ = some (.int .i64 x.rq) := fun kk => (kk.le.cell (p := ⟨w.heap.size, 31, none⟩) HB2.out.lt).trans (HB2.out.cell HPX.out.2.2.1)
  go_wp2_with fail
  refine wp_region_steady [(19, relSee n2 l2), (22, relSee n3 l3)] 63 (by kernel_rfl) (by kernel_rfl) (by kernel_rfl) (by rfl) ?_
  iterate 3 (refine wpG_quiet (by rfl) (by rfl) (by rfl) (fun K hK => ?_); go_big_quiet_op; refine hK _ ?_; clear hK K)
  refine wpG_calls (relSee n2 l2) (by rfl) (by rfl) 21 #[.slice A1 n1 c1, .int .i64 x.dv] (by intro _; simp [go_sem]) (fun wx hl => (N2.out _ _ _ ((s1.below hl.1).more hl.1.size)).mono fun e w' h => gives_see M2.out.symm h) ?_
  rintro _ ⟨_, _, _, ⟨AX, cX, rfl, _⟩⟩
  simp only [pq4]
  iterate 2 (refine wpG_quiet (by rfl) (by rfl) (by rfl) (fun K hK => ?_); go_big_quiet_op; refine hK _ ?_; clear hK K)
  refine wpG_calls (relSee n3 l3) (by rfl) (by rfl) 21 #[.slice AX n2 cX, .int .i64 x.rq] (by intro _; simp [go_sem]) (fun wx hl => ?_) ?_
  · obtain ⟨AY, cY, hY, sY⟩ := hl.2 19 _ (by simp [Op.operands, Call.operands]) rfl (by intro h; cases h)
    cases hY
    exact (N3.out _ _ _ sY).mono fun e w' h => gives_see M3.out.symm h
  rintro _ ⟨_, _, _, ⟨A3, c3, rfl, _⟩⟩
  simp only [pq4]
  iterate 1 (refine wpG_quiet (by rfl) (by rfl) (by rfl) (fun K hK => ?_); go_big_quiet_op; refine hK _ ?_; clear hK K)
  refine wpG_nil fun w4 hl hsz => ?_
  obtain ⟨_, AW, cW, eqz, s3⟩ := hsz
  cases eqz
  have HB4 := hid (HB2.out.later hl)
  have HBE4 := hid (HBE2.out.trans (hl.mono HBE2.out.size))
  clear kx1 kx2 hl
  clear k2_0
  have k4_0 := HB4.out.cell HPX.out.1
  go_wp2_with fail
  have hsA : Sees w4 w4.heap.size AB (bvs lb) := (HSB.out.below HBE4.out).more HBE4.out.size
  have HCC := hid (concat_any w4.heap.size 2 2 [lb, l3] (w4.alloc (.cells #[.slice AB nb cb, .slice A3 n3 c3] 33)) rfl (by simp) (flat2 33 HNB.out M3.out.symm hsA s3) (by omega) (by have := HNB.out; have := M3.out; have := L3.out; simp; omega))
  rw [HFL.out] at HCC
  have HBW := hid (HBE4.out.alloc HBE4.out.size (.cells #[.slice AB nb cb, .slice A3 n3 c3] 33))
  clear hsA s3
  go_wp2_with fail
  refine HCC.out.mono ?_
  rintro e w9 ⟨A9, c9, rfl, o9, b9⟩
  have HF : Hid (GivesBytes w R (.returned (.slice A9 R.length c9)) w9) := hid ⟨A9, c9, rfl, o9.lower HBW.out.size, HBW.out.trans (b9.mono HBW.out.size)⟩
  clear o9 b9
  go_wp2_with fail
  go_ret
  exact HF.out
theorem cput_5 (AB : Option Addr) (nb cb : Nat) (lb : List UInt8) (x : Cm) (w : World) (hnb : lb.length = nb) (hsb : Sees w w.heap.size AB (bvs lb)) (hmb : nb ≤ 10000) (h : okCm w x) (hk : cok x) (h5 : x.kd = 5) :
    Calls Try.prog 7 #[.slice AB nb cb, .agg (cmc x).toArray] w (GivesBytes w (lb ++ putC x)) := by
  have huc := Try.underlying32
  have B0 := Blk.new w (cmc x) 32
  have hb0 := below_a1C w (.cells (cmc x).toArray 32)
  have hck := ccheck_any x (w.alloc (.cells (cmc x).toArray 32)) (h.later hb0)
  have RG0 := B0.range 0 (cmc x) (by rw [List.drop_zero, List.take_length])
  have HLC := hid (cmc_len h.e8 h.p8)
  have HPX := hid (cm_at h.e8 h.p8)
  have HSB := hid hsb
  have HNB := hid hnb
  obtain ⟨xc, hxc⟩ : ∃ c, c = cmc x := ⟨_, rfl⟩
  rw [← hxc] at B0 hb0 hck RG0 HLC HPX ⊢
  have HB0 := hid B0
  have HBE := hid hb0
  rw [decide_eq_true hk] at hck
  have HCK := hid hck
  obtain ⟨R, hR⟩ : ∃ R, R = lb ++ putC x := ⟨_, rfl⟩
  rw [← hR]
  have HR : Hid (R = lb ++ (enc (held x.kd) ++ enc (held x.kp))) := hid (by rw [hR]; unfold putC cmb; rw [if_pos hk, if_neg (by omega), if_pos h5])
  obtain ⟨l1, hl1⟩ : ∃ l, l = [] ++ enc (held (x.kd)) := ⟨_, rfl⟩
  obtain ⟨n1, hn1⟩ : ∃ n, n = l1.length := ⟨_, rfl⟩
  have L1 : Hid (n1 ≤ 6) := hid (by have := held_len (x.kd); rw [hn1, hl1, List.length_append]; simp only [List.length_nil]; omega)
  have M1 := hid hn1
  have Q1 := hid hl1
  have N1 : Hid (∀ wx : World, Calls Try.prog 21 #[.slice none 0 0, .int .i64 (x.kd)] wx (GivesBytes wx l1)) := hid (fun wx => by rw [hl1]; exact oct_num none 0 0 [] (x.kd) wx rfl Sees.nil_ (by omega))
  clear hl1 hn1
  obtain ⟨l2, hl2⟩ : ∃ l, l = l1 ++ enc (held (x.kp)) := ⟨_, rfl⟩
  obtain ⟨n2, hn2⟩ : ∃ n, n = l2.length := ⟨_, rfl⟩
  have L2 : Hid (n2 ≤ 12) := hid (by have := held_len (x.kp); have := L1.out; have := M1.out; rw [hn2, hl2, List.length_append]; omega)
  have M2 := hid hn2
  have Q2 := hid hl2
  have N2 : Hid (∀ (A' : Option Addr) (c' : Nat) (wx : World), Sees wx wx.heap.size A' (bvs l1) → Calls Try.prog 21 #[.slice A' n1 c', .int .i64 (x.kp)] wx (GivesBytes wx l2)) := hid (fun A' c' wx h => by rw [hl2]; exact oct_num A' n1 c' l1 (x.kp) wx M1.out.symm h (by have := L1.out; omega))
  clear hl2 hn2
  have e1 : (x.kd == 1) = false := by rw [h5]; rfl
  have e5 : (x.kd == 5) = true := by rw [h5]; rfl
  have e2 : (x.kd == 2) = false := by rw [h5]; rfl
  have e3 : (x.kd == 3) = false := by rw [h5]; rfl
  have HFL : Hid ([lb, l2].flatten = R) := hid (by rw [HR.out, Q2.out, Q1.out]; simp)
  clear hck hxc B0 hb0 hsb hnb hk h5 hR
  go_enter Try.func7, Try.ntmps7
  go_wp2_with (first
    | (refine wpList_load_mid rfl 32 (.tmp 3) rfl w.heap.size 0 rfl xc _ RG0 huc rfl (by rw [HLC.out]; exact info_cm) ?_; simp only [pq4])
    | fail)
  refine HCK.out.mono ?_
  rintro e w1 ⟨rfl, hb1⟩
  have HB1 := hid (HB0.out.later hb1)
  have HBE1 := hid (HBE.out.trans (hb1.mono HBE.out.size))
  clear hb1 RG0
  have k1_0 := HB1.out.cell HPX.out.1
  go_wp2_with fail
  refine (N1.out _).mono ?_
  rintro e w2 ⟨A1, c1, rfl, o1, b1⟩
  have s1 := o1.sees
  rw [← M1.out]
  have HB2 := hid (HB1.out.later b1)
  have HBE2 := hid (HBE1.out.trans (b1.mono HBE1.out.size))
  clear b1 o1
  have k2_0 := HB2.out.cell HPX.out.1
  have k2_34 := HB2.out.cell HPX.out.2.2.2.2.2.1
  clear k1_0
  go_wp2_with fail
  refine (N2.out _ _ _ s1).mono ?_
  rintro e w3 ⟨A2, c2, rfl, o2, b2⟩
  have s2 := o2.sees
  rw [← M2.out]
  have HB3 := hid (HB2.out.later b2)
  have HBE3 := hid (HBE2.out.trans (b2.mono HBE2.out.size))
  clear b2 o2 s1
  have k3_0 := HB3.out.cell HPX.out.1
  clear k2_0 k2_34
  go_wp2_with fail
  have hsA : Sees w3 w3.heap.size AB (bvs lb) := (HSB.out.below HBE3.out).more HBE3.out.size
  have HCC := hid (concat_any w3.heap.size 2 2 [lb, l2] (w3.alloc (.cells #[.slice AB nb cb, .slice A2 n2 c2] 33)) rfl (by simp) (flat2 33 HNB.out M2.out.symm hsA s2) (by omega) (by have := HNB.out; have := M2.out; have := L2.out; simp; omega))
  rw [HFL.out] at HCC
  have HBW := hid (HBE3.out.alloc HBE3.out.size (.cells #[.slice AB nb cb, .slice A2 n2 c2] 33))
  clear hsA s2
  go_wp2_with fail
  refine HCC.out.mono ?_
  rintro e w9 ⟨A9, c9, rfl, o9, b9⟩
  have HF : Hid (GivesBytes w R (.returned (.slice A9 R.length c9)) w9) := hid ⟨A9, c9, rfl, o9.lower HBW.out.size, HBW.out.trans (b9.mono HBW.out.size)⟩
  clear o9 b9
  go_wp2_with fail
  go_ret
  exact HF.out
theorem cput_any (AB : Option Addr) (nb cb : Nat) (lb : List UInt8) (x : Cm) (w : World) (hnb : lb.length = nb) (hsb : Sees w w.heap.size AB (bvs lb)) (hmb : nb ≤ 10000) (h : okCm w x) :
    Calls Try.prog 7 #[.slice AB nb cb, .agg (cmc x).toArray] w (GivesBytes w (lb ++ putC x)) := by
  by_cases hk : cok x
  · rcases hk.1 with h5 | h5 | h5 | h5 | h5
    · exact cput_1 AB nb cb lb x w hnb hsb hmb h hk h5
    · exact cput_2 AB nb cb lb x w hnb hsb hmb h hk h5
    · exact cput_3 AB nb cb lb x w hnb hsb hmb h hk h5
    · exact cput_4 AB nb cb lb x w hnb hsb hmb h hk h5
    · exact cput_5 AB nb cb lb x w hnb hsb hmb h hk h5
  · exact cput_0 AB nb cb lb x w hnb hsb hmb h hk
theorem putC_len (x : Cm) : (putC x).length ≤ 2000 := by
  unfold putC
  by_cases h : cok x
  · rw [if_pos h]
    unfold cmb
    have h1 := held_len x.kd
    have h2 := held_len x.dv
    have h3 := held_len x.rq
    have h4 := held_len x.id
    have h5 := held_len x.bs
    have h6 := held_len x.kp
    have h7 := held_len (x.ms.toNat : Int)
    have h8 := pbs_len x.pm (x.pl.toNat : Int) x.pf
    have h9 := lbs_len x.f
    have h10 := ebs_len x.ek x.eid x.eg x.em (x.el.toNat : Int) x.ef
    split
    · simp only [List.length_append]; omega
    · split
      · simp only [List.length_append]; omega
      · split
        · simp only [List.length_append]; omega
        · split
          · simp only [List.length_append]; omega
          · simp only [List.length_append, List.length_nil]; omega
  · rw [if_neg h]; simp
def zcm : Cm := ⟨0, 0, 0, 0, 0#32, 0#32, zeros, 0, 0, 0, 0, 0, 0#32, 0#32, zeros, none, 0, 0, [], 0#32⟩
def xaw : Cm := { zcm with kd := 4, dv := 2, rq := 7 }
theorem zcm_ok (w : World) : okCm w zcm := ⟨rfl, rfl, rfl, Nat.le_refl _, by decide, Sees.nil_⟩
theorem xaw_ok (w : World) : okCm w xaw := ⟨rfl, rfl, rfl, Nat.le_refl _, by decide, Sees.nil_⟩
theorem xaw_cok : cok xaw := by
  have hp : pz xaw := ⟨rfl, rfl, rfl⟩
  have he : ez xaw := ⟨rfl, rfl, rfl, rfl, rfl, rfl⟩
  refine ⟨Or.inr (Or.inr (Or.inr (Or.inl rfl))), fun h => absurd h (by decide), fun h => absurd h (by decide), fun _ => ⟨by decide, by decide, he, rfl⟩, fun h => absurd h (by decide), fun h => absurd h (by decide), fun _ => ⟨hp, rfl, rfl, rfl, rfl⟩⟩
theorem xaw_bytes : putC xaw = [4, 2, 7] := by
  unfold putC
  rw [if_pos xaw_cok]
  decide +kernel
theorem cm_awake (w : World) : Calls Try.prog 6 #[] w fun e w' => e = .returned (.bool true) ∧ Below w.heap.size w w' := by
  have HPC := hid (fun wx : World => cput_any none 0 0 [] xaw wx rfl Sees.nil_ (by omega) (xaw_ok wx))
  rw [List.nil_append, xaw_bytes] at HPC
  go_enter Try.func6, Try.ntmps6
  go_wp2_with fail
  refine (HPC.out _).mono ?_
  rintro e w8 ⟨A8, c8, rfl, o8, b8⟩
  have hr := str_conv w8 w8.heap.size A8 3 c8 _ ⟨#[4, 2, 7]⟩ rfl o8.sees rfl
  clear o8
  go_wp2_with (first
    | (refine wpList_exec (by rfl) (.string ⟨#[4, 2, 7]⟩) (exec_conv (.tmp 2) 33 9 rfl _ rfl _ hr) ?_)
    | fail)
  go_ret
  exact ⟨rfl, b8⟩
end Go.Proofs.Ytnhcjadkbogioaa
