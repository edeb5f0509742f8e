/- Roots: RootFalls' walk. -/
import Derived.Test.YtncbhpopobjaiaaR14
namespace Go.Proofs.Ytncbhpopobjaiaa
set_option linter.unusedVariables false
set_option linter.unusedSimpArgs false
open Go Go.RowKit SumM OctM

def mx0 (v : Int) : Int := if v < 0 then 0 else v
theorem exec_max0 {o : Oper} {a : Act} {w : World} (x y : Operand) (ho : o.op = .call { callee := .builtin .max, args := #[x, y], argTypes := #[3, 3] }) (z : Int) (hx : a.eval x = .int .i64 z) (hy : a.eval y = .int .i64 0) : (execOp a.eval o).run Try.prog w = .ok (.value (.int .i64 (mx0 z))) w := by
  unfold execOp
  generalize a.eval = ρ at hx hy
  unfold mx0
  by_cases h : z < 0
  · simp [go_sem, ho, hx, hy, h]
  · simp [go_sem, ho, hx, hy, h]
theorem exec_remk {o : Oper} {a : Act} {w : World} (k : Int) (hk : k = 4 ∨ k = 1000) (x y : Operand) (u : TypeId) (ho : o.op = .binOp .rem 3 x y u) (z oc : Int) (hx : a.eval x = .int .i64 z) (hy : a.eval y = .int .i64 k) (t1 : Int.tmod z k = oc) : (execOp a.eval o).run Try.prog w = .ok (.value (.int .i64 oc)) w := by
  unfold execOp
  generalize a.eval = ρ at hx hy
  rcases hk with rfl | rfl
  · simp [go_sem, ho, hx, hy, t1]
  · simp [go_sem, ho, hx, hy, t1]
theorem mx0_rem (v k : Int) (hk : 0 < k) : Int.tmod (mx0 v) k = mx0 v % k ∧ 0 ≤ mx0 v % k ∧ mx0 v % k < k := by
  have h0 : 0 ≤ mx0 v := by unfold mx0; split <;> omega
  exact ⟨Int.tmod_eq_emod_of_nonneg h0, Int.emod_nonneg _ (by omega), Int.emod_lt_of_pos _ hk⟩
theorem run_newr (w : World) : (Instr.alloc 25 true (.tuple #[])).run Try.prog w = .ok (.pointer (some ⟨w.heap.size, 0, none⟩)) (w.alloc (.cells #[.int .i64 0, .int .i64 0, .int .i64 0] 25)) := by kernel_rfl
theorem newr_gives {a : Act} {op : Oper} (ho : op.op = .alloc 25) (B : Nat) (w : World) (hB : B ≤ w.heap.size) : gives Try.prog op a (relBx B [.int .i64 0, .int .i64 0, .int .i64 0] 25).rel w := by
  unfold gives execOp
  simp only [ho, Sem.run_bind, run_newr, Result.andThen_ok, Sem.run_pure]
  exact ⟨(Below.refl _ _).alloc (Nat.le_refl _) _, _, rfl, hB, BT.new w [.int .i64 0, .int .i64 0, .int .i64 0] _⟩
set_option maxRecDepth 100000 in
set_option maxHeartbeats 6400000 in
theorem walk_falls (sq : Int) (hsq : 0 ≤ sq ∧ sq ≤ 65535) (A0 : Option Addr) (n0 c0 : Nat) (l : List Ra) (w : World) (h0 : l.length = n0) (hn0 : n0 ≤ c0) (hm0 : c0 ≤ maxLen) (s0 : Sees w w.heap.size A0 (rws rac l)) (ok : ∀ x ∈ l, okRa w x) :
    Calls Try.prog 5 #[.int .u16 sq, .slice A0 n0 c0] w fun e w' => e = .returned (.bool true) ∧ Below w.heap.size w w' := by
  have hu := Try.underlying25
  have HN := Lib.hid (new_any 2 w (by omega) (by omega))
  have ok0 : Rok (1 + sq, 1, 0) := ⟨by show 1 ≤ 1 + sq; omega, by show 1 + sq ≤ 4294967295; omega, by show (1 : Int) ≤ 1; decide, by show (1 : Int) ≤ 4294967295; decide, by show (0 : Int) ≤ 0; decide, by show (0 : Int) ≤ 1099511627775; decide⟩
  obtain ⟨hst0, hS0⟩ := Stands.first ok0
  have HST0 : Hid (∀ wx, DkAt wx w.heap.size (w.heap.size + 1) w.heap.size none (dnew 2) → w.heap.size ≤ wx.heap.size → Calls Try.prog 17 #[.pointer (some ⟨w.heap.size + 1, 0, none⟩), .agg #[.int .i64 (1 + sq), .int .i64 1, .int .i64 0]] wx fun e w' => e = .returned (.int .i64 0) ∧ ∃ r', DkAt w' w.heap.size (w.heap.size + 1) w.heap.size r' ⟨(dnew 2).s.set ((1 + sq) % 2).toNat (b64 (rput (1 + sq, 1, 0)), false), [], -1, false⟩ ∧ Turn3 wx w' (w.heap.size + 1) w.heap.size none ∧ RowN wx none r') := Lib.hid (fun wx hd hz => by
    have := store_any w.heap.size (w.heap.size + 1) w.heap.size none (dnew 2) (1 + sq, 1, 0) wx hd (DIn.none rfl) (by decide) (by decide) (by decide) hz
    rw [hst0] at this
    exact this)
  have HS0 := Lib.hid hS0
  have HSEE := Lib.hid s0
  have HOK := Lib.hid ok
  have HLEN := Lib.hid h0
  have hsqi : IntKind.i64.wrap sq = sq := by rw [IntKind.wrap_i64]; try omega
  generalize hDD : (⟨(dnew 2).s.set ((1 + sq) % 2).toNat (b64 (rput (1 + sq, 1, 0)), false), [], -1, false⟩ : Dk) = DD at HST0
  have HS0 : Hid (Stands DD (1 + sq, 1, 0)) := Lib.hid (by rw [← hDD]; exact HS0.out)
  clear hDD hst0 hS0 ok0 s0 ok h0 hm0
  go_enter Try.func5, Try.ntmps5
  go_wp2_with fail
  refine HN.out.mono ?_
  rintro e w1 ⟨rfl, hd1, hb1⟩
  have BX := Blk.new w1 [.int .i64 0, .int .i64 0, .int .i64 0] 25
  have THX := BX.there 0 3 (by simp)
  have BX2 : Blk ((w1.alloc (.cells #[.int .i64 0, .int .i64 0, .int .i64 0] 25)).setCells w1.heap.size 0 [.int .i64 (1 + sq), .int .i64 1, .int .i64 0]) w1.heap.size [.int .i64 (1 + sq), .int .i64 1, .int .i64 0] := BX.sets [.int .i64 (1 + sq), .int .i64 1, .int .i64 0] 0 (by simp)
  have L12 : Below w1.heap.size w1 ((w1.alloc (.cells #[.int .i64 0, .int .i64 0, .int .i64 0] 25)).setCells w1.heap.size 0 [.int .i64 (1 + sq), .int .i64 1, .int .i64 0]) := below_sets (Nat.le_refl _) _ 0 ((Below.refl w1.heap.size w1).alloc (Nat.le_refl _) _)
  have hg1 : w.heap.size + 1 < w1.heap.size ∧ w.heap.size < w1.heap.size := hd1.lt
  obtain ⟨W2, hW2⟩ : ∃ W2, W2 = (w1.alloc (.cells #[.int .i64 0, .int .i64 0, .int .i64 0] 25)).setCells w1.heap.size 0 [.int .i64 (1 + sq), .int .i64 1, .int .i64 0] := ⟨_, rfl⟩
  rw [← hW2] at BX2 L12
  have HW2 := Lib.hid hW2
  have HD2 := Lib.hid (hd1.later L12)
  have HX2 := Lib.hid BX2
  have RB2 := BX2.range 0 [.int .i64 (1 + sq), .int .i64 1, .int .i64 0] rfl
  have HL2 := Lib.hid (hb1.trans (L12.mono hb1.size))
  have HG := Lib.hid hg1
  clear hW2 hd1 hb1 BX BX2 L12 HN hg1
  go_wp2_with (first
    | (have TX1 := THX
       refine wpList_store_mid rfl 25 (.tmp 6) (.tmp 16) rfl w1.heap.size 0 #[.int .i64 (1 + sq), .int .i64 1, .int .i64 0] rfl rfl TX1 info_rtto (by simp [Value.oneCell']) ?_
       simp only [Act.put, List.setIfInBounds_toArray, List.set_cons_zero, List.set_cons_succ]
       rw [← HW2.out]
       clear THX TX1 HW2)
    | (have RB1 := RB2
       refine wpList_load_mid rfl 25 (.tmp 6) rfl w1.heap.size 0 rfl [.int .i64 (1 + sq), .int .i64 1, .int .i64 0] _ RB1 hu rfl info_rtto ?_
       simp only [Act.put, List.setIfInBounds_toArray, List.set_cons_zero, List.set_cons_succ]
       clear RB1 RB2)
    | fail)
  refine (HST0.out W2 HD2.out HL2.out.size).mono ?_
  rintro e w3 ⟨rfl, r3, d3, T3, R3⟩
  have HD3 := Lib.hid d3
  have HX3 := Lib.hid (T3.blk HX2.out (by have := HG.out; omega) (by have := HG.out; omega) (by simp))
  have HL3 := Lib.hid (HL2.out.trans (T3.below (by omega) (Nat.le_refl _) (fun k e => by cases e) HL2.out.size))
  have HR3 : Hid (r3 ≠ some w1.heap.size) := Lib.hid (fun e => by
    rcases R3 _ e with h | h
    · cases h
    · have := HX2.out.lt; omega)
  clear d3 T3 R3 HD2 HX2 HL2 HST0
  go_wp2_with fail
  go_loopw [7] (fun i wr => ∃ k : Nat, k ≤ 40 ∧ i = .int .i64 (k : Int) ∧ ∃ r D a b c, Hid (DkAt wr w.heap.size (w.heap.size + 1) w.heap.size r D) ∧ Hid (Stands D (a, b, c)) ∧ Hid (a ≤ 65536 + (k : Int)) ∧ Hid (Blk wr w1.heap.size [.int .i64 a, .int .i64 b, .int .i64 c]) ∧ Hid (r ≠ some w1.heap.size) ∧ Hid (Below w.heap.size w wr)) (fun i _ => (40 - intOf i).toNat)
  case atStart => exact ⟨0, by omega, rfl, r3, DD, 1 + sq, 1, 0, HD3, HS0, Lib.hid (by omega), HX3, HR3, HL3⟩
  case round =>
    clear HD3 HS0 HX3 HR3 HL3
    obtain ⟨k, hk, rfl, r, D, a, b, c, HD, HS, HA, HX, HR, HL⟩ := hrel
    by_cases y1 : k < n0
    · have y1i : decide ((k : Int) < (n0 : Int)) = true := decide_eq_true (by omega)
      by_cases y2 : k < 40
      · have y2i : decide ((k : Int) < 40) = true := decide_eq_true (by omega)
        have hkl : k < l.length := by have := HLEN.out; omega
        have hok := HOK.out l[k] (List.getElem_mem hkl)
        obtain ⟨b1, o1, rfl, hb1, hrg⟩ := sees_rw (f := rac) (sz := 7) (ra_len l) (HSEE.out.below HL.out) (by decide) k hkl
        have HRA : Hid (∀ W, Below w.heap.size w W → W.rangeAt b1 (o1 + k * 7) (rac l[k])) := Lib.hid (fun W hW => by
          obtain ⟨b', o', e', _, hr'⟩ := sees_rw (f := rac) (sz := 7) (ra_len l) (HSEE.out.below hW) (by decide) k hkl
          cases e'
          exact hr')
        generalize hx : l[k] = x at hok hrg HRA
        obtain ⟨xk, xn, ⟨xs, xl, xh⟩, xv, xt⟩ := x
        obtain ⟨ok1, ok2, ⟨ok3, ok4, ok5⟩, ok6, keep, ⟨A5, n5, c5, hv5, hn5, hm5, hl5, hs5⟩, hz5⟩ := hok
        dsimp only at ok1 ok2 ok3 ok4 ok5 ok6 hv5
        subst hv5
        have hnl : ¬ n0 ≤ k := by omega
        have HC : Hid (∀ W, Below w.heap.size w W → W.cell? ⟨b1, o1 + k * 7 + 1, none⟩ = some (.int .i64 xn) ∧ W.cell? ⟨b1, o1 + k * 7 + 2 + 1, none⟩ = some (.int .i64 xl) ∧ W.cell? ⟨b1, o1 + k * 7 + 2 + 2, none⟩ = some (.int .i64 xh) ∧ W.cell? ⟨b1, o1 + k * 7 + 5, none⟩ = some (.slice A5 n5 c5)) := Lib.hid (fun W hW => ⟨HRA.out W hW 1 _ rfl, HRA.out W hW 3 _ rfl, HRA.out W hW 4 _ rfl, HRA.out W hW 5 _ rfl⟩)
        clear HRA hx hb1 hrg
        have kk := (HC.out wr HL.out).2.2.2
        by_cases y3 : 60 < n5
        · have y3i : decide ((60 : Int) < (n5 : Int)) = true := decide_eq_true (by omega)
          clear HD HS HA HX HR HC
          go_wp2_with fail
          refine (rt_awake _).mono ?_
          rintro e w9 ⟨rfl, hb9⟩
          have HL9 := Lib.hid (HL.out.trans (hb9.mono HL.out.size))
          clear hb9
          go_wp2_with fail
          go_ret
          exact ⟨rfl, HL9.out⟩
        · have y3i : decide ((60 : Int) < (n5 : Int)) = false := decide_eq_false (by omega)
          have m1 := mx0_rem xl 1000 (by decide)
          have m2 := mx0_rem xh 1000 (by decide)
          have m3 := mx0_rem xn 4 (by decide)
          obtain ⟨lf, hlf⟩ : ∃ lf, lf = mx0 xl % 1000 := ⟨_, rfl⟩
          obtain ⟨hd, hhd⟩ : ∃ hd, hd = mx0 xh % 1000 := ⟨_, rfl⟩
          obtain ⟨fu, hfu⟩ : ∃ fu, fu = mx0 xn % 4 := ⟨_, rfl⟩
          rw [← hlf] at m1
          rw [← hhd] at m2
          rw [← hfu] at m3
          have hA := HA.out
          have hsa : 1 ≤ a := HS.out.ok.1
          have oky : Rok (a + 1, 1 + lf, hd) := ⟨by show 1 ≤ a + 1; omega, by show a + 1 ≤ 4294967295; omega, by show 1 ≤ 1 + lf; omega, by show 1 + lf ≤ 4294967295; omega, by show 0 ≤ hd; omega, by show hd ≤ 1099511627775; omega⟩
          have hfall := HS.out.falls oky rfl fu m3.2.1 keep
          have hfin : DIn { D with fuse := fu } := DIn.none HS.out.none
          have hbits := rstore_bits { D with fuse := fu } (a + 1, 1 + lf, hd) hfin ⟨by show -9223372036854775808 ≤ fu; omega, by show fu ≤ 9223372036854775807; omega⟩
          have hwl : (rstore { D with fuse := fu } (a + 1, 1 + lf, hd)).1.w.length ≤ 1 := by
            have h1 := hbits.2.2.1
            have h2 : ({ D with fuse := fu } : Dk).w.length = 0 := by
              show D.w.length = 0
              rw [HS.out.none]
              rfl
            omega
          have HDlen : Hid (D.w = [] ∧ D.s.length = 2) := Lib.hid ⟨HS.out.none, HS.out.len⟩
          have HFU : Hid (∀ wx, DkAt wx w.heap.size (w.heap.size + 1) w.heap.size r D → Calls Try.prog 19 #[.pointer (some ⟨w.heap.size + 1, 0, none⟩), .int .i64 fu] wx fun e w' => e = .returned (.tuple #[]) ∧ DkAt w' w.heap.size (w.heap.size + 1) w.heap.size r { D with fuse := fu } ∧ Turn3 wx w' (w.heap.size + 1) w.heap.size r) := Lib.hid (fun wx hd => fuse_any w.heap.size (w.heap.size + 1) w.heap.size r D fu wx hd)
          have HST : Hid (∀ wx, DkAt wx w.heap.size (w.heap.size + 1) w.heap.size r { D with fuse := fu } → w.heap.size ≤ wx.heap.size → Calls Try.prog 17 #[.pointer (some ⟨w.heap.size + 1, 0, none⟩), .agg #[.int .i64 (a + 1), .int .i64 (1 + lf), .int .i64 hd]] wx fun e w' => e = .returned (.int .i64 (rstore { D with fuse := fu } (a + 1, 1 + lf, hd)).2) ∧ ∃ r', DkAt w' w.heap.size (w.heap.size + 1) w.heap.size r' (rstore { D with fuse := fu } (a + 1, 1 + lf, hd)).1 ∧ Turn3 wx w' (w.heap.size + 1) w.heap.size r ∧ RowN wx r r') := Lib.hid (fun wx hd' hz => store_any w.heap.size (w.heap.size + 1) w.heap.size r { D with fuse := fu } (a + 1, 1 + lf, hd) wx hd' hfin ⟨by show -9223372036854775808 ≤ fu; omega, by show fu ≤ 9223372036854775807; omega⟩ (by show D.w.length ≤ 65000; rw [HDlen.out.1]; simp) (by show D.s.length ≤ 2048; rw [HDlen.out.2]; omega) hz)
          have HCR : Hid (∀ wx r', DkAt wx w.heap.size (w.heap.size + 1) w.heap.size r' (rstore { D with fuse := fu } (a + 1, 1 + lf, hd)).1 → Below w.heap.size w wx → Calls Try.prog 20 #[.pointer (some ⟨w.heap.size + 1, 0, none⟩), .slice A5 n5 c5] wx fun e w' => e = .returned (.tuple #[]) ∧ DkAt w' w.heap.size (w.heap.size + 1) w.heap.size none (dcrash (rstore { D with fuse := fu } (a + 1, 1 + lf, hd)).1 keep) ∧ Turn3 wx w' (w.heap.size + 1) w.heap.size r') := Lib.hid (fun wx r' hd' hb => crash_any w.heap.size (w.heap.size + 1) w.heap.size r' _ A5 n5 c5 keep wx hd' hbits.1 (by omega) hb.size hl5 (by omega) (fun W hT => (hs5.below (hb.trans (hT.below (Nat.le_refl _) (Nat.le_refl _) (fun k e => by cases e) hb.size))).more (Nat.le_trans hb.size hT.size)))
          obtain ⟨he, z, hz, hez, hzs⟩ := hfall
          generalize dcrash (rstore { D with fuse := fu } (a + 1, 1 + lf, hd)).1 keep = D5 at HCR hzs
          generalize rstore { D with fuse := fu } (a + 1, 1 + lf, hd) = D4 at HST HCR he hez
          obtain ⟨D4, er⟩ := D4
          dsimp only at HST HCR he hez
          obtain ⟨za, zb, zc⟩ := z
          have HLD : Hid (∀ wx r', DkAt wx w.heap.size (w.heap.size + 1) w.heap.size r' D5 → Calls Try.prog 24 #[.pointer (some ⟨w.heap.size + 1, 0, none⟩)] wx fun e w' => e = .returned (.tuple #[.agg #[.int .i64 za, .int .i64 zb, .int .i64 zc], .int .i64 0]) ∧ Below wx.heap.size wx w') := Lib.hid (fun wx r' hd' => by
            have := load_any w.heap.size (w.heap.size + 1) w.heap.size r' D5 wx hd' (by rw [hzs.none]; simp)
            rw [hzs.load] at this
            exact this)
          have HZS := Lib.hid hzs
          have HZ := Lib.hid hz
          have HE := Lib.hid he
          have HEZ := Lib.hid hez
          have HM1 := Lib.hid m1
          have HM2 := Lib.hid m2
          have HM3 := Lib.hid m3
          have hs1 : a + 1 ≤ 9223372036854775807 := by omega
          have hs2 : 1 + lf ≤ 9223372036854775807 := by omega
          have hs3 : 0 ≤ lf := m1.2.1
          have HAB : Hid (a + 1 ≤ 65536 + ((k + 1 : Nat) : Int) ∧ 1 ≤ a) := Lib.hid ⟨by omega, hsa⟩
          clear hwl hzs hz he hez hbits hfin oky hs5 hl5 hm5 hn5 hlf hhd hfu HS HA m1 m2 m3 hA ok1 ok2 ok3 ok4 ok5 ok6 hz5 HDlen
          go_wp2_with fail
          clear kk
          have K6 : ∀ wx, Le wr wx → wx.cell? ⟨w1.heap.size, 0, none⟩ = some (.int .i64 a) := fun wx hl => (HX.out.later hl).cell (j := 0) rfl
          have KL : ∀ wx, Le wr wx → wx.cell? ⟨b1, o1 + k * 7 + 2 + 1, none⟩ = some (.int .i64 xl) := fun wx hl => (HC.out wx (HL.out.trans (hl.mono HL.out.size))).2.1
          have KH : ∀ wx, Le wr wx → wx.cell? ⟨b1, o1 + k * 7 + 2 + 2, none⟩ = some (.int .i64 xh) := fun wx hl => (HC.out wx (HL.out.trans (hl.mono HL.out.size))).2.2.1
          refine wp_region_tail [(8, relBx wr.heap.size [.int .i64 0, .int .i64 0, .int .i64 0] 25)] 115 22 (by kernel_rfl) (by kernel_rfl) (by kernel_rfl) (by rfl) ?_
          simp only [List.take_succ_cons, List.take_zero, List.drop_succ_cons, List.drop_zero]
          iterate 1 (refine wpG_quiet (by rfl) (by rfl) (by rfl) (fun K hK => ?_); go_big_quiet_op; refine hK _ ?_; clear hK K)
          refine wpG_run (by rfl) (by rfl) (.int .i64 a) (fun wx hl => by have := K6 wx hl.1; simp [go_sem, this]) ?_
          simp only [Act.put, List.setIfInBounds_toArray, List.set_cons_zero, List.set_cons_succ]
          iterate 6 (refine wpG_quiet (by rfl) (by rfl) (by rfl) (fun K hK => ?_); go_big_quiet_op; refine hK _ ?_; clear hK K)
          refine wpG_run (by rfl) (by rfl) (.int .i64 xl) (fun wx hl => by have := KL wx hl.1; simp [go_sem, this]) ?_
          simp only [Act.put, List.setIfInBounds_toArray, List.set_cons_zero, List.set_cons_succ]
          refine wpG_run (by rfl) (by rfl) (.int .i64 (mx0 xl)) (fun wx hl => exec_max0 (.tmp 47) (.const (.int .i64 0)) rfl xl rfl rfl) ?_
          simp only [Act.put, List.setIfInBounds_toArray, List.set_cons_zero, List.set_cons_succ]
          refine wpG_run (by rfl) (by rfl) (.int .i64 lf) (fun wx hl => exec_remk 1000 (.inr rfl) (.tmp 48) (.const (.int .i64 1000)) _ rfl (mx0 xl) lf rfl rfl HM1.out.1) ?_
          simp only [Act.put, List.setIfInBounds_toArray, List.set_cons_zero, List.set_cons_succ]
          iterate 6 (refine wpG_quiet (by rfl) (by rfl) (by rfl) (fun K hK => ?_); go_big_quiet_op; refine hK _ ?_; clear hK K)
          refine wpG_run (by rfl) (by rfl) (.int .i64 xh) (fun wx hl => by have := KH wx hl.1; simp [go_sem, this]) ?_
          simp only [Act.put, List.setIfInBounds_toArray, List.set_cons_zero, List.set_cons_succ]
          refine wpG_run (by rfl) (by rfl) (.int .i64 (mx0 xh)) (fun wx hl => exec_max0 (.tmp 56) (.const (.int .i64 0)) rfl xh rfl rfl) ?_
          simp only [Act.put, List.setIfInBounds_toArray, List.set_cons_zero, List.set_cons_succ]
          refine wpG_run (by rfl) (by rfl) (.int .i64 hd) (fun wx hl => exec_remk 1000 (.inr rfl) (.tmp 57) (.const (.int .i64 1000)) _ rfl (mx0 xh) hd rfl rfl HM2.out.1) ?_
          simp only [Act.put, List.setIfInBounds_toArray, List.set_cons_zero, List.set_cons_succ]
          iterate 1 (refine wpG_quiet (by rfl) (by rfl) (by rfl) (fun K hK => ?_); go_big_quiet_op; refine hK _ ?_; clear hK K)
          refine wpG_open (relBx wr.heap.size [.int .i64 0, .int .i64 0, .int .i64 0] 25) (by rfl) (by rfl) (fun wx hl => newr_gives rfl wr.heap.size wx hl.1.size) ?_
          rintro _ ⟨_, _, _, ⟨gY, rfl, hgY, _⟩⟩
          simp only [Act.put, List.setIfInBounds_toArray, List.set_cons_zero, List.set_cons_succ]
          refine wpG_nil fun w3 hl hS => ?_
          obtain ⟨_, gy, ey, hgy, hBY⟩ := hS
          obtain rfl : gY = gy := by injection ey with ey; injection ey with ey; injection ey
          have hBY := hBY.blk
          have THY := hBY.there 0 3 (by simp)
          have hX3 := HX.out.later hl
          have hD3 := HD.out.later hl
          have hL3 := HL.out.trans (hl.mono HL.out.size)
          have hXY : w1.heap.size < gY := Nat.lt_of_lt_of_le HX.out.lt hgY
          have hBY4 : Blk (w3.setCells gY 0 [.int .i64 (a + 1), .int .i64 (1 + lf), .int .i64 hd]) gY [.int .i64 (a + 1), .int .i64 (1 + lf), .int .i64 hd] := hBY.sets [.int .i64 (a + 1), .int .i64 (1 + lf), .int .i64 hd] 0 (by simp)
          have hX4 := Blk.setsOther (b := gY) (by omega) [.int .i64 (a + 1), .int .i64 (1 + lf), .int .i64 hd] 0 hX3
          have hg3 := HD.out.lt
          have hr3 := HD.out.row
          have hT4 : Turn3 w3 (w3.setCells gY 0 [.int .i64 (a + 1), .int .i64 (1 + lf), .int .i64 hd]) gY gY none := Turn3.sets w3 gY gY gY none [.int .i64 (a + 1), .int .i64 (1 + lf), .int .i64 hd] 0 (.inl rfl)
          have hD4 : DkAt (w3.setCells gY 0 [.int .i64 (a + 1), .int .i64 (1 + lf), .int .i64 hd]) w.heap.size (w.heap.size + 1) w.heap.size r D := hD3.turn hT4 (by omega) (by omega) (fun e => by have := (hr3 _ e).2; omega)
          have hL4 := below_sets (show w.heap.size ≤ gY by have := HL.out.size; omega) [.int .i64 (a + 1), .int .i64 (1 + lf), .int .i64 hd] 0 hL3
          obtain ⟨W4, hW4⟩ : ∃ W4, W4 = w3.setCells gY 0 [.int .i64 (a + 1), .int .i64 (1 + lf), .int .i64 hd] := ⟨_, rfl⟩
          rw [← hW4] at hBY4 hX4 hD4 hL4
          have HW4 := Lib.hid hW4
          have HX4 := Lib.hid hX4
          have HY4 := Lib.hid hBY4
          have HD4 := Lib.hid hD4
          have HL4 := Lib.hid hL4
          have HXY := Lib.hid hXY
          have HRY : Hid (r ≠ some gY) := Lib.hid (fun e => by have := (hr3 _ e).2; omega)
          have kn := (HC.out W4 hL4).1
          have kk5 := fun wx hb => (HC.out wx hb).2.2.2
          clear hW4 hBY4 hX4 hD4 hL4 hT4 hX3 hD3 hL3 hBY hXY hg3 hr3 hl hgy ey hgY HX HD HL K6 KL KH
          go_wp2_with (first
            | (have TX1 := THY
               refine wpList_store_mid rfl 25 (.tmp 8) (.tmp 59) rfl gY 0 #[.int .i64 (a + 1), .int .i64 (1 + lf), .int .i64 hd] rfl rfl TX1 info_rtto (by simp [Value.oneCell']) ?_
               simp only [Act.put, List.setIfInBounds_toArray, List.set_cons_zero, List.set_cons_succ]
               rw [← HW4.out]
               clear THY TX1 HW4)
            | (refine wpList_exec (by rfl) (.int .i64 (mx0 xn)) (exec_max0 (.tmp 65) (.const (.int .i64 0)) rfl xn rfl rfl) ?_
               simp only [Act.put, List.setIfInBounds_toArray, List.set_cons_zero, List.set_cons_succ])
            | (refine wpList_exec (by rfl) (.int .i64 fu) (exec_remk 4 (.inl rfl) (.tmp 66) (.const (.int .i64 4)) _ rfl (mx0 xn) fu rfl rfl HM3.out.1) ?_
               simp only [Act.put, List.setIfInBounds_toArray, List.set_cons_zero, List.set_cons_succ])
            | fail)
          refine (HFU.out W4 HD4.out).mono ?_
          rintro e w5 ⟨rfl, d5, T5⟩
          have HX5 := Lib.hid (T5.blk HX4.out (by have := HG.out; omega) (by have := HG.out; omega) HR.out)
          have HY5 := Lib.hid (T5.blk HY4.out (by have := HG.out; have := HXY.out; omega) (by have := HG.out; have := HXY.out; omega) HRY.out)
          have HL5 := Lib.hid (HL4.out.trans (T5.below (by omega) (Nat.le_refl _) (fun k e => (HD4.out.row k e).1) HL4.out.size))
          have HD5 := Lib.hid d5
          have RBY := HY5.out.range 0 [.int .i64 (a + 1), .int .i64 (1 + lf), .int .i64 hd] rfl
          clear d5 T5 HX4 HY4 HL4 HD4 HFU kn
          go_wp2_with (first
            | (have RB1 := RBY
               refine wpList_load_mid rfl 25 (.tmp 8) rfl gY 0 rfl [.int .i64 (a + 1), .int .i64 (1 + lf), .int .i64 hd] _ RB1 hu rfl info_rtto ?_
               simp only [Act.put, List.setIfInBounds_toArray, List.set_cons_zero, List.set_cons_succ]
               clear RB1 RBY)
            | fail)
          refine (HST.out w5 HD5.out HL5.out.size).mono ?_
          rintro e w6 ⟨rfl, r6, d6, T6, R6⟩
          have HX6 := Lib.hid (T6.blk HX5.out (by have := HG.out; omega) (by have := HG.out; omega) HR.out)
          have HY6 := Lib.hid (T6.blk HY5.out (by have := HG.out; have := HXY.out; omega) (by have := HG.out; have := HXY.out; omega) HRY.out)
          have HL6 := Lib.hid (HL5.out.trans (T6.below (by omega) (Nat.le_refl _) (fun k e => (HD5.out.row k e).1) HL5.out.size))
          have HD6 := Lib.hid d6
          have HR6 : Hid (r6 ≠ some w1.heap.size) := Lib.hid (fun e => by
            rcases R6 _ e with h | h
            · exact HR.out h
            · have := HX5.out.lt; omega)
          have HRY6 : Hid (r6 ≠ some gY) := Lib.hid (fun e => by
            rcases R6 _ e with h | h
            · exact HRY.out h
            · have := HY5.out.lt; omega)
          have kk6 := kk5 w6 HL6.out
          clear d6 T6 R6 HX5 HY5 HL5 HD5 HST kk5 HR HRY
          go_wp2_with fail
          refine (HCR.out w6 r6 HD6.out HL6.out).mono ?_
          rintro e w7 ⟨rfl, d7, T7⟩
          have HX7 := Lib.hid (T7.blk HX6.out (by have := HG.out; omega) (by have := HG.out; omega) HR6.out)
          have HY7 := Lib.hid (T7.blk HY6.out (by have := HG.out; have := HXY.out; omega) (by have := HG.out; have := HXY.out; omega) HRY6.out)
          have HL7 := Lib.hid (HL6.out.trans (T7.below (by omega) (Nat.le_refl _) (fun k e => (HD6.out.row k e).1) HL6.out.size))
          have HD7 := Lib.hid d7
          clear d7 T7 HX6 HY6 HL6 HD6 HCR kk6 HR6 HRY6 HC
          go_wp2_with fail
          refine (HLD.out w7 none HD7.out).mono ?_
          rintro e w8 ⟨rfl, b8⟩
          have hX8 := HX7.out.later b8
          have hY8 := HY7.out.later b8
          have hD8 := HD7.out.later b8
          have hL8 := HL7.out.trans (b8.mono HL7.out.size)
          have BZ := Blk.new w8 [.int .i64 0, .int .i64 0, .int .i64 0] 25
          have THZ := BZ.there 0 3 (by simp)
          have BZ9 : Blk ((w8.alloc (.cells #[.int .i64 0, .int .i64 0, .int .i64 0] 25)).setCells w8.heap.size 0 [.int .i64 za, .int .i64 zb, .int .i64 zc]) w8.heap.size [.int .i64 za, .int .i64 zb, .int .i64 zc] := BZ.sets [.int .i64 za, .int .i64 zb, .int .i64 zc] 0 (by simp)
          have L89 : Below w8.heap.size w8 ((w8.alloc (.cells #[.int .i64 0, .int .i64 0, .int .i64 0] 25)).setCells w8.heap.size 0 [.int .i64 za, .int .i64 zb, .int .i64 zc]) := below_sets (Nat.le_refl _) _ 0 ((Below.refl w8.heap.size w8).alloc (Nat.le_refl _) _)
          obtain ⟨W9, hW9⟩ : ∃ W9, W9 = (w8.alloc (.cells #[.int .i64 0, .int .i64 0, .int .i64 0] 25)).setCells w8.heap.size 0 [.int .i64 za, .int .i64 zb, .int .i64 zc] := ⟨_, rfl⟩
          rw [← hW9] at BZ9 L89
          have HW9 := Lib.hid hW9
          have hX9 := hX8.later L89
          have hY9 := hY8.later L89
          have hD9 := hD8.later L89
          have hL9 := hL8.trans (L89.mono hL8.size)
          have RZ := BZ9.range 0 [.int .i64 za, .int .i64 zb, .int .i64 zc] rfl
          have RX := hX9.range 0 [.int .i64 a, .int .i64 b, .int .i64 c] rfl
          have RY := hY9.range 0 [.int .i64 (a + 1), .int .i64 (1 + lf), .int .i64 hd] rfl
          have THX := hX9.there 0 3 (by simp)
          have HXA : Hid (Blk (W9.setCells w1.heap.size 0 [.int .i64 za, .int .i64 zb, .int .i64 zc]) w1.heap.size [.int .i64 za, .int .i64 zb, .int .i64 zc]) := Lib.hid (hX9.sets [.int .i64 za, .int .i64 zb, .int .i64 zc] 0 (by simp))
          have HDA : Hid (DkAt (W9.setCells w1.heap.size 0 [.int .i64 za, .int .i64 zb, .int .i64 zc]) w.heap.size (w.heap.size + 1) w.heap.size none D5) := Lib.hid (hD9.turn (Turn3.sets W9 w1.heap.size w1.heap.size w1.heap.size none [.int .i64 za, .int .i64 zb, .int .i64 zc] 0 (.inl rfl)) (by have := HG.out; omega) (by have := HG.out; omega) (by simp))
          have HLA := Lib.hid (below_sets (show w.heap.size ≤ w1.heap.size by have := HG.out; omega) [.int .i64 za, .int .i64 zb, .int .i64 zc] 0 hL9)
          have HRA : Hid ((none : Option Nat) ≠ some w1.heap.size) := Lib.hid (by simp)
          clear hW9 b8 hX8 hY8 hD8 hL8 BZ BZ9 L89 hX9 hY9 hD9 hL9 HX7 HY7 HD7 HL7 HLD
          rcases HZ.out with hzx | hzy
          · have her : er = 15 := by
              rcases HE.out with h | h
              · have h2 := HEZ.out h
                rw [hzx] at h2
                injection h2 with h2
                omega
              · exact h
            injection hzx with e1 e2
            injection e2 with e2 e3
            subst e1 e2 e3 her
            have HQ := Lib.hid (fun wx => eq_rtq 9998 (za, zb, zc) (za, zb, zc) wx)
            rw [decide_eq_true rfl] at HQ
            clear HZ HE HEZ HXY RY
            go_wp2_with (first
              | (have TX1 := THZ
                 refine wpList_store_mid rfl 25 (.tmp 10) (.tmp 82) rfl w8.heap.size 0 #[.int .i64 za, .int .i64 zb, .int .i64 zc] rfl rfl TX1 info_rtto (by simp [Value.oneCell']) ?_
                 simp only [Act.put, List.setIfInBounds_toArray, List.set_cons_zero, List.set_cons_succ]
                 rw [← HW9.out]
                 clear THZ TX1 HW9)
              | (refine wpList_load_g (by rfl) 25 (.tmp 10) rfl w8.heap.size 0 rfl [.int .i64 za, .int .i64 zb, .int .i64 zc] _ RZ hu rfl info_rtto ?_
                 simp only [Act.put, List.setIfInBounds_toArray, List.set_cons_zero, List.set_cons_succ])
              | (refine wpList_load_g (by rfl) 25 (.tmp 6) rfl w1.heap.size 0 rfl [.int .i64 za, .int .i64 zb, .int .i64 zc] _ RX hu rfl info_rtto ?_
                 simp only [Act.put, List.setIfInBounds_toArray, List.set_cons_zero, List.set_cons_succ])
              | (refine wpList_load_mid rfl 25 (.tmp 10) rfl w8.heap.size 0 rfl [.int .i64 za, .int .i64 zb, .int .i64 zc] _ RZ hu rfl info_rtto ?_
                 simp only [Act.put, List.setIfInBounds_toArray, List.set_cons_zero, List.set_cons_succ])
              | (have TX1 := THX
                 refine wpList_store_mid rfl 25 (.tmp 6) (.tmp 113) rfl w1.heap.size 0 #[.int .i64 za, .int .i64 zb, .int .i64 zc] rfl rfl TX1 info_rtto (by simp [Value.oneCell']) ?_
                 simp only [Act.put, List.setIfInBounds_toArray, List.set_cons_zero, List.set_cons_succ]
                 clear THX TX1)
              | (refine wpList_exec (by rfl) (.bool (!true)) (exec_neq 25 _ (.tmp 87) (.tmp 88) rfl #[.int .i64 za, .int .i64 zb, .int .i64 zc] #[.int .i64 za, .int .i64 zb, .int .i64 zc] rfl rfl (by kernel_rfl) true (HQ.out _)) ?_
                 simp only [Act.put, List.setIfInBounds_toArray, List.set_cons_zero, List.set_cons_succ, Bool.not_true])
              | fail)
            go_roundw
            case rel => exact ⟨k + 1, by omega, by go_num, none, D5, za, zb, zc, HDA, HZS, Lib.hid (by have := HAB.out; omega), HXA, HRA, HLA⟩
            case measure => simp [intOf]; omega
          · injection hzy with e1 e2
            injection e2 with e2 e3
            have e3 := e3.symm
            subst e1 e2 e3
            have HQ1 := Lib.hid (fun wx => eq_rtq 9998 (a + 1, 1 + lf, hd) (a, b, c) wx)
            rw [decide_eq_false (by intro e; injection e with e; omega)] at HQ1
            have HQ := Lib.hid (fun wx => eq_rtq 9998 (a + 1, 1 + lf, hd) (a + 1, 1 + lf, hd) wx)
            rw [decide_eq_true rfl] at HQ
            rcases HE.out with her | her
            · subst her
              clear HZ HE HEZ HXY
              go_wp2_with (first
                | (have TX1 := THZ
                   refine wpList_store_mid rfl 25 (.tmp 10) (.tmp 82) rfl w8.heap.size 0 #[.int .i64 (a + 1), .int .i64 (1 + lf), .int .i64 hd] rfl rfl TX1 info_rtto (by simp [Value.oneCell']) ?_
                   simp only [Act.put, List.setIfInBounds_toArray, List.set_cons_zero, List.set_cons_succ]
                   rw [← HW9.out]
                   clear THZ TX1 HW9)
                | (refine wpList_load_g (by rfl) 25 (.tmp 10) rfl w8.heap.size 0 rfl [.int .i64 (a + 1), .int .i64 (1 + lf), .int .i64 hd] _ RZ hu rfl info_rtto ?_
                   simp only [Act.put, List.setIfInBounds_toArray, List.set_cons_zero, List.set_cons_succ])
                | (refine wpList_load_g (by rfl) 25 (.tmp 6) rfl w1.heap.size 0 rfl [.int .i64 a, .int .i64 b, .int .i64 c] _ RX hu rfl info_rtto ?_
                   simp only [Act.put, List.setIfInBounds_toArray, List.set_cons_zero, List.set_cons_succ])
                | (refine wpList_load_g (by rfl) 25 (.tmp 8) rfl gY 0 rfl [.int .i64 (a + 1), .int .i64 (1 + lf), .int .i64 hd] _ RY hu rfl info_rtto ?_
                   simp only [Act.put, List.setIfInBounds_toArray, List.set_cons_zero, List.set_cons_succ])
                | (refine wpList_load_mid rfl 25 (.tmp 10) rfl w8.heap.size 0 rfl [.int .i64 (a + 1), .int .i64 (1 + lf), .int .i64 hd] _ RZ hu rfl info_rtto ?_
                   simp only [Act.put, List.setIfInBounds_toArray, List.set_cons_zero, List.set_cons_succ])
                | (have TX1 := THX
                   refine wpList_store_mid rfl 25 (.tmp 6) (.tmp 113) rfl w1.heap.size 0 #[.int .i64 (a + 1), .int .i64 (1 + lf), .int .i64 hd] rfl rfl TX1 info_rtto (by simp [Value.oneCell']) ?_
                   simp only [Act.put, List.setIfInBounds_toArray, List.set_cons_zero, List.set_cons_succ]
                   clear THX TX1)
                | (refine wpList_exec (by rfl) (.bool (!false)) (exec_neq 25 _ (.tmp 87) (.tmp 88) rfl #[.int .i64 (a + 1), .int .i64 (1 + lf), .int .i64 hd] #[.int .i64 a, .int .i64 b, .int .i64 c] rfl rfl (by kernel_rfl) false (HQ1.out _)) ?_
                   simp only [Act.put, List.setIfInBounds_toArray, List.set_cons_zero, List.set_cons_succ, Bool.not_false])
                | (refine wpList_exec (by rfl) (.bool (!true)) (exec_neq 25 _ (.tmp 91) (.tmp 92) rfl #[.int .i64 (a + 1), .int .i64 (1 + lf), .int .i64 hd] #[.int .i64 (a + 1), .int .i64 (1 + lf), .int .i64 hd] rfl rfl (by kernel_rfl) true (HQ.out _)) ?_
                   simp only [Act.put, List.setIfInBounds_toArray, List.set_cons_zero, List.set_cons_succ, Bool.not_true])
                | (refine wpList_exec (by rfl) (.bool (!true)) (exec_neq 25 _ (.tmp 100) (.tmp 101) rfl #[.int .i64 (a + 1), .int .i64 (1 + lf), .int .i64 hd] #[.int .i64 (a + 1), .int .i64 (1 + lf), .int .i64 hd] rfl rfl (by kernel_rfl) true (HQ.out _)) ?_
                   simp only [Act.put, List.setIfInBounds_toArray, List.set_cons_zero, List.set_cons_succ, Bool.not_true])
                | fail)
              go_roundw
              case rel => exact ⟨k + 1, by omega, by go_num, none, D5, a + 1, 1 + lf, hd, HDA, HZS, Lib.hid (by have := HAB.out; omega), HXA, HRA, HLA⟩
              case measure => simp [intOf]; omega
            · subst her
              clear HZ HE HEZ HXY
              go_wp2_with (first
                | (have TX1 := THZ
                   refine wpList_store_mid rfl 25 (.tmp 10) (.tmp 82) rfl w8.heap.size 0 #[.int .i64 (a + 1), .int .i64 (1 + lf), .int .i64 hd] rfl rfl TX1 info_rtto (by simp [Value.oneCell']) ?_
                   simp only [Act.put, List.setIfInBounds_toArray, List.set_cons_zero, List.set_cons_succ]
                   rw [← HW9.out]
                   clear THZ TX1 HW9)
                | (refine wpList_load_g (by rfl) 25 (.tmp 10) rfl w8.heap.size 0 rfl [.int .i64 (a + 1), .int .i64 (1 + lf), .int .i64 hd] _ RZ hu rfl info_rtto ?_
                   simp only [Act.put, List.setIfInBounds_toArray, List.set_cons_zero, List.set_cons_succ])
                | (refine wpList_load_g (by rfl) 25 (.tmp 6) rfl w1.heap.size 0 rfl [.int .i64 a, .int .i64 b, .int .i64 c] _ RX hu rfl info_rtto ?_
                   simp only [Act.put, List.setIfInBounds_toArray, List.set_cons_zero, List.set_cons_succ])
                | (refine wpList_load_g (by rfl) 25 (.tmp 8) rfl gY 0 rfl [.int .i64 (a + 1), .int .i64 (1 + lf), .int .i64 hd] _ RY hu rfl info_rtto ?_
                   simp only [Act.put, List.setIfInBounds_toArray, List.set_cons_zero, List.set_cons_succ])
                | (refine wpList_load_mid rfl 25 (.tmp 10) rfl w8.heap.size 0 rfl [.int .i64 (a + 1), .int .i64 (1 + lf), .int .i64 hd] _ RZ hu rfl info_rtto ?_
                   simp only [Act.put, List.setIfInBounds_toArray, List.set_cons_zero, List.set_cons_succ])
                | (have TX1 := THX
                   refine wpList_store_mid rfl 25 (.tmp 6) (.tmp 113) rfl w1.heap.size 0 #[.int .i64 (a + 1), .int .i64 (1 + lf), .int .i64 hd] rfl rfl TX1 info_rtto (by simp [Value.oneCell']) ?_
                   simp only [Act.put, List.setIfInBounds_toArray, List.set_cons_zero, List.set_cons_succ]
                   clear THX TX1)
                | (refine wpList_exec (by rfl) (.bool (!false)) (exec_neq 25 _ (.tmp 87) (.tmp 88) rfl #[.int .i64 (a + 1), .int .i64 (1 + lf), .int .i64 hd] #[.int .i64 a, .int .i64 b, .int .i64 c] rfl rfl (by kernel_rfl) false (HQ1.out _)) ?_
                   simp only [Act.put, List.setIfInBounds_toArray, List.set_cons_zero, List.set_cons_succ, Bool.not_false])
                | (refine wpList_exec (by rfl) (.bool (!true)) (exec_neq 25 _ (.tmp 91) (.tmp 92) rfl #[.int .i64 (a + 1), .int .i64 (1 + lf), .int .i64 hd] #[.int .i64 (a + 1), .int .i64 (1 + lf), .int .i64 hd] rfl rfl (by kernel_rfl) true (HQ.out _)) ?_
                   simp only [Act.put, List.setIfInBounds_toArray, List.set_cons_zero, List.set_cons_succ, Bool.not_true])
                | fail)
              go_roundw
              case rel => exact ⟨k + 1, by omega, by go_num, none, D5, a + 1, 1 + lf, hd, HDA, HZS, Lib.hid (by have := HAB.out; omega), HXA, HRA, HLA⟩
              case measure => simp [intOf]; omega
      · have y2i : decide ((k : Int) < 40) = false := decide_eq_false (by omega)
        clear HD HS HA HX HR
        go_wp2_with fail
        refine (rt_awake _).mono ?_
        rintro e w9 ⟨rfl, hb9⟩
        have HL9 := Lib.hid (HL.out.trans (hb9.mono HL.out.size))
        clear hb9
        go_wp2_with fail
        go_ret
        exact ⟨rfl, HL9.out⟩
    · have y1i : decide ((k : Int) < (n0 : Int)) = false := decide_eq_false (by omega)
      clear HD HS HA HX HR
      go_wp2_with fail
      refine (rt_awake _).mono ?_
      rintro e w9 ⟨rfl, hb9⟩
      have HL9 := Lib.hid (HL.out.trans (hb9.mono HL.out.size))
      clear hb9
      go_wp2_with fail
      go_ret
      exact ⟨rfl, HL9.out⟩
end Go.Proofs.Ytncbhpopobjaiaa
