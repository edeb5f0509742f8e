/- The document's Push and Done. -/
import Derived.Test.YtjlpccdlpgkgoaaQeI
namespace Go.Proofs.Ytjlpccdlpgkgoaa
set_option linter.unusedVariables false
set_option linter.unusedSimpArgs false
open Go Go.RowKit Go.Shelf BitM

theorem run_rw1 (x : Wr) (hw : x.2.2.2.2.length = 8) (w : World) : (Instr.buildSlice 26 1 #[(0, .agg (wrc x).toArray)]).run Try.prog w = .ok (.slice (some ⟨w.heap.size, 0, none⟩) 1 1) (w.alloc (.cells (wrc x).toArray 63)) := by
  obtain ⟨i, b, m, l, f⟩ := x
  obtain ⟨⟨_, _, _⟩, ⟨_, _, _⟩, ⟨_, _, _⟩, ⟨_, _, _⟩, ⟨_, _, _⟩, ⟨_, _, _⟩, ⟨_, _, _⟩, ⟨_, _, _⟩, e⟩ := eight hw
  dsimp only at e
  subst e
  kernel_rfl
theorem rr1_gives {a : Act} {op : Oper} (y : Operand) (x : Wr) (ho : op.op = .buildSlice 26 1 #[(0, y)]) (hx : a.eval y = .agg (wrc x).toArray) (hw : x.2.2.2.2.length = 8) (w : World) : gives Try.prog op a (relWr x).rel w := by
  unfold gives execOp
  simp only [ho, List.map_toArray, List.map_cons, List.map_nil, hx, Sem.run_bind, run_rw1 x hw, Result.andThen_ok, Sem.run_pure]
  exact ⟨(Below.refl _ _).alloc (Nat.le_refl _) _, _, rfl, Blk.new w (wrc x) _⟩
theorem run_rwb (i b : Int) (m l : BitVec 32) (f : List V3) (hf : f.length = 8) (w : World) : (Instr.build 63 #[(0, .int .i64 i), (1, .int .i64 b), (2, .agg (pcells (m.toNat : Int) (l.toNat : Int) f).toArray)]).run Try.prog w = .ok (.agg (wrc (i, b, m, l, f)).toArray) w := by
  obtain ⟨⟨_, _, _⟩, ⟨_, _, _⟩, ⟨_, _, _⟩, ⟨_, _, _⟩, ⟨_, _, _⟩, ⟨_, _, _⟩, ⟨_, _, _⟩, ⟨_, _, _⟩, e⟩ := eight hf
  subst e
  kernel_rfl
theorem exec_rwb {a : Act} {op : Oper} (y0 y1 y2 : Operand) (ho : op.op = .build 63 #[(0, y0), (1, y1), (2, y2)]) (i b : Int) (m l : BitVec 32) (f : List V3) (hf : f.length = 8) (h0 : a.eval y0 = .int .i64 i) (h1 : a.eval y1 = .int .i64 b) (h2 : a.eval y2 = .agg (pcells (m.toNat : Int) (l.toNat : Int) f).toArray) (w : World) :
    (execOp a.eval op).run Try.prog w = .ok (.value (.agg (wrc (i, b, m, l, f)).toArray)) w := by
  unfold execOp
  simp only [ho, List.map_toArray, List.map_cons, List.map_nil, h0, h1, h2, Sem.run_bind, run_rwb i b m l f hf, Result.andThen_ok, Sem.run_pure]
theorem run_rw0 (w : World) : (Instr.buildSlice 26 0 #[]).run Try.prog w = .ok (.slice (some ⟨w.heap.size, 0, none⟩) 0 0) (w.alloc (.cells #[] 63)) := by kernel_rfl
/-- append of any slice onto a new one. -/
theorem app_gives_any {P : Program} {a : Act} {op : Oper} (s x : Operand) (B : Nat) (t e : TypeId) (i : TypeInfo) (z : Value) (size bytes : Nat) (ho : op.op = .call { callee := .builtin .append, args := #[s, x], argTypes := #[t, t] })
    (ht : P.underlying t = some (.slice e)) (hi : P.info? e = some i) (hz : i.zero = some z) (hsize : i.size = size) (hby : i.bytes = bytes) (hzs : z.cells.size = size) (hpos : 0 < size)
    (w : World) (hv : (relRow0 B e size).rel (a.eval s) w) (A : Option Addr) (m c : Nat) (news : List Value) (hx : a.eval x = .slice A m c) (hc0 : A = none → c = 0) (hl : news.length = m * size) (hs : Sees w w.heap.size A news) (h1 : ∀ u ∈ news, u.oneCell' = true)
    (h63 : m ≤ maxLen) (hbytes : m * bytes ≤ 140737488355328) : gives P op a (relRowN B e size m news).rel w := by
  cases A with
  | some ad => exact app_gives s x B t e i z size bytes ho ht hi hz hsize hby hzs hpos w hv ad m c news hx hl hs h1 h63 hbytes
  | none =>
    obtain rfl := hc0 rfl
    have hn0 : news = [] := by
      rcases news with _ | ⟨u, news⟩
      · rfl
      · obtain ⟨b, o, h, _⟩ := hs (by simp)
        cases h
    subst hn0
    obtain rfl : m = 0 := by
      rcases Nat.eq_zero_or_pos m with h | h
      · exact h
      · have := Nat.mul_pos h hpos
        simp at hl
        omega
    obtain ⟨hB, b, e0, hr⟩ := hv
    rw [e0] at hr
    have hrun := run_append_owned_none (P := P) (w := w) B t op.type e i size ht hi (.slice (some ⟨b, 0, none⟩) 0 0) 0 [] hr
    unfold gives execOp
    simp only [ho, resolve, invoke, builtin, Sem.run_bind, Sem.run_pure, Result.andThen_ok, List.map_toArray, List.map_cons, List.map_nil, e0, hx, hrun]
    exact ⟨Le.refl _, hr⟩
theorem row_nil {w : World} {base : Nat} {e : TypeId} {size n : Nat} {A : Option Addr} {c : Nat} {xs : List Value} (h : w.ownsRow base e size (.slice A n c) n xs) : A = none → c = 0 := by
  rcases h.2 with ⟨hv, h0⟩ | ⟨g, cap, cur, hv, _, _, h1, _⟩
  · injection hv with _ _ e3; exact fun _ => e3
  · injection hv with e1 _ _; rw [e1]; intro h; cases h
set_option maxRecDepth 100000 in
set_option maxHeartbeats 8000000 in
theorem rpush_any (A : Option Addr) (n c : Nat) (l : List Wr) (w : World) (id ver lab : Int) (cf : List V3) (x pl : BitVec 32) (f : List V3) (hcf : cf.length = 8) (hf : f.length = 8) (hn : l.length = n) (hw : Whole l) (hs : Sees w w.heap.size A (wrs l)) (hc0 : A = none → c = 0)
    (M : Int) (hlow : Low M l) (hM : M ≤ 4611686018427387904) (hv0 : 0 ≤ ver) (hv1 : ver ≤ M + 1) :
    Calls Try.prog 8 #[.slice A n c, .agg (ccells id ver lab cf).toArray, .agg (pcells (x.toNat : Int) (pl.toNat : Int) f).toArray] w (GivesPush w 63 n (pchk x (pl.toNat : Int) f) (l ++ [(id, qbase l id ver, x, pl, f)])) := by
  obtain ⟨i1, ji, jz0, jz1, jz2⟩ := info_parts info_rwd
  have hu := Try.underlying34
  have hl1 := (Below.refl w.heap.size w).alloc (Nat.le_refl _) (.cells (ccells id ver lab cf).toArray 32)
  have hl0 := hl1.alloc (by simp) (.cells (pcells (x.toNat : Int) (pl.toNat : Int) f).toArray 34)
  have BC := (Blk.new w (ccells id ver lab cf) 32).alloc (.cells (pcells (x.toNat : Int) (pl.toNat : Int) f).toArray 34)
  have BP := Blk.new (w.alloc (.cells (ccells id ver lab cf).toArray 32)) (pcells (x.toNat : Int) (pl.toNat : Int) f) 34
  have hz1 : (w.alloc (.cells (ccells id ver lab cf).toArray 32)).heap.size = w.heap.size + 1 := by simp
  rw [hz1] at BP
  have HCP := Lib.hid (fun wx => rpcheck_any x (pl.toNat : Int) f wx hf)
  have HS := Lib.hid (fun wx (h : Below w.heap.size w wx) => (hs.below h).more h.size)
  have HC0 := Lib.hid hc0
  have HN := Lib.hid hn
  have HW := Lib.hid hw
  have HWL := Lib.hid (wrs_len hw)
  have HLOW := Lib.hid hlow
  have HQ := Lib.hid (fun k => qbase_low (l := l.take k) (id := id) (fun y hy => hlow y (List.mem_of_mem_take hy)) hv0 hv1)
  have HF := Lib.hid hf
  have HPL : Hid ((pcells (x.toNat : Int) (pl.toNat : Int) f).length = 26) := Lib.hid (pcells_len _ _ hf)
  have HBC := Lib.hid BC
  have HBP := Lib.hid BP
  have HL0 := Lib.hid hl0
  obtain ⟨E, hE⟩ : ∃ E, E = pchk x (pl.toNat : Int) f := ⟨_, rfl⟩
  rw [← hE] at HCP ⊢
  obtain ⟨ca, hca⟩ : ∃ ca, ca = (ccells id ver lab cf).toArray := ⟨_, rfl⟩
  rw [← hca] at HBC HBP HL0 ⊢
  obtain ⟨pa, hpa⟩ : ∃ pa, pa = (pcells (x.toNat : Int) (pl.toNat : Int) f).toArray := ⟨_, rfl⟩
  rw [← hpa] at HBC HBP HL0 HCP ⊢
  have HPA := Lib.hid hpa
  have hRP : ∀ wx, Blk wx (w.heap.size + 1) (pcells (x.toNat : Int) (pl.toNat : Int) f) → wx.rangeAt (w.heap.size + 1) 0 (pcells (x.toNat : Int) (pl.toNat : Int) f) := fun wx h => h.range 0 _ (by rw [List.drop_zero, List.take_length])
  have HRP := Lib.hid hRP
  have rp := hRP _ HBP.out
  clear hn hw hs hlow hf hcf hl0 hl1 BC BP hz1 hE hca hpa hRP hc0
  go_enter Try.func8, Try.ntmps8
  go_wp2_with (first
    | (refine wpList_load_mid rfl 34 (.tmp 5) rfl (w.heap.size + 1) 0 rfl (pcells (x.toNat : Int) (pl.toNat : Int) f) _ rp hu rfl (by rw [HPL.out]; exact info_patch) ?_
       rw [← HPA.out])
    | fail)
  clear rp
  refine (HCP.out _).mono ?_
  rintro e w1 ⟨rfl, hb1⟩
  have HB1 := Lib.hid (HL0.out.trans (hb1.mono HL0.out.size))
  have HC1 := Lib.hid (HBC.out.later hb1)
  have HP1 := Lib.hid (HBP.out.later hb1)
  clear hb1
  by_cases e0 : E = 0
  · subst e0
    by_cases h12 : 12 ≤ n
    · have b12 : decide ((12 : Int) ≤ (n : Int)) = true := by simp; omega
      go_wp2_with fail
      exact bodyPost_ret (results_tmp2 rfl _ _ _) rfl ⟨HB1.out, .inr (.inl ⟨rfl, h12, rfl⟩)⟩
    · have b12 : decide ((12 : Int) ≤ (n : Int)) = false := by simp; omega
      have c1 := (card_cell HC1.out).2
      go_wp2_with fail
      go_loopw [9, 10] (fun v i wr => ∃ k : Nat, k ≤ n ∧ i = .int .i64 k ∧ v = .int .i64 (qbase (l.take k) id ver) ∧ Le w1 wr) (fun _ i _ => n - (intOf i).toNat)
      case atStart => exact ⟨0, Nat.zero_le _, rfl, rfl, Le.refl _⟩
      case round =>
        clear c1
        obtain ⟨k, hk, rfl, rfl, hle⟩ := hrel
        have HLE := Lib.hid hle
        have HBR := Lib.hid (HB1.out.trans (Below.mono hle HB1.out.size))
        have HCR := Lib.hid (HC1.out.later hle)
        clear hle
        by_cases hlt : k < n
        · have d1 : decide ((k : Int) < (n : Int)) = true := by simp; omega
          have hki : (k : Int) < (n : Int) := by omega
          have hkl : k < l.length := by rw [HN.out]; exact hlt
          obtain ⟨b, o, rfl, _, _, h0, h1⟩ := sees_wr (HS.out wr HBR.out) HW.out k hkl
          have HAT := Lib.hid (fun wx (h : Below w.heap.size w wx) => (show wx.cell? ⟨b, o + k * 28, none⟩ = some (.int .i64 l[k].1) ∧ wx.cell? ⟨b, o + k * 28 + 1, none⟩ = some (.int .i64 l[k].2.1) from by
            obtain ⟨b2, o2, e2, _, _, h0, h1⟩ := sees_wr (HS.out wx h) HW.out k hkl
            injection e2 with e2
            injection e2 with e2 e3
            subst e2
            subst e3
            exact ⟨h0, h1⟩))
          have HQS := Lib.hid (qbase_succ l id ver k hkl)
          have hyl := HLOW.out _ (List.getElem_mem hkl)
          obtain ⟨y, hy⟩ : ∃ y, y = l[k] := ⟨_, rfl⟩
          rw [← hy] at HAT HQS hyl
          clear h0 h1 hy
          go_wp2_with fail
          refine wp_region_steady [] 51 (by kernel_rfl) (by kernel_rfl) (by kernel_rfl) (by rfl) ?_
          repeat (refine wpG_quiet (by rfl) (by rfl) (by rfl) (fun K hK => ?_); go_big_quiet_op; refine hK _ ?_; clear hK K)
          refine wpG_run (by rfl) (by rfl) (.int .i64 y.1) (fun wx hl => ?_) ?_
          · have kc := (HAT.out wx (HBR.out.trans (hl.1.mono HBR.out.size))).1
            simp [go_sem, kc]
          simp only [Act.put, List.setIfInBounds_toArray, List.set_cons_zero, List.set_cons_succ]
          repeat (refine wpG_quiet (by rfl) (by rfl) (by rfl) (fun K hK => ?_); go_big_quiet_op; refine hK _ ?_; clear hK K)
          refine wpG_run (by rfl) (by rfl) (.int .i64 id) (fun wx hl => ?_) ?_
          · have kc := (card_cell (HCR.out.later hl.1)).1
            simp [go_sem, kc]
          simp only [Act.put, List.setIfInBounds_toArray, List.set_cons_zero, List.set_cons_succ]
          repeat (refine wpG_quiet (by rfl) (by rfl) (by rfl) (fun K hK => ?_); go_big_quiet_op; refine hK _ ?_; clear hK K)
          refine wpG_nil fun w5 hl hS => ?_
          have HL5 := Lib.hid (Le.trans HLE.out hl)
          have cb := (HAT.out w5 (HBR.out.trans (hl.mono HBR.out.size))).2
          clear hl hS
          by_cases hid : y.1 = id
          · have bid : (y.1 == id) = true := by simpa using hid
            rw [if_pos hid] at HQS
            obtain ⟨yb, hyb⟩ : ∃ yb, yb = y.2.1 := ⟨_, rfl⟩
            rw [← hyb] at cb HQS hyl
            obtain ⟨y0, y1⟩ := hyl
            have h63 : yb + 1 ≤ 9223372036854775807 := by omega
            clear hyb
            go_wp2_with fail
            go_roundw
            case rel => exact ⟨k + 1, by omega, by go_num, by rw [HQS.out], HL5.out⟩
            case measure => simp [intOf]; omega
          · have bid : (y.1 == id) = false := by simpa using hid
            rw [if_neg hid] at HQS
            clear cb
            go_wp2_with fail
            go_roundw
            case rel => exact ⟨k + 1, by omega, by go_num, by rw [HQS.out], HL5.out⟩
            case measure => simp [intOf]; omega
        · obtain rfl : k = n := by omega
          have d1 : decide ((k : Int) < (k : Int)) = false := by simp
          have ht : l.take k = l := List.take_of_length_le (by rw [HN.out]; exact Nat.le_refl _)
          rw [ht]
          obtain ⟨Q, hQ⟩ : ∃ Q, Q = qbase l id ver := ⟨_, rfl⟩
          have HQE := Lib.hid hQ
          rw [← hQ]
          have HPR := Lib.hid (HP1.out.later HLE.out)
          clear hQ ht HQ
          go_wp2_with fail
          refine wp_region_tail [(41, relRow0 w.heap.size 63 28), (43, relRowN w.heap.size 63 28 k (wrs l)), (49, relWr (id, Q, x, pl, f))] 51 9 (by kernel_rfl) (by kernel_rfl) (by kernel_rfl) (by rfl) ?_
          simp only [List.take_succ_cons, List.take_zero, List.drop_succ_cons, List.drop_zero]
          refine wpG_open (relRow0 w.heap.size 63 28) (by rfl) (by rfl) (fun wx hl => row0_gives 26 63 28 w.heap.size rfl run_rw0 wx (Nat.le_trans HBR.out.size hl.1.size)) ?_
          rintro _ ⟨_, _, _, ⟨_, b, rfl, _⟩⟩
          simp only [Act.put, List.setIfInBounds_toArray, List.set_cons_zero, List.set_cons_succ]
          iterate 1 (refine wpG_quiet (by rfl) (by rfl) (by rfl) (fun K hK => ?_); go_big_quiet_op; refine hK _ ?_; clear hK K)
          refine wpG_open (relRowN w.heap.size 63 28 k (wrs l)) (by rfl) (by rfl) (fun wx hl => ?_) ?_
          · have h10 := hl.2 41 _ (by simp [Op.operands, Call.operands]) rfl (by intro h; cases h)
            exact app_gives_any (.tmp 41) (.tmp 42) w.heap.size 26 63 i1 _ 28 280 rfl Try.underlying26 ji jz0 jz1 jz2 (by rfl) (by decide) wx h10 A k c (wrs l) rfl HC0.out (by rw [HWL.out, HN.out]) (HS.out wx (HBR.out.trans (hl.1.mono HBR.out.size))) (wrs_one l) (by unfold maxLen; omega) (by omega)
          rintro u ⟨_, _, _, hrow⟩
          obtain ⟨A1, c1, rfl⟩ := row_form hrow
          clear hrow
          simp only [Act.put, List.setIfInBounds_toArray, List.set_cons_zero, List.set_cons_succ]
          iterate 1 (refine wpG_quiet (by rfl) (by rfl) (by rfl) (fun K hK => ?_); go_big_quiet_op; refine hK _ ?_; clear hK K)
          refine wpG_run (by rfl) (by rfl) (.int .i64 id) (fun wx hl => ?_) ?_
          · have kc := (card_cell (HCR.out.later hl.1)).1
            simp [go_sem, kc]
          simp only [Act.put, List.setIfInBounds_toArray, List.set_cons_zero, List.set_cons_succ]
          iterate 1 (refine wpG_quiet (by rfl) (by rfl) (by rfl) (fun K hK => ?_); go_big_quiet_op; refine hK _ ?_; clear hK K)
          refine wpG_run (by rfl) (by rfl) (.agg (pcells (x.toNat : Int) (pl.toNat : Int) f).toArray) (fun wx hl => exec_load 34 (.tmp 5) rfl (w.heap.size + 1) 0 rfl (pcells (x.toNat : Int) (pl.toNat : Int) f) _ (HRP.out wx (HPR.out.later hl.1)) hu rfl (by rw [HPL.out]; exact info_patch)) ?_
          simp only [Act.put, List.setIfInBounds_toArray, List.set_cons_zero, List.set_cons_succ]
          refine wpG_run (by rfl) (by rfl) (.agg (wrc (id, Q, x, pl, f)).toArray) (fun wx hl => exec_rwb (.tmp 45) (.tmp 46) (.tmp 47) rfl id Q x pl f HF.out rfl rfl rfl wx) ?_
          simp only [Act.put, List.setIfInBounds_toArray, List.set_cons_zero, List.set_cons_succ]
          refine wpG_open (relWr (id, Q, x, pl, f)) (by rfl) (by rfl) (fun wx hl => rr1_gives (.tmp 48) (id, Q, x, pl, f) rfl rfl HF.out wx) ?_
          rintro _ ⟨_, _, _, ⟨g, rfl, _⟩⟩
          simp only [Act.put, List.setIfInBounds_toArray, List.set_cons_zero, List.set_cons_succ]
          refine wpG_nil fun w5 hl hS => ?_
          obtain ⟨⟨_, hrow⟩, ⟨g', eg, hB5⟩⟩ := hS
          cases eg
          have hb5 := HBR.out.trans (hl.mono HBR.out.size)
          have hsee : Sees w5 w5.heap.size (some ⟨g, 0, none⟩) (wrc (id, Q, x, pl, f)) := fun _ => ⟨g, 0, rfl, hB5.lt, fun j hj => by rw [Nat.zero_add]; exact hB5.cell (List.getElem?_eq_getElem hj)⟩
          have hrw : Hid (w5.ownsRow w.heap.size 63 28 (.slice A1 k c1) k (wrs l)) := Lib.hid hrow
          have hl28 := wrc_len (x := (id, Q, x, pl, f)) HF.out
          refine wpList_appk _ rfl (.tmp 43) (.tmp 49) 26 rfl w.heap.size 63 i1 _ 28 280 Try.underlying26 ji jz0 jz1 jz2 (by rfl) (by decide) (.slice A1 k c1) k (wrs l) (by rfl) hrw.out w5.heap.size (some ⟨g, 0, none⟩) 1 (wrc (id, Q, x, pl, f)) 1 (by rfl) (by rw [hl28]) hsee (wrc_one _) (by unfold maxLen; omega) (by omega) hb5.size ?_
          intro A3 c3 w6 hr6 hb6 hg6 hat6
          rw [← wrs_snoc] at hr6
          have HR6 := Lib.hid hr6
          have HB6 := Lib.hid (hb5.trans hb6)
          clear hsee hB5 hrow hl hl28 hg6 hat6 hb5 hb6 hr6
          go_wp2_with fail
          exact bodyPost_ret (results_tmp2 rfl _ _ _) rfl ⟨HB6.out, .inr (.inr ⟨rfl, by omega, A3, c3, rfl, by rw [← HQE.out]; exact HR6.out⟩)⟩
  · have be : (E != 0) = true := by simpa using e0
    go_wp2_with fail
    exact bodyPost_ret (results_tmp2 rfl _ _ _) rfl ⟨HB1.out, .inl ⟨e0, rfl⟩⟩
end Go.Proofs.Ytjlpccdlpgkgoaa
