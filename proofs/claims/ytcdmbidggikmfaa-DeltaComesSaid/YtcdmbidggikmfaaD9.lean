/- Items applied by the document: one, all of them. -/
import Derived.Test.YtcdmbidggikmfaaD8
import Derived.Test.YtcdmbidggikmfaaD4
import Derived.Test.YtcdmbidggikmfaaD5
import Derived.Test.YtcdmbidggikmfaaD7
import Derived.Test.YtcdmbidggikmfaaD6
namespace Go.Proofs.Ytcdmbidggikmfaa
set_option linter.unusedVariables false
set_option linter.unusedSimpArgs false
open Go Go.RowKit BitM

theorem cpos_le (cs : List Cd) (k : Int) : cpos cs k ≤ cs.length := by
  induction cs with
  | nil => simp [cpos]
  | cons y L ih => rw [cpos_cons]; split <;> simp <;> omega
theorem cpos_low (x : Int) : ∀ (cs : List Cd) (k : Nat) (hk : k < cs.length), k < cpos cs x → cs[k].1 < x
  | [], k, hk, _ => by simp at hk
  | y :: cs, 0, _, h => by
    rw [cpos_cons] at h
    split at h
    · assumption
    · omega
  | y :: cs, k + 1, hk, h => by
    rw [cpos_cons] at h
    split at h
    · exact cpos_low x cs k (by simpa using hk) (by omega)
    · omega
theorem cpos_high (x : Int) : ∀ (cs : List Cd) (k : Nat) (hk : k < cs.length), k = cpos cs x → ¬ cs[k].1 < x
  | [], k, hk, _ => by simp at hk
  | y :: cs, 0, _, h => by
    rw [cpos_cons] at h
    split at h
    · omega
    · assumption
  | y :: cs, k + 1, hk, h => by
    rw [cpos_cons] at h
    split at h
    · exact cpos_high x cs k (by simpa using hk) (by omega)
    · omega
theorem cthere_at {cs : List Cd} {k : Nat} {x : Int} (h : k = cpos cs x) (hk : k < cs.length) : cthere cs x = decide (cs[k].1 = x) := by
  subst h
  unfold cthere
  rw [List.getElem?_eq_getElem hk]
theorem cthere_end {cs : List Cd} {k : Nat} {x : Int} (h : k = cpos cs x) (hk : k = cs.length) : cthere cs x = false := by
  unfold cthere
  rw [← h, List.getElem?_eq_none (by omega)]
theorem run_cs1 (c : Cd) (hc : okCd c) (w : World) : (Instr.buildSlice 36 1 #[(0, .agg (ccl c).toArray)]).run Try.prog w = .ok (.slice (some ⟨w.heap.size, 0, none⟩) 1 1) (w.alloc (.cells (ccl c).toArray 43)) := by
  obtain ⟨i, v, lb, f⟩ := c
  obtain ⟨⟨_, _, _⟩, ⟨_, _, _⟩, ⟨_, _, _⟩, ⟨_, _, _⟩, ⟨_, _, _⟩, ⟨_, _, _⟩, ⟨_, _, _⟩, ⟨_, _, _⟩, e⟩ := tr_eight (show f.length = 8 from hc)
  subst e
  kernel_rfl
theorem exec_cs1 {a : Act} {op : Oper} (y : Operand) (ho : op.op = .buildSlice 36 1 #[(0, y)]) (c : Cd) (hc : okCd c) (hy : a.eval y = .agg (ccl c).toArray) (w : World) :
    (execOp a.eval op).run Try.prog w = .ok (.value (.slice (some ⟨w.heap.size, 0, none⟩) 1 1)) (w.alloc (.cells (ccl c).toArray 43)) := by
  unfold execOp
  simp only [ho, List.map_toArray, List.map_cons, List.map_nil, hy, Sem.run_bind, run_cs1 c hc, Result.andThen_ok, Sem.run_pure]
theorem info_crd0 : ∃ i0, Try.prog.info? 43 = some i0 ∧ i0.zero = some (.agg (ccl zcd).toArray) ∧ i0.size = 27 ∧ i0.bytes = 280 := by
  have h : (Try.prog.info? 43).map (fun i => (i.zero, i.size, i.bytes)) = some (some (.agg (ccl zcd).toArray), 27, 280) := by kernel_rfl
  cases hi : Try.prog.info? 43 with
  | none => rw [hi] at h; cases h
  | some i0 =>
    rw [hi] at h
    simp only [Option.map_some, Option.some.injEq, Prod.mk.injEq] at h
    exact ⟨i0, rfl, h.1, h.2.1, h.2.2⟩
theorem row_own {w : World} {base : Nat} {e : TypeId} {size n c q q' : Nat} {A : Option Addr} {xs : List Value} (h : w.ownsRow base e size (.slice A n c) n xs) (hb : (Value.slice A n c).ownBlock = some q ∨ (Value.slice A n c).ownBlock = some q') : ∃ g, A = some ⟨g, 0, none⟩ := by
  rcases h.2 with ⟨e, h0⟩ | ⟨g, cap, cur, e, hx⟩
  · cases e; rcases hb with hb | hb <;> cases hb
  · cases e; exact ⟨g, rfl⟩
/-- What one item gives. -/
def GivesO (w : World) (r : Option (List Cd)) (e : Ending) (w' : World) : Prop := match r with
  | none => (∃ A m c', e = .returned (.tuple #[.slice A m c', .bool false])) ∧ Below w.heap.size w w'
  | some ds => ∃ g m c', e = .returned (.tuple #[.slice (some ⟨g, 0, none⟩) m c', .bool true]) ∧ SeesR ccl w' (some ⟨g, 0, none⟩) m c' ds ∧ Below w.heap.size w w'
theorem rone_cases (cs : List Cd) (x : Im) : rone cs x = if x.kd = 1 then (if cthere cs (rkey x) = true then none else some (cs.take (cpos cs (rkey x)) ++ x.cd :: cs.drop (cpos cs (rkey x))))
  else if cthere cs (rkey x) = true then (if x.kd = 3 then some (cs.take (cpos cs (rkey x)) ++ x.cd :: cs.drop (cpos cs (rkey x) + 1)) else some (cs.take (cpos cs (rkey x)) ++ cs.drop (cpos cs (rkey x) + 1))) else none := rfl
set_option maxRecDepth 100000 in
set_option maxHeartbeats 12800000 in
theorem rone_any (b o n c : Nat) (cs : List Cd) (x : Im) (w : World) (h : SeesR ccl w (some ⟨b, o, none⟩) n c cs) (hok : ∀ y ∈ cs, okCd y) (hx : okCd x.cd) (hz : n ≤ 65000) :
    Calls Try.prog 27 #[.slice (some ⟨b, o, none⟩) n c, .agg (icl x).toArray] w (GivesO w (rone cs x)) := by
  have huc := Try.underlying43
  obtain ⟨i1, ji, jz0, jz1, jz2⟩ := info_crd0
  have hpn : cpos cs (rkey x) ≤ n := by rw [← h.len]; exact cpos_le cs _
  have HN := Lib.hid h.len
  have HLOW := Lib.hid (fun k (hk : k < cs.length) (hp : k < cpos cs (rkey x)) => cpos_low (rkey x) cs k hk hp)
  have HHIGH := Lib.hid (fun k (hk : k < cs.length) (hp : k = cpos cs (rkey x)) => cpos_high (rkey x) cs k hk hp)
  have HTH1 := Lib.hid (fun k (hp : k = cpos cs (rkey x)) (hk : k < cs.length) => cthere_at hp hk)
  have HTH0 := Lib.hid (fun k (hp : k = cpos cs (rkey x)) (hk : k = cs.length) => cthere_end (x := rkey x) hp hk)
  have HC : Hid (∀ W, Below w.heap.size w W → ∀ j (hj : j < cs.length), W.cell? ⟨b, o + j * 27, none⟩ = some (.int .i64 cs[j].1)) := Lib.hid (fun W hW j hj => by
    obtain ⟨b', o', e, _, hr⟩ := card_cells h hok (by omega)
    cases e
    exact (hr W hW j hj).1)
  obtain ⟨ad1, hr1, hs1⟩ := rowcut_h (P := Try.prog) 36 43 i1 27 Try.underlying36 ji jz1 ⟨b, o, none⟩ n (cpos cs (rkey x)) c ((cpos cs (rkey x) : Nat) : Int) .i64 (by omega) rfl h.cap
  obtain ⟨ad2, hr2, hs2⟩ := rowcut_l (P := Try.prog) 36 43 i1 27 Try.underlying36 ji jz1 ⟨b, o, none⟩ n (n - cpos cs (rkey x)) (cpos cs (rkey x)) c ((cpos cs (rkey x) : Nat) : Int) .i64 (by omega) rfl h.cap
  have hgl : (rws ccl cs).length = n * 27 := by rw [rws_len _ (ccl_lens hok), h.len]
  have HCUT3 : Hid (cpos cs (rkey x) < n → ∃ ad3, (∀ wx, (Instr.slice 36 (.slice (some ⟨b, o, none⟩) n c) (some (.int .i64 (((cpos cs (rkey x) : Nat) : Int) + 1))) none none).run Try.prog wx = .ok (.slice (some ad3) (n - (cpos cs (rkey x) + 1)) (c - (cpos cs (rkey x) + 1))) wx) ∧ ∀ W, Below w.heap.size w W → Sees W W.heap.size (some ad3) (rws ccl (cs.drop (cpos cs (rkey x) + 1)))) := Lib.hid (fun hlt => by
    obtain ⟨ad3, hr3, hs3⟩ := rowcut_l (P := Try.prog) 36 43 i1 27 Try.underlying36 ji jz1 ⟨b, o, none⟩ n (n - (cpos cs (rkey x) + 1)) (cpos cs (rkey x) + 1) c (((cpos cs (rkey x) : Nat) : Int) + 1) .i64 (by omega) (by omega) h.cap
    refine ⟨ad3, hr3, fun W hW => ?_⟩
    have := hs3 W W.heap.size _ hgl (h.later hW).see
    rwa [rws_drop cs (cpos cs (rkey x) + 1) (ccl_lens hok)] at this)
  have HR1 := Lib.hid hr1
  have HR2 := Lib.hid hr2
  have HS1 := Lib.hid (fun W (hW : Below w.heap.size w W) => show Sees W W.heap.size (some ad1) (rws ccl (cs.take (cpos cs (rkey x)))) from by
    have := hs1 W W.heap.size _ (h.later hW).see
    rwa [rws_take cs (cpos cs (rkey x)) (ccl_lens hok)] at this)
  have HS2 := Lib.hid (fun W (hW : Below w.heap.size w W) => show Sees W W.heap.size (some ad2) (rws ccl (cs.drop (cpos cs (rkey x)))) from by
    have := hs2 W W.heap.size _ hgl (h.later hW).see
    rwa [rws_drop cs (cpos cs (rkey x)) (ccl_lens hok)] at this)
  have HL1 : Hid ((rws ccl (cs.take (cpos cs (rkey x)))).length = cpos cs (rkey x) * 27) := Lib.hid (by rw [rws_len _ (fun y hy => ccl_lens hok y (List.mem_of_mem_take hy)), List.length_take]; congr 1; have := h.len; omega)
  have HL2 : Hid ((rws ccl (cs.drop (cpos cs (rkey x)))).length = (n - cpos cs (rkey x)) * 27) := Lib.hid (by rw [rws_len _ (fun y hy => ccl_lens hok y (List.mem_of_mem_drop hy)), List.length_drop, h.len])
  have HL3 : Hid ((rws ccl (cs.drop (cpos cs (rkey x) + 1))).length = (n - (cpos cs (rkey x) + 1)) * 27) := Lib.hid (by rw [rws_len _ (fun y hy => ccl_lens hok y (List.mem_of_mem_drop hy)), List.length_drop, h.len])
  have HFA : Hid (∀ W g m c', Below w.heap.size w W → W.ownsRow w.heap.size 43 27 (.slice (some ⟨g, 0, none⟩) (n + 1) c') (n + 1) (rws ccl (cs.take (cpos cs (rkey x))) ++ ccl x.cd ++ rws ccl (cs.drop (cpos cs (rkey x)))) → m = n + 1 → GivesO w (some (cs.take (cpos cs (rkey x)) ++ x.cd :: cs.drop (cpos cs (rkey x)))) (.returned (.tuple #[.slice (some ⟨g, 0, none⟩) m c', .bool true])) W) := Lib.hid (fun W g m c' hb hr hm => by
    subst hm
    have e : rws ccl (cs.take (cpos cs (rkey x))) ++ ccl x.cd ++ rws ccl (cs.drop (cpos cs (rkey x))) = rws ccl (cs.take (cpos cs (rkey x)) ++ x.cd :: cs.drop (cpos cs (rkey x))) := by rw [rws_append, rws_cons, List.append_assoc]
    rw [e] at hr
    refine ⟨g, n + 1, c', rfl, SeesR.of_row hr ?_ (row_capi hr), hb⟩
    have hln := h.len
    simp only [List.length_append, List.length_cons, List.length_take, List.length_drop]
    omega)
  have HFB : Hid (cpos cs (rkey x) < n → ∀ W g m c', Below w.heap.size w W → W.ownsRow w.heap.size 43 27 (.slice (some ⟨g, 0, none⟩) n c') n (rws ccl (cs.take (cpos cs (rkey x))) ++ ccl x.cd ++ rws ccl (cs.drop (cpos cs (rkey x) + 1))) → m = n → GivesO w (some (cs.take (cpos cs (rkey x)) ++ x.cd :: cs.drop (cpos cs (rkey x) + 1))) (.returned (.tuple #[.slice (some ⟨g, 0, none⟩) m c', .bool true])) W) := Lib.hid (fun hlt W g m c' hb hr hm => by
    subst hm
    have e : rws ccl (cs.take (cpos cs (rkey x))) ++ ccl x.cd ++ rws ccl (cs.drop (cpos cs (rkey x) + 1)) = rws ccl (cs.take (cpos cs (rkey x)) ++ x.cd :: cs.drop (cpos cs (rkey x) + 1)) := by rw [rws_append, rws_cons, List.append_assoc]
    rw [e] at hr
    refine ⟨g, m, c', rfl, SeesR.of_row hr ?_ (row_capi hr), hb⟩
    have hln := h.len
    simp only [List.length_append, List.length_cons, List.length_take, List.length_drop]
    omega)
  have HFC : Hid (cpos cs (rkey x) < n → ∀ W g m c', Below w.heap.size w W → W.ownsRow w.heap.size 43 27 (.slice (some ⟨g, 0, none⟩) (n - 1) c') (n - 1) (rws ccl (cs.take (cpos cs (rkey x))) ++ rws ccl (cs.drop (cpos cs (rkey x) + 1))) → m = n - 1 → GivesO w (some (cs.take (cpos cs (rkey x)) ++ cs.drop (cpos cs (rkey x) + 1))) (.returned (.tuple #[.slice (some ⟨g, 0, none⟩) m c', .bool true])) W) := Lib.hid (fun hlt W g m c' hb hr hm => by
    subst hm
    rw [← rws_append] at hr
    refine ⟨g, n - 1, c', rfl, SeesR.of_row hr ?_ (row_capi hr), hb⟩
    have hln := h.len
    simp only [List.length_append, List.length_take, List.length_drop]
    omega)
  have HRO := Lib.hid (rone_cases cs x)
  have ones : Hid (∀ m : List Cd, ∀ u ∈ rws ccl m, u.oneCell' = true) := Lib.hid (fun m => rws_all (fun y _ => ccl_one y))
  have HXL := Lib.hid (ccl_len hx)
  have HX1 := Lib.hid (ccl_one x.cd)
  have B0 := Blk.new w (icl x) 54
  have hb0 := (Below.refl w.heap.size w).alloc (Nat.le_refl _) (.cells (icl x).toArray 54)
  obtain ⟨W0, hW0⟩ : ∃ W0, W0 = w.alloc (.cells (icl x).toArray 54) := ⟨_, rfl⟩
  rw [← hW0] at B0 hb0
  have HK1 : Hid (∀ W, Blk W w.heap.size (icl x) → W.cell? ⟨w.heap.size, 0, none⟩ = some (.int .i64 x.kd) ∧ W.cell? ⟨w.heap.size, 1, none⟩ = some (.int .i64 (rkey x)) ∧ W.rangeAt w.heap.size 1 (ccl x.cd)) := Lib.hid (fun W hW => ⟨hW.cell (j := 0) rfl, hW.cell (j := 1) rfl, hW.range 1 (ccl x.cd) (icl_drop hx)⟩)
  have HEX := Lib.hid (fun (W : World) (a : Act) (op : Oper) (y : Operand) (ho : op.op = .buildSlice 36 1 #[(0, y)]) (hy : a.eval y = .agg (ccl x.cd).toArray) => exec_cs1 (a := a) (op := op) y ho x.cd hx hy W)
  have HB0 := Lib.hid hb0
  have HBK := Lib.hid B0
  obtain ⟨X, hX⟩ : ∃ X, X = icl x := ⟨_, rfl⟩
  rw [← hX] at HK1 HBK hW0 ⊢
  obtain ⟨CC, hCC⟩ : ∃ CC, CC = ccl x.cd := ⟨_, rfl⟩
  rw [← hCC] at HFA HFB HXL HX1 HK1 HEX
  generalize hp : cpos cs (rkey x) = p at hpn HLOW HHIGH HTH1 HTH0 HR1 HR2 HS1 HS2 HL1 HL2 HL3 HFA HFB HFC HRO HCUT3
  generalize hkx : rkey x = kx at HLOW HHIGH HTH1 HTH0 HK1 HRO
  generalize hth : cthere cs kx = th at HTH1 HTH0 HRO
  have HCAP := Lib.hid h.cap
  obtain ⟨RR, hRR⟩ : ∃ RR, RR = rone cs x := ⟨_, rfl⟩
  rw [← hRR] at HRO ⊢
  obtain ⟨kd, xcd⟩ := x
  dsimp only at HRO HK1 HFA HFB HFC
  clear h hok hx hs1 hs2 hr1 hr2 hgl B0 hb0 hX hp hkx hth hCC hRR
  have hcap := HCAP.out
  subst hW0
  go_enter Try.func27, Try.ntmps27
  go_wp2_with fail
  go_loopw [6] (fun i wr => ∃ k : Nat, k ≤ p ∧ i = .int .i64 (k : Int) ∧ Hid (Blk wr w.heap.size X) ∧ Hid (Below w.heap.size w wr)) (fun i _ => p - (iOf i).toNat)
  case atStart => exact ⟨0, by omega, rfl, HBK, HB0⟩
  case round =>
    obtain ⟨k, hk, rfl, HBX, HB⟩ := hrel
    have HBW : Hid (∀ W, Le wr W → Below w.heap.size w W) := Lib.hid (fun W hl => HB.out.trans (hl.mono HB.out.size))
    have cx : ∀ kk : LW wr, kk.val.cell? ⟨w.heap.size, 1, none⟩ = some (.int .i64 kx) := fun kk => (HK1.out _ (HBX.out.later kk.le)).2.1
    by_cases hlt : k < p
    · have d0 : decide ((k : Int) < (n : Int)) = true := decide_eq_true (by omega)
      have hkn : k < n := by omega
      have hkl : k < cs.length := by rw [HN.out]; exact hkn
      have ca : ∀ kk : LW wr, kk.val.cell? ⟨b, o + k * 27, none⟩ = some (.int .i64 cs[k].1) := fun kk => HC.out _ (HBW.out _ kk.le) k hkl
      have dq : decide (cs[k].1 < kx) = true := decide_eq_true (HLOW.out k hkl hlt)
      generalize cs[k].1 = q at ca dq
      clear HLOW HHIGH HR1 HR2 HS1 HS2 HL1 HL2 HL3 HFA HFB HFC HC ones HEX HK1 HCUT3 HTH1 HTH0
      go_wp2_with fail
      refine wp_region_steady [] 85 (by kernel_rfl) (by kernel_rfl) (by kernel_rfl) (by rfl) ?_
      iterate 15 (refine wpG_quiet (by rfl) (by rfl) (by rfl) (fun K hK => ?_); go_big_quiet_op; refine hK _ ?_; clear hK K)
      refine wpG_nil fun w1 hl _ => ?_
      have HB1 := Lib.hid (HBW.out w1 hl)
      have HBX1 := Lib.hid (HBX.out.later hl)
      clear HBW
      go_wp2_with fail
      go_roundw
      case rel => exact ⟨k + 1, by omega, by go_num, HBX1, HB1⟩
      case measure => simp [iOf]; omega
    · obtain rfl : k = p := by omega
      by_cases hkn : k < n
      · have d0 : decide ((k : Int) < (n : Int)) = true := decide_eq_true (by omega)
        have hkl : k < cs.length := by rw [HN.out]; exact hkn
        have ca : ∀ kk : LW wr, kk.val.cell? ⟨b, o + k * 27, none⟩ = some (.int .i64 cs[k].1) := fun kk => HC.out _ (HBW.out _ kk.le) k hkl
        have dq : decide (cs[k].1 < kx) = false := decide_eq_false (by have := HHIGH.out k hkl rfl; omega)
        have HTH := Lib.hid (HTH1.out k rfl hkl)
        have HCK : Hid (∀ W, Below w.heap.size w W → W.cell? ⟨b, o + k * 27, none⟩ = some (.int .i64 cs[k].1)) := Lib.hid (fun W hW => HC.out W hW k hkl)
        generalize cs[k].1 = q at ca dq HTH HCK
        clear HLOW HHIGH HC HTH1 HTH0
        go_wp2_with fail
        refine wp_region_steady [] 85 (by kernel_rfl) (by kernel_rfl) (by kernel_rfl) (by rfl) ?_
        iterate 15 (refine wpG_quiet (by rfl) (by rfl) (by rfl) (fun K hK => ?_); go_big_quiet_op; refine hK _ ?_; clear hK K)
        refine wpG_nil fun w1 hl _ => ?_
        have HB1 := Lib.hid (HBW.out w1 hl)
        have HBX1 := Lib.hid (HBX.out.later hl)
        have HBW1 : Hid (∀ W, Le w1 W → Below w.heap.size w W) := Lib.hid (fun W hl => HB1.out.trans (hl.mono HB1.out.size))
        clear HBW cx ca hl
        have cx : ∀ kk : LW w1, kk.val.cell? ⟨w.heap.size, 1, none⟩ = some (.int .i64 kx) := fun kk => (HK1.out _ (HBX1.out.later kk.le)).2.1
        have ca : ∀ kk : LW w1, kk.val.cell? ⟨b, o + k * 27, none⟩ = some (.int .i64 q) := fun kk => HCK.out _ (HBW1.out _ kk.le)
        by_cases hq : q = kx
        · have dk : decide (q = kx) = true := decide_eq_true hq
          have dk' : (q == kx) = true := by simpa using hq
          have HT : Hid (th = true) := Lib.hid (by rw [HTH.out, dk])
          clear hq HTH HCK
          go_wp2_with fail
          refine wp_region_steady [] 85 (by kernel_rfl) (by kernel_rfl) (by kernel_rfl) (by rfl) ?_
          iterate 16 (refine wpG_quiet (by rfl) (by rfl) (by rfl) (fun K hK => ?_); go_big_quiet_op; refine hK _ ?_; clear hK K)
          refine wpG_nil fun w2 hl _ => ?_
          have HB2 := Lib.hid (HBW1.out w2 hl)
          have HBX2 := Lib.hid (HBX1.out.later hl)
          clear HBW1 hl cx ca
          have hz1 : w.heap.size + 1 ≤ w2.heap.size := HBX2.out.lt
          have hb4 := (Below.refl w2.heap.size w2).alloc (Nat.le_refl _) (.cells #[] 43)
          have HB4 := Lib.hid (HB2.out.alloc HB2.out.size (.cells #[] 43))
          have HR4 := Lib.hid (row_lit w2 (w.heap.size + 1) 43 27 0 #[] hz1 (by simp [maxLen]) rfl)
          have HS4 := Lib.hid (HS1.out _ HB4.out)
          have HBX4 := Lib.hid (HBX2.out.later hb4)
          have HZ4 : Hid (w.heap.size + 1 ≤ (w2.alloc (.cells #[] 43)).heap.size) := Lib.hid (Nat.le_trans hz1 hb4.size)
          clear hb4 hz1
          obtain ⟨ad3, hr3, hs3⟩ := HCUT3.out hkn
          have HR3 := Lib.hid hr3
          have HS3 := Lib.hid hs3
          clear hr3 hs3 HCUT3
          by_cases hk1 : kd = 1
          · have HRR : Hid (RR = none) := Lib.hid (by rw [HRO.out, if_pos hk1, if_pos HT.out])
            have f1 : decide (kd = 1) = true := decide_eq_true hk1
            have f1' : (kd == 1) = true := by simpa using f1
            clear hk1
            go_wp2_with (first
              | (refine wpList_exec (by rfl) (.slice (some ad1) k c) (exec_slice_h 36 (.tmp 42) (.tmp 43) rfl 43 Try.underlying36 _ _ _ rfl rfl HR1.out) ?_
                 simp only [Act.put, List.setIfInBounds_toArray, List.set_cons_zero, List.set_cons_succ])
              | (at_builtin
                 refine wpList_appk _ rfl (.tmp 41) (.tmp 44) 36 rfl (w.heap.size + 1) 43 i1 _ 27 280 Try.underlying36 ji jz0 jz1 jz2 rfl (by decide) (.slice (some ⟨w2.heap.size, 0, none⟩) 0 0) (0) ([]) rfl HR4.out _ (some ad1) (c) (rws ccl (cs.take k)) (k) rfl (HL1.out) HS4.out (ones.out _) (by unfold maxLen; omega) (by omega) HZ4.out ?_
                 intro A6 c6 w6 hr6 hb6 hg6 hat6
                 simp only [Nat.zero_add, List.nil_append] at hr6 hat6 ⊢
                 obtain ⟨g6, rfl⟩ := row_own hr6 hat6
                 have HB6 := Lib.hid (HB4.out.trans (hb6.mono (by omega)))
                 have HBX6 := Lib.hid (HBX4.out.below hb6 (by omega))
                 have k0 := (HK1.out w6 HBX6.out).1
                 have RG6 := (HK1.out w6 HBX6.out).2.2
                 have hz6 := HBX6.out.lt
                 have HR6 := Lib.hid hr6
                 have B7 := Blk.new w6 CC 43
                 have hb7 := (Below.refl w6.heap.size w6).alloc (Nat.le_refl _) (.cells CC.toArray 43)
                 have HEX6 := Lib.hid (HEX.out w6)
                 obtain ⟨W7, hW7⟩ : ∃ W7, W7 = w6.alloc (.cells CC.toArray 43) := ⟨_, rfl⟩
                 rw [← hW7] at B7 hb7 HEX6
                 have HR7 := Lib.hid (row_later hr6 hb7)
                 have HB7 := Lib.hid (HB6.out.trans (hb7.mono HB6.out.size))
                 have HZ7 : Hid (w.heap.size + 1 ≤ W7.heap.size) := Lib.hid (Nat.le_trans hz6 hb7.size)
                 have HS7 : Hid (Sees W7 W7.heap.size (some ⟨w6.heap.size, 0, none⟩) CC) := Lib.hid (fun _ => ⟨w6.heap.size, 0, rfl, B7.lt, fun j hj => by rw [Nat.zero_add]; exact B7.cell (List.getElem?_eq_getElem hj)⟩)
                 have HZ6 := Lib.hid hz6
                 clear hr6 hg6 hat6 hb6 hz6 B7 hb7 hW7)
              | (refine wpList_load_mid rfl 43 (.tmp 51) rfl w.heap.size 1 rfl CC _ RG6 huc rfl (by rw [HXL.out]; exact info_card) ?_
                 simp only [Act.put, List.setIfInBounds_toArray, List.set_cons_zero, List.set_cons_succ])
              | (refine wpList_execx (by rfl) (.slice (some ⟨w6.heap.size, 0, none⟩) 1 1) (HEX6.out _ _ (.tmp 52) rfl rfl) ?_
                 simp only [Act.put, List.setIfInBounds_toArray, List.set_cons_zero, List.set_cons_succ])
              | (at_builtin
                 refine wpList_appk _ rfl (.tmp 50) (.tmp 53) 36 rfl (w.heap.size + 1) 43 i1 _ 27 280 Try.underlying36 ji jz0 jz1 jz2 rfl (by decide) (.slice (some ⟨g6, 0, none⟩) k c6) (k) (rws ccl (cs.take k)) rfl HR7.out _ (some ⟨w6.heap.size, 0, none⟩) (1) (CC) (1) rfl (by rw [HXL.out]) HS7.out HX1.out (by unfold maxLen; omega) (by omega) HZ7.out ?_
                 intro A8 c8 w8 hr8 hb8 hg8 hat8
                 obtain ⟨g8, rfl⟩ := row_own hr8 hat8
                 have HR8 := Lib.hid hr8
                 have HB8 := Lib.hid (HB7.out.trans (hb8.mono (by omega)))
                 have HZ8 : Hid (w.heap.size + 1 ≤ w8.heap.size) := Lib.hid (Nat.le_trans HZ7.out hb8.size)
                 clear hr8 hg8 hat8 hb8)
              | (refine wpList_exec (by rfl) (.slice (some ad2) (n - k) (c - k)) (exec_slice_l 36 (.tmp 56) (.tmp 57) rfl 43 Try.underlying36 _ _ _ rfl rfl HR2.out) ?_
                 simp only [Act.put, List.setIfInBounds_toArray, List.set_cons_zero, List.set_cons_succ])
              | (at_builtin
                 refine wpList_appk _ rfl (.tmp 55) (.tmp 58) 36 rfl (w.heap.size + 1) 43 i1 _ 27 280 Try.underlying36 ji jz0 jz1 jz2 rfl (by decide) (.slice (some ⟨g8, 0, none⟩) (k + 1) c8) (k + 1) (_) rfl HR8.out _ (some ad2) (c - k) (rws ccl (cs.drop k)) (n - k) rfl (HL2.out) (HS2.out w8 HB8.out) (ones.out _) (by unfold maxLen; omega) (by omega) HZ8.out ?_
                 intro A9 c9 w9 hr9 hb9 hg9 hat9
                 obtain ⟨g9, rfl⟩ := row_own hr9 hat9
                 have hnum : k + 1 + (n - k) = n + 1 := by omega
                 have HB9 := Lib.hid (HB8.out.trans (hb9.mono (by omega)))
                 clear hnum
                 clear hg9 hat9 hb9 hr9)
              | fail)
            go_ret2
            rw [HRR.out]
            exact ⟨⟨_, _, _, rfl⟩, HB9.out⟩
          · by_cases hk3 : kd = 3
            · have HRR : Hid (RR = some (cs.take k ++ xcd :: cs.drop (k + 1))) := Lib.hid (by rw [HRO.out, if_neg hk1, if_pos HT.out, if_pos hk3])
              have f3 : decide (kd = 3) = true := decide_eq_true hk3
              have f3' : (kd == 3) = true := by simpa using f3
              have f1 : decide (kd = 1) = false := decide_eq_false hk1
              have f1' : (kd == 1) = false := by simpa using f1
              clear hk1 hk3
              go_wp2_with (first
                | (refine wpList_exec (by rfl) (.slice (some ad1) k c) (exec_slice_h 36 (.tmp 42) (.tmp 43) rfl 43 Try.underlying36 _ _ _ rfl rfl HR1.out) ?_
                   simp only [Act.put, List.setIfInBounds_toArray, List.set_cons_zero, List.set_cons_succ])
                | (at_builtin
                   refine wpList_appk _ rfl (.tmp 41) (.tmp 44) 36 rfl (w.heap.size + 1) 43 i1 _ 27 280 Try.underlying36 ji jz0 jz1 jz2 rfl (by decide) (.slice (some ⟨w2.heap.size, 0, none⟩) 0 0) (0) ([]) rfl HR4.out _ (some ad1) (c) (rws ccl (cs.take k)) (k) rfl (HL1.out) HS4.out (ones.out _) (by unfold maxLen; omega) (by omega) HZ4.out ?_
                   intro A6 c6 w6 hr6 hb6 hg6 hat6
                   simp only [Nat.zero_add, List.nil_append] at hr6 hat6 ⊢
                   obtain ⟨g6, rfl⟩ := row_own hr6 hat6
                   have HB6 := Lib.hid (HB4.out.trans (hb6.mono (by omega)))
                   have HBX6 := Lib.hid (HBX4.out.below hb6 (by omega))
                   have k0 := (HK1.out w6 HBX6.out).1
                   have RG6 := (HK1.out w6 HBX6.out).2.2
                   have hz6 := HBX6.out.lt
                   have HR6 := Lib.hid hr6
                   have B7 := Blk.new w6 CC 43
                   have hb7 := (Below.refl w6.heap.size w6).alloc (Nat.le_refl _) (.cells CC.toArray 43)
                   have HEX6 := Lib.hid (HEX.out w6)
                   obtain ⟨W7, hW7⟩ : ∃ W7, W7 = w6.alloc (.cells CC.toArray 43) := ⟨_, rfl⟩
                   rw [← hW7] at B7 hb7 HEX6
                   have HR7 := Lib.hid (row_later hr6 hb7)
                   have HB7 := Lib.hid (HB6.out.trans (hb7.mono HB6.out.size))
                   have HZ7 : Hid (w.heap.size + 1 ≤ W7.heap.size) := Lib.hid (Nat.le_trans hz6 hb7.size)
                   have HS7 : Hid (Sees W7 W7.heap.size (some ⟨w6.heap.size, 0, none⟩) CC) := Lib.hid (fun _ => ⟨w6.heap.size, 0, rfl, B7.lt, fun j hj => by rw [Nat.zero_add]; exact B7.cell (List.getElem?_eq_getElem hj)⟩)
                   have HZ6 := Lib.hid hz6
                   clear hr6 hg6 hat6 hb6 hz6 B7 hb7 hW7)
                | (refine wpList_load_mid rfl 43 (.tmp 67) rfl w.heap.size 1 rfl CC _ RG6 huc rfl (by rw [HXL.out]; exact info_card) ?_
                   simp only [Act.put, List.setIfInBounds_toArray, List.set_cons_zero, List.set_cons_succ])
                | (refine wpList_execx (by rfl) (.slice (some ⟨w6.heap.size, 0, none⟩) 1 1) (HEX6.out _ _ (.tmp 68) rfl rfl) ?_
                   simp only [Act.put, List.setIfInBounds_toArray, List.set_cons_zero, List.set_cons_succ])
                | (at_builtin
                   refine wpList_appk _ rfl (.tmp 66) (.tmp 69) 36 rfl (w.heap.size + 1) 43 i1 _ 27 280 Try.underlying36 ji jz0 jz1 jz2 rfl (by decide) (.slice (some ⟨g6, 0, none⟩) k c6) (k) (rws ccl (cs.take k)) rfl HR7.out _ (some ⟨w6.heap.size, 0, none⟩) (1) (CC) (1) rfl (by rw [HXL.out]) HS7.out HX1.out (by unfold maxLen; omega) (by omega) HZ7.out ?_
                   intro A8 c8 w8 hr8 hb8 hg8 hat8
                   obtain ⟨g8, rfl⟩ := row_own hr8 hat8
                   have HR8 := Lib.hid hr8
                   have HB8 := Lib.hid (HB7.out.trans (hb8.mono (by omega)))
                   have HZ8 : Hid (w.heap.size + 1 ≤ w8.heap.size) := Lib.hid (Nat.le_trans HZ7.out hb8.size)
                   clear hr8 hg8 hat8 hb8)
                | (refine wpList_exec (by rfl) (.slice (some ad3) (n - (k + 1)) (c - (k + 1))) (exec_slice_l 36 (.tmp 72) (.tmp 74) rfl 43 Try.underlying36 _ _ _ rfl rfl HR3.out) ?_
                   simp only [Act.put, List.setIfInBounds_toArray, List.set_cons_zero, List.set_cons_succ])
                | (at_builtin
                   refine wpList_appk _ rfl (.tmp 71) (.tmp 75) 36 rfl (w.heap.size + 1) 43 i1 _ 27 280 Try.underlying36 ji jz0 jz1 jz2 rfl (by decide) (.slice (some ⟨g8, 0, none⟩) (k + 1) c8) (k + 1) (_) rfl HR8.out _ (some ad3) (c - (k + 1)) (rws ccl (cs.drop (k + 1))) (n - (k + 1)) rfl (HL3.out) (HS3.out w8 HB8.out) (ones.out _) (by unfold maxLen; omega) (by omega) HZ8.out ?_
                   intro A9 c9 w9 hr9 hb9 hg9 hat9
                   obtain ⟨g9, rfl⟩ := row_own hr9 hat9
                   have hnum : k + 1 + (n - (k + 1)) = n := by omega
                   have HB9 := Lib.hid (HB8.out.trans (hb9.mono (by omega)))
                   rw [hnum] at hr9
                   have F1 := Lib.hid (HFB.out hkn w9 g9 (k + 1 + (n - (k + 1))) c9 HB9.out (row_lower hr9 (by omega)) hnum)
                   clear hg9 hat9 hb9 hr9 hnum)
                | fail)
              go_ret2
              rw [HRR.out]
              exact F1.out
            · have HRR : Hid (RR = some (cs.take k ++ cs.drop (k + 1))) := Lib.hid (by rw [HRO.out, if_neg hk1, if_pos HT.out, if_neg hk3])
              have f3 : decide (kd = 3) = false := decide_eq_false hk3
              have f3' : (kd == 3) = false := by simpa using f3
              have f1 : decide (kd = 1) = false := decide_eq_false hk1
              have f1' : (kd == 1) = false := by simpa using f1
              clear hk1 hk3
              go_wp2_with (first
                | (refine wpList_exec (by rfl) (.slice (some ad1) k c) (exec_slice_h 36 (.tmp 42) (.tmp 43) rfl 43 Try.underlying36 _ _ _ rfl rfl HR1.out) ?_
                   simp only [Act.put, List.setIfInBounds_toArray, List.set_cons_zero, List.set_cons_succ])
                | (at_builtin
                   refine wpList_appk _ rfl (.tmp 41) (.tmp 44) 36 rfl (w.heap.size + 1) 43 i1 _ 27 280 Try.underlying36 ji jz0 jz1 jz2 rfl (by decide) (.slice (some ⟨w2.heap.size, 0, none⟩) 0 0) (0) ([]) rfl HR4.out _ (some ad1) (c) (rws ccl (cs.take k)) (k) rfl (HL1.out) HS4.out (ones.out _) (by unfold maxLen; omega) (by omega) HZ4.out ?_
                   intro A6 c6 w6 hr6 hb6 hg6 hat6
                   simp only [Nat.zero_add, List.nil_append] at hr6 hat6 ⊢
                   obtain ⟨g6, rfl⟩ := row_own hr6 hat6
                   have HB6 := Lib.hid (HB4.out.trans (hb6.mono (by omega)))
                   have HBX6 := Lib.hid (HBX4.out.below hb6 (by omega))
                   have k0 := (HK1.out w6 HBX6.out).1
                   have RG6 := (HK1.out w6 HBX6.out).2.2
                   have hz6 := HBX6.out.lt
                   have HR6 := Lib.hid hr6
                   have B7 := Blk.new w6 CC 43
                   have hb7 := (Below.refl w6.heap.size w6).alloc (Nat.le_refl _) (.cells CC.toArray 43)
                   have HEX6 := Lib.hid (HEX.out w6)
                   obtain ⟨W7, hW7⟩ : ∃ W7, W7 = w6.alloc (.cells CC.toArray 43) := ⟨_, rfl⟩
                   rw [← hW7] at B7 hb7 HEX6
                   have HR7 := Lib.hid (row_later hr6 hb7)
                   have HB7 := Lib.hid (HB6.out.trans (hb7.mono HB6.out.size))
                   have HZ7 : Hid (w.heap.size + 1 ≤ W7.heap.size) := Lib.hid (Nat.le_trans hz6 hb7.size)
                   have HS7 : Hid (Sees W7 W7.heap.size (some ⟨w6.heap.size, 0, none⟩) CC) := Lib.hid (fun _ => ⟨w6.heap.size, 0, rfl, B7.lt, fun j hj => by rw [Nat.zero_add]; exact B7.cell (List.getElem?_eq_getElem hj)⟩)
                   have HZ6 := Lib.hid hz6
                   clear hr6 hg6 hat6 hb6 hz6 B7 hb7 hW7)
                | (refine wpList_exec (by rfl) (.slice (some ad3) (n - (k + 1)) (c - (k + 1))) (exec_slice_l 36 (.tmp 80) (.tmp 82) rfl 43 Try.underlying36 _ _ _ rfl rfl HR3.out) ?_
                   simp only [Act.put, List.setIfInBounds_toArray, List.set_cons_zero, List.set_cons_succ])
                | (at_builtin
                   refine wpList_appk _ rfl (.tmp 79) (.tmp 83) 36 rfl (w.heap.size + 1) 43 i1 _ 27 280 Try.underlying36 ji jz0 jz1 jz2 rfl (by decide) (.slice (some ⟨g6, 0, none⟩) k c6) (k) (rws ccl (cs.take k)) rfl HR6.out _ (some ad3) (c - (k + 1)) (rws ccl (cs.drop (k + 1))) (n - (k + 1)) rfl (HL3.out) (HS3.out w6 HB6.out) (ones.out _) (by unfold maxLen; omega) (by omega) HZ6.out ?_
                   intro A9 c9 w9 hr9 hb9 hg9 hat9
                   obtain ⟨g9, rfl⟩ := row_own hr9 hat9
                   have hnum : k + (n - (k + 1)) = n - 1 := by omega
                   have HB9 := Lib.hid (HB6.out.trans (hb9.mono (by omega)))
                   rw [hnum] at hr9
                   have F1 := Lib.hid (HFC.out hkn w9 g9 (k + (n - (k + 1))) c9 HB9.out (row_lower hr9 (by omega)) hnum)
                   clear hg9 hat9 hb9 hr9 hnum)
                | fail)
              go_ret2
              rw [HRR.out]
              exact F1.out
        · have dk : decide (q = kx) = false := decide_eq_false hq
          have dk' : (q == kx) = false := by simpa using hq
          have HT : Hid (th = false) := Lib.hid (by rw [HTH.out, dk])
          clear hq HTH HCK
          go_wp2_with fail
          refine wp_region_steady [] 85 (by kernel_rfl) (by kernel_rfl) (by kernel_rfl) (by rfl) ?_
          iterate 16 (refine wpG_quiet (by rfl) (by rfl) (by rfl) (fun K hK => ?_); go_big_quiet_op; refine hK _ ?_; clear hK K)
          refine wpG_nil fun w2 hl _ => ?_
          have HB2 := Lib.hid (HBW1.out w2 hl)
          have HBX2 := Lib.hid (HBX1.out.later hl)
          clear HBW1 hl cx ca
          have hz1 : w.heap.size + 1 ≤ w2.heap.size := HBX2.out.lt
          have hb4 := (Below.refl w2.heap.size w2).alloc (Nat.le_refl _) (.cells #[] 43)
          have HB4 := Lib.hid (HB2.out.alloc HB2.out.size (.cells #[] 43))
          have HR4 := Lib.hid (row_lit w2 (w.heap.size + 1) 43 27 0 #[] hz1 (by simp [maxLen]) rfl)
          have HS4 := Lib.hid (HS1.out _ HB4.out)
          have HBX4 := Lib.hid (HBX2.out.later hb4)
          have HZ4 : Hid (w.heap.size + 1 ≤ (w2.alloc (.cells #[] 43)).heap.size) := Lib.hid (Nat.le_trans hz1 hb4.size)
          clear hb4 hz1
          clear HCUT3
          by_cases hk1 : kd = 1
          · have HRR : Hid (RR = some (cs.take k ++ xcd :: cs.drop k)) := Lib.hid (by rw [HRO.out, if_pos hk1, if_neg (by rw [HT.out]; exact Bool.false_ne_true)])
            have f1 : decide (kd = 1) = true := decide_eq_true hk1
            have f1' : (kd == 1) = true := by simpa using f1
            clear hk1
            go_wp2_with (first
              | (refine wpList_exec (by rfl) (.slice (some ad1) k c) (exec_slice_h 36 (.tmp 42) (.tmp 43) rfl 43 Try.underlying36 _ _ _ rfl rfl HR1.out) ?_
                 simp only [Act.put, List.setIfInBounds_toArray, List.set_cons_zero, List.set_cons_succ])
              | (at_builtin
                 refine wpList_appk _ rfl (.tmp 41) (.tmp 44) 36 rfl (w.heap.size + 1) 43 i1 _ 27 280 Try.underlying36 ji jz0 jz1 jz2 rfl (by decide) (.slice (some ⟨w2.heap.size, 0, none⟩) 0 0) (0) ([]) rfl HR4.out _ (some ad1) (c) (rws ccl (cs.take k)) (k) rfl (HL1.out) HS4.out (ones.out _) (by unfold maxLen; omega) (by omega) HZ4.out ?_
                 intro A6 c6 w6 hr6 hb6 hg6 hat6
                 simp only [Nat.zero_add, List.nil_append] at hr6 hat6 ⊢
                 obtain ⟨g6, rfl⟩ := row_own hr6 hat6
                 have HB6 := Lib.hid (HB4.out.trans (hb6.mono (by omega)))
                 have HBX6 := Lib.hid (HBX4.out.below hb6 (by omega))
                 have k0 := (HK1.out w6 HBX6.out).1
                 have RG6 := (HK1.out w6 HBX6.out).2.2
                 have hz6 := HBX6.out.lt
                 have HR6 := Lib.hid hr6
                 have B7 := Blk.new w6 CC 43
                 have hb7 := (Below.refl w6.heap.size w6).alloc (Nat.le_refl _) (.cells CC.toArray 43)
                 have HEX6 := Lib.hid (HEX.out w6)
                 obtain ⟨W7, hW7⟩ : ∃ W7, W7 = w6.alloc (.cells CC.toArray 43) := ⟨_, rfl⟩
                 rw [← hW7] at B7 hb7 HEX6
                 have HR7 := Lib.hid (row_later hr6 hb7)
                 have HB7 := Lib.hid (HB6.out.trans (hb7.mono HB6.out.size))
                 have HZ7 : Hid (w.heap.size + 1 ≤ W7.heap.size) := Lib.hid (Nat.le_trans hz6 hb7.size)
                 have HS7 : Hid (Sees W7 W7.heap.size (some ⟨w6.heap.size, 0, none⟩) CC) := Lib.hid (fun _ => ⟨w6.heap.size, 0, rfl, B7.lt, fun j hj => by rw [Nat.zero_add]; exact B7.cell (List.getElem?_eq_getElem hj)⟩)
                 have HZ6 := Lib.hid hz6
                 clear hr6 hg6 hat6 hb6 hz6 B7 hb7 hW7)
              | (refine wpList_load_mid rfl 43 (.tmp 51) rfl w.heap.size 1 rfl CC _ RG6 huc rfl (by rw [HXL.out]; exact info_card) ?_
                 simp only [Act.put, List.setIfInBounds_toArray, List.set_cons_zero, List.set_cons_succ])
              | (refine wpList_execx (by rfl) (.slice (some ⟨w6.heap.size, 0, none⟩) 1 1) (HEX6.out _ _ (.tmp 52) rfl rfl) ?_
                 simp only [Act.put, List.setIfInBounds_toArray, List.set_cons_zero, List.set_cons_succ])
              | (at_builtin
                 refine wpList_appk _ rfl (.tmp 50) (.tmp 53) 36 rfl (w.heap.size + 1) 43 i1 _ 27 280 Try.underlying36 ji jz0 jz1 jz2 rfl (by decide) (.slice (some ⟨g6, 0, none⟩) k c6) (k) (rws ccl (cs.take k)) rfl HR7.out _ (some ⟨w6.heap.size, 0, none⟩) (1) (CC) (1) rfl (by rw [HXL.out]) HS7.out HX1.out (by unfold maxLen; omega) (by omega) HZ7.out ?_
                 intro A8 c8 w8 hr8 hb8 hg8 hat8
                 obtain ⟨g8, rfl⟩ := row_own hr8 hat8
                 have HR8 := Lib.hid hr8
                 have HB8 := Lib.hid (HB7.out.trans (hb8.mono (by omega)))
                 have HZ8 : Hid (w.heap.size + 1 ≤ w8.heap.size) := Lib.hid (Nat.le_trans HZ7.out hb8.size)
                 clear hr8 hg8 hat8 hb8)
              | (refine wpList_exec (by rfl) (.slice (some ad2) (n - k) (c - k)) (exec_slice_l 36 (.tmp 56) (.tmp 57) rfl 43 Try.underlying36 _ _ _ rfl rfl HR2.out) ?_
                 simp only [Act.put, List.setIfInBounds_toArray, List.set_cons_zero, List.set_cons_succ])
              | (at_builtin
                 refine wpList_appk _ rfl (.tmp 55) (.tmp 58) 36 rfl (w.heap.size + 1) 43 i1 _ 27 280 Try.underlying36 ji jz0 jz1 jz2 rfl (by decide) (.slice (some ⟨g8, 0, none⟩) (k + 1) c8) (k + 1) (_) rfl HR8.out _ (some ad2) (c - k) (rws ccl (cs.drop k)) (n - k) rfl (HL2.out) (HS2.out w8 HB8.out) (ones.out _) (by unfold maxLen; omega) (by omega) HZ8.out ?_
                 intro A9 c9 w9 hr9 hb9 hg9 hat9
                 obtain ⟨g9, rfl⟩ := row_own hr9 hat9
                 have hnum : k + 1 + (n - k) = n + 1 := by omega
                 have HB9 := Lib.hid (HB8.out.trans (hb9.mono (by omega)))
                 rw [hnum] at hr9
                 have F1 := Lib.hid (HFA.out w9 g9 (k + 1 + (n - k)) c9 HB9.out (row_lower hr9 (by omega)) hnum)
                 have HNUM := Lib.hid hnum
                 clear hnum
                 clear hg9 hat9 hb9 hr9)
              | fail)
            go_ret2
            rw [HRR.out]
            exact F1.out
          · by_cases hk3 : kd = 3
            · have HRR : Hid (RR = none) := Lib.hid (by rw [HRO.out, if_neg hk1, if_neg (by rw [HT.out]; exact Bool.false_ne_true)])
              have f3 : decide (kd = 3) = true := decide_eq_true hk3
              have f3' : (kd == 3) = true := by simpa using f3
              have f1 : decide (kd = 1) = false := decide_eq_false hk1
              have f1' : (kd == 1) = false := by simpa using f1
              clear hk1 hk3
              go_wp2_with (first
                | (refine wpList_exec (by rfl) (.slice (some ad1) k c) (exec_slice_h 36 (.tmp 42) (.tmp 43) rfl 43 Try.underlying36 _ _ _ rfl rfl HR1.out) ?_
                   simp only [Act.put, List.setIfInBounds_toArray, List.set_cons_zero, List.set_cons_succ])
                | (at_builtin
                   refine wpList_appk _ rfl (.tmp 41) (.tmp 44) 36 rfl (w.heap.size + 1) 43 i1 _ 27 280 Try.underlying36 ji jz0 jz1 jz2 rfl (by decide) (.slice (some ⟨w2.heap.size, 0, none⟩) 0 0) (0) ([]) rfl HR4.out _ (some ad1) (c) (rws ccl (cs.take k)) (k) rfl (HL1.out) HS4.out (ones.out _) (by unfold maxLen; omega) (by omega) HZ4.out ?_
                   intro A6 c6 w6 hr6 hb6 hg6 hat6
                   simp only [Nat.zero_add, List.nil_append] at hr6 hat6 ⊢
                   obtain ⟨g6, rfl⟩ := row_own hr6 hat6
                   have HB6 := Lib.hid (HB4.out.trans (hb6.mono (by omega)))
                   have HBX6 := Lib.hid (HBX4.out.below hb6 (by omega))
                   have k0 := (HK1.out w6 HBX6.out).1
                   have RG6 := (HK1.out w6 HBX6.out).2.2
                   have hz6 := HBX6.out.lt
                   have HR6 := Lib.hid hr6
                   have B7 := Blk.new w6 CC 43
                   have hb7 := (Below.refl w6.heap.size w6).alloc (Nat.le_refl _) (.cells CC.toArray 43)
                   have HEX6 := Lib.hid (HEX.out w6)
                   obtain ⟨W7, hW7⟩ : ∃ W7, W7 = w6.alloc (.cells CC.toArray 43) := ⟨_, rfl⟩
                   rw [← hW7] at B7 hb7 HEX6
                   have HR7 := Lib.hid (row_later hr6 hb7)
                   have HB7 := Lib.hid (HB6.out.trans (hb7.mono HB6.out.size))
                   have HZ7 : Hid (w.heap.size + 1 ≤ W7.heap.size) := Lib.hid (Nat.le_trans hz6 hb7.size)
                   have HS7 : Hid (Sees W7 W7.heap.size (some ⟨w6.heap.size, 0, none⟩) CC) := Lib.hid (fun _ => ⟨w6.heap.size, 0, rfl, B7.lt, fun j hj => by rw [Nat.zero_add]; exact B7.cell (List.getElem?_eq_getElem hj)⟩)
                   have HZ6 := Lib.hid hz6
                   clear hr6 hg6 hat6 hb6 hz6 B7 hb7 hW7)
                | fail)
              go_ret2
              rw [HRR.out]
              exact ⟨⟨_, _, _, rfl⟩, HB6.out⟩
            · have HRR : Hid (RR = none) := Lib.hid (by rw [HRO.out, if_neg hk1, if_neg (by rw [HT.out]; exact Bool.false_ne_true)])
              have f3 : decide (kd = 3) = false := decide_eq_false hk3
              have f3' : (kd == 3) = false := by simpa using f3
              have f1 : decide (kd = 1) = false := decide_eq_false hk1
              have f1' : (kd == 1) = false := by simpa using f1
              clear hk1 hk3
              go_wp2_with (first
                | (refine wpList_exec (by rfl) (.slice (some ad1) k c) (exec_slice_h 36 (.tmp 42) (.tmp 43) rfl 43 Try.underlying36 _ _ _ rfl rfl HR1.out) ?_
                   simp only [Act.put, List.setIfInBounds_toArray, List.set_cons_zero, List.set_cons_succ])
                | (at_builtin
                   refine wpList_appk _ rfl (.tmp 41) (.tmp 44) 36 rfl (w.heap.size + 1) 43 i1 _ 27 280 Try.underlying36 ji jz0 jz1 jz2 rfl (by decide) (.slice (some ⟨w2.heap.size, 0, none⟩) 0 0) (0) ([]) rfl HR4.out _ (some ad1) (c) (rws ccl (cs.take k)) (k) rfl (HL1.out) HS4.out (ones.out _) (by unfold maxLen; omega) (by omega) HZ4.out ?_
                   intro A6 c6 w6 hr6 hb6 hg6 hat6
                   simp only [Nat.zero_add, List.nil_append] at hr6 hat6 ⊢
                   obtain ⟨g6, rfl⟩ := row_own hr6 hat6
                   have HB6 := Lib.hid (HB4.out.trans (hb6.mono (by omega)))
                   have HBX6 := Lib.hid (HBX4.out.below hb6 (by omega))
                   have k0 := (HK1.out w6 HBX6.out).1
                   have RG6 := (HK1.out w6 HBX6.out).2.2
                   have hz6 := HBX6.out.lt
                   have HR6 := Lib.hid hr6
                   have B7 := Blk.new w6 CC 43
                   have hb7 := (Below.refl w6.heap.size w6).alloc (Nat.le_refl _) (.cells CC.toArray 43)
                   have HEX6 := Lib.hid (HEX.out w6)
                   obtain ⟨W7, hW7⟩ : ∃ W7, W7 = w6.alloc (.cells CC.toArray 43) := ⟨_, rfl⟩
                   rw [← hW7] at B7 hb7 HEX6
                   have HR7 := Lib.hid (row_later hr6 hb7)
                   have HB7 := Lib.hid (HB6.out.trans (hb7.mono HB6.out.size))
                   have HZ7 : Hid (w.heap.size + 1 ≤ W7.heap.size) := Lib.hid (Nat.le_trans hz6 hb7.size)
                   have HS7 : Hid (Sees W7 W7.heap.size (some ⟨w6.heap.size, 0, none⟩) CC) := Lib.hid (fun _ => ⟨w6.heap.size, 0, rfl, B7.lt, fun j hj => by rw [Nat.zero_add]; exact B7.cell (List.getElem?_eq_getElem hj)⟩)
                   have HZ6 := Lib.hid hz6
                   clear hr6 hg6 hat6 hb6 hz6 B7 hb7 hW7)
                | fail)
              go_ret2
              rw [HRR.out]
              exact ⟨⟨_, _, _, rfl⟩, HB6.out⟩
      · have d0 : decide ((k : Int) < (n : Int)) = false := decide_eq_false (by omega)
        have HT : Hid (th = false) := Lib.hid (HTH0.out k rfl (by rw [HN.out]; omega))
        clear HLOW HHIGH HC HTH1 HTH0
        go_wp2_with fail
        refine wp_region_steady [] 85 (by kernel_rfl) (by kernel_rfl) (by kernel_rfl) (by rfl) ?_
        iterate 5 (refine wpG_quiet (by rfl) (by rfl) (by rfl) (fun K hK => ?_); go_big_quiet_op; refine hK _ ?_; clear hK K)
        iterate 9 (refine wpG_skip (by rfl) ?_; simp only [Act.put, List.setIfInBounds_toArray, List.set_cons_zero, List.set_cons_succ])
        iterate 1 (refine wpG_quiet (by rfl) (by rfl) (by rfl) (fun K hK => ?_); go_big_quiet_op; refine hK _ ?_; clear hK K)
        refine wpG_nil fun w1 hl _ => ?_
        have HB1 := Lib.hid (HBW.out w1 hl)
        have HBX1 := Lib.hid (HBX.out.later hl)
        have HBW1 : Hid (∀ W, Le w1 W → Below w.heap.size w W) := Lib.hid (fun W hl => HB1.out.trans (hl.mono HB1.out.size))
        clear HBW cx hl
        go_wp2_with fail
        refine wp_region_steady [] 85 (by kernel_rfl) (by kernel_rfl) (by kernel_rfl) (by rfl) ?_
        iterate 5 (refine wpG_quiet (by rfl) (by rfl) (by rfl) (fun K hK => ?_); go_big_quiet_op; refine hK _ ?_; clear hK K)
        iterate 9 (refine wpG_skip (by rfl) ?_; simp only [Act.put, List.setIfInBounds_toArray, List.set_cons_zero, List.set_cons_succ])
        iterate 2 (refine wpG_quiet (by rfl) (by rfl) (by rfl) (fun K hK => ?_); go_big_quiet_op; refine hK _ ?_; clear hK K)
        refine wpG_nil fun w2 hl _ => ?_
        have HB2 := Lib.hid (HBW1.out w2 hl)
        have HBX2 := Lib.hid (HBX1.out.later hl)
        clear HBW1 hl
        have hz1 : w.heap.size + 1 ≤ w2.heap.size := HBX2.out.lt
        have hb4 := (Below.refl w2.heap.size w2).alloc (Nat.le_refl _) (.cells #[] 43)
        have HB4 := Lib.hid (HB2.out.alloc HB2.out.size (.cells #[] 43))
        have HR4 := Lib.hid (row_lit w2 (w.heap.size + 1) 43 27 0 #[] hz1 (by simp [maxLen]) rfl)
        have HS4 := Lib.hid (HS1.out _ HB4.out)
        have HBX4 := Lib.hid (HBX2.out.later hb4)
        have HZ4 : Hid (w.heap.size + 1 ≤ (w2.alloc (.cells #[] 43)).heap.size) := Lib.hid (Nat.le_trans hz1 hb4.size)
        clear hb4 hz1
        clear HCUT3
        by_cases hk1 : kd = 1
        · have HRR : Hid (RR = some (cs.take k ++ xcd :: cs.drop k)) := Lib.hid (by rw [HRO.out, if_pos hk1, if_neg (by rw [HT.out]; exact Bool.false_ne_true)])
          have f1 : decide (kd = 1) = true := decide_eq_true hk1
          have f1' : (kd == 1) = true := by simpa using f1
          clear hk1
          go_wp2_with (first
            | (refine wpList_exec (by rfl) (.slice (some ad1) k c) (exec_slice_h 36 (.tmp 42) (.tmp 43) rfl 43 Try.underlying36 _ _ _ rfl rfl HR1.out) ?_
               simp only [Act.put, List.setIfInBounds_toArray, List.set_cons_zero, List.set_cons_succ])
            | (at_builtin
               refine wpList_appk _ rfl (.tmp 41) (.tmp 44) 36 rfl (w.heap.size + 1) 43 i1 _ 27 280 Try.underlying36 ji jz0 jz1 jz2 rfl (by decide) (.slice (some ⟨w2.heap.size, 0, none⟩) 0 0) (0) ([]) rfl HR4.out _ (some ad1) (c) (rws ccl (cs.take k)) (k) rfl (HL1.out) HS4.out (ones.out _) (by unfold maxLen; omega) (by omega) HZ4.out ?_
               intro A6 c6 w6 hr6 hb6 hg6 hat6
               simp only [Nat.zero_add, List.nil_append] at hr6 hat6 ⊢
               obtain ⟨g6, rfl⟩ := row_own hr6 hat6
               have HB6 := Lib.hid (HB4.out.trans (hb6.mono (by omega)))
               have HBX6 := Lib.hid (HBX4.out.below hb6 (by omega))
               have k0 := (HK1.out w6 HBX6.out).1
               have RG6 := (HK1.out w6 HBX6.out).2.2
               have hz6 := HBX6.out.lt
               have HR6 := Lib.hid hr6
               have B7 := Blk.new w6 CC 43
               have hb7 := (Below.refl w6.heap.size w6).alloc (Nat.le_refl _) (.cells CC.toArray 43)
               have HEX6 := Lib.hid (HEX.out w6)
               obtain ⟨W7, hW7⟩ : ∃ W7, W7 = w6.alloc (.cells CC.toArray 43) := ⟨_, rfl⟩
               rw [← hW7] at B7 hb7 HEX6
               have HR7 := Lib.hid (row_later hr6 hb7)
               have HB7 := Lib.hid (HB6.out.trans (hb7.mono HB6.out.size))
               have HZ7 : Hid (w.heap.size + 1 ≤ W7.heap.size) := Lib.hid (Nat.le_trans hz6 hb7.size)
               have HS7 : Hid (Sees W7 W7.heap.size (some ⟨w6.heap.size, 0, none⟩) CC) := Lib.hid (fun _ => ⟨w6.heap.size, 0, rfl, B7.lt, fun j hj => by rw [Nat.zero_add]; exact B7.cell (List.getElem?_eq_getElem hj)⟩)
               have HZ6 := Lib.hid hz6
               clear hr6 hg6 hat6 hb6 hz6 B7 hb7 hW7)
            | (refine wpList_load_mid rfl 43 (.tmp 51) rfl w.heap.size 1 rfl CC _ RG6 huc rfl (by rw [HXL.out]; exact info_card) ?_
               simp only [Act.put, List.setIfInBounds_toArray, List.set_cons_zero, List.set_cons_succ])
            | (refine wpList_execx (by rfl) (.slice (some ⟨w6.heap.size, 0, none⟩) 1 1) (HEX6.out _ _ (.tmp 52) rfl rfl) ?_
               simp only [Act.put, List.setIfInBounds_toArray, List.set_cons_zero, List.set_cons_succ])
            | (at_builtin
               refine wpList_appk _ rfl (.tmp 50) (.tmp 53) 36 rfl (w.heap.size + 1) 43 i1 _ 27 280 Try.underlying36 ji jz0 jz1 jz2 rfl (by decide) (.slice (some ⟨g6, 0, none⟩) k c6) (k) (rws ccl (cs.take k)) rfl HR7.out _ (some ⟨w6.heap.size, 0, none⟩) (1) (CC) (1) rfl (by rw [HXL.out]) HS7.out HX1.out (by unfold maxLen; omega) (by omega) HZ7.out ?_
               intro A8 c8 w8 hr8 hb8 hg8 hat8
               obtain ⟨g8, rfl⟩ := row_own hr8 hat8
               have HR8 := Lib.hid hr8
               have HB8 := Lib.hid (HB7.out.trans (hb8.mono (by omega)))
               have HZ8 : Hid (w.heap.size + 1 ≤ w8.heap.size) := Lib.hid (Nat.le_trans HZ7.out hb8.size)
               clear hr8 hg8 hat8 hb8)
            | (refine wpList_exec (by rfl) (.slice (some ad2) (n - k) (c - k)) (exec_slice_l 36 (.tmp 56) (.tmp 57) rfl 43 Try.underlying36 _ _ _ rfl rfl HR2.out) ?_
               simp only [Act.put, List.setIfInBounds_toArray, List.set_cons_zero, List.set_cons_succ])
            | (at_builtin
               refine wpList_appk _ rfl (.tmp 55) (.tmp 58) 36 rfl (w.heap.size + 1) 43 i1 _ 27 280 Try.underlying36 ji jz0 jz1 jz2 rfl (by decide) (.slice (some ⟨g8, 0, none⟩) (k + 1) c8) (k + 1) (_) rfl HR8.out _ (some ad2) (c - k) (rws ccl (cs.drop k)) (n - k) rfl (HL2.out) (HS2.out w8 HB8.out) (ones.out _) (by unfold maxLen; omega) (by omega) HZ8.out ?_
               intro A9 c9 w9 hr9 hb9 hg9 hat9
               obtain ⟨g9, rfl⟩ := row_own hr9 hat9
               have hnum : k + 1 + (n - k) = n + 1 := by omega
               have HB9 := Lib.hid (HB8.out.trans (hb9.mono (by omega)))
               rw [hnum] at hr9
               have F1 := Lib.hid (HFA.out w9 g9 (k + 1 + (n - k)) c9 HB9.out (row_lower hr9 (by omega)) hnum)
               have HNUM := Lib.hid hnum
               clear hnum
               clear hg9 hat9 hb9 hr9)
            | fail)
          go_ret2
          rw [HRR.out]
          exact F1.out
        · by_cases hk3 : kd = 3
          · have HRR : Hid (RR = none) := Lib.hid (by rw [HRO.out, if_neg hk1, if_neg (by rw [HT.out]; exact Bool.false_ne_true)])
            have f3 : decide (kd = 3) = true := decide_eq_true hk3
            have f3' : (kd == 3) = true := by simpa using f3
            have f1 : decide (kd = 1) = false := decide_eq_false hk1
            have f1' : (kd == 1) = false := by simpa using f1
            clear hk1 hk3
            go_wp2_with (first
              | (refine wpList_exec (by rfl) (.slice (some ad1) k c) (exec_slice_h 36 (.tmp 42) (.tmp 43) rfl 43 Try.underlying36 _ _ _ rfl rfl HR1.out) ?_
                 simp only [Act.put, List.setIfInBounds_toArray, List.set_cons_zero, List.set_cons_succ])
              | (at_builtin
                 refine wpList_appk _ rfl (.tmp 41) (.tmp 44) 36 rfl (w.heap.size + 1) 43 i1 _ 27 280 Try.underlying36 ji jz0 jz1 jz2 rfl (by decide) (.slice (some ⟨w2.heap.size, 0, none⟩) 0 0) (0) ([]) rfl HR4.out _ (some ad1) (c) (rws ccl (cs.take k)) (k) rfl (HL1.out) HS4.out (ones.out _) (by unfold maxLen; omega) (by omega) HZ4.out ?_
                 intro A6 c6 w6 hr6 hb6 hg6 hat6
                 simp only [Nat.zero_add, List.nil_append] at hr6 hat6 ⊢
                 obtain ⟨g6, rfl⟩ := row_own hr6 hat6
                 have HB6 := Lib.hid (HB4.out.trans (hb6.mono (by omega)))
                 have HBX6 := Lib.hid (HBX4.out.below hb6 (by omega))
                 have k0 := (HK1.out w6 HBX6.out).1
                 have RG6 := (HK1.out w6 HBX6.out).2.2
                 have hz6 := HBX6.out.lt
                 have HR6 := Lib.hid hr6
                 have B7 := Blk.new w6 CC 43
                 have hb7 := (Below.refl w6.heap.size w6).alloc (Nat.le_refl _) (.cells CC.toArray 43)
                 have HEX6 := Lib.hid (HEX.out w6)
                 obtain ⟨W7, hW7⟩ : ∃ W7, W7 = w6.alloc (.cells CC.toArray 43) := ⟨_, rfl⟩
                 rw [← hW7] at B7 hb7 HEX6
                 have HR7 := Lib.hid (row_later hr6 hb7)
                 have HB7 := Lib.hid (HB6.out.trans (hb7.mono HB6.out.size))
                 have HZ7 : Hid (w.heap.size + 1 ≤ W7.heap.size) := Lib.hid (Nat.le_trans hz6 hb7.size)
                 have HS7 : Hid (Sees W7 W7.heap.size (some ⟨w6.heap.size, 0, none⟩) CC) := Lib.hid (fun _ => ⟨w6.heap.size, 0, rfl, B7.lt, fun j hj => by rw [Nat.zero_add]; exact B7.cell (List.getElem?_eq_getElem hj)⟩)
                 have HZ6 := Lib.hid hz6
                 clear hr6 hg6 hat6 hb6 hz6 B7 hb7 hW7)
              | fail)
            go_ret2
            rw [HRR.out]
            exact ⟨⟨_, _, _, rfl⟩, HB6.out⟩
          · have HRR : Hid (RR = none) := Lib.hid (by rw [HRO.out, if_neg hk1, if_neg (by rw [HT.out]; exact Bool.false_ne_true)])
            have f3 : decide (kd = 3) = false := decide_eq_false hk3
            have f3' : (kd == 3) = false := by simpa using f3
            have f1 : decide (kd = 1) = false := decide_eq_false hk1
            have f1' : (kd == 1) = false := by simpa using f1
            clear hk1 hk3
            go_wp2_with (first
              | (refine wpList_exec (by rfl) (.slice (some ad1) k c) (exec_slice_h 36 (.tmp 42) (.tmp 43) rfl 43 Try.underlying36 _ _ _ rfl rfl HR1.out) ?_
                 simp only [Act.put, List.setIfInBounds_toArray, List.set_cons_zero, List.set_cons_succ])
              | (at_builtin
                 refine wpList_appk _ rfl (.tmp 41) (.tmp 44) 36 rfl (w.heap.size + 1) 43 i1 _ 27 280 Try.underlying36 ji jz0 jz1 jz2 rfl (by decide) (.slice (some ⟨w2.heap.size, 0, none⟩) 0 0) (0) ([]) rfl HR4.out _ (some ad1) (c) (rws ccl (cs.take k)) (k) rfl (HL1.out) HS4.out (ones.out _) (by unfold maxLen; omega) (by omega) HZ4.out ?_
                 intro A6 c6 w6 hr6 hb6 hg6 hat6
                 simp only [Nat.zero_add, List.nil_append] at hr6 hat6 ⊢
                 obtain ⟨g6, rfl⟩ := row_own hr6 hat6
                 have HB6 := Lib.hid (HB4.out.trans (hb6.mono (by omega)))
                 have HBX6 := Lib.hid (HBX4.out.below hb6 (by omega))
                 have k0 := (HK1.out w6 HBX6.out).1
                 have RG6 := (HK1.out w6 HBX6.out).2.2
                 have hz6 := HBX6.out.lt
                 have HR6 := Lib.hid hr6
                 have B7 := Blk.new w6 CC 43
                 have hb7 := (Below.refl w6.heap.size w6).alloc (Nat.le_refl _) (.cells CC.toArray 43)
                 have HEX6 := Lib.hid (HEX.out w6)
                 obtain ⟨W7, hW7⟩ : ∃ W7, W7 = w6.alloc (.cells CC.toArray 43) := ⟨_, rfl⟩
                 rw [← hW7] at B7 hb7 HEX6
                 have HR7 := Lib.hid (row_later hr6 hb7)
                 have HB7 := Lib.hid (HB6.out.trans (hb7.mono HB6.out.size))
                 have HZ7 : Hid (w.heap.size + 1 ≤ W7.heap.size) := Lib.hid (Nat.le_trans hz6 hb7.size)
                 have HS7 : Hid (Sees W7 W7.heap.size (some ⟨w6.heap.size, 0, none⟩) CC) := Lib.hid (fun _ => ⟨w6.heap.size, 0, rfl, B7.lt, fun j hj => by rw [Nat.zero_add]; exact B7.cell (List.getElem?_eq_getElem hj)⟩)
                 have HZ6 := Lib.hid hz6
                 clear hr6 hg6 hat6 hb6 hz6 B7 hb7 hW7)
              | fail)
            go_ret2
            rw [HRR.out]
            exact ⟨⟨_, _, _, rfl⟩, HB6.out⟩
theorem rapp_append : ∀ {L K : List Im} {cs : List Cd}, rapp cs (L ++ K) = match rapp cs L with | none => none | some ds => rapp ds K
  | [], K, cs => rfl
  | x :: L, K, cs => by
    show (match rone cs x with | none => none | some ds => rapp ds (L ++ K)) = match (match rone cs x with | none => none | some ds => rapp ds L) with | none => none | some ds => rapp ds K
    cases rone cs x with
    | none => rfl
    | some n => exact rapp_append
theorem rapp_take {L : List Im} {cs ds : List Cd} {k : Nat} (hk : k < L.length) (h : rapp cs (L.take k) = some ds) : rapp cs (L.take (k + 1)) = rone ds L[k] := by
  rw [List.take_succ_eq_append_getElem hk, rapp_append, h]
  show (match rone ds L[k] with | none => none | some ds => rapp ds []) = _
  cases rone ds L[k] <;> rfl
theorem rapp_none {L : List Im} {cs : List Cd} {k : Nat} (h : rapp cs (L.take k) = none) : rapp cs L = none := by
  rw [← List.take_append_drop k L, rapp_append, h]
theorem rone_in {cs ds : List Cd} {x : Im} (h : rone cs x = some ds) : ds.length ≤ cs.length + 1 ∧ ∀ c ∈ ds, c ∈ cs ∨ c = x.cd := by
  have hp := cpos_le cs (rkey x)
  unfold rone at h
  split at h
  · split at h
    · cases h
    · cases h
      refine ⟨by simp only [List.length_append, List.length_cons, List.length_take, List.length_drop]; omega, fun c hc => ?_⟩
      rw [List.mem_append, List.mem_cons] at hc
      rcases hc with hc | rfl | hc
      · exact .inl (List.mem_of_mem_take hc)
      · exact .inr rfl
      · exact .inl (List.mem_of_mem_drop hc)
  · split at h
    · split at h
      · cases h
        refine ⟨by simp only [List.length_append, List.length_cons, List.length_take, List.length_drop]; omega, fun c hc => ?_⟩
        rw [List.mem_append, List.mem_cons] at hc
        rcases hc with hc | rfl | hc
        · exact .inl (List.mem_of_mem_take hc)
        · exact .inr rfl
        · exact .inl (List.mem_of_mem_drop hc)
      · cases h
        refine ⟨by simp only [List.length_append, List.length_take, List.length_drop]; omega, fun c hc => ?_⟩
        rw [List.mem_append] at hc
        rcases hc with hc | hc
        · exact .inl (List.mem_of_mem_take hc)
        · exact .inl (List.mem_of_mem_drop hc)
    · cases h
/-- What Apply gives. -/
def GivesA (w : World) (r : Option (List Cd)) (e : Ending) (w' : World) : Prop := match r with
  | none => e = .returned (.tuple #[.slice none 0 0, .bool false]) ∧ Below w.heap.size w w'
  | some ds => ∃ A m c', e = .returned (.tuple #[.slice A m c', .bool true]) ∧ SeesR ccl w' A m c' ds ∧ Below w.heap.size w w'
set_option maxRecDepth 100000 in
set_option maxHeartbeats 3200000 in
theorem rapply_any (A : Option Addr) (n c : Nat) (cs : List Cd) (B : Option Addr) (m d : Nat) (L : List Im) (w : World) (h : SeesR ccl w A n c cs) (hok : ∀ y ∈ cs, okCd y) (h2 : SeesR icl w B m d L) (hok2 : ∀ x ∈ L, okCd x.cd) (hz : n + m ≤ 60000) :
    Calls Try.prog 16 #[.slice A n c, .slice B m d] w (GivesA w (rapp cs L)) := by
  have hui := Try.underlying54
  obtain ⟨i1, ji, jz0, jz1, jz2⟩ := info_crd0
  have HN := Lib.hid h.len
  have HM := Lib.hid h2.len
  have hcl : (rws ccl cs).length = n * 27 := by rw [rws_len _ (ccl_lens hok), h.len]
  have hb0 := (Below.refl w.heap.size w).alloc (Nat.le_refl _) (.cells #[] 43)
  have HB0 := Lib.hid hb0
  have HR0 := Lib.hid (row_lit w w.heap.size 43 27 0 #[] (Nat.le_refl _) (by simp [maxLen]) rfl)
  have HS0 := Lib.hid (h.later hb0).see
  have HZ0 := Lib.hid hb0.size
  have HCLN := Lib.hid hcl
  have ones : Hid (∀ u ∈ rws ccl cs, u.oneCell' = true) := Lib.hid (rws_all (fun y _ => ccl_one y))
  have HTK : Hid (∀ k (hk : k < L.length) ds, rapp cs (L.take k) = some ds → rapp cs (L.take (k + 1)) = rone ds L[k]) := Lib.hid (fun k hk ds e => rapp_take hk e)
  have HNO : Hid (∀ k, rapp cs (L.take k) = none → rapp cs L = none) := Lib.hid (fun k e => rapp_none e)
  have HALL : Hid (rapp cs (L.take L.length) = rapp cs L) := Lib.hid (by rw [List.take_length])
  have HONE := Lib.hid (fun k (hk : k < L.length) b o n c ds W hs hds hz => rone_any b o n c ds L[k] W hs hds (hok2 _ (List.getElem_mem hk)) hz)
  have HILN := Lib.hid (fun k (hk : k < L.length) => icl_len (hok2 _ (List.getElem_mem hk)))
  have HOK2 := Lib.hid hok2
  have HOK1 := Lib.hid hok
  have HCE : Hid (∀ k (hk : k < L.length), ∃ b o, B = some ⟨b, o, none⟩ ∧ ∀ W, Below w.heap.size w W → W.rangeAt b (o + k * 28) (icl L[k])) := Lib.hid (fun k hk => by
    obtain ⟨b, o, e, _, hc⟩ := item_cells h2 hok2 (by omega)
    exact ⟨b, o, e, fun W hW => (hc W hW k hk).2.2.1⟩)
  have HFIRST : Hid (∀ W g c', Below w.heap.size w W → W.ownsRow w.heap.size 43 27 (.slice (some ⟨g, 0, none⟩) n c') n (rws ccl cs) → SeesR ccl W (some ⟨g, 0, none⟩) n c' cs) := Lib.hid (fun W g c' hb hr => SeesR.of_row hr h.len (row_capi hr))
  clear h hok h2 hok2 hcl hb0
  go_enter Try.func16, Try.ntmps16
  go_wp2_with (first
    | (at_builtin
       refine wpList_appk _ rfl (.tmp 10) (.tmp 11) 36 rfl w.heap.size 43 i1 _ 27 280 Try.underlying36 ji jz0 jz1 jz2 rfl (by decide) (.slice (some ⟨w.heap.size, 0, none⟩) 0 0) 0 [] rfl HR0.out _ A c (rws ccl cs) n rfl HCLN.out HS0.out ones.out (by unfold maxLen; omega) (by omega) HZ0.out ?_
       intro A6 c6 w6 hr6 hb6 hg6 hat6
       simp only [Nat.zero_add, List.nil_append] at hr6 hat6 ⊢
       obtain ⟨g6, rfl⟩ := row_own hr6 hat6
       have HB6 := Lib.hid (HB0.out.trans hb6)
       have HS6 := Lib.hid (HFIRST.out w6 g6 c6 HB6.out hr6)
       clear hr6 hg6 hat6 hb6)
    | fail)
  go_loopw [6, 7] (fun v i wr => ∃ (k g mm cc : Nat) (ds : List Cd), k ≤ m ∧ v = .slice (some ⟨g, 0, none⟩) mm cc ∧ i = .int .i64 (k : Int) ∧ mm ≤ n + k ∧ Hid (rapp cs (L.take k) = some ds) ∧ Hid (∀ y ∈ ds, okCd y) ∧ Hid (SeesR ccl wr (some ⟨g, 0, none⟩) mm cc ds) ∧ Hid (Below w.heap.size w wr)) (fun _ i _ => m - (iOf i).toNat)
  case atStart => exact ⟨0, g6, n, c6, cs, by omega, rfl, rfl, by omega, Lib.hid rfl, HOK1, HS6, HB6⟩
  case round =>
    clear HS6 HB6 HB0 HR0 HS0 HZ0 HFIRST
    obtain ⟨k, g, mm, cc, ds, hk, rfl, rfl, hmm, HRA, HDK, HDS, HB⟩ := hrel
    by_cases hlt : k < m
    · have d0 : decide ((k : Int) < (m : Int)) = true := decide_eq_true (by omega)
      have hkl : k < L.length := by rw [HM.out]; exact hlt
      obtain ⟨b, o, rfl, hcc⟩ := HCE.out k hkl
      have hrg := hcc wr HB.out
      have HIL := Lib.hid (HILN.out k hkl)
      have HO := Lib.hid (HONE.out k hkl g 0 mm cc ds wr HDS.out HDK.out (by omega))
      have HT := Lib.hid (HTK.out k hkl ds HRA.out)
      have HXK := Lib.hid (HOK2.out _ (List.getElem_mem hkl))
      have HDL := Lib.hid HDS.out.len
      obtain ⟨XX, hXX⟩ : ∃ XX, XX = icl L[k] := ⟨_, rfl⟩
      rw [← hXX] at hrg HIL HO
      have HIN : Hid (∀ es, rone ds L[k] = some es → es.length ≤ mm + 1 ∧ ∀ y ∈ es, okCd y) := Lib.hid (fun es e => by
        obtain ⟨h1, h2⟩ := rone_in e
        rw [HDL.out] at h1
        exact ⟨h1, fun y hy => (h2 y hy).elim (HDK.out y) (fun e => by rw [e]; exact HXK.out)⟩)
      generalize rone ds L[k] = ro at HO HT HIN
      clear hcc hXX HONE HTK HILN HCE HDS HRA HDK HDL HXK
      go_wp2_with (first
        | (refine wpList_load_mid rfl 54 (.tmp 23) rfl b (o + k * 28) rfl XX _ hrg hui rfl (by rw [HIL.out]; exact info_item) ?_
           simp only [Act.put, List.setIfInBounds_toArray, List.set_cons_zero, List.set_cons_succ])
        | fail)
      cases ro with
      | none =>
        have HRR := Lib.hid (HNO.out (k + 1) HT.out)
        refine HO.out.mono ?_
        rintro e w1 ⟨⟨A1, m1, c1, rfl⟩, hb1⟩
        have HB1 := Lib.hid (HB.out.trans (hb1.mono HB.out.size))
        clear hb1 HO hrg HALL HNO
        go_wp2_with fail
        go_ret2
        rw [HRR.out]
        exact ⟨rfl, HB1.out⟩
      | some es =>
        refine HO.out.mono ?_
        rintro e w1 ⟨g1, m1, c1, rfl, hs1, hb1⟩
        have HB1 := Lib.hid (HB.out.trans (hb1.mono HB.out.size))
        have HS1 := Lib.hid hs1
        have HI := Lib.hid (HIN.out es rfl)
        have hm1 : m1 ≤ n + (k + 1) := by have := HI.out.1; have := HS1.out.len; omega
        clear hb1 HO hrg HALL HNO hs1
        go_wp2_with fail
        go_roundw
        case rel => exact ⟨k + 1, g1, m1, c1, es, by omega, rfl, by go_num, hm1, HT, Lib.hid HI.out.2, HS1, HB1⟩
        case measure => simp [iOf]; omega
    · obtain rfl : k = m := by omega
      have HRR : Hid (rapp cs L = some ds) := Lib.hid (by rw [← HALL.out, HM.out]; exact HRA.out)
      clear HONE HTK HILN HCE HNO HALL HRA
      go_wp2_with fail
      go_ret2
      rw [HRR.out]
      exact ⟨_, _, _, rfl, HDS.out, HB.out⟩
end Go.Proofs.Ytcdmbidggikmfaa

/- Items applied to cards: the program's Apply. -/
namespace Go.Proofs.Ytcdmbidggikmfaa
set_option linter.unusedVariables false
set_option linter.unusedSimpArgs false
open Go Go.RowKit BitM

theorem aput_all {Q : Int × Cd → Prop} {m m' : KV Cd} {x : Im} (hm : ∀ p ∈ m, Q p) (hx : Q (rkey x, x.cd)) (h : aput m x = some m') : (∀ p ∈ m', Q p) ∧ m'.length ≤ m.length + 1 := by
  unfold aput at h
  split at h
  · cases h
  · cases h
    split
    · exact ⟨fun p hp => hm p (List.mem_filter.1 hp).1, Nat.le_trans (List.length_filter_le _ _) (by omega)⟩
    · refine ⟨fun p hp => ?_, kput_len _ _ _⟩
      rcases kput_mem hp with rfl | hp
      · exact hx
      · exact hm p hp
end Go.Proofs.Ytcdmbidggikmfaa

/- TransApplies: the law's walk. -/
namespace Go.Proofs.Ytcdmbidggikmfaa
set_option linter.unusedVariables false
set_option linter.unusedSimpArgs false
open Go Go.RowKit BitM

theorem crise_step {cs : List Cd} {k : Nat} (hk : k < cs.length) (h : CRise (cs.take k)) (h2 : ∀ m (hm : k = m + 1), (cs[m]'(by omega)).1 < cs[k].1) : CRise (cs.take (k + 1)) := by
  rw [List.take_succ_eq_append_getElem hk]
  refine List.pairwise_append.2 ⟨h, List.pairwise_singleton _ _, fun a ha d hd => ?_⟩
  rw [List.mem_singleton] at hd
  subst hd
  obtain ⟨j, hj, rfl⟩ := List.getElem_of_mem ha
  simp only [List.length_take] at hj
  simp only [List.getElem_take]
  obtain ⟨m, rfl⟩ : ∃ m, k = m + 1 := ⟨k - 1, by omega⟩
  have h3 := h2 m rfl
  by_cases e : j = m
  · subst e; exact h3
  · have := List.pairwise_iff_getElem.1 h j m (by simp; omega) (by simp; omega) (by omega)
    simp only [List.getElem_take] at this
    omega
end Go.Proofs.Ytcdmbidggikmfaa
