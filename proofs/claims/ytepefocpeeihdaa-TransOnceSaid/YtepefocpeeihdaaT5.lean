/- Cuts of rows of structs, s[:m] and s[k:], for regions that draw their order. -/
import Derived.Test.YtepefocpeeihdaaT2
import Derived.Test.YtepefocpeeihdaaT3
import Derived.Test.YtepefocpeeihdaaT4
namespace Go.Proofs.Ytepefocpeeihdaa
set_option linter.unusedVariables false
set_option linter.unusedSimpArgs false
open Go Go.RowKit

theorem exec_slice_h {P : Program} {a : Act} {op : Oper} {w : World} (t : TypeId) (x y : Operand) (ho : op.op = .slice t x none (some y) none) (e : TypeId) (ht : P.underlying t = some (.slice e)) (v u r : Value) (hx : a.eval x = v) (hy : a.eval y = u)
    (hr : ∀ wx, (Instr.slice t v none (some u) none).run P wx = .ok r wx) : (execOp a.eval op).run P w = .ok (.value r) w := by
  have he : P.elem t = e := by simp [Program.elem, ht]
  have ht' : P.underlying t = some (.slice (P.elem t)) := by rw [he]; exact ht
  unfold execOp
  simp only [ho, hx, hy, Option.map_some, Option.map_none, Sem.run_bind, run_sliceAt_slice _ _ _ _ _ _ ht', hr, Result.andThen_ok, Sem.run_pure]
theorem exec_slice_l {P : Program} {a : Act} {op : Oper} {w : World} (t : TypeId) (x y : Operand) (ho : op.op = .slice t x (some y) none none) (e : TypeId) (ht : P.underlying t = some (.slice e)) (v u r : Value) (hx : a.eval x = v) (hy : a.eval y = u)
    (hr : ∀ wx, (Instr.slice t v (some u) none none).run P wx = .ok r wx) : (execOp a.eval op).run P w = .ok (.value r) w := by
  have he : P.elem t = e := by simp [Program.elem, ht]
  have ht' : P.underlying t = some (.slice (P.elem t)) := by rw [he]; exact ht
  unfold execOp
  simp only [ho, hx, hy, Option.map_some, Option.map_none, Sem.run_bind, run_sliceAt_slice _ _ _ _ _ _ ht', hr, Result.andThen_ok, Sem.run_pure]

/-- s[:m] -/
theorem rowcut_h {P : Program} (t e : TypeId) (i : TypeInfo) (size : Nat) (ht : P.underlying t = some (.slice e)) (hi : P.info? e = some i) (hsz : i.size = size)
    (ad : Addr) (n m c : Nat) (H : Int) (kh : IntKind) (hm : m ≤ n) (hH : H = (m : Int)) (hc : n ≤ c) :
    ∃ ad2, (∀ wx, (Instr.slice t (.slice (some ad) n c) none (some (.int kh H)) none).run P wx = .ok (.slice (some ad2) m c) wx) ∧
      ∀ (wx : World) (B : Nat) (xs : List Value), Sees wx B (some ad) xs → Sees wx B (some ad2) (xs.take (m * size)) := by
  refine ⟨if c = 0 then ad else ad.add 0, fun wx => ?_, fun wx B xs h => ?_⟩
  · have he : P.elem t = e := by simp [Program.elem, ht]
    have ht' : P.underlying t = some (.slice (P.elem t)) := by rw [he]; exact ht
    rw [run_slice_h wx t (some ad) n c ht' kh H (by omega) (by omega), he]
    simp [sizeOf, typeInfo, hi, hsz, sliced, hH]
    split <;> rfl
  · have e2 : (if c = 0 then ad else ad.add 0) = ad := by split <;> simp [Addr.add]
    rw [e2]
    exact h.take _
/-- s[k:] -/
theorem rowcut_l {P : Program} (t e : TypeId) (i : TypeInfo) (size : Nat) (ht : P.underlying t = some (.slice e)) (hi : P.info? e = some i) (hsz : i.size = size)
    (ad : Addr) (n m k c : Nat) (K : Int) (kl : IntKind) (hn : n = m + k) (hK : K = (k : Int)) (hc : n ≤ c) :
    ∃ ad2, (∀ wx, (Instr.slice t (.slice (some ad) n c) (some (.int kl K)) none none).run P wx = .ok (.slice (some ad2) m (c - k)) wx) ∧
      ∀ (wx : World) (B : Nat) (xs : List Value), xs.length = n * size → Sees wx B (some ad) xs → Sees wx B (some ad2) (xs.drop (k * size)) := by
  refine ⟨if c = k then ad else ad.add (k * size), fun wx => ?_, fun wx B xs hx h => ?_⟩
  · have he : P.elem t = e := by simp [Program.elem, ht]
    have ht' : P.underlying t = some (.slice (P.elem t)) := by rw [he]; exact ht
    rw [run_slice_l wx t (some ad) n c ht' kl K (by omega) (by omega), he]
    have hm : n - k = m := by omega
    simp [sizeOf, typeInfo, hi, hsz, sliced, hK, hm]
    split <;> rfl
  · intro hpos
    rw [List.length_drop, hx, hn, Nat.add_mul] at hpos
    have hm : 0 < m := by
      rcases Nat.eq_zero_or_pos m with h0 | h0
      · rw [h0, Nat.zero_mul] at hpos; omega
      · exact h0
    obtain ⟨b, o, e, hb, hcell⟩ := h (by rw [hx, hn, Nat.add_mul]; omega)
    cases e
    rw [if_neg (by omega)]
    refine ⟨b, o + k * size, by simp [Addr.add], hb, fun j hj => ?_⟩
    rw [List.length_drop] at hj
    rw [Nat.add_assoc, hcell (k * size + j) (by omega)]
    simp
end Go.Proofs.Ytepefocpeeihdaa

/- Turns by the document: is a card's turn the first one; an item at its place. -/
namespace Go.Proofs.Ytepefocpeeihdaa
set_option linter.unusedVariables false
set_option linter.unusedSimpArgs false
open Go Go.RowKit BitM

theorem tcl_lens {l : List Tn} (h : ∀ t ∈ l, okCd t.cd) : ∀ x ∈ l, (tcl x).length = 31 := fun x hx => tcl_len (h x hx)
theorem icl_lens {l : List Im} (h : ∀ t ∈ l, okCd t.cd) : ∀ x ∈ l, (icl x).length = 28 := fun x hx => icl_len (h x hx)
def iOf : Value → Int | .int _ q => q | _ => 0
/-- The cells of a turn that lies in a slice. -/
theorem turn_cells {w : World} {A : Option Addr} {n c : Nat} {l : List Tn} (h : SeesR tcl w A n c l) (hok : ∀ t ∈ l, okCd t.cd) (hl : 0 < l.length) :
    ∃ b o, A = some ⟨b, o, none⟩ ∧ b < w.heap.size ∧ ∀ W, Below w.heap.size w W → ∀ k (hk : k < l.length), W.cell? ⟨b, o + k * 31, none⟩ = some (.int .i64 l[k].sq) ∧ W.cell? ⟨b, o + k * 31 + 1, none⟩ = some (.int .i64 l[k].id) ∧
      W.cell? ⟨b, o + k * 31 + 2, none⟩ = some (.int .i64 l[k].old) ∧ W.cell? ⟨b, o + k * 31 + 3, none⟩ = some (.int .i64 l[k].nw) ∧ W.rangeAt b (o + k * 31) (tcl l[k]) ∧ W.rangeAt b (o + k * 31 + 4) (ccl l[k].cd) := by
  obtain ⟨b, o, e, hb, hr⟩ := h.gets (tcl_lens hok) (by omega) hl
  refine ⟨b, o, e, hb, fun W hW k hk => ?_⟩
  have r := hr W hW k hk
  refine ⟨r 0 _ rfl, r 1 _ rfl, r 2 _ rfl, r 3 _ rfl, r, fun j v hj => ?_⟩
  have := r (4 + j) v (by
    unfold tcl
    rw [List.getElem?_append_right (by simp)]
    simpa using hj)
  rw [show o + k * 31 + 4 + j = o + k * 31 + (4 + j) by omega]
  exact this
theorem item_cells {w : World} {A : Option Addr} {n c : Nat} {l : List Im} (h : SeesR icl w A n c l) (hok : ∀ t ∈ l, okCd t.cd) (hl : 0 < l.length) :
    ∃ b o, A = some ⟨b, o, none⟩ ∧ b < w.heap.size ∧ ∀ W, Below w.heap.size w W → ∀ k (hk : k < l.length), W.cell? ⟨b, o + k * 28, none⟩ = some (.int .i64 l[k].kd) ∧ W.cell? ⟨b, o + k * 28 + 1, none⟩ = some (.int .i64 l[k].cd.1) ∧
      W.rangeAt b (o + k * 28) (icl l[k]) ∧ W.rangeAt b (o + k * 28 + 1) (ccl l[k].cd) := by
  obtain ⟨b, o, e, hb, hr⟩ := h.gets (icl_lens hok) (by omega) hl
  refine ⟨b, o, e, hb, fun W hW k hk => ?_⟩
  have r := hr W hW k hk
  refine ⟨r 0 _ rfl, r 1 _ rfl, r, fun j v hj => ?_⟩
  have := r (1 + j) v (by
    unfold icl
    rw [List.getElem?_append_right (by simp)]
    simpa using hj)
  rw [show o + k * 28 + 1 + j = o + k * 28 + (1 + j) by omega]
  exact this
set_option maxRecDepth 100000 in
set_option maxHeartbeats 1600000 in
theorem rfirst_any (A : Option Addr) (n c : Nat) (l : List Tn) (w : World) (h : SeesR tcl w A n c l) (hok : ∀ t ∈ l, okCd t.cd) (k : Nat) (hk : k < l.length) (hz : n ≤ 65536) (R : Bool) (hR : R = true ↔ firstAt l k) :
    Calls Try.prog 32 #[.slice A n c, .int .i64 (k : Int)] w fun e w' => e = .returned (.bool R) ∧ Below w.heap.size w w' := by
  have hu := Try.underlying32
  obtain ⟨b, o, rfl, _, hc⟩ := turn_cells h hok (by omega)
  have hkn : k < n := by rw [← h.len]; exact hk
  have HN := Lib.hid h.len
  have HC : Hid (∀ W, Below w.heap.size w W → ∀ j (hj : j < l.length), W.cell? ⟨b, o + j * 31 + 1, none⟩ = some (.int .i64 l[j].id)) := Lib.hid (fun W hW j hj => (hc W hW j hj).2.1)
  have HNO : Hid (∀ j (hj : j < k), (l[j]'(by omega)).id = l[k].id → R = false) := Lib.hid (fun j hj e => by
    cases hb : R with
    | false => rfl
    | true => exact absurd e (hR.1 hb j hj (by omega) hk))
  have HYES : Hid ((∀ j (hj : j < k), (l[j]'(by omega)).id ≠ l[k].id) → R = true) := Lib.hid (fun hh => hR.2 (fun j hj _ _ => hh j hj))
  clear hR h hc
  go_enter Try.func32, Try.ntmps32
  go_wp2_with fail
  go_loopw [5] (fun i wr => ∃ j : Nat, j ≤ k ∧ i = .int .i64 (j : Int) ∧ Hid (∀ m (hm : m < j) (hk' : m < k), (l[m]'(by omega)).id ≠ l[k].id) ∧ Hid (Below w.heap.size w wr)) (fun i _ => k - (iOf i).toNat)
  case atStart => exact ⟨0, by omega, rfl, Lib.hid (fun m hm => by omega), Lib.hid (Below.refl _ _)⟩
  case round =>
    obtain ⟨j, hj, rfl, HF, HB⟩ := hrel
    by_cases hlt : j < k
    · have d0 : decide ((j : Int) < (k : Int)) = true := decide_eq_true (by omega)
      have hjl : j < l.length := by omega
      have hjn : j < n := by omega
      have HBW : Hid (∀ W, Le wr W → Below w.heap.size w W) := Lib.hid (fun W hl => HB.out.trans (hl.mono HB.out.size))
      have HNJ := Lib.hid (fun e => HNO.out j hlt e)
      have HFJ : Hid (l[j].id ≠ l[k].id → ∀ m (hm : m < j + 1) (hk' : m < k), (l[m]'(by omega)).id ≠ l[k].id) := Lib.hid (fun hne m hm hk' => by
        by_cases e : m = j
        · subst e; exact hne
        · exact HF.out m (by omega) hk')
      have ca : ∀ kk : LW wr, kk.val.cell? ⟨b, o + j * 31 + 1, none⟩ = some (.int .i64 l[j].id) := fun kk => HC.out _ (HBW.out _ kk.le) j hjl
      have cb : ∀ kk : LW wr, kk.val.cell? ⟨b, o + k * 31 + 1, none⟩ = some (.int .i64 l[k].id) := fun kk => HC.out _ (HBW.out _ kk.le) k hk
      generalize hx : l[j].id = x at ca HNJ HFJ
      generalize hy : l[k].id = y at cb HNJ
      rw [hy] at HFJ
      have HY := Lib.hid hy
      clear hx hy HC HNO HYES HF
      by_cases hxy : x = y
      · have HR := Lib.hid (HNJ.out hxy)
        have d1 : decide (x = y) = true := decide_eq_true hxy
        have d1' : (x == y) = true := by simpa using hxy
        clear hxy
        go_wp2_with fail
        refine wp_region_steady [] 22 (by kernel_rfl) (by kernel_rfl) (by kernel_rfl) (by rfl) ?_
        iterate 11 (refine wpG_quiet (by rfl) (by rfl) (by rfl) (fun K hK => ?_); go_big_quiet_op; refine hK _ ?_; clear hK K)
        refine wpG_nil fun w1 hl _ => ?_
        have HB1 := Lib.hid (HBW.out w1 hl)
        clear HBW
        go_wp2_with fail
        go_ret
        exact ⟨by rw [HR.out]; rfl, HB1.out⟩
      · have d1 : decide (x = y) = false := decide_eq_false hxy
        have d1' : (x == y) = false := by simpa using hxy
        have HX := Lib.hid hxy
        clear hxy
        go_wp2_with fail
        refine wp_region_steady [] 22 (by kernel_rfl) (by kernel_rfl) (by kernel_rfl) (by rfl) ?_
        iterate 11 (refine wpG_quiet (by rfl) (by rfl) (by rfl) (fun K hK => ?_); go_big_quiet_op; refine hK _ ?_; clear hK K)
        refine wpG_nil fun w1 hl _ => ?_
        have HB1 := Lib.hid (HBW.out w1 hl)
        clear HBW
        go_wp2_with fail
        go_roundw
        case rel => exact ⟨j + 1, by omega, by go_num, Lib.hid (HFJ.out HX.out), HB1⟩
        case measure => simp [iOf]; omega
    · obtain rfl : j = k := by omega
      have HR := Lib.hid (HYES.out (fun m hm => HF.out m hm hm))
      clear HNO HYES HC HF
      go_wp2_with fail
      go_ret
      exact ⟨by rw [HR.out]; rfl, HB.out⟩
theorem rpos_le (L : List Im) (x : Im) : rpos L x ≤ L.length := by
  induction L with
  | nil => simp [rpos]
  | cons y L ih => rw [rpos_cons]; split <;> simp <;> omega
theorem rpos_low (x : Im) : ∀ (L : List Im) (k : Nat) (hk : k < L.length), k < rpos L x → rkey L[k] < rkey x
  | [], k, hk, _ => by simp at hk
  | y :: L, 0, _, h => by
    rw [rpos_cons] at h
    split at h
    · assumption
    · omega
  | y :: L, k + 1, hk, h => by
    rw [rpos_cons] at h
    split at h
    · exact rpos_low x L k (by simpa using hk) (by omega)
    · omega
theorem rpos_high (x : Im) : ∀ (L : List Im) (k : Nat) (hk : k < L.length), k = rpos L x → ¬ rkey L[k] < rkey x
  | [], k, hk, _ => by simp at hk
  | y :: L, 0, _, h => by
    rw [rpos_cons] at h
    split at h
    · omega
    · assumption
  | y :: L, k + 1, hk, h => by
    rw [rpos_cons] at h
    split at h
    · exact rpos_high x L k (by simpa using hk) (by omega)
    · omega
theorem info_itm : ∃ i0, Try.prog.info? 49 = some i0 ∧ i0.zero = some (.agg (icl ⟨0, zcd⟩).toArray) ∧ i0.size = 28 ∧ i0.bytes = 288 := by
  have h : (Try.prog.info? 49).map (fun i => (i.zero, i.size, i.bytes)) = some (some (.agg (icl ⟨0, zcd⟩).toArray), 28, 288) := by kernel_rfl
  cases hi : Try.prog.info? 49 with
  | none => rw [hi] at h; cases h
  | some i0 =>
    rw [hi] at h
    simp only [Option.map_some, Option.some.injEq, Prod.mk.injEq] at h
    exact ⟨i0, rfl, h.1, h.2.1, h.2.2⟩
theorem run_is1 (x : Im) (hx : okCd x.cd) (w : World) : (Instr.buildSlice 36 1 #[(0, .agg (icl x).toArray)]).run Try.prog w = .ok (.slice (some ⟨w.heap.size, 0, none⟩) 1 1) (w.alloc (.cells (icl x).toArray 49)) := by
  obtain ⟨k, i, v, lb, f⟩ := x
  obtain ⟨⟨_, _, _⟩, ⟨_, _, _⟩, ⟨_, _, _⟩, ⟨_, _, _⟩, ⟨_, _, _⟩, ⟨_, _, _⟩, ⟨_, _, _⟩, ⟨_, _, _⟩, e⟩ := tr_eight (show f.length = 8 from hx)
  subst e
  kernel_rfl
theorem exec_is1 {a : Act} {op : Oper} (y : Operand) (ho : op.op = .buildSlice 36 1 #[(0, y)]) (x : Im) (hx : okCd x.cd) (hy : a.eval y = .agg (icl x).toArray) (w : World) :
    (execOp a.eval op).run Try.prog w = .ok (.value (.slice (some ⟨w.heap.size, 0, none⟩) 1 1)) (w.alloc (.cells (icl x).toArray 49)) := by
  unfold execOp
  simp only [ho, List.map_toArray, List.map_cons, List.map_nil, hy, Sem.run_bind, run_is1 x hx, Result.andThen_ok, Sem.run_pure]
def GivesI (w : World) (L : List Im) (e : Ending) (w' : World) : Prop :=
  ∃ A' c', e = .returned (.slice A' L.length c') ∧ w'.ownsRow w.heap.size 49 28 (.slice A' L.length c') L.length (rws icl L) ∧ (0 < L.length → A'.isSome = true) ∧ Below w.heap.size w w'
set_option maxRecDepth 100000 in
set_option maxHeartbeats 3200000 in
theorem rput23_any (b o n c : Nat) (L : List Im) (x : Im) (w : World) (h : SeesR icl w (some ⟨b, o, none⟩) n c L) (hok : ∀ y ∈ L, okCd y.cd) (hx : okCd x.cd) (hz : n ≤ 65536) :
    Calls Try.prog 33 #[.slice (some ⟨b, o, none⟩) n c, .agg (icl x).toArray] w (GivesI w (rput L x)) := by
  have hu := Try.underlying49
  obtain ⟨i1, ji, jz0, jz1, jz2⟩ := info_itm
  have hpn : rpos L x ≤ n := by rw [← h.len]; exact rpos_le L x
  have HN := Lib.hid h.len
  have HLOW := Lib.hid (fun k (hk : k < L.length) (hp : k < rpos L x) => rpos_low x L k hk hp)
  have HHIGH := Lib.hid (fun k (hk : k < L.length) (hp : k = rpos L x) => rpos_high x L k hk hp)
  have HC : Hid (∀ W, Below w.heap.size w W → ∀ j (hj : j < L.length), W.cell? ⟨b, o + j * 28 + 1, none⟩ = some (.int .i64 (rkey L[j]))) := Lib.hid (fun W hW j hj => by
    obtain ⟨b', o', e, _, hr⟩ := item_cells h hok (by omega)
    cases e
    exact (hr W hW j hj).2.1)
  obtain ⟨ad1, hr1, hs1⟩ := rowcut_h (P := Try.prog) 36 49 i1 28 Try.underlying36 ji jz1 ⟨b, o, none⟩ n (rpos L x) c ((rpos L x : Nat) : Int) .i64 (by omega) rfl h.cap
  obtain ⟨ad2, hr2, hs2⟩ := rowcut_l (P := Try.prog) 36 49 i1 28 Try.underlying36 ji jz1 ⟨b, o, none⟩ n (n - rpos L x) (rpos L x) c ((rpos L x : Nat) : Int) .i64 (by omega) rfl h.cap
  have HR1 := Lib.hid hr1
  have HR2 := Lib.hid hr2
  have hgl : (rws icl L).length = n * 28 := by rw [rws_len _ (icl_lens hok), h.len]
  have HS1 := Lib.hid (fun W (hW : Below w.heap.size w W) => show Sees W W.heap.size (some ad1) (rws icl (L.take (rpos L x))) from by
    have := hs1 W W.heap.size _ (h.later hW).see
    rwa [rws_take L (rpos L x) (icl_lens hok)] at this)
  have HS2 := Lib.hid (fun W (hW : Below w.heap.size w W) => show Sees W W.heap.size (some ad2) (rws icl (L.drop (rpos L x))) from by
    have := hs2 W W.heap.size _ hgl (h.later hW).see
    rwa [rws_drop L (rpos L x) (icl_lens hok)] at this)
  have HL1 : Hid ((rws icl (L.take (rpos L x))).length = rpos L x * 28) := Lib.hid (by rw [rws_len _ (fun y hy => icl_lens hok y (List.mem_of_mem_take hy)), List.length_take]; congr 1; have := h.len; omega)
  have HL2 : Hid ((rws icl (L.drop (rpos L x))).length = (n - rpos L x) * 28) := Lib.hid (by rw [rws_len _ (fun y hy => icl_lens hok y (List.mem_of_mem_drop hy)), List.length_drop, h.len])
  have HFIN : Hid (∀ W A' c', Below w.heap.size w W → W.ownsRow w.heap.size 49 28 (.slice A' (n + 1) c') (n + 1) (rws icl (L.take (rpos L x)) ++ icl x ++ rws icl (L.drop (rpos L x))) → GivesI w (rput L x) (.returned (.slice A' (n + 1) c')) W) := Lib.hid (fun W A' c' hb hr => by
    have e : rws icl (L.take (rpos L x)) ++ icl x ++ rws icl (L.drop (rpos L x)) = rws icl (rput L x) := by unfold rput; rw [rws_append, rws_cons, List.append_assoc]
    have e2 : (rput L x).length = n + 1 := by
      have hln := h.len
      unfold rput
      simp only [List.length_append, List.length_cons, List.length_take, List.length_drop]
      omega
    rw [e] at hr
    refine ⟨A', c', by rw [e2], by rw [e2]; exact hr, fun _ => ?_, hb⟩
    rcases hr.2 with ⟨_, h0⟩ | ⟨g, cap, cur, hv, _⟩
    · omega
    · cases hv; rfl)
  have ones : Hid (∀ m : List Im, ∀ u ∈ rws icl m, u.oneCell' = true) := Lib.hid (fun m => rws_all (fun y _ => icl_one y))
  have HXL := Lib.hid (icl_len hx)
  have HX1 := Lib.hid (icl_one x)
  have HRK := Lib.hid (show rkey x = x.cd.1 from rfl)
  have B0 := Blk.new w (icl x) 49
  have hb0 := (Below.refl w.heap.size w).alloc (Nat.le_refl _) (.cells (icl x).toArray 49)
  obtain ⟨W0, hW0⟩ : ∃ W0, W0 = w.alloc (.cells (icl x).toArray 49) := ⟨_, rfl⟩
  have hs0 : W0.heap.size = w.heap.size + 1 := by rw [hW0]; simp
  rw [← hW0] at B0 hb0
  have hk1 : ∀ W, Blk W w.heap.size (icl x) → W.cell? ⟨w.heap.size, 1, none⟩ = some (.int .i64 (rkey x)) := fun W hW => hW.cell (j := 1) rfl
  have HK1 := Lib.hid hk1
  have HEX := Lib.hid (fun (W : World) (a : Act) (op : Oper) (y : Operand) (ho : op.op = .buildSlice 36 1 #[(0, y)]) (hy : a.eval y = .agg (icl x).toArray) => exec_is1 (a := a) (op := op) y ho x hx hy W)
  have HB0 := Lib.hid hb0
  have HBK := Lib.hid B0
  obtain ⟨X, hX⟩ : ∃ X, X = icl x := ⟨_, rfl⟩
  rw [← hX] at HFIN HXL HX1 HK1 HEX HBK hW0 ⊢
  have HXX := Lib.hid hX
  generalize hp : rpos L x = p at hpn HLOW HHIGH HR1 HR2 HS1 HS2 HL1 HL2 HFIN
  generalize hkx : rkey x = kx at HLOW HHIGH HK1
  have HCAP := Lib.hid h.cap
  clear h hok hx hs1 hs2 hr1 hr2 hgl B0 hb0 hk1 hX hp hkx HRK
  have hcap := HCAP.out
  subst hW0
  go_enter Try.func33, Try.ntmps33
  go_wp2_with fail
  go_loopw [5] (fun i wr => ∃ k : Nat, k ≤ p ∧ i = .int .i64 (k : Int) ∧ Hid (Blk wr w.heap.size X) ∧ Hid (Below w.heap.size w wr)) (fun i _ => p - (iOf i).toNat)
  case atStart => exact ⟨0, by omega, rfl, HBK, HB0⟩
  case round =>
    obtain ⟨k, hk, rfl, HBX, HB⟩ := hrel
    have HBW : Hid (∀ W, Le wr W → Below w.heap.size w W) := Lib.hid (fun W hl => HB.out.trans (hl.mono HB.out.size))
    have cx : ∀ kk : LW wr, kk.val.cell? ⟨w.heap.size, 1, none⟩ = some (.int .i64 kx) := fun kk => HK1.out _ (HBX.out.later kk.le)
    by_cases hlt : k < p
    · have d0 : decide ((k : Int) < (n : Int)) = true := decide_eq_true (by omega)
      have hkn : k < n := by omega
      have hkl : k < L.length := by rw [HN.out]; exact hkn
      have ca : ∀ kk : LW wr, kk.val.cell? ⟨b, o + k * 28 + 1, none⟩ = some (.int .i64 (rkey L[k])) := fun kk => HC.out _ (HBW.out _ kk.le) k hkl
      have dq : decide (rkey L[k] < kx) = true := decide_eq_true (HLOW.out k hkl hlt)
      generalize rkey L[k] = q at ca dq
      clear HLOW HHIGH HR1 HR2 HS1 HS2 HL1 HL2 HFIN HC ones HEX HK1
      go_wp2_with fail
      refine wp_region_steady [] 39 (by kernel_rfl) (by kernel_rfl) (by kernel_rfl) (by rfl) ?_
      iterate 16 (refine wpG_quiet (by rfl) (by rfl) (by rfl) (fun K hK => ?_); go_big_quiet_op; refine hK _ ?_; clear hK K)
      refine wpG_nil fun w1 hl _ => ?_
      have HB1 := Lib.hid (HBW.out w1 hl)
      have HBX1 := Lib.hid (HBX.out.later hl)
      clear HBW
      go_wp2_with fail
      go_roundw
      case rel => exact ⟨k + 1, by omega, by go_num, HBX1, HB1⟩
      case measure => simp [iOf]; omega
    · obtain rfl : k = p := by omega
      by_cases hkn : k < n
      · have d0 : decide ((k : Int) < (n : Int)) = true := decide_eq_true (by omega)
        have hkl : k < L.length := by rw [HN.out]; exact hkn
        have ca : ∀ kk : LW wr, kk.val.cell? ⟨b, o + k * 28 + 1, none⟩ = some (.int .i64 (rkey L[k])) := fun kk => HC.out _ (HBW.out _ kk.le) k hkl
        have dq : decide (rkey L[k] < kx) = false := decide_eq_false (by have := HHIGH.out k hkl rfl; omega)
        generalize rkey L[k] = q at ca dq
        clear HLOW HHIGH HC HK1
        go_wp2_with fail
        refine wp_region_steady [] 39 (by kernel_rfl) (by kernel_rfl) (by kernel_rfl) (by rfl) ?_
        iterate 16 (refine wpG_quiet (by rfl) (by rfl) (by rfl) (fun K hK => ?_); go_big_quiet_op; refine hK _ ?_; clear hK K)
        refine wpG_nil fun w1 hl _ => ?_
        have HB1 := Lib.hid (HBW.out w1 hl)
        have HBX1 := Lib.hid (HBX.out.later hl)
        clear HBW cx
        have hz1 : w.heap.size + 1 ≤ w1.heap.size := HBX1.out.lt
        have hb4 := (Below.refl w1.heap.size w1).alloc (Nat.le_refl _) (.cells #[] 49)
        have HB4 := Lib.hid (HB1.out.alloc HB1.out.size (.cells #[] 49))
        have HR4 := Lib.hid (row_lit w1 (w.heap.size + 1) 49 28 0 #[] hz1 (by simp [maxLen]) rfl)
        have HS4 := Lib.hid (HS1.out _ HB4.out)
        have HBX4 := Lib.hid (HBX1.out.later hb4)
        have HZ4 : Hid (w.heap.size + 1 ≤ (w1.alloc (.cells #[] 49)).heap.size) := Lib.hid (Nat.le_trans hz1 hb4.size)
        clear hb4 hz1
        go_wp2_with (first
          | (refine wpList_exec (by rfl) (.slice (some ad1) k c) (exec_slice_h 36 (.tmp 26) (.tmp 27) rfl 49 Try.underlying36 _ _ _ rfl rfl HR1.out) ?_
             simp only [Act.put, List.setIfInBounds_toArray, List.set_cons_zero, List.set_cons_succ])
          | (at_builtin
             refine wpList_appk _ rfl (.tmp 25) (.tmp 28) 36 rfl (w.heap.size + 1) 49 i1 _ 28 288 Try.underlying36 ji jz0 jz1 jz2 rfl (by decide) (.slice (some ⟨w1.heap.size, 0, none⟩) 0 0) 0 [] rfl HR4.out _ (some ad1) c (rws icl (L.take k)) k rfl HL1.out HS4.out (ones.out _) (by unfold maxLen; omega) (by omega) HZ4.out ?_
             intro A6 c6 w6 hr6 hb6 hg6 hat6
             simp only [Nat.zero_add, List.nil_append] at hr6 ⊢
             have HB6 := Lib.hid (HB4.out.trans (hb6.mono (by omega)))
             have HBX6 := Lib.hid (HBX4.out.below hb6 (by omega))
             have RG6 := HBX6.out.wholeC
             have hz6 := HBX6.out.lt
             have B7 := Blk.new w6 X 49
             have hb7 := (Below.refl w6.heap.size w6).alloc (Nat.le_refl _) (.cells X.toArray 49)
             have HEX6 := Lib.hid (HEX.out w6)
             obtain ⟨W7, hW7⟩ : ∃ W7, W7 = w6.alloc (.cells X.toArray 49) := ⟨_, rfl⟩
             rw [← hW7] at B7 hb7 HEX6
             have HR7 := Lib.hid (row_later hr6 hb7)
             have HB7 := Lib.hid (HB6.out.trans (hb7.mono HB6.out.size))
             have HZ7 : Hid (w.heap.size + 1 ≤ W7.heap.size) := Lib.hid (Nat.le_trans hz6 hb7.size)
             have HS7 : Hid (Sees W7 W7.heap.size (some ⟨w6.heap.size, 0, none⟩) X) := Lib.hid (fun _ => ⟨w6.heap.size, 0, rfl, B7.lt, fun j hj => by rw [Nat.zero_add]; exact B7.cell (List.getElem?_eq_getElem hj)⟩)
             clear hr6 hg6 hat6 hb6 hz6 B7 hb7 hW7)
          | (refine wpList_load_mid rfl 49 (.tmp 3) rfl w.heap.size 0 rfl X _ RG6 hu rfl (by rw [HXL.out]; exact info_item) ?_
             simp only [Act.put, List.setIfInBounds_toArray, List.set_cons_zero, List.set_cons_succ])
          | (refine wpList_execx (by rfl) (.slice (some ⟨w6.heap.size, 0, none⟩) 1 1) (HEX6.out _ _ (.tmp 31) rfl rfl) ?_
             simp only [Act.put, List.setIfInBounds_toArray, List.set_cons_zero, List.set_cons_succ])
          | (at_builtin
             refine wpList_appk _ rfl (.tmp 30) (.tmp 32) 36 rfl (w.heap.size + 1) 49 i1 _ 28 288 Try.underlying36 ji jz0 jz1 jz2 rfl (by decide) (.slice A6 k c6) k (rws icl (L.take k)) rfl HR7.out _ (some ⟨w6.heap.size, 0, none⟩) 1 X 1 rfl (by rw [HXL.out]) HS7.out HX1.out (by unfold maxLen; omega) (by omega) HZ7.out ?_
             intro A8 c8 w8 hr8 hb8 hg8 hat8
             have HR8 := Lib.hid hr8
             have HB8 := Lib.hid (HB7.out.trans (hb8.mono (by omega)))
             have HS8 := Lib.hid (HS2.out w8 HB8.out)
             have HZ8 : Hid (w.heap.size + 1 ≤ w8.heap.size) := Lib.hid (Nat.le_trans HZ7.out hb8.size)
             clear hr8 hg8 hat8 hb8)
          | (refine wpList_exec (by rfl) (.slice (some ad2) (n - k) (c - k)) (exec_slice_l 36 (.tmp 35) (.tmp 36) rfl 49 Try.underlying36 _ _ _ rfl rfl HR2.out) ?_
             simp only [Act.put, List.setIfInBounds_toArray, List.set_cons_zero, List.set_cons_succ])
          | (at_builtin
             refine wpList_appk _ rfl (.tmp 34) (.tmp 37) 36 rfl (w.heap.size + 1) 49 i1 _ 28 288 Try.underlying36 ji jz0 jz1 jz2 rfl (by decide) (.slice A8 (k + 1) c8) (k + 1) _ rfl HR8.out _ (some ad2) (c - k) (rws icl (L.drop k)) (n - k) rfl HL2.out HS8.out (ones.out _) (by unfold maxLen; omega) (by omega) HZ8.out ?_
             intro A9 c9 w9 hr9 hb9 hg9 hat9
             rw [show k + 1 + (n - k) = n + 1 by omega] at hr9 ⊢
             have F1 := Lib.hid (HFIN.out w9 A9 c9 (HB8.out.trans (hb9.mono (by omega))) (row_lower hr9 (by omega)))
             clear hr9 hg9 hat9 hb9)
          | fail)
        go_ret
        exact F1.out
      · have d0 : decide ((k : Int) < (n : Int)) = false := decide_eq_false (by omega)
        clear HLOW HHIGH HC HK1
        go_wp2_with fail
        refine wp_region_steady [] 39 (by kernel_rfl) (by kernel_rfl) (by kernel_rfl) (by rfl) ?_
        iterate 5 (refine wpG_quiet (by rfl) (by rfl) (by rfl) (fun K hK => ?_); go_big_quiet_op; refine hK _ ?_; clear hK K)
        iterate 10 (refine wpG_skip (by rfl) ?_; simp only [Act.put, List.setIfInBounds_toArray, List.set_cons_zero, List.set_cons_succ])
        refine wpG_quiet (by rfl) (by rfl) (by rfl) (fun K hK => ?_)
        go_big_quiet_op
        refine hK _ ?_
        clear hK K
        refine wpG_nil fun w1 hl _ => ?_
        have HB1 := Lib.hid (HBW.out w1 hl)
        have HBX1 := Lib.hid (HBX.out.later hl)
        clear HBW cx
        have hz1 : w.heap.size + 1 ≤ w1.heap.size := HBX1.out.lt
        have hb4 := (Below.refl w1.heap.size w1).alloc (Nat.le_refl _) (.cells #[] 49)
        have HB4 := Lib.hid (HB1.out.alloc HB1.out.size (.cells #[] 49))
        have HR4 := Lib.hid (row_lit w1 (w.heap.size + 1) 49 28 0 #[] hz1 (by simp [maxLen]) rfl)
        have HS4 := Lib.hid (HS1.out _ HB4.out)
        have HBX4 := Lib.hid (HBX1.out.later hb4)
        have HZ4 : Hid (w.heap.size + 1 ≤ (w1.alloc (.cells #[] 49)).heap.size) := Lib.hid (Nat.le_trans hz1 hb4.size)
        clear hb4 hz1
        go_wp2_with (first
          | (refine wpList_exec (by rfl) (.slice (some ad1) k c) (exec_slice_h 36 (.tmp 26) (.tmp 27) rfl 49 Try.underlying36 _ _ _ rfl rfl HR1.out) ?_
             simp only [Act.put, List.setIfInBounds_toArray, List.set_cons_zero, List.set_cons_succ])
          | (at_builtin
             refine wpList_appk _ rfl (.tmp 25) (.tmp 28) 36 rfl (w.heap.size + 1) 49 i1 _ 28 288 Try.underlying36 ji jz0 jz1 jz2 rfl (by decide) (.slice (some ⟨w1.heap.size, 0, none⟩) 0 0) 0 [] rfl HR4.out _ (some ad1) c (rws icl (L.take k)) k rfl HL1.out HS4.out (ones.out _) (by unfold maxLen; omega) (by omega) HZ4.out ?_
             intro A6 c6 w6 hr6 hb6 hg6 hat6
             simp only [Nat.zero_add, List.nil_append] at hr6 ⊢
             have HB6 := Lib.hid (HB4.out.trans (hb6.mono (by omega)))
             have HBX6 := Lib.hid (HBX4.out.below hb6 (by omega))
             have RG6 := HBX6.out.wholeC
             have hz6 := HBX6.out.lt
             have B7 := Blk.new w6 X 49
             have hb7 := (Below.refl w6.heap.size w6).alloc (Nat.le_refl _) (.cells X.toArray 49)
             have HEX6 := Lib.hid (HEX.out w6)
             obtain ⟨W7, hW7⟩ : ∃ W7, W7 = w6.alloc (.cells X.toArray 49) := ⟨_, rfl⟩
             rw [← hW7] at B7 hb7 HEX6
             have HR7 := Lib.hid (row_later hr6 hb7)
             have HB7 := Lib.hid (HB6.out.trans (hb7.mono HB6.out.size))
             have HZ7 : Hid (w.heap.size + 1 ≤ W7.heap.size) := Lib.hid (Nat.le_trans hz6 hb7.size)
             have HS7 : Hid (Sees W7 W7.heap.size (some ⟨w6.heap.size, 0, none⟩) X) := Lib.hid (fun _ => ⟨w6.heap.size, 0, rfl, B7.lt, fun j hj => by rw [Nat.zero_add]; exact B7.cell (List.getElem?_eq_getElem hj)⟩)
             clear hr6 hg6 hat6 hb6 hz6 B7 hb7 hW7)
          | (refine wpList_load_mid rfl 49 (.tmp 3) rfl w.heap.size 0 rfl X _ RG6 hu rfl (by rw [HXL.out]; exact info_item) ?_
             simp only [Act.put, List.setIfInBounds_toArray, List.set_cons_zero, List.set_cons_succ])
          | (refine wpList_execx (by rfl) (.slice (some ⟨w6.heap.size, 0, none⟩) 1 1) (HEX6.out _ _ (.tmp 31) rfl rfl) ?_
             simp only [Act.put, List.setIfInBounds_toArray, List.set_cons_zero, List.set_cons_succ])
          | (at_builtin
             refine wpList_appk _ rfl (.tmp 30) (.tmp 32) 36 rfl (w.heap.size + 1) 49 i1 _ 28 288 Try.underlying36 ji jz0 jz1 jz2 rfl (by decide) (.slice A6 k c6) k (rws icl (L.take k)) rfl HR7.out _ (some ⟨w6.heap.size, 0, none⟩) 1 X 1 rfl (by rw [HXL.out]) HS7.out HX1.out (by unfold maxLen; omega) (by omega) HZ7.out ?_
             intro A8 c8 w8 hr8 hb8 hg8 hat8
             have HR8 := Lib.hid hr8
             have HB8 := Lib.hid (HB7.out.trans (hb8.mono (by omega)))
             have HS8 := Lib.hid (HS2.out w8 HB8.out)
             have HZ8 : Hid (w.heap.size + 1 ≤ w8.heap.size) := Lib.hid (Nat.le_trans HZ7.out hb8.size)
             clear hr8 hg8 hat8 hb8)
          | (refine wpList_exec (by rfl) (.slice (some ad2) (n - k) (c - k)) (exec_slice_l 36 (.tmp 35) (.tmp 36) rfl 49 Try.underlying36 _ _ _ rfl rfl HR2.out) ?_
             simp only [Act.put, List.setIfInBounds_toArray, List.set_cons_zero, List.set_cons_succ])
          | (at_builtin
             refine wpList_appk _ rfl (.tmp 34) (.tmp 37) 36 rfl (w.heap.size + 1) 49 i1 _ 28 288 Try.underlying36 ji jz0 jz1 jz2 rfl (by decide) (.slice A8 (k + 1) c8) (k + 1) _ rfl HR8.out _ (some ad2) (c - k) (rws icl (L.drop k)) (n - k) rfl HL2.out HS8.out (ones.out _) (by unfold maxLen; omega) (by omega) HZ8.out ?_
             intro A9 c9 w9 hr9 hb9 hg9 hat9
             rw [show k + 1 + (n - k) = n + 1 by omega] at hr9 ⊢
             have F1 := Lib.hid (HFIN.out w9 A9 c9 (HB8.out.trans (hb9.mono (by omega))) (row_lower hr9 (by omega)))
             clear hr9 hg9 hat9 hb9)
          | fail)
        go_ret
        exact F1.out
end Go.Proofs.Ytepefocpeeihdaa

/- Which turns go on: the document's Check. -/
namespace Go.Proofs.Ytepefocpeeihdaa
set_option linter.unusedVariables false
set_option linter.unusedSimpArgs false
open Go Go.RowKit BitM

theorem go_next {l : List Tn} {k : Nat} (hk : k < l.length) (h : goTo l k = true) (h1 : tmay l[k] = true) (h2 : k = 0 ∨ sqAt l k < l[k].sq) (h3 : ∀ u, lastT (l.take k) l[k].id = some u → u.nw = l[k].old) : goTo l (k + 1) = true := by
  rw [goTo_succ, h, goAt_here hk, h1, decide_eq_true h2]
  cases hl : lastT (l.take k) l[k].id with
  | none => rfl
  | some u => simp [h3 u hl]
theorem no_may {l : List Tn} {k : Nat} (hk : k < l.length) (h : tmay l[k] = false) : goes l = false := goes_no hk (by rw [goAt_here hk, h]; rfl)
theorem no_seq {l : List Tn} {m : Nat} (hk : m + 1 < l.length) (h : l[m + 1].sq ≤ l[m].sq) : goes l = false := goes_no hk (by
  rw [goAt_here hk, decide_eq_false (by
    rintro (e | e)
    · omega
    · unfold sqAt at e
      simp only [List.getElem?_eq_getElem (show m < l.length by omega), Option.map_some, Option.getD_some] at e
      omega), Bool.and_false, Bool.false_and])
theorem no_old {l : List Tn} {k : Nat} (hk : k < l.length) {u : Tn} (h : lastT (l.take k) l[k].id = some u) (h2 : u.nw ≠ l[k].old) : goes l = false := goes_no hk (by
  rw [goAt_here hk, h]
  simp [h2])
theorem sq_prev {l : List Tn} {m : Nat} (hk : m + 1 < l.length) (h : l[m].sq < l[m + 1].sq) : sqAt l (m + 1) < l[m + 1].sq := by
  unfold sqAt
  simp only [List.getElem?_eq_getElem (show m < l.length by omega), Option.map_some, Option.getD_some]
  exact h
set_option maxRecDepth 100000 in
set_option maxHeartbeats 6400000 in
theorem rgoes_any (A : Option Addr) (n c : Nat) (l : List Tn) (w : World) (h : SeesR tcl w A n c l) (hok : ∀ t ∈ l, okCd t.cd) (hz : n ≤ 65536) :
    Calls Try.prog 12 #[.slice A n c] w fun e w' => e = .returned (.bool (goes l)) ∧ Below w.heap.size w w' := by
  have hu := Try.underlying32
  have HS := Lib.hid h
  have HN := Lib.hid h.len
  obtain ⟨R, hR⟩ : ∃ R, R = goes l := ⟨_, rfl⟩
  rw [← hR]
  have HF0 := Lib.hid (fun k (hk : k < l.length) (e : tmay l[k] = false) => show R = false by rw [hR]; exact no_may hk e)
  have HF1 := Lib.hid (fun m (hk : m + 1 < l.length) (e : l[m + 1].sq ≤ l[m].sq) => show R = false by rw [hR]; exact no_seq hk e)
  have HF2 := Lib.hid (fun k (hk : k < l.length) u (e : lastT (l.take k) l[k].id = some u) (e2 : u.nw ≠ l[k].old) => show R = false by rw [hR]; exact no_old hk e e2)
  have HALL := Lib.hid (fun (e : goTo l l.length = true) => show R = true by rw [hR]; exact e)
  have HTU := Lib.hid (fun k (hk : k < l.length) wx => rturn_any l[k] wx (hok _ (List.getElem_mem hk)))
  have HTL := Lib.hid (fun k (hk : k < l.length) => tcl_len (hok _ (List.getElem_mem hk)))
  have HCE : Hid (∀ k, k < l.length → ∃ b o, A = some ⟨b, o, none⟩ ∧ ∀ W, Below w.heap.size w W → ∀ k (hk : k < l.length), W.cell? ⟨b, o + k * 31, none⟩ = some (.int .i64 l[k].sq) ∧ W.cell? ⟨b, o + k * 31 + 1, none⟩ = some (.int .i64 l[k].id) ∧
      W.cell? ⟨b, o + k * 31 + 2, none⟩ = some (.int .i64 l[k].old) ∧ W.cell? ⟨b, o + k * 31 + 3, none⟩ = some (.int .i64 l[k].nw) ∧ W.rangeAt b (o + k * 31) (tcl l[k])) := Lib.hid (fun k hk => by
    obtain ⟨b, o, e, _, hc⟩ := turn_cells h hok (by omega)
    exact ⟨b, o, e, fun W hW k hk => ⟨(hc W hW k hk).1, (hc W hW k hk).2.1, (hc W hW k hk).2.2.1, (hc W hW k hk).2.2.2.1, (hc W hW k hk).2.2.2.2.1⟩⟩)
  clear hR h
  go_enter Try.func12, Try.ntmps12
  go_wp2_with fail
  go_loopw [3] (fun i wr => ∃ k : Nat, k ≤ n ∧ i = .int .i64 (k : Int) ∧ Hid (goTo l k = true) ∧ Hid (Below w.heap.size w wr)) (fun i _ => n - (iOf i).toNat)
  case atStart => exact ⟨0, by omega, rfl, Lib.hid rfl, Lib.hid (Below.refl _ _)⟩
  case round =>
    obtain ⟨k, hk, rfl, HK, HB⟩ := hrel
    by_cases hlt : k < n
    · have d0 : decide ((k : Int) < (n : Int)) = true := decide_eq_true (by omega)
      have hkl : k < l.length := by rw [HN.out]; exact hlt
      obtain ⟨b, o, rfl, hcc⟩ := HCE.out k hkl
      have HCC := Lib.hid hcc
      have HNEXT : Hid (tmay l[k] = true → (k = 0 ∨ sqAt l k < l[k].sq) → (∀ u, lastT (l.take k) l[k].id = some u → u.nw = l[k].old) → goTo l (k + 1) = true) := Lib.hid (go_next hkl HK.out)
      have HNM := Lib.hid (HF0.out k hkl)
      have HNO := Lib.hid (HF2.out k hkl)
      have HNS : Hid (∀ m (hm : k = m + 1), l[k].sq ≤ (l[m]'(by omega)).sq → R = false) := Lib.hid (fun m hm e => by subst hm; exact HF1.out m hkl e)
      have HSQ : Hid (∀ m (hm : k = m + 1), (l[m]'(by omega)).sq < l[k].sq → sqAt l k < l[k].sq) := Lib.hid (fun m hm e => by subst hm; exact sq_prev hkl e)
      have HT := Lib.hid (HTU.out k hkl)
      have HTT := Lib.hid (HTL.out k hkl)
      have HBW : Hid (∀ W, Le wr W → Below w.heap.size w W) := Lib.hid (fun W hl => HB.out.trans (hl.mono HB.out.size))
      have HRG := Lib.hid (fun W hW => (hcc W hW k hkl).2.2.2.2)
      have cq : ∀ kk : LW wr, kk.val.cell? ⟨b, o + k * 31, none⟩ = some (.int .i64 l[k].sq) := fun kk => (HCC.out _ (HBW.out _ kk.le) k hkl).1
      obtain ⟨TT, hTT⟩ : ∃ TT, TT = tcl l[k] := ⟨_, rfl⟩
      rw [← hTT] at HT HTT HRG
      have HX : Hid (∃ x, x = l[k].id) := Lib.hid ⟨_, rfl⟩
      obtain ⟨q, hq⟩ : ∃ q, q = l[k].sq := ⟨_, rfl⟩
      rw [← hq] at cq HNEXT HNS HSQ
      obtain ⟨tm, htm⟩ : ∃ tm, tm = tmay l[k] := ⟨_, rfl⟩
      rw [← htm] at HT HNEXT HNM
      clear hcc hTT hq htm HF0 HF1 HF2 HTU HTL HALL HS HX
      cases tm with
      | false =>
        have HR := Lib.hid (HNM.out rfl)
        go_wp2_with fail
        refine wp_region_steady [] 63 (by kernel_rfl) (by kernel_rfl) (by kernel_rfl) (by rfl) ?_
        iterate 3 (refine wpG_quiet (by rfl) (by rfl) (by rfl) (fun K hK => ?_); go_big_quiet_op; refine hK _ ?_; clear hK K)
        refine wpG_run (by rfl) (by rfl) (.agg TT.toArray) (fun wx hl => exec_load 32 (.tmp 13) rfl b (o + k * 31) rfl TT _ (HRG.out wx (HBW.out wx hl.1)) hu rfl (by rw [HTT.out]; exact info_turn)) ?_
        simp only [Act.put, List.setIfInBounds_toArray, List.set_cons_zero, List.set_cons_succ]
        refine wpG_call (by rfl) (by rfl) 27 #[.agg TT.toArray] (.bool false) (by intro _; simp [go_sem]) (by kernel_rfl) (fun wx hl => HT.out wx) ?_
        simp only [Act.put, List.setIfInBounds_toArray, List.set_cons_zero, List.set_cons_succ]
        iterate 2 (refine wpG_quiet (by rfl) (by rfl) (by rfl) (fun K hK => ?_); go_big_quiet_op; refine hK _ ?_; clear hK K)
        iterate 16 (refine wpG_skip (by rfl) ?_; simp only [Act.put, List.setIfInBounds_toArray, List.set_cons_zero, List.set_cons_succ])
        iterate 1 (refine wpG_quiet (by rfl) (by rfl) (by rfl) (fun K hK => ?_); go_big_quiet_op; refine hK _ ?_; clear hK K)
        refine wpG_nil fun w1 hl _ => ?_
        have HB1 := Lib.hid (HBW.out w1 hl)
        clear HBW
        go_wp2_with fail
        go_ret
        exact ⟨by rw [HR.out]; rfl, HB1.out⟩
      | true =>
        by_cases h0 : k = 0
        · have d1 : decide ((0 : Int) < (k : Int)) = false := decide_eq_false (by omega)
          have d1' : decide (0 < k) = false := decide_eq_false (by omega)
          have H0 := Lib.hid h0
          clear h0
          go_wp2_with fail
          refine wp_region_steady [] 63 (by kernel_rfl) (by kernel_rfl) (by kernel_rfl) (by rfl) ?_
          iterate 3 (refine wpG_quiet (by rfl) (by rfl) (by rfl) (fun K hK => ?_); go_big_quiet_op; refine hK _ ?_; clear hK K)
          refine wpG_run (by rfl) (by rfl) (.agg TT.toArray) (fun wx hl => exec_load 32 (.tmp 13) rfl b (o + k * 31) rfl TT _ (HRG.out wx (HBW.out wx hl.1)) hu rfl (by rw [HTT.out]; exact info_turn)) ?_
          simp only [Act.put, List.setIfInBounds_toArray, List.set_cons_zero, List.set_cons_succ]
          refine wpG_call (by rfl) (by rfl) 27 #[.agg TT.toArray] (.bool true) (by intro _; simp [go_sem]) (by kernel_rfl) (fun wx hl => HT.out wx) ?_
          simp only [Act.put, List.setIfInBounds_toArray, List.set_cons_zero, List.set_cons_succ]
          iterate 5 (refine wpG_quiet (by rfl) (by rfl) (by rfl) (fun K hK => ?_); go_big_quiet_op; refine hK _ ?_; clear hK K)
          iterate 12 (refine wpG_skip (by rfl) ?_; simp only [Act.put, List.setIfInBounds_toArray, List.set_cons_zero, List.set_cons_succ])
          iterate 2 (refine wpG_quiet (by rfl) (by rfl) (by rfl) (fun K hK => ?_); go_big_quiet_op; refine hK _ ?_; clear hK K)
          refine wpG_nil fun w1 hl _ => ?_
          have HB1 := Lib.hid (HBW.out w1 hl)
          clear HBW
          have HSTEP : Hid ((∀ u, lastT (l.take k) l[k].id = some u → u.nw = l[k].old) → goTo l (k + 1) = true) := Lib.hid (HNEXT.out (by trivial) (.inl H0.out))
          have HBC : Hid (∀ W, Below w.heap.size w W → ∀ j (hj : j < l.length), W.cell? ⟨b, o + j * 31 + 1, none⟩ = some (.int .i64 l[j].id) ∧ W.cell? ⟨b, o + j * 31 + 2, none⟩ = some (.int .i64 l[j].old) ∧ W.cell? ⟨b, o + j * 31 + 3, none⟩ = some (.int .i64 l[j].nw)) := Lib.hid (fun W hW j hj => ⟨(HCC.out W hW j hj).2.1, (HCC.out W hW j hj).2.2.1, (HCC.out W hW j hj).2.2.2.1⟩)
          have HIK : Hid (∀ W, Below w.heap.size w W → W.cell? ⟨b, o + k * 31 + 1, none⟩ = some (.int .i64 l[k].id) ∧ W.cell? ⟨b, o + k * 31 + 2, none⟩ = some (.int .i64 l[k].old)) := Lib.hid (fun W hW => ⟨(HBC.out W hW k hkl).1, (HBC.out W hW k hkl).2.1⟩)
          generalize l[k].id = x at HSTEP HNO HIK
          generalize l[k].old = y at HSTEP HNO HIK
          clear HNEXT HNS HSQ HT HTT HRG HCC HCE HNM cq d1 d1'
          go_wp2_with fail
          go_loopw [4] (fun v wr => ∃ j : Nat, j ≤ k ∧ v = .int .i64 ((j : Int) - 1) ∧ Hid (lastT (l.take k) x = lastT (l.take j) x) ∧ Hid (Below w.heap.size w wr)) (fun v _ => (iOf v + 1).toNat)
          case atStart => exact ⟨k, by omega, rfl, Lib.hid rfl, HB1⟩
          case round =>
            obtain ⟨j, hj, rfl, HLJ, HBJ⟩ := hrel
            cases j with
            | zero =>
              have HG := Lib.hid (HSTEP.out (fun u hu => by rw [HLJ.out] at hu; cases hu))
              rw [show ((0 : Nat) : Int) - 1 = -1 by rfl]
              clear HSTEP HNO HBC HIK HLJ
              go_wp2_with fail
              go_roundw
              case rel => exact ⟨k + 1, by omega, by go_num, HG, HBJ⟩
              case measure => simp [iOf]; omega
            | succ m =>
              rw [show ((m + 1 : Nat) : Int) - 1 = (m : Int) by omega]
              have dm : decide (0 ≤ (m : Int)) = true := decide_eq_true (by omega)
              have hml : m < l.length := by omega
              have hmn : m < n := by omega
              have HBW : Hid (∀ W, Le wr W → Below w.heap.size w W) := Lib.hid (fun W hl => HBJ.out.trans (hl.mono HBJ.out.size))
              have ca : ∀ kk : LW wr, kk.val.cell? ⟨b, o + m * 31 + 1, none⟩ = some (.int .i64 l[m].id) := fun kk => (HBC.out _ (HBW.out _ kk.le) m hml).1
              have cb : ∀ kk : LW wr, kk.val.cell? ⟨b, o + k * 31 + 1, none⟩ = some (.int .i64 x) := fun kk => (HIK.out _ (HBW.out _ kk.le)).1
              have HLB : Hid (lastT (l.take (m + 1)) x = if l[m].id = x then some l[m] else lastT (l.take m) x) := Lib.hid (last_back hml x)
              have HNW : Hid (∀ W, Below w.heap.size w W → W.cell? ⟨b, o + m * 31 + 3, none⟩ = some (.int .i64 l[m].nw)) := Lib.hid (fun W hW => (HBC.out W hW m hml).2.2)
              have HNOM : Hid (l[m].id = x → l[m].nw ≠ y → R = false) := Lib.hid (fun e1 e2 => HNO.out l[m] (by rw [HLJ.out, HLB.out, if_pos e1]) e2)
              have HOKM : Hid (l[m].id = x → l[m].nw = y → goTo l (k + 1) = true) := Lib.hid (fun e1 e2 => HSTEP.out (fun u hu => by
                rw [HLJ.out, HLB.out, if_pos e1] at hu
                cases hu
                exact e2))
              have HGO : Hid (l[m].id ≠ x → lastT (l.take k) x = lastT (l.take m) x) := Lib.hid (fun e1 => by rw [HLJ.out, HLB.out, if_neg e1])
              generalize l[m].id = xm at ca HNOM HOKM HGO
              generalize l[m].nw = ym at HNW HNOM HOKM
              clear HSTEP HNO HBC HLB HLJ
              by_cases hx : xm = x
              · have dx : decide (xm = x) = true := decide_eq_true hx
                have dx' : (xm == x) = true := by simpa using hx
                have HNOM2 := Lib.hid (HNOM.out hx)
                have HOKM2 := Lib.hid (HOKM.out hx)
                clear HNOM HOKM HGO hx
                go_wp2_with fail
                refine wp_region_steady [] 63 (by kernel_rfl) (by kernel_rfl) (by kernel_rfl) (by rfl) ?_
                iterate 11 (refine wpG_quiet (by rfl) (by rfl) (by rfl) (fun K hK => ?_); go_big_quiet_op; refine hK _ ?_; clear hK K)
                refine wpG_nil fun w2 hl _ => ?_
                have HB2 := Lib.hid (HBW.out w2 hl)
                have HBW2 : Hid (∀ W, Le w2 W → Below w.heap.size w W) := Lib.hid (fun W hl => HB2.out.trans (hl.mono HB2.out.size))
                have cc : ∀ kk : LW w2, kk.val.cell? ⟨b, o + m * 31 + 3, none⟩ = some (.int .i64 ym) := fun kk => HNW.out _ (HBW2.out _ kk.le)
                have cd : ∀ kk : LW w2, kk.val.cell? ⟨b, o + k * 31 + 2, none⟩ = some (.int .i64 y) := fun kk => (HIK.out _ (HBW2.out _ kk.le)).2
                clear HBW ca cb HIK HNW hl
                by_cases hy : ym = y
                · have dy : decide (ym = y) = true := decide_eq_true hy
                  have dy' : (ym != y) = false := by simpa using hy
                  have HG := Lib.hid (HOKM2.out hy)
                  clear hy
                  go_wp2_with fail
                  refine wp_region_steady [] 63 (by kernel_rfl) (by kernel_rfl) (by kernel_rfl) (by rfl) ?_
                  iterate 11 (refine wpG_quiet (by rfl) (by rfl) (by rfl) (fun K hK => ?_); go_big_quiet_op; refine hK _ ?_; clear hK K)
                  refine wpG_nil fun w3 hl _ => ?_
                  have HB3 := Lib.hid (HBW2.out w3 hl)
                  clear HBW2
                  go_wp2_with fail
                  go_roundw
                  case rel => exact ⟨k + 1, by omega, by go_num, HG, HB3⟩
                  case measure => simp [iOf]; omega
                · have dy : decide (ym = y) = false := decide_eq_false hy
                  have dy' : (ym != y) = true := by simpa using hy
                  have HR := Lib.hid (HNOM2.out hy)
                  clear hy
                  go_wp2_with fail
                  refine wp_region_steady [] 63 (by kernel_rfl) (by kernel_rfl) (by kernel_rfl) (by rfl) ?_
                  iterate 11 (refine wpG_quiet (by rfl) (by rfl) (by rfl) (fun K hK => ?_); go_big_quiet_op; refine hK _ ?_; clear hK K)
                  refine wpG_nil fun w3 hl _ => ?_
                  have HB3 := Lib.hid (HBW2.out w3 hl)
                  clear HBW2
                  go_wp2_with fail
                  go_ret
                  exact ⟨by rw [HR.out]; rfl, HB3.out⟩
              · have dx : decide (xm = x) = false := decide_eq_false hx
                have dx' : (xm == x) = false := by simpa using hx
                have HGO2 := Lib.hid (HGO.out hx)
                clear HNOM HOKM HGO hx HNW
                go_wp2_with fail
                refine wp_region_steady [] 63 (by kernel_rfl) (by kernel_rfl) (by kernel_rfl) (by rfl) ?_
                iterate 11 (refine wpG_quiet (by rfl) (by rfl) (by rfl) (fun K hK => ?_); go_big_quiet_op; refine hK _ ?_; clear hK K)
                refine wpG_nil fun w2 hl _ => ?_
                have HB2 := Lib.hid (HBW.out w2 hl)
                clear HBW
                go_wp2_with fail
                go_roundw
                case rel => exact ⟨m, by omega, by go_num, HGO2, HB2⟩
                case measure => simp [iOf]
        · obtain ⟨m, hm⟩ : ∃ m, k = m + 1 := ⟨k - 1, by omega⟩
          have d1 : decide ((0 : Int) < (k : Int)) = true := decide_eq_true (by omega)
          have d1' : decide (0 < k) = true := decide_eq_true (by omega)
          obtain ⟨p, hp⟩ : ∃ p, p = (l[m]'(by omega)).sq := ⟨_, rfl⟩
          have cp : ∀ kk : LW wr, kk.val.cell? ⟨b, o + m * 31, none⟩ = some (.int .i64 p) := fun kk => by rw [hp]; exact (HCC.out _ (HBW.out _ kk.le) m (by omega)).1
          have HNS2 : Hid (q ≤ p → R = false) := Lib.hid (fun e => HNS.out m hm (by rw [← hp]; exact e))
          have HSQ2 : Hid (p < q → sqAt l k < q) := Lib.hid (fun e => HSQ.out m hm (by rw [← hp]; exact e))
          have km : (k : Int) - 1 = (m : Int) := by omega
          have hmn : m < n := by omega
          clear hp hm h0
          by_cases h4 : q ≤ p
          · have d4 : decide (q ≤ p) = true := decide_eq_true h4
            have HR := Lib.hid (HNS2.out h4)
            clear h4
            go_wp2_with fail
            refine wp_region_steady [] 63 (by kernel_rfl) (by kernel_rfl) (by kernel_rfl) (by rfl) ?_
            iterate 3 (refine wpG_quiet (by rfl) (by rfl) (by rfl) (fun K hK => ?_); go_big_quiet_op; refine hK _ ?_; clear hK K)
            refine wpG_run (by rfl) (by rfl) (.agg TT.toArray) (fun wx hl => exec_load 32 (.tmp 13) rfl b (o + k * 31) rfl TT _ (HRG.out wx (HBW.out wx hl.1)) hu rfl (by rw [HTT.out]; exact info_turn)) ?_
            simp only [Act.put, List.setIfInBounds_toArray, List.set_cons_zero, List.set_cons_succ]
            refine wpG_call (by rfl) (by rfl) 27 #[.agg TT.toArray] (.bool true) (by intro _; simp [go_sem]) (by kernel_rfl) (fun wx hl => HT.out wx) ?_
            simp only [Act.put, List.setIfInBounds_toArray, List.set_cons_zero, List.set_cons_succ]
            iterate 19 (refine wpG_quiet (by rfl) (by rfl) (by rfl) (fun K hK => ?_); go_big_quiet_op; refine hK _ ?_; clear hK K)
            refine wpG_nil fun w1 hl _ => ?_
            have HB1 := Lib.hid (HBW.out w1 hl)
            clear HBW
            go_wp2_with fail
            go_ret
            exact ⟨by rw [HR.out]; rfl, HB1.out⟩
          · have d4 : decide (q ≤ p) = false := decide_eq_false h4
            have HQP := Lib.hid (HSQ2.out (by omega))
            clear h4
            go_wp2_with fail
            refine wp_region_steady [] 63 (by kernel_rfl) (by kernel_rfl) (by kernel_rfl) (by rfl) ?_
            iterate 3 (refine wpG_quiet (by rfl) (by rfl) (by rfl) (fun K hK => ?_); go_big_quiet_op; refine hK _ ?_; clear hK K)
            refine wpG_run (by rfl) (by rfl) (.agg TT.toArray) (fun wx hl => exec_load 32 (.tmp 13) rfl b (o + k * 31) rfl TT _ (HRG.out wx (HBW.out wx hl.1)) hu rfl (by rw [HTT.out]; exact info_turn)) ?_
            simp only [Act.put, List.setIfInBounds_toArray, List.set_cons_zero, List.set_cons_succ]
            refine wpG_call (by rfl) (by rfl) 27 #[.agg TT.toArray] (.bool true) (by intro _; simp [go_sem]) (by kernel_rfl) (fun wx hl => HT.out wx) ?_
            simp only [Act.put, List.setIfInBounds_toArray, List.set_cons_zero, List.set_cons_succ]
            iterate 19 (refine wpG_quiet (by rfl) (by rfl) (by rfl) (fun K hK => ?_); go_big_quiet_op; refine hK _ ?_; clear hK K)
            refine wpG_nil fun w1 hl _ => ?_
            have HB1 := Lib.hid (HBW.out w1 hl)
            clear HBW
            have HSTEP : Hid ((∀ u, lastT (l.take k) l[k].id = some u → u.nw = l[k].old) → goTo l (k + 1) = true) := Lib.hid (HNEXT.out (by trivial) (.inr HQP.out))
            have HBC : Hid (∀ W, Below w.heap.size w W → ∀ j (hj : j < l.length), W.cell? ⟨b, o + j * 31 + 1, none⟩ = some (.int .i64 l[j].id) ∧ W.cell? ⟨b, o + j * 31 + 2, none⟩ = some (.int .i64 l[j].old) ∧ W.cell? ⟨b, o + j * 31 + 3, none⟩ = some (.int .i64 l[j].nw)) := Lib.hid (fun W hW j hj => ⟨(HCC.out W hW j hj).2.1, (HCC.out W hW j hj).2.2.1, (HCC.out W hW j hj).2.2.2.1⟩)
            have HIK : Hid (∀ W, Below w.heap.size w W → W.cell? ⟨b, o + k * 31 + 1, none⟩ = some (.int .i64 l[k].id) ∧ W.cell? ⟨b, o + k * 31 + 2, none⟩ = some (.int .i64 l[k].old)) := Lib.hid (fun W hW => ⟨(HBC.out W hW k hkl).1, (HBC.out W hW k hkl).2.1⟩)
            generalize l[k].id = x at HSTEP HNO HIK
            generalize l[k].old = y at HSTEP HNO HIK
            clear HNEXT HNS HSQ HT HTT HRG HCC HCE HNM cq cp d1 d1' d4 km hmn HNS2 HSQ2
            go_wp2_with fail
            go_loopw [4] (fun v wr => ∃ j : Nat, j ≤ k ∧ v = .int .i64 ((j : Int) - 1) ∧ Hid (lastT (l.take k) x = lastT (l.take j) x) ∧ Hid (Below w.heap.size w wr)) (fun v _ => (iOf v + 1).toNat)
            case atStart => exact ⟨k, by omega, rfl, Lib.hid rfl, HB1⟩
            case round =>
              obtain ⟨j, hj, rfl, HLJ, HBJ⟩ := hrel
              cases j with
              | zero =>
                have HG := Lib.hid (HSTEP.out (fun u hu => by rw [HLJ.out] at hu; cases hu))
                rw [show ((0 : Nat) : Int) - 1 = -1 by rfl]
                clear HSTEP HNO HBC HIK HLJ
                go_wp2_with fail
                go_roundw
                case rel => exact ⟨k + 1, by omega, by go_num, HG, HBJ⟩
                case measure => simp [iOf]; omega
              | succ m =>
                rw [show ((m + 1 : Nat) : Int) - 1 = (m : Int) by omega]
                have dm : decide (0 ≤ (m : Int)) = true := decide_eq_true (by omega)
                have hml : m < l.length := by omega
                have hmn : m < n := by omega
                have HBW : Hid (∀ W, Le wr W → Below w.heap.size w W) := Lib.hid (fun W hl => HBJ.out.trans (hl.mono HBJ.out.size))
                have ca : ∀ kk : LW wr, kk.val.cell? ⟨b, o + m * 31 + 1, none⟩ = some (.int .i64 l[m].id) := fun kk => (HBC.out _ (HBW.out _ kk.le) m hml).1
                have cb : ∀ kk : LW wr, kk.val.cell? ⟨b, o + k * 31 + 1, none⟩ = some (.int .i64 x) := fun kk => (HIK.out _ (HBW.out _ kk.le)).1
                have HLB : Hid (lastT (l.take (m + 1)) x = if l[m].id = x then some l[m] else lastT (l.take m) x) := Lib.hid (last_back hml x)
                have HNW : Hid (∀ W, Below w.heap.size w W → W.cell? ⟨b, o + m * 31 + 3, none⟩ = some (.int .i64 l[m].nw)) := Lib.hid (fun W hW => (HBC.out W hW m hml).2.2)
                have HNOM : Hid (l[m].id = x → l[m].nw ≠ y → R = false) := Lib.hid (fun e1 e2 => HNO.out l[m] (by rw [HLJ.out, HLB.out, if_pos e1]) e2)
                have HOKM : Hid (l[m].id = x → l[m].nw = y → goTo l (k + 1) = true) := Lib.hid (fun e1 e2 => HSTEP.out (fun u hu => by
                  rw [HLJ.out, HLB.out, if_pos e1] at hu
                  cases hu
                  exact e2))
                have HGO : Hid (l[m].id ≠ x → lastT (l.take k) x = lastT (l.take m) x) := Lib.hid (fun e1 => by rw [HLJ.out, HLB.out, if_neg e1])
                generalize l[m].id = xm at ca HNOM HOKM HGO
                generalize l[m].nw = ym at HNW HNOM HOKM
                clear HSTEP HNO HBC HLB HLJ
                by_cases hx : xm = x
                · have dx : decide (xm = x) = true := decide_eq_true hx
                  have dx' : (xm == x) = true := by simpa using hx
                  have HNOM2 := Lib.hid (HNOM.out hx)
                  have HOKM2 := Lib.hid (HOKM.out hx)
                  clear HNOM HOKM HGO hx
                  go_wp2_with fail
                  refine wp_region_steady [] 63 (by kernel_rfl) (by kernel_rfl) (by kernel_rfl) (by rfl) ?_
                  iterate 11 (refine wpG_quiet (by rfl) (by rfl) (by rfl) (fun K hK => ?_); go_big_quiet_op; refine hK _ ?_; clear hK K)
                  refine wpG_nil fun w2 hl _ => ?_
                  have HB2 := Lib.hid (HBW.out w2 hl)
                  have HBW2 : Hid (∀ W, Le w2 W → Below w.heap.size w W) := Lib.hid (fun W hl => HB2.out.trans (hl.mono HB2.out.size))
                  have cc : ∀ kk : LW w2, kk.val.cell? ⟨b, o + m * 31 + 3, none⟩ = some (.int .i64 ym) := fun kk => HNW.out _ (HBW2.out _ kk.le)
                  have cd : ∀ kk : LW w2, kk.val.cell? ⟨b, o + k * 31 + 2, none⟩ = some (.int .i64 y) := fun kk => (HIK.out _ (HBW2.out _ kk.le)).2
                  clear HBW ca cb HIK HNW hl
                  by_cases hy : ym = y
                  · have dy : decide (ym = y) = true := decide_eq_true hy
                    have dy' : (ym != y) = false := by simpa using hy
                    have HG := Lib.hid (HOKM2.out hy)
                    clear hy
                    go_wp2_with fail
                    refine wp_region_steady [] 63 (by kernel_rfl) (by kernel_rfl) (by kernel_rfl) (by rfl) ?_
                    iterate 11 (refine wpG_quiet (by rfl) (by rfl) (by rfl) (fun K hK => ?_); go_big_quiet_op; refine hK _ ?_; clear hK K)
                    refine wpG_nil fun w3 hl _ => ?_
                    have HB3 := Lib.hid (HBW2.out w3 hl)
                    clear HBW2
                    go_wp2_with fail
                    go_roundw
                    case rel => exact ⟨k + 1, by omega, by go_num, HG, HB3⟩
                    case measure => simp [iOf]; omega
                  · have dy : decide (ym = y) = false := decide_eq_false hy
                    have dy' : (ym != y) = true := by simpa using hy
                    have HR := Lib.hid (HNOM2.out hy)
                    clear hy
                    go_wp2_with fail
                    refine wp_region_steady [] 63 (by kernel_rfl) (by kernel_rfl) (by kernel_rfl) (by rfl) ?_
                    iterate 11 (refine wpG_quiet (by rfl) (by rfl) (by rfl) (fun K hK => ?_); go_big_quiet_op; refine hK _ ?_; clear hK K)
                    refine wpG_nil fun w3 hl _ => ?_
                    have HB3 := Lib.hid (HBW2.out w3 hl)
                    clear HBW2
                    go_wp2_with fail
                    go_ret
                    exact ⟨by rw [HR.out]; rfl, HB3.out⟩
                · have dx : decide (xm = x) = false := decide_eq_false hx
                  have dx' : (xm == x) = false := by simpa using hx
                  have HGO2 := Lib.hid (HGO.out hx)
                  clear HNOM HOKM HGO hx HNW
                  go_wp2_with fail
                  refine wp_region_steady [] 63 (by kernel_rfl) (by kernel_rfl) (by kernel_rfl) (by rfl) ?_
                  iterate 11 (refine wpG_quiet (by rfl) (by rfl) (by rfl) (fun K hK => ?_); go_big_quiet_op; refine hK _ ?_; clear hK K)
                  refine wpG_nil fun w2 hl _ => ?_
                  have HB2 := Lib.hid (HBW.out w2 hl)
                  clear HBW
                  go_wp2_with fail
                  go_roundw
                  case rel => exact ⟨m, by omega, by go_num, HGO2, HB2⟩
                  case measure => simp [iOf]
    · obtain rfl : k = n := by omega
      have HR := Lib.hid (HALL.out (by rw [HN.out]; exact HK.out))
      clear HF0 HF1 HF2 HALL HTU HTL HCE HS
      go_wp2_with fail
      go_ret
      exact ⟨by rw [HR.out]; rfl, HB.out⟩
end Go.Proofs.Ytepefocpeeihdaa
