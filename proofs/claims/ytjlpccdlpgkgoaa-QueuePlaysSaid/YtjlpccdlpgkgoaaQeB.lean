/- The iterator that tells a card's writes, in order. -/
import Derived.Test.YtjlpccdlpgkgoaaQeA
import Derived.Test.YtjlpccdlpgkgoaaTold
import Derived.Test.YtjlpccdlpgkgoaaBoxd
import Derived.Test.YtjlpccdlpgkgoaaTailIn
namespace Go.Proofs.Ytjlpccdlpgkgoaa
set_option linter.unusedVariables false
set_option linter.unusedSimpArgs false
open Go Go.RowKit Go.Shelf BitM
attribute [local go_sem] Oper.semAt_some

/-- What a round keeps: what lay ahead of all, and the two boxes of the iterator. -/
def Keep3 (n₀ Bl Bi : Nat) (X Y : World) : Prop := Below n₀ X Y ∧ Y.cell? ⟨Bl, 0, none⟩ = X.cell? ⟨Bl, 0, none⟩ ∧ Y.cell? ⟨Bi, 0, none⟩ = X.cell? ⟨Bi, 0, none⟩
theorem Keep3.trans {n₀ Bl Bi : Nat} {X Y Z : World} (h : Keep3 n₀ Bl Bi X Y) (k : Keep3 n₀ Bl Bi Y Z) : Keep3 n₀ Bl Bi X Z := ⟨h.1.trans k.1, k.2.1.trans h.2.1, k.2.2.trans h.2.2⟩
theorem below_grownN {X Y : World} (h : Below X.heap.size X Y) : X.grownBy Y none := ⟨h.os, h.tape, h.output, h.size, fun k hk _ => h.block k hk⟩
theorem wpListIn_load_g {F : Fence} {n : Nat} {P : Program} {ops : Array Oper} {rest : List Oper} {o : Oper} {a : Act} {w : World} {Q : Exit → Act → World → Prop} (hw : Region.wanted o (yielded ops a.tmps) = true) (ty : TypeId) (x : Operand) (ho : o.op = .load ty x) (b k : Nat) (hx : a.eval x = .pointer (some ⟨b, k, none⟩)) (cs : List Value) (d : TypeDesc) (hc : w.rangeAt b k cs)
    (hu : P.underlying ty = some d) (hd : d.isRow = true) (hi : (P.info? ty).map (·.size) = some cs.length)
    (h : wpListIn F n P ops Q rest (a.put o.dst (.agg cs.toArray)) w) : wpListIn F n P ops Q (o :: rest) a w := by
  refine wpListIn_step fun K hK' => ?_
  rw [if_pos hw]
  unfold Oper.wpIn
  refine ⟨fun f hf => (by simp [Oper.about, ho] at hf), ?_⟩
  rw [Oper.semAt_plain F _ _ (by rw [ho]; intro c hc; cases hc), exec_load ty x ho b k hx cs d hc hu hd hi]
  exact hK' _ _ h
theorem of_any (A : Option Addr) (n c : Nat) (id : Int) (w : World) : Calls Try.prog 21 #[.slice A n c, .int .i64 id] w fun e w' =>
    e = .returned (.func (.func 30) #[] #[.pointer (some ⟨w.heap.size, 0, none⟩), .pointer (some ⟨w.heap.size + 1, 0, none⟩)]) ∧ w' = (w.alloc (.cells #[.slice A n c] 25)).alloc (.cells #[.int .i64 id] 3) := by
  go_enter Try.func21, Try.ntmps21
  go_wp2
  go_ret
  exact ⟨rfl, rfl⟩
theorem mine_prefix {l : List Wr} {id : Int} {k : Nat} (h : k < l.length) (hp : l[k].1 = id) : mine id (l.take k) ++ [l[k]] <+: mine id l := by
  have e := mine_succ id l k h
  rw [if_pos hp] at e
  rw [← e]
  conv => rhs; rw [← List.take_append_drop (k + 1) l]
  unfold mine
  rw [List.filter_append]
  exact List.prefix_append _ _
theorem mine_len (id : Int) (l : List Wr) : (mine id l).length ≤ l.length := List.length_filter_le _ _

set_option maxRecDepth 100000 in
set_option maxHeartbeats 6400000 in
theorem of1_in (m0 : Nat) (hn : 1 ≤ m0) (lp Bl Bi n₀ n c : Nat) (A : Option Addr) (l : List Wr) (id : Int) (J Jx : List Wr → World → Prop) (hl : l.length = n) (hw : Whole l) (hm : n ≤ 65536)
    (hJ : ∀ s X Y, J s X → Below X.heap.size X Y → J s Y)
    (hY : ∀ pre y W, pre ++ [y] <+: mine id l → J pre W → pre.length < n → YieldAt Fence.wide (m0 - 1) Try.prog lp #[.agg (wrc y).toArray] W fun e W' =>
      (e = .returned (.bool true) ∧ J (pre ++ [y]) W' ∧ Keep3 n₀ Bl Bi W W') ∨ (e = .returned (.bool false) ∧ Jx (pre ++ [y]) W'))
    (W : World) (hn₀ : n₀ ≤ W.heap.size) (hBl : W.cell? ⟨Bl, 0, none⟩ = some (.slice A n c)) (hBi : W.cell? ⟨Bi, 0, none⟩ = some (.int .i64 id)) (hs : Sees W n₀ A (wrs l)) (h0 : J [] W) :
    CallsIn Fence.wide m0 Try.prog 30 #[.func (.yield lp) #[] #[], .pointer (some ⟨Bl, 0, none⟩), .pointer (some ⟨Bi, 0, none⟩)] W fun e W' => (∃ v, e = .returned v) ∧
      ((∃ ys, ys = mine id l ∧ J ys W') ∨ (∃ pre, True ∧ Jx pre W')) := by
  have hu := Try.underlying55
  have HL := Lib.hid hl
  have HW := Lib.hid hw
  have HS := Lib.hid hs
  have H0 : Hid (J (mine id (l.take 0)) W) := Lib.hid h0
  clear hl hw hs h0
  refine callsIn_of_wp Try.func30 rfl trivial ?_ rfl
  simp only [Try.ntmps30, List.size_toArray, List.length_cons, List.length_nil, Nat.reduceAdd, Nat.reduceSub, Array.replicate_succ, Array.replicate_zero, List.push_toArray, List.append_toArray, List.nil_append, List.cons_append]
  gi_wp2_with fail
  gi_loopw [8] (fun i wr => ∃ k : Nat, k ≤ n ∧ i = .int .i64 (k : Int) ∧ J (mine id (l.take k)) wr ∧ wr.cell? ⟨Bl, 0, none⟩ = some (.slice A n c) ∧ wr.cell? ⟨Bi, 0, none⟩ = some (.int .i64 id) ∧ Sees wr n₀ A (wrs l) ∧ n₀ ≤ wr.heap.size) (fun i _ => n - (intOf i).toNat)
  case atStart => exact ⟨0, Nat.zero_le _, rfl, H0.out, hBl, hBi, HS.out, hn₀⟩
  case round =>
    clear HS H0 hBl hBi hn₀
    obtain ⟨k, hk, rfl, hj, cl, ci, hsr, hz⟩ := hrel
    by_cases hlt : k < n
    · have d1 : decide ((k : Int) < (n : Int)) = true := by simp; omega
      have hki : (k : Int) < (n : Int) := by omega
      have hkl : k < l.length := by rw [HL.out]; exact hlt
      obtain ⟨b, o, rfl, hbb, hrg, _, _⟩ := sees_wr hsr HW.out k hkl
      have hxw : l[k].2.2.2.2.length = 8 := HW.out _ (List.getElem_mem hkl)
      have HMS := Lib.hid (mine_succ id l k hkl)
      have HMP := Lib.hid (fun h => mine_prefix (id := id) hkl h)
      obtain ⟨y, hy⟩ : ∃ y, y = l[k] := ⟨_, rfl⟩
      rw [← hy] at hrg HMS HMP hxw
      obtain ⟨W3, hW3, TH, F3, B3⟩ := wr_put wr 55 y hxw
      subst hW3
      have ON := all_oneCell_toArray (wrc_one y)
      have HJ3 := Lib.hid (hJ _ _ _ hj B3)
      have HS3 := Lib.hid (hsr.below (B3.mono hz))
      have hz3 := Nat.le_trans hz B3.size
      have CL3 := Lib.hid ((B3.cell (p := ⟨Bl, 0, none⟩) (World.block_lt_of_cell? _ _ cl)).trans cl)
      have CI3 := Lib.hid ((B3.cell (p := ⟨Bi, 0, none⟩) (World.block_lt_of_cell? _ _ ci)).trans ci)
      have HSZ := Lib.hid (wrc_len hxw)
      have HLT : Hid ((mine id (l.take k)).length < n) := Lib.hid (by have := mine_len id (l.take k); rw [List.length_take] at this; omega)
      have R3 := Lib.hid F3
      have C0 := Lib.hid (F3.cell (j := 0) rfl)
      have HY := Lib.hid (fun h W hj => hY (mine id (l.take k)) y W (HMP.out h) hj HLT.out)
      obtain ⟨wc, hwc⟩ : ∃ wc, wc = wrc y := ⟨_, rfl⟩
      rw [← hwc] at hrg ON HJ3 HS3 HSZ HY hz3 CL3 CI3 R3 C0
      obtain ⟨yi, hyi⟩ : ∃ yi, yi = y.1 := ⟨_, rfl⟩
      rw [← hyi] at C0 HY HMS
      have hs4 : wc.toArray.size = 28 := (List.size_toArray).trans HSZ.out
      have TH2 : (wr.alloc (.cells (wrc zwr).toArray 55)).there wr.heap.size 0 wc.toArray.size := by rw [hs4]; exact TH
      have IN2 : (Try.prog.info? 55).map (·.size) = some wc.toArray.size := by rw [hs4]; exact info_qw
      rw [zwr_cells] at TH2 HJ3 HS3 hz3 CL3 CI3 R3 C0
      clear hs4 TH F3 B3 hwc hj hY hsr hxw HMP hy hyi cl
      by_cases hid : yi = id
      · have bid : (yi == id) = true := by simpa using hid
        rw [if_pos hid] at HMS
        gi_wp2_with (first
          | (refine wpListIn_load rfl 55 (.tmp 10) rfl b (o + k * 28) rfl wc _ hrg hu rfl (by rw [HSZ.out]; exact info_qw) ?_)
          | (refine wpListIn_store rfl 55 (.tmp 5) (.tmp 11) rfl wr.heap.size 0 wc.toArray rfl rfl TH2 IN2 ON ?_
             simp only [Act.put]
             generalize hw4 : World.setCells _ wr.heap.size 0 wc.toArray.toList = w4
             have F4 : Blk w4 wr.heap.size wc := hw4 ▸ R3.out
             have J4 : J (mine id (l.take k)) w4 := hw4 ▸ HJ3.out
             have S4 : Sees w4 n₀ (some ⟨b, o, none⟩) (wrs l) := hw4 ▸ HS3.out
             have z4 : n₀ ≤ w4.heap.size := hw4 ▸ hz3
             have l4 : w4.cell? ⟨Bl, 0, none⟩ = some (.slice (some ⟨b, o, none⟩) n c) := hw4 ▸ CL3.out
             have i4 : w4.cell? ⟨Bi, 0, none⟩ = some (.int .i64 id) := hw4 ▸ CI3.out
             have c4 : w4.cell? ⟨wr.heap.size, 0, none⟩ = some (.int .i64 yi) := hw4 ▸ C0.out
             have RG4 := F4.range 0 wc (by simp)
             obtain ⟨fn, tmps, assign, body, hy, hR⟩ := HY.out hid w4 J4
             clear hw4 TH2 IN2 R3 HJ3 HS3 hz3 J4 F4 CL3 CI3 C0 ci)
          | (refine wpListIn_load_g (by rfl) 55 (.tmp 5) rfl wr.heap.size 0 rfl wc _ RG4 hu rfl (by rw [HSZ.out]; exact info_qw) ?_)
          | fail)
        refine hR.mono ?_
        rintro e W5 (⟨rfl, hJ5, hk5⟩ | ⟨rfl, hJx5⟩)
        · have S5 := S4.below hk5.1
          have z5 := Nat.le_trans z4 hk5.1.size
          have l5 := hk5.2.1.trans l4
          have i5 := hk5.2.2.trans i4
          rw [← HMS.out] at hJ5
          clear RG4 S4 l4 i4 c4 hk5
          gi_wp2_with fail
          go_roundw
          case rel => exact ⟨k + 1, by omega, by go_num, hJ5, l5, i5, S5, z5⟩
          case measure => simp [intOf]; omega
        · gi_wp2_with fail
          refine bodyPost_ret (results_none rfl _ _ _) rfl ?_
          exact ⟨⟨_, rfl⟩, .inr ⟨_, trivial, hJx5⟩⟩
      · have bid : (yi == id) = false := by simpa using hid
        rw [if_neg hid] at HMS
        clear HY
        gi_wp2_with (first
          | (refine wpListIn_load rfl 55 (.tmp 10) rfl b (o + k * 28) rfl wc _ hrg hu rfl (by rw [HSZ.out]; exact info_qw) ?_)
          | (refine wpListIn_store rfl 55 (.tmp 5) (.tmp 11) rfl wr.heap.size 0 wc.toArray rfl rfl TH2 IN2 ON ?_
             simp only [Act.put]
             generalize hw4 : World.setCells _ wr.heap.size 0 wc.toArray.toList = w4
             have J4 : Hid (J (mine id (l.take k)) w4) := Lib.hid (hw4 ▸ HJ3.out)
             have S4 : Sees w4 n₀ (some ⟨b, o, none⟩) (wrs l) := hw4 ▸ HS3.out
             have z4 : n₀ ≤ w4.heap.size := hw4 ▸ hz3
             have l4 : w4.cell? ⟨Bl, 0, none⟩ = some (.slice (some ⟨b, o, none⟩) n c) := hw4 ▸ CL3.out
             have i4 : w4.cell? ⟨Bi, 0, none⟩ = some (.int .i64 id) := hw4 ▸ CI3.out
             have c4 : w4.cell? ⟨wr.heap.size, 0, none⟩ = some (.int .i64 yi) := hw4 ▸ C0.out
             clear hw4 TH2 IN2 R3 HJ3 HS3 hz3 CL3 CI3 C0 ci)
          | fail)
        refine ⟨fun f hf => (by cases hf), ?_⟩
        gi_wp2_with fail
        go_roundw
        case rel => exact ⟨k + 1, by omega, by go_num, by rw [HMS.out]; exact J4.out, l4, i4, S4, z4⟩
        case measure => simp [intOf]; omega
    · obtain rfl : k = n := by omega
      have d1 : decide ((k : Int) < (k : Int)) = false := by simp
      have HE : Hid (J (mine id l) wr) := Lib.hid (by rw [List.take_of_length_le (by rw [HL.out]; exact Nat.le_refl _)] at hj; exact hj)
      clear hj hsr
      gi_wp2_with fail
      go_end0
      exact ⟨⟨_, rfl⟩, .inl ⟨_, rfl, HE.out⟩⟩
theorem of_told (m0 : Nat) (hn : 1 ≤ m0) (Bl Bi n₀ n c : Nat) (A : Option Addr) (l : List Wr) (id : Int) (w : World) (hl : l.length = n) (hw : Whole l) (hm : n ≤ 65536) (hn₀ : n₀ ≤ w.heap.size) (hBl : w.cell? ⟨Bl, 0, none⟩ = some (.slice A n c)) (hBi : w.cell? ⟨Bi, 0, none⟩ = some (.int .i64 id))
    (hs : Sees w n₀ A (wrs l)) :
    SeqStopsQ Fence.wide m0 Try.prog 30 #[.pointer (some ⟨Bl, 0, none⟩), .pointer (some ⟨Bi, 0, none⟩)] (fun y : Wr => #[.agg (wrc y).toArray]) (Keep3 n₀ Bl Bi) (fun pre y => pre ++ [y] <+: mine id l) (fun ys => ys = mine id l) (fun _ => True) n w :=
  fun lp J Jx W hW hJ _ hY h => of1_in m0 hn lp Bl Bi n₀ n c A l id J Jx hl hw hm (fun s X Y hs hb => hJ s X Y none hs (below_grownN hb) (fun r e => by cases e)) hY W (Nat.le_trans hn₀ hW.size)
    ((hW.cell (p := ⟨Bl, 0, none⟩) (World.block_lt_of_cell? _ _ hBl)).trans hBl) ((hW.cell (p := ⟨Bi, 0, none⟩) (World.block_lt_of_cell? _ _ hBi)).trans hBi) (hs.below (hW.mono hn₀)) h
end Go.Proofs.Ytjlpccdlpgkgoaa
