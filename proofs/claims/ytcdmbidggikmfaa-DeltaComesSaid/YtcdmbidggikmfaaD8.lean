/- What the frame gives of slices of turns, of items, of cards. -/
import Derived.Test.YtcdmbidggikmfaaD3
import Derived.Test.YtcdmbidggikmfaaD2
import Derived.ChangeSame
import Derived.Test.YtcdmbidggikmfaaD4
import Derived.Test.YtcdmbidggikmfaaD1
import Derived.Test.YtcdmbidggikmfaaD7
namespace Go.Proofs.Ytcdmbidggikmfaa
set_option linter.unusedVariables false
open Go Go.RowKit Go.Deep Go.ChangeShapes Go.WideShapes Go.ChangeAt

/-- What each card of an argument is. -/
structure okC (c : Cd) : Prop where
  len : okCd c
  id : (Lit.int .i64 c.1).wf = true
  ver : (Lit.int .i64 c.2.1).wf = true
  lab : ∃ x : BitVec 32, c.2.2.1 = (x.toNat : Int)
  f : ∀ v ∈ c.2.2.2, okV v
structure okT (t : Tn) : Prop where
  cd : okC t.cd
  sq : (Lit.int .i64 t.sq).wf = true
  id : (Lit.int .i64 t.id).wf = true
  old : (Lit.int .i64 t.old).wf = true
  nw : (Lit.int .i64 t.nw).wf = true
instance : Inhabited Tn := ⟨⟨0, 0, 0, 0, zcd⟩⟩
instance : Inhabited Im := ⟨⟨0, zcd⟩⟩
section
variable {H : Type} {enc : TypeId × Value → H} {W : World}
set_option maxRecDepth 100000 in
theorem trod_cd {n : Nat} {cs : List Value} {x : DataW H × List MemPlace} (h : DataW.trod enc Try.prog W 0 (fun _ => true) true n 43 cs = some x) : ∃ c : Cd, cs = ccl c ∧ okC c := by
  obtain ⟨y0, y1, y2, y3, m, _, hl, h0, h1, h2, h3⟩ := Go.Joins.trod_struct4 Try.underlying43 h
  have c1 : Try.prog.cellsOf 3 = 1 := by kernel_rfl
  have c2 : Try.prog.cellsOf 38 = 1 := by kernel_rfl
  have c8 : Try.prog.cellsOf 41 = 24 := by kernel_rfl
  have c27 : Try.prog.cellsOf 43 = 27 := by kernel_rfl
  rw [c27] at hl
  simp only [c1] at h0 h1
  simp only [c2] at h2
  simp only [c8] at h3
  obtain ⟨a, e0, _, w0⟩ := DataW.trod_int Try.underlying3 h0
  obtain ⟨b, e1, _, w1⟩ := DataW.trod_int Try.underlying3 h1
  obtain ⟨c, e2, _, w2⟩ := DataW.trod_int Try.underlying38 h2
  obtain ⟨f, e3, hf8, hok⟩ := trod_fields h3
  obtain ⟨x, rfl⟩ := u32_wf w2
  refine ⟨(a, b, x.toNat, f), ?_, hf8, w0, w1, ⟨x, rfl⟩, hok⟩
  have e4 : cs.take 3 = [.int .i64 a, .int .i64 b, .int .u32 (x.toNat : Int)] := list3 (by rw [List.length_take, hl]; rfl) (by simpa [List.take_take, List.drop_take] using e0) (by simpa [List.take_take, List.drop_take] using e1) (by simpa [List.take_take, List.drop_take] using e2)
  rw [← List.take_append_drop 3 cs, e4]
  unfold ccl ccells
  rw [← e3, List.take_of_length_le (by rw [List.length_drop, hl]; omega)]
theorem list4 {α : Type} {l : List α} {a b c d : α} (hl : l.length = 4) (h0 : (l.drop 0).take 1 = [a]) (h1 : (l.drop 1).take 1 = [b]) (h2 : (l.drop 2).take 1 = [c]) (h3 : (l.drop 3).take 1 = [d]) : l = [a, b, c, d] := by
  match l, hl with
  | [x, y, z, u], _ => simp at h0 h1 h2 h3; rw [h0, h1, h2, h3]
set_option maxRecDepth 100000 in
theorem trod_tn {n : Nat} {cs : List Value} {x : DataW H × List MemPlace} (h : DataW.trod enc Try.prog W 0 (fun _ => true) true n 51 cs = some x) : ∃ t : Tn, cs = tcl t ∧ okT t := by
  obtain ⟨y0, y1, y2, y3, y4, m, _, hl, h0, h1, h2, h3, h4⟩ := trod_struct5 Try.underlying51 h
  have c1 : Try.prog.cellsOf 3 = 1 := by kernel_rfl
  have c27 : Try.prog.cellsOf 43 = 27 := by kernel_rfl
  have c31 : Try.prog.cellsOf 51 = 31 := by kernel_rfl
  rw [c31] at hl
  simp only [c1] at h0 h1 h2 h3
  simp only [c27] at h4
  obtain ⟨a, e0, _, w0⟩ := DataW.trod_int Try.underlying3 h0
  obtain ⟨b, e1, _, w1⟩ := DataW.trod_int Try.underlying3 h1
  obtain ⟨c, e2, _, w2⟩ := DataW.trod_int Try.underlying3 h2
  obtain ⟨d, e3, _, w3⟩ := DataW.trod_int Try.underlying3 h3
  obtain ⟨cd, e4, okc⟩ := trod_cd h4
  refine ⟨⟨a, b, c, d, cd⟩, ?_, okc, w0, w1, w2, w3⟩
  have e5 : cs.take 4 = [.int .i64 a, .int .i64 b, .int .i64 c, .int .i64 d] := list4 (by rw [List.length_take, hl]; rfl) (by simpa [List.take_take, List.drop_take] using e0) (by simpa [List.take_take, List.drop_take] using e1) (by simpa [List.take_take, List.drop_take] using e2) (by simpa [List.take_take, List.drop_take] using e3)
  rw [← List.take_append_drop 4 cs, e5]
  unfold tcl
  rw [← e4, List.take_of_length_le (by rw [List.length_drop, hl]; omega)]
theorem open_turns {r : Reach} {base : Nat} {v : Value} {d : DataW H} {ps : List MemPlace}
    (hv : Value.okWide Try.prog W r base 22 v) (h : DataW.Trod enc Try.prog W 0 (fun _ => true) true 22 v d ps) :
    ∃ A n c, ∃ l : List Tn, v = .slice A n c ∧ SeesR tcl W A n c l ∧ ∀ t ∈ l, okT t := by
  obtain ⟨A, n, c, l, e, hnc, hcm, hln, hok, hs⟩ := open_rows (f := tcl) (sz := 31) (ok := okT) Try.underlying22 (by kernel_rfl) (by decide) (fun t ht => tcl_len ht.cd.len) (fun n cs x h => trod_tn h) hv h
  exact ⟨A, n, c, l, e, ⟨hln, hnc, hcm, hs⟩, hok⟩
theorem open_cds {r : Reach} {base : Nat} {v : Value} {d : DataW H} {ps : List MemPlace}
    (hv : Value.okWide Try.prog W r base 36 v) (h : DataW.Trod enc Try.prog W 0 (fun _ => true) true 36 v d ps) :
    ∃ A n c, ∃ l : List Cd, v = .slice A n c ∧ SeesR ccl W A n c l ∧ ∀ t ∈ l, okC t := by
  obtain ⟨A, n, c, l, e, hnc, hcm, hln, hok, hs⟩ := open_rows (f := ccl) (sz := 27) (ok := okC) Try.underlying36 (by kernel_rfl) (by decide) (fun t ht => ccl_len ht.len) (fun n cs x h => trod_cd h) hv h
  exact ⟨A, n, c, l, e, ⟨hln, hnc, hcm, hs⟩, hok⟩
end
end Go.Proofs.Ytcdmbidggikmfaa

/- Four numbers: what the frame gives of an Ask; slices of structs that are seen, as open slots. -/
namespace Go.Proofs.Ytcdmbidggikmfaa
set_option linter.unusedVariables false
open Go Go.RowKit Go.Deep Go.ChangeShapes Go.WideShapes Go.ChangeAt

theorem qlist4 {α : Type} {l : List α} {a b c d : α} (hl : l.length = 4) (h0 : (l.drop 0).take 1 = [a]) (h1 : (l.drop 1).take 1 = [b]) (h2 : (l.drop 2).take 1 = [c]) (h3 : (l.drop 3).take 1 = [d]) : l = [a, b, c, d] := by
  match l, hl with
  | [x, y, z, u], _ => simp at h0 h1 h2 h3; rw [h0, h1, h2, h3]
/-- An Ask as it lies. -/
def askc (a b c d : Int) : List Value := [.int .i64 a, .int .i64 b, .int .i64 c, .int .i64 d]
def InI (z : Int) : Prop := -9223372036854775808 ≤ z ∧ z ≤ 9223372036854775807
section
variable {H : Type} {enc : TypeId × Value → H} {W : World}
set_option maxRecDepth 100000 in
theorem open_ask {r : Reach} {base : Nat} {v : Value} {d : DataW H} {ps : List MemPlace}
    (hv : Value.okWide Try.prog W r base 24 v) (h : DataW.Trod enc Try.prog W 0 (fun _ => true) true 24 v d ps) :
    ∃ a b c e, v = .agg (askc a b c e).toArray ∧ InI a ∧ InI b ∧ InI c ∧ InI e := by
  simp only [Value.okWide, Try.underlying24] at hv
  obtain ⟨cs, rfl, hrest⟩ := hv
  obtain ⟨fuel, hf⟩ := h
  obtain ⟨y0, y1, y2, y3, m, _, hl, h0, h1, h2, h3⟩ := Go.Joins.trod_struct4 Try.underlying24 hf
  have c1 : Try.prog.cellsOf 3 = 1 := by kernel_rfl
  have c4 : Try.prog.cellsOf 24 = 4 := by kernel_rfl
  rw [c4] at hl
  simp only [c1, Value.cells] at h0 h1 h2 h3
  simp only [Value.cells] at hl
  obtain ⟨a, e0, _, w0⟩ := DataW.trod_int Try.underlying3 h0
  obtain ⟨b, e1, _, w1⟩ := DataW.trod_int Try.underlying3 h1
  obtain ⟨c, e2, _, w2⟩ := DataW.trod_int Try.underlying3 h2
  obtain ⟨e, e3, _, w3⟩ := DataW.trod_int Try.underlying3 h3
  refine ⟨a, b, c, e, ?_, i64_wf w0, i64_wf w1, i64_wf w2, i64_wf w3⟩
  congr 1
  apply Array.toList_inj.1
  exact qlist4 hl e0 e1 e2 e3
end
def relR {α : Type} (f : α → List Value) (L : List α) : Rel where
  rel v w := ∃ A c, v = .slice A L.length c ∧ SeesR f w A L.length c L
  mono := fun v w w' hl ⟨A, c, e, h⟩ => ⟨A, c, e, h.later hl⟩
  real := fun w ⟨A, c, e, _⟩ => by cases e
/-- The cells of an Ask that lies in a block of its own, in all later worlds. -/
theorem ask_later {W0 : World} {g : Nat} {a b c e : Int} (h : Blk W0 g (askc a b c e)) {W : World} (hW : Below W0.heap.size W0 W) :
    W.cell? ⟨g, 0, none⟩ = some (.int .i64 a) ∧ W.cell? ⟨g, 1, none⟩ = some (.int .i64 b) ∧ W.cell? ⟨g, 2, none⟩ = some (.int .i64 c) ∧ W.cell? ⟨g, 3, none⟩ = some (.int .i64 e) := by
  have hb := h.later hW
  exact ⟨hb.cell rfl, hb.cell rfl, hb.cell rfl, hb.cell rfl⟩
end Go.Proofs.Ytcdmbidggikmfaa

/- Turns, items: are they more, or longer, than are looked at. -/
namespace Go.Proofs.Ytcdmbidggikmfaa
set_option linter.unusedVariables false
set_option linter.unusedSimpArgs false
open Go Go.RowKit BitM

def tlarge (l : List Tn) : Bool := decide (100 < l.length) || l.any (fun t => tooLong t.cd.2.2.2)
theorem tlarge_no {l : List Tn} (h1 : l.length ≤ 100) (h2 : ∀ j (hj : j < l.length), tooLong l[j].cd.2.2.2 = false) : tlarge l = false := by
  unfold tlarge
  rw [decide_eq_false (by omega), Bool.false_or, List.any_eq_false]
  intro t ht
  obtain ⟨j, hj, rfl⟩ := List.getElem_of_mem ht
  rw [h2 j hj]
  exact Bool.false_ne_true
theorem tlarge_one {l : List Tn} (j : Nat) (hj : j < l.length) (h : tooLong l[j].cd.2.2.2 = true) : tlarge l = true := by
  unfold tlarge
  rw [Bool.or_eq_true]
  exact .inr (List.any_eq_true.2 ⟨l[j], List.getElem_mem hj, h⟩)
theorem tlarge_len {l : List Tn} (h : tlarge l = false) : l.length ≤ 100 := by
  unfold tlarge at h
  rw [Bool.or_eq_false_iff] at h
  have := of_decide_eq_false h.1
  omega
theorem info_flds : (Try.prog.info? 41).map (·.size) = some 24 := by kernel_rfl
theorem ccl_fields (c : Cd) : ∀ j v, (fcells c.2.2.2)[j]? = some v → (ccl c)[3 + j]? = some v := fun j v h => by
  obtain ⟨a, b, d, f⟩ := c
  show ([Value.int .i64 a, .int .i64 b, .int .u32 d] ++ fcells f)[3 + j]? = some v
  rw [List.getElem?_append_right (by simp)]
  simpa using h
set_option maxRecDepth 100000 in
set_option maxHeartbeats 1600000 in
theorem tlarge_any (A : Option Addr) (n c : Nat) (l : List Tn) (w : World) (h : SeesR tcl w A n c l) (hok : ∀ t ∈ l, okCd t.cd) :
    Calls Try.prog 6 #[.slice A n c] w fun e w' => e = .returned (.bool (tlarge l)) ∧ Below w.heap.size w w' := by
  have hu := Try.underlying41
  have HN := Lib.hid h.len
  have HB0 := Lib.hid (Below.refl w.heap.size w)
  by_cases hbig : 100 < n
  · have d1 : decide (100 < (n : Int)) = true := decide_eq_true (by omega)
    have HR : Hid (tlarge l = true) := Lib.hid (by unfold tlarge; rw [HN.out, decide_eq_true hbig]; rfl)
    clear h hok hbig
    go_enter Try.func6, Try.ntmps6
    go_wp2_with fail
    go_ret
    exact ⟨by rw [HR.out]; rfl, HB0.out⟩
  · have d1 : decide (100 < (n : Int)) = false := decide_eq_false (by omega)
    have hn100 : n ≤ 100 := by omega
    have HRNO := Lib.hid (tlarge_no (l := l) (by rw [HN.out]; omega))
    have HRYES := Lib.hid (fun j hj => tlarge_one (l := l) j hj)
    have HLA := Lib.hid (fun k (hk : k < l.length) wx => large_any l[k].cd.2.2.2 wx (hok _ (List.getElem_mem hk)))
    have HFL := Lib.hid (fun k (hk : k < l.length) => show (fcells l[k].cd.2.2.2).length = 24 by rw [fcells_len, hok _ (List.getElem_mem hk)])
    have HCE : Hid (∀ k (hk : k < l.length), ∃ b o, A = some ⟨b, o, none⟩ ∧ ∀ W, Below w.heap.size w W → W.rangeAt b (o + k * 31 + 4 + 3) (fcells l[k].cd.2.2.2)) := Lib.hid (fun k hk => by
      obtain ⟨b, o, e, _, hc⟩ := turn_cells h hok (by omega)
      refine ⟨b, o, e, fun W hW j v hj => ?_⟩
      have := (hc W hW k hk).2.2.2.2.2 (3 + j) v (ccl_fields _ j v hj)
      rw [show o + k * 31 + 4 + 3 + j = o + k * 31 + 4 + (3 + j) by omega]
      exact this)
    clear h hok hbig
    generalize tlarge l = R at HRNO HRYES ⊢
    go_enter Try.func6, Try.ntmps6
    go_wp2_with fail
    go_loopw [3] (fun i wr => ∃ k : Nat, k ≤ n ∧ i = .int .i64 (k : Int) ∧ Hid (∀ j (hj : j < k) (hj2 : j < l.length), tooLong l[j].cd.2.2.2 = false) ∧ Hid (Below w.heap.size w wr)) (fun i _ => n - (iOf i).toNat)
    case atStart => exact ⟨0, by omega, rfl, Lib.hid (fun j hj => by omega), HB0⟩
    case round =>
      obtain ⟨k, hk, rfl, HF, HB⟩ := hrel
      by_cases hlt : k < n
      · have d0 : decide ((k : Int) < (n : Int)) = true := decide_eq_true (by omega)
        have hkl : k < l.length := by rw [HN.out]; exact hlt
        obtain ⟨b, o, rfl, hcc⟩ := HCE.out k hkl
        have hrg := hcc wr HB.out
        have HL := Lib.hid (HLA.out k hkl wr)
        have HFK := Lib.hid (HFL.out k hkl)
        have HYK := Lib.hid (HRYES.out k hkl)
        have HNX : Hid (tooLong l[k].cd.2.2.2 = false → ∀ j (hj : j < k + 1) (hj2 : j < l.length), tooLong l[j].cd.2.2.2 = false) := Lib.hid (fun e j hj hj2 => by
          by_cases e2 : j = k
          · subst e2; exact e
          · exact HF.out j (by omega) hj2)
        obtain ⟨FC, hFC⟩ : ∃ FC, FC = fcells l[k].cd.2.2.2 := ⟨_, rfl⟩
        rw [← hFC] at hrg HL HFK
        generalize tooLong l[k].cd.2.2.2 = q at HL HYK HNX
        clear hFC hcc HF HRNO HRYES HLA HFL HCE
        go_wp2_with (first
          | (refine wpList_load_mid rfl 41 (.tmp 17) rfl b (o + k * 31 + 4 + 3) rfl FC _ hrg hu rfl (by rw [HFK.out]; exact info_flds) ?_
             simp only [Act.put, List.setIfInBounds_toArray, List.set_cons_zero, List.set_cons_succ])
          | fail)
        refine HL.out.mono ?_
        rintro e w1 ⟨rfl, hb1⟩
        have HB1 := Lib.hid (HB.out.trans (hb1.mono HB.out.size))
        clear hb1 HL hrg
        cases q with
        | true =>
          have HR := Lib.hid (HYK.out rfl)
          clear HYK HNX
          go_wp2_with fail
          go_ret
          exact ⟨by rw [HR.out]; rfl, HB1.out⟩
        | false =>
          have HG := Lib.hid (HNX.out rfl)
          clear HYK HNX
          go_wp2_with fail
          go_roundw
          case rel => exact ⟨k + 1, by omega, by go_num, HG, HB1⟩
          case measure => simp [iOf]; omega
      · obtain rfl : k = n := by omega
        have HR := Lib.hid (HRNO.out (fun j hj => HF.out j (by rw [← HN.out]; exact hj) hj))
        clear HRNO HRYES HLA HFL HCE HF
        go_wp2_with fail
        go_ret
        exact ⟨by rw [HR.out]; rfl, HB.out⟩
end Go.Proofs.Ytcdmbidggikmfaa

/- TransOnce: the law's walk. -/
namespace Go.Proofs.Ytcdmbidggikmfaa
set_option linter.unusedVariables false
set_option linter.unusedSimpArgs false
open Go Go.RowKit BitM

theorem net_ok {l : List Tn} (hok : ∀ t ∈ l, okCd t.cd) : ∀ x ∈ net l, okCd x.cd := fun x hx => by
  obtain ⟨i, t, hw, _, rfl⟩ := net_mem.1 hx
  obtain ⟨u, hu, _, e, _⟩ := whole_mem hw
  exact okCd_itm (by rw [show t.cd = u.cd from e]; exact hok u hu)
end Go.Proofs.Ytcdmbidggikmfaa

/- Items held against each other: the program's Same, the document's Same. -/
namespace Go.Proofs.Ytcdmbidggikmfaa
set_option linter.unusedVariables false
set_option linter.unusedSimpArgs false
open Go Go.RowKit BitM

instance : DecidableEq Im := fun x y => decidable_of_iff (x.kd = y.kd ∧ x.cd = y.cd) (by cases x; cases y; simp)
instance : DecidableEq Tn := fun x y => decidable_of_iff (x.sq = y.sq ∧ x.id = y.id ∧ x.old = y.old ∧ x.nw = y.nw ∧ x.cd = y.cd) (by cases x; cases y; simp)
theorem fieldsI : Try.prog.underlying 54 = some (.struct (Try.prog.fieldsOf 54)) := by kernel_rfl
theorem guard_item : Try.prog.eqGuardType Try.prog.depth 54 = false := by kernel_rfl
theorem eq_ccl0 (c d : Cd) (hc : okCd c) (hd : okCd d) (w : World) : (Op.equalIn 9999 43 (.agg (ccl c).toArray) (.agg (ccl d).toArray)).run Try.prog w = .ok (decide (c = d)) w := by
  obtain ⟨a1, a2, a3, a4⟩ := c
  obtain ⟨b1, b2, b3, b4⟩ := d
  have := eq_card 9995 a1 a2 a3 b1 b2 b3 a4 b4 hc hd w
  rw [show decide ((a1, a2, a3, a4) = (b1, b2, b3, b4)) = decide (a1 = b1 ∧ a2 = b2 ∧ a3 = b3 ∧ a4 = b4) from by simp only [Prod.mk.injEq]]
  exact this
theorem eq_icl (x y : Im) (hx : okCd x.cd) (hy : okCd y.cd) (w : World) : (Op.equalIn 10000 54 (.agg (icl x).toArray) (.agg (icl y).toArray)).run Try.prog w = .ok (decide (x = y)) w := by
  have hsz : ∀ w, (sizeOf 43).run Try.prog w = .ok 27 w := fun w => by kernel_rfl
  have hag : ∀ w, (isAgg 43).run Try.prog w = .ok true w := fun w => by kernel_rfl
  rw [run_equalIn_agg w 9999 54 _ _ fieldsI (by kernel_rfl)]
  have e : (Try.prog.fieldsOf 54).toList = [⟨"Kind", 3, 0, false, "", "", 0⟩, ⟨"Card", 43, 1, false, "", "", 8⟩] := by kernel_rfl
  rw [e]
  have px : ∀ z : Im, okCd z.cd → (part 43 (icl z).toArray 1).run Try.prog w = .ok (.agg (ccl z.cd).toArray) w := fun z hz => by
    simp only [part, Sem.run_bind, hag, Result.andThen_ok, hsz, if_true, Sem.run_pure]
    have : (icl z).toArray.extract 1 (1 + 27) = (ccl z.cd).toArray := by
      apply Array.toList_inj.1
      have h := icl_drop hz
      rw [ccl_len hz] at h
      simpa using h
    rw [this]
  have p0 : ∀ z : Im, (part 3 (icl z).toArray 0).run Try.prog w = .ok (.int .i64 z.kd) w := fun z => by simp [go_sem, part, isAgg, icl]
  have ec := eq_ccl0 x.cd y.cd hx hy w
  have q0 : ∀ a b : Int, (Op.equalIn 9999 3 (.int .i64 a) (.int .i64 b)).run Try.prog w = .ok (a == b) w := fun a b => run_equalIn_int w 9998 3 .i64 .i64 a b Try.underlying3
  simp only [Op.eqFields, if_pos (show ("Kind" : String) ≠ "_" by decide), if_pos (show ("Card" : String) ≠ "_" by decide)]
  simp only [Sem.run_bind, Sem.run_ite, Sem.run_pure, px x hx, px y hy, p0, q0, ec, Result.andThen_ok]
  obtain ⟨k, c⟩ := x
  obtain ⟨k', c'⟩ := y
  by_cases h1 : k = k' <;> by_cases h2 : c = c' <;> simp [h1, h2]
set_option maxRecDepth 100000 in
set_option maxHeartbeats 3200000 in
theorem rsamei_any (A B : Option Addr) (n c m d : Nat) (l l' : List Im) (w : World) (hl : l.length = n) (hm : l'.length = m) (hn : n ≤ 1099511627776) (hm2 : m ≤ 1099511627776) (hok : ∀ x ∈ l, okCd x.cd) (hok' : ∀ x ∈ l', okCd x.cd) (hA : Sees w w.heap.size A (rws icl l)) (hB : Sees w w.heap.size B (rws icl l')) :
    Calls Try.prog 11 #[.slice A n c, .slice B m d] w fun e w' => e = .returned (.bool (decide (l = l'))) ∧ Below w.heap.size w w' := by
  have hu := Try.underlying54
  by_cases hnm : n = m
  · subst hnm
    obtain ⟨R, hR⟩ : ∃ R, R = decide (l = l') := ⟨_, rfl⟩
    have HR : Hid (R = true ↔ l = l') := Lib.hid (by rw [hR, decide_eq_true_eq])
    rw [← hR]
    have HLL := Lib.hid hl
    have HOK1 := Lib.hid hok
    have HOK2 := Lib.hid hok'
    clear hok hok'
    have HML := Lib.hid hm
    clear hR hl hm hm2
    go_enter Try.func11, Try.ntmps11
    go_wp2_with fail
    go_loopw [5] (fun i wr => ∃ k : Nat, k ≤ n ∧ i = .int .i64 k ∧ Hid (∀ i (h1 : i < l.length) (h2 : i < l'.length), i < k → l[i] = l'[i]) ∧ Below w.heap.size w wr) (fun i _ => n - (iOf i).toNat)
    case atStart => exact ⟨0, by omega, rfl, Lib.hid (fun i _ _ h => absurd h (by omega)), Below.refl _ _⟩
    case round =>
      obtain ⟨k, hk, rfl, HK, hbr⟩ := hrel
      by_cases hlt : k < n
      · have dk : (k : Int) < (n : Int) := by omega
        have hkl : k < l.length := by rw [HLL.out]; exact hlt
        have hkm : k < l'.length := by rw [HML.out]; exact hlt
        obtain ⟨b1, o1, rfl, hb1, hr1⟩ := sees_rw (sz := 28) (icl_lens HOK1.out) (hA.below hbr) (by decide) k hkl
        obtain ⟨b2, o2, rfl, hb2, hr2⟩ := sees_rw (sz := 28) (icl_lens HOK2.out) (hB.below hbr) (by decide) k hkm
        have hL1 := icl_lens HOK1.out _ (List.getElem_mem hkl)
        have hO1 := HOK1.out _ (List.getElem_mem hkl)
        have hL2 := icl_lens HOK2.out _ (List.getElem_mem hkm)
        have hO2 := HOK2.out _ (List.getElem_mem hkm)
        obtain ⟨u, hu2⟩ : ∃ u, u = l[k] := ⟨_, rfl⟩
        obtain ⟨v, hv2⟩ : ∃ v, v = l'[k] := ⟨_, rfl⟩
        rw [← hu2] at hr1 hL1 hO1
        rw [← hv2] at hr2 hL2 hO2
        have HUL := Lib.hid hL1
        have HVL := Lib.hid hL2
        have hbz := hbr.size
        have HA : Hid (∀ w1, Le wr w1 → w1.rangeAt b1 (o1 + k * 28) (icl u)) := Lib.hid (fun w1 h1 j v hj => (h1.cell (p := ⟨b1, o1 + k * 28 + j, none⟩) (by show b1 < wr.heap.size; omega)).trans (hr1 j v hj))
        have HB : Hid (∀ w1, Le wr w1 → w1.rangeAt b2 (o2 + k * 28) (icl v)) := Lib.hid (fun w1 h1 j v hj => (h1.cell (p := ⟨b2, o2 + k * 28 + j, none⟩) (by show b2 < wr.heap.size; omega)).trans (hr2 j v hj))
        have HQ := Lib.hid (fun w1 : World => eq_icl u v hO1 hO2 w1)
        have HU2 := Lib.hid hu2
        have HV2 := Lib.hid hv2
        clear hr1 hr2 hL1 hL2 hO1 hO2 hu2 hv2 hb1 hb2
        cases huv : decide (u = v) with
        | true =>
          rw [huv] at HQ
          have HE := Lib.hid (of_decide_eq_true huv)
          clear huv
          go_wp2_with fail
          refine wp_region_steady [] 26 (by kernel_rfl) (by kernel_rfl) (by kernel_rfl) (by rfl) ?_
          iterate 3 (refine wpG_quiet (by rfl) (by rfl) (by rfl) (fun K hK => ?_); go_big_quiet_op; refine hK _ ?_; clear hK K)
          refine wpG_run (by rfl) (by rfl) (.agg (icl u).toArray) (fun wx hl => exec_load 54 (.tmp 19) rfl b1 (o1 + k * 28) rfl (icl u) _ (HA.out wx hl.1) hu rfl (by rw [HUL.out]; exact info_item)) ?_
          simp only [Act.put, List.setIfInBounds_toArray, List.set_cons_zero, List.set_cons_succ]
          iterate 3 (refine wpG_quiet (by rfl) (by rfl) (by rfl) (fun K hK => ?_); go_big_quiet_op; refine hK _ ?_; clear hK K)
          refine wpG_run (by rfl) (by rfl) (.agg (icl v).toArray) (fun wx hl => exec_load 54 (.tmp 23) rfl b2 (o2 + k * 28) rfl (icl v) _ (HB.out wx hl.1) hu rfl (by rw [HVL.out]; exact info_item)) ?_
          simp only [Act.put, List.setIfInBounds_toArray, List.set_cons_zero, List.set_cons_succ]
          refine wpG_run (by rfl) (by rfl) (.bool (!true)) (fun wx hl => exec_neq 54 _ (.tmp 20) (.tmp 24) rfl _ _ rfl rfl guard_item true (HQ.out wx)) ?_
          simp only [Act.put, List.setIfInBounds_toArray, List.set_cons_zero, List.set_cons_succ]
          refine wpG_nil fun w1 hl _ => ?_
          have hb1 := hbr.trans (hl.mono hbr.size)
          clear hA hB hbr
          go_wp2_with fail
          go_roundw
          case rel => exact ⟨k + 1, by omega, by go_num, Lib.hid (fun i h1 h2 hi => by
            by_cases e : i = k
            · subst e; rw [← HU2.out, ← HV2.out]; exact HE.out
            · exact HK.out i h1 h2 (by omega)), hb1⟩
          case measure => simp [iOf]; omega
        | false =>
          rw [huv] at HQ
          have HRR : Hid (R = false) := Lib.hid (by
            rw [Bool.eq_false_iff]
            intro e
            replace e := HR.out.1 e
            refine of_decide_eq_false huv ?_
            rw [HU2.out, HV2.out]
            subst e
            rfl)
          clear huv
          go_wp2_with fail
          refine wp_region_steady [] 26 (by kernel_rfl) (by kernel_rfl) (by kernel_rfl) (by rfl) ?_
          iterate 3 (refine wpG_quiet (by rfl) (by rfl) (by rfl) (fun K hK => ?_); go_big_quiet_op; refine hK _ ?_; clear hK K)
          refine wpG_run (by rfl) (by rfl) (.agg (icl u).toArray) (fun wx hl => exec_load 54 (.tmp 19) rfl b1 (o1 + k * 28) rfl (icl u) _ (HA.out wx hl.1) hu rfl (by rw [HUL.out]; exact info_item)) ?_
          simp only [Act.put, List.setIfInBounds_toArray, List.set_cons_zero, List.set_cons_succ]
          iterate 3 (refine wpG_quiet (by rfl) (by rfl) (by rfl) (fun K hK => ?_); go_big_quiet_op; refine hK _ ?_; clear hK K)
          refine wpG_run (by rfl) (by rfl) (.agg (icl v).toArray) (fun wx hl => exec_load 54 (.tmp 23) rfl b2 (o2 + k * 28) rfl (icl v) _ (HB.out wx hl.1) hu rfl (by rw [HVL.out]; exact info_item)) ?_
          simp only [Act.put, List.setIfInBounds_toArray, List.set_cons_zero, List.set_cons_succ]
          refine wpG_run (by rfl) (by rfl) (.bool (!false)) (fun wx hl => exec_neq 54 _ (.tmp 20) (.tmp 24) rfl _ _ rfl rfl guard_item false (HQ.out wx)) ?_
          simp only [Act.put, List.setIfInBounds_toArray, List.set_cons_zero, List.set_cons_succ]
          refine wpG_nil fun w1 hl _ => ?_
          have hb1 := hbr.trans (hl.mono hbr.size)
          clear hA hB hbr
          go_wp2_with fail
          go_ret
          exact ⟨by rw [HRR.out]; rfl, hb1⟩
      · obtain rfl : k = n := by omega
        have HRR : Hid (R = true) := Lib.hid (by
          exact HR.out.2 (List.ext_getElem (by rw [HLL.out, HML.out]) (fun i h1 h2 => HK.out i h1 h2 (by rw [HLL.out] at h1; exact h1))))
        go_wp2_with fail
        go_ret
        exact ⟨by rw [HRR.out]; rfl, hbr⟩
  · have HRR : Hid (decide (l = l') = false) := Lib.hid (decide_eq_false (fun e => hnm (by rw [← hl, ← hm, e])))
    rw [HRR.out]
    have b1 : ((n : Int) != (m : Int)) = true := by rw [bne_iff_ne]; omega
    clear hA hB hl hm hok hok'
    go_enter Try.func11, Try.ntmps11
    go_wp2_with fail
    go_ret
    exact ⟨rfl, Below.refl _ _⟩

end Go.Proofs.Ytcdmbidggikmfaa

/- DeltaCuts: the law's walk. -/
namespace Go.Proofs.Ytcdmbidggikmfaa
set_option linter.unusedVariables false
set_option linter.unusedSimpArgs false
open Go Go.RowKit BitM

set_option maxRecDepth 100000 in
set_option maxHeartbeats 6400000 in
theorem walk_dcuts (A : Option Addr) (n c : Nat) (l : List Tn) (fr now cu pg : Int) (w : World) (h : SeesR tcl w A n c l) (hokt : ∀ t ∈ l, okT t) :
    Calls Try.prog 3 #[.slice A n c, .agg #[.int .i64 fr, .int .i64 now, .int .i64 cu, .int .i64 pg]] w fun e w' => e = .returned (.bool true) ∧ Below w.heap.size w w' := by
  obtain ⟨W0, hW0⟩ : ∃ W0, W0 = w.alloc (.cells #[.int .i64 fr, .int .i64 now, .int .i64 cu, .int .i64 pg] 24) := ⟨_, rfl⟩
  have hb0 : Below w.heap.size w W0 := by rw [hW0]; exact (Below.refl w.heap.size w).alloc (Nat.le_refl _) _
  have B0 : Blk W0 w.heap.size (askc fr now cu pg) := by rw [hW0]; exact Blk.new w (askc fr now cu pg) _
  have HQ := Lib.hid (fun W (hW : Below W0.heap.size W0 W) => ask_later B0 hW)
  have hok : ∀ t ∈ l, okCd t.cd := fun t ht => (hokt t ht).cd.len
  have h0 := h.later hb0
  have HLA := Lib.hid (tlarge_any A n c l W0 h0 hok)
  have HAW := Lib.hid dl_awake
  have HB0 := Lib.hid hb0
  have HBR := Lib.hid (Below.refl W0.heap.size W0)
  have HW0 := Lib.hid hW0
  clear hW0 hb0 B0 h
  cases hlg : tlarge l with
  | true =>
    rw [hlg] at HLA
    clear hlg h0 hok hokt
    go_enter Try.func3, Try.ntmps3
    go_wp2_with fail
    rw [← HW0.out]
    refine (HLA.out).mono ?_
    rintro e w1 ⟨rfl, hb⟩
    have HB1 := Lib.hid (HBR.out.trans (hb.mono HBR.out.size))
    clear hb
    go_wp2_with fail
    refine (HAW.out _).mono ?_
    rintro e w29 ⟨rfl, hb⟩
    have HB29 := Lib.hid (HB0.out.trans ((HB1.out.trans (hb.mono HB1.out.size)).mono HB0.out.size))
    clear hb
    go_wp2_with fail
    go_ret
    exact ⟨rfl, HB29.out⟩
  | false =>
    rw [hlg] at HLA
    have hn100 : n ≤ 100 := by have := tlarge_len hlg; have := h0.len; omega
    have HRG := Lib.hid (fun W (hW : Below W0.heap.size W0 W) => rgoes_any A n c l W (h0.later hW) hok (by omega))
    cases hgo : goes l with
    | false =>
      rw [hgo] at HRG
      clear hlg hgo h0 hok hokt
      go_enter Try.func3, Try.ntmps3
      go_wp2_with fail
      rw [← HW0.out]
      refine (HLA.out).mono ?_
      rintro e w1 ⟨rfl, hb⟩
      have HB1 := Lib.hid (HBR.out.trans (hb.mono HBR.out.size))
      clear hb
      go_wp2_with fail
      refine (HRG.out _ HB1.out).mono ?_
      rintro e w2 ⟨rfl, hb⟩
      have HB2 := Lib.hid (HB1.out.trans (hb.mono HB1.out.size))
      clear hb
      go_wp2_with fail
      refine (HAW.out _).mono ?_
      rintro e w29 ⟨rfl, hb⟩
      have HB29 := Lib.hid (HB0.out.trans ((HB2.out.trans (hb.mono HB2.out.size)).mono HB0.out.size))
      clear hb
      go_wp2_with fail
      go_ret
      exact ⟨rfl, HB29.out⟩
    | true =>
      rw [hgo] at HRG
      by_cases hfn : now < fr
      · have e0 : decide (now < fr) = true := decide_eq_true hfn
        clear hlg hgo h0 hok hokt hfn
        go_enter Try.func3, Try.ntmps3
        go_wp2_with fail
        rw [← HW0.out]
        refine (HLA.out).mono ?_
        rintro e w1 ⟨rfl, hb⟩
        have HB1 := Lib.hid (HBR.out.trans (hb.mono HBR.out.size))
        clear hb
        go_wp2_with fail
        refine (HRG.out _ HB1.out).mono ?_
        rintro e w2 ⟨rfl, hb⟩
        have HB2 := Lib.hid (HB1.out.trans (hb.mono HB1.out.size))
        clear hb
        obtain ⟨q0, q1, q2, q3⟩ := HQ.out _ HB2.out
        go_wp2_with fail
        refine (HAW.out _).mono ?_
        rintro e w29 ⟨rfl, hb⟩
        have HB29 := Lib.hid (HB0.out.trans ((HB2.out.trans (hb.mono HB2.out.size)).mono HB0.out.size))
        clear hb
        go_wp2_with fail
        go_ret
        exact ⟨rfl, HB29.out⟩
      · have e0 : decide (now < fr) = false := decide_eq_false hfn
        have hfr : fr ≤ now := by omega
        obtain ⟨L, hL⟩ : ∃ L, L = net (cutL l fr now cu (pgN pg)) := ⟨_, rfl⟩
        obtain ⟨TO, hTO⟩ : ∃ TO, TO = cutTo l fr now cu (pgN pg) := ⟨_, rfl⟩
        have hLl : L.length ≤ 100 := by
          have h1 := net_len (cutL l fr now cu (pgN pg))
          have h2 : (cutL l fr now cu (pgN pg)).length ≤ (upl l fr now cu).length := by unfold cutL; rw [List.length_take]; omega
          have h3 := upl_len l fr now cu
          have h4 := h0.len
          rw [hL]; omega
        have hLo : ∀ x ∈ L, okCd x.cd := by
          rw [hL]
          exact net_ok (fun t ht => hok t ((upl_mem.1 (List.mem_of_mem_take ht)).1))
        have HDC := Lib.hid (fun W (hW : Below W0.heap.size W0 W) => dcut_any A n c l fr now cu pg W (h0.later hW) hok hgo hfr (by omega))
        rw [← hL, ← hTO] at HDC
        have HRC := Lib.hid (fun W (hW : Below W0.heap.size W0 W) => rcut_any A n c l fr now cu pg W (h0.later hW) hok hgo (by omega))
        rw [← hL, ← hTO] at HRC
        have HST := Lib.hid (fun W (hW : Below W0.heap.size W0 W) => dsteps_any A n c l fr now cu W (h0.later hW) hok (by omega))
        have HUP := Lib.hid (fun W (hW : Below W0.heap.size W0 W) => rup_any A n c l fr now cu W (h0.later hW) hok (by omega))
        have HSA := Lib.hid (fun W B c1 D c2 (k1 : SeesR icl W B L.length c1 L) (k2 : SeesR icl W D L.length c2 L) => rsamei_any B D L.length c1 L.length c2 L L W rfl rfl (by omega) (by omega) hLo hLo k1.see k2.see)
        rw [decide_eq_true (rfl : L = L)] at HSA
        obtain ⟨U, hU⟩ : ∃ U, U = upl l fr now cu := ⟨_, rfl⟩
        rw [← hU] at HST HUP
        clear hlg hgo h0 hok hokt hfn hfr hL hTO hLl hLo hU
        go_enter Try.func3, Try.ntmps3
        go_wp2_with fail
        rw [← HW0.out]
        refine (HLA.out).mono ?_
        rintro e w1 ⟨rfl, hb⟩
        have HB1 := Lib.hid (HBR.out.trans (hb.mono HBR.out.size))
        clear hb
        go_wp2_with fail
        refine (HRG.out _ HB1.out).mono ?_
        rintro e w2 ⟨rfl, hb⟩
        have HB2 := Lib.hid (HB1.out.trans (hb.mono HB1.out.size))
        clear hb
        obtain ⟨q0, q1, q2, q3⟩ := HQ.out _ HB2.out
        clear HLA HRG HB1
        go_wp2_with fail
        refine (HDC.out _ HB2.out).mono ?_
        rintro e w3 ⟨A3, c3, rfl, hs, hb⟩
        have HS3 := Lib.hid hs
        have HB3 := Lib.hid (HB2.out.trans (hb.mono HB2.out.size))
        clear hs hb
        clear q0 q1 q2 q3 HDC HB2
        obtain ⟨q0, q1, q2, q3⟩ := HQ.out _ HB3.out
        go_wp2_with fail
        refine (HRC.out _ HB3.out).mono ?_
        rintro e w4 ⟨A4, c4, rfl, hs, hb⟩
        have HS4 := Lib.hid hs
        have HS5 := Lib.hid (HS3.out.later hb)
        have HB4 := Lib.hid (HB3.out.trans (hb.mono HB3.out.size))
        clear hs hb HS3
        clear q0 q1 q2 q3 HRC
        have HBW : Hid (∀ W, Le w4 W → Below W0.heap.size W0 W) := Lib.hid (fun W hl => HB4.out.trans (hl.mono HB4.out.size))
        have cx0 : ∀ kk : LW w4, kk.val.cell? ⟨w.heap.size, 0, none⟩ = some (.int .i64 fr) := fun kk => (HQ.out _ (HBW.out _ kk.le)).1
        have cx1 : ∀ kk : LW w4, kk.val.cell? ⟨w.heap.size, 1, none⟩ = some (.int .i64 now) := fun kk => (HQ.out _ (HBW.out _ kk.le)).2.1
        have cx2 : ∀ kk : LW w4, kk.val.cell? ⟨w.heap.size, 2, none⟩ = some (.int .i64 cu) := fun kk => (HQ.out _ (HBW.out _ kk.le)).2.2.1
        clear HB3 HB4 HQ
        go_wp2_with fail
        refine wp_region_steady [(74, relR tcl U)] 81 (by kernel_rfl) (by kernel_rfl) (by kernel_rfl) (by rfl) ?_
        iterate 2 (refine wpG_quiet (by rfl) (by rfl) (by rfl) (fun K hK => ?_); go_big_quiet_op; refine hK _ ?_; clear hK K)
        refine wpG_call (by rfl) (by rfl) 11 #[.slice A3 L.length c3, .slice A4 L.length c4] (.bool true) (by intro _; simp [go_sem]) (by kernel_rfl) (fun wx hl => HSA.out wx _ _ _ _ (HS5.out.later hl.1) (HS4.out.later hl.1)) ?_
        simp only [Act.put, List.setIfInBounds_toArray, List.set_cons_zero, List.set_cons_succ]
        iterate 13 (refine wpG_quiet (by rfl) (by rfl) (by rfl) (fun K hK => ?_); go_big_quiet_op; refine hK _ ?_; clear hK K)
        refine wpG_call (by rfl) (by rfl) 12 #[.slice A n c, .int .i64 fr, .int .i64 now, .int .i64 cu] (.int .i64 (U.length : Int)) (by intro _; simp [go_sem]) (by kernel_rfl) (fun wx hl => HST.out wx (HBW.out wx hl.1)) ?_
        simp only [Act.put, List.setIfInBounds_toArray, List.set_cons_zero, List.set_cons_succ]
        iterate 7 (refine wpG_quiet (by rfl) (by rfl) (by rfl) (fun K hK => ?_); go_big_quiet_op; refine hK _ ?_; clear hK K)
        refine wpG_calls (relR tcl U) (by rfl) (by rfl) 13 #[.slice A n c, .int .i64 fr, .int .i64 now, .int .i64 cu] (by intro _; simp [go_sem]) (fun wx hl => (HUP.out wx (HBW.out wx hl.1)).mono ?_) ?_
        · rintro e w5 ⟨A5, c5, rfl, k1, k2⟩
          exact ⟨_, rfl, k2, A5, c5, rfl, k1⟩
        rintro _ ⟨_, _, _, ⟨A5, c5, rfl, _⟩⟩
        simp only [Act.put, List.setIfInBounds_toArray, List.set_cons_zero, List.set_cons_succ]
        iterate 4 (refine wpG_quiet (by rfl) (by rfl) (by rfl) (fun K hK => ?_); go_big_quiet_op; refine hK _ ?_; clear hK K)
        refine wpG_call (by rfl) (by rfl) 8 #[] (.bool true) (by intro _; simp [go_sem]) (by kernel_rfl) (fun wx hl => HAW.out wx) ?_
        simp only [Act.put, List.setIfInBounds_toArray, List.set_cons_zero, List.set_cons_succ]
        iterate 2 (refine wpG_quiet (by rfl) (by rfl) (by rfl) (fun K hK => ?_); go_big_quiet_op; refine hK _ ?_; clear hK K)
        refine wpG_nil fun w6 hl _ => ?_
        have HF := Lib.hid (HB0.out.trans ((HBW.out w6 hl).mono HB0.out.size))
        clear cx0 cx1 cx2 HBW hl
        go_wp2_with fail
        go_ret
        exact ⟨rfl, HF.out⟩
end Go.Proofs.Ytcdmbidggikmfaa

/- DeltaMost: the law's walk. -/
namespace Go.Proofs.Ytcdmbidggikmfaa
set_option linter.unusedVariables false
set_option linter.unusedSimpArgs false
open Go Go.RowKit BitM

set_option maxRecDepth 100000 in
set_option maxHeartbeats 6400000 in
theorem walk_dmost (A : Option Addr) (n c : Nat) (l : List Tn) (fr now cu pg later : Int) (w : World) (h : SeesR tcl w A n c l) (hokt : ∀ t ∈ l, okT t) :
    Calls Try.prog 4 #[.slice A n c, .agg #[.int .i64 fr, .int .i64 now, .int .i64 cu, .int .i64 pg], .int .i64 later] w fun e w' => e = .returned (.bool true) ∧ Below w.heap.size w w' := by
  obtain ⟨W0, hW0⟩ : ∃ W0, W0 = w.alloc (.cells #[.int .i64 fr, .int .i64 now, .int .i64 cu, .int .i64 pg] 24) := ⟨_, rfl⟩
  have hb0 : Below w.heap.size w W0 := by rw [hW0]; exact (Below.refl w.heap.size w).alloc (Nat.le_refl _) _
  have B0 : Blk W0 w.heap.size (askc fr now cu pg) := by rw [hW0]; exact Blk.new w (askc fr now cu pg) _
  have HQ := Lib.hid (fun W (hW : Below W0.heap.size W0 W) => ask_later B0 hW)
  have hok : ∀ t ∈ l, okCd t.cd := fun t ht => (hokt t ht).cd.len
  have h0 := h.later hb0
  have HLA := Lib.hid (tlarge_any A n c l W0 h0 hok)
  have HAW := Lib.hid dl_awake
  have HB0 := Lib.hid hb0
  have HBR := Lib.hid (Below.refl W0.heap.size W0)
  have HW0 := Lib.hid hW0
  clear hW0 hb0 B0 h
  cases hlg : tlarge l with
  | true =>
    rw [hlg] at HLA
    clear hlg h0 hok hokt
    go_enter Try.func4, Try.ntmps4
    go_wp2_with fail
    rw [← HW0.out]
    refine (HLA.out).mono ?_
    rintro e w1 ⟨rfl, hb⟩
    have HB1 := Lib.hid (HBR.out.trans (hb.mono HBR.out.size))
    clear hb
    go_wp2_with fail
    refine (HAW.out _).mono ?_
    rintro e w29 ⟨rfl, hb⟩
    have HB29 := Lib.hid (HB0.out.trans ((HB1.out.trans (hb.mono HB1.out.size)).mono HB0.out.size))
    clear hb
    go_wp2_with fail
    go_ret
    exact ⟨rfl, HB29.out⟩
  | false =>
    rw [hlg] at HLA
    have hn100 : n ≤ 100 := by have := tlarge_len hlg; have := h0.len; omega
    have HRG := Lib.hid (fun W (hW : Below W0.heap.size W0 W) => rgoes_any A n c l W (h0.later hW) hok (by omega))
    cases hgo : goes l with
    | false =>
      rw [hgo] at HRG
      clear hlg hgo h0 hok hokt
      go_enter Try.func4, Try.ntmps4
      go_wp2_with fail
      rw [← HW0.out]
      refine (HLA.out).mono ?_
      rintro e w1 ⟨rfl, hb⟩
      have HB1 := Lib.hid (HBR.out.trans (hb.mono HBR.out.size))
      clear hb
      go_wp2_with fail
      refine (HRG.out _ HB1.out).mono ?_
      rintro e w2 ⟨rfl, hb⟩
      have HB2 := Lib.hid (HB1.out.trans (hb.mono HB1.out.size))
      clear hb
      go_wp2_with fail
      refine (HAW.out _).mono ?_
      rintro e w29 ⟨rfl, hb⟩
      have HB29 := Lib.hid (HB0.out.trans ((HB2.out.trans (hb.mono HB2.out.size)).mono HB0.out.size))
      clear hb
      go_wp2_with fail
      go_ret
      exact ⟨rfl, HB29.out⟩
    | true =>
      rw [hgo] at HRG
      by_cases hfn : now < fr
      · have e0 : decide (now < fr) = true := decide_eq_true hfn
        clear hlg hgo h0 hok hokt hfn
        go_enter Try.func4, Try.ntmps4
        go_wp2_with fail
        rw [← HW0.out]
        refine (HLA.out).mono ?_
        rintro e w1 ⟨rfl, hb⟩
        have HB1 := Lib.hid (HBR.out.trans (hb.mono HBR.out.size))
        clear hb
        go_wp2_with fail
        refine (HRG.out _ HB1.out).mono ?_
        rintro e w2 ⟨rfl, hb⟩
        have HB2 := Lib.hid (HB1.out.trans (hb.mono HB1.out.size))
        clear hb
        obtain ⟨q0, q1, q2, q3⟩ := HQ.out _ HB2.out
        go_wp2_with fail
        refine (HAW.out _).mono ?_
        rintro e w29 ⟨rfl, hb⟩
        have HB29 := Lib.hid (HB0.out.trans ((HB2.out.trans (hb.mono HB2.out.size)).mono HB0.out.size))
        clear hb
        go_wp2_with fail
        go_ret
        exact ⟨rfl, HB29.out⟩
      · have e0 : decide (now < fr) = false := decide_eq_false hfn
        have hfr : fr ≤ now := by omega
        obtain ⟨L, hL⟩ : ∃ L, L = net (cutL l fr now cu (pgN pg)) := ⟨_, rfl⟩
        obtain ⟨TO, hTO⟩ : ∃ TO, TO = cutTo l fr now cu (pgN pg) := ⟨_, rfl⟩
        have hLl : L.length ≤ 100 := by
          have h1 := net_len (cutL l fr now cu (pgN pg))
          have h2 : (cutL l fr now cu (pgN pg)).length ≤ (upl l fr now cu).length := by unfold cutL; rw [List.length_take]; omega
          have h3 := upl_len l fr now cu
          have h4 := h0.len
          rw [hL]; omega
        have hLo : ∀ x ∈ L, okCd x.cd := by
          rw [hL]
          exact net_ok (fun t ht => hok t ((upl_mem.1 (List.mem_of_mem_take ht)).1))
        have HDC := Lib.hid (fun W (hW : Below W0.heap.size W0 W) => dcut_any A n c l fr now cu pg W (h0.later hW) hok hgo hfr (by omega))
        rw [← hL, ← hTO] at HDC
        have hin := cutTo_in (l := l) (c := cu) hfr (pgN pg)
        rw [← hTO] at hin
        have hfit : (L.length : Int) ≤ max pg 0 := by rw [hL, ← pgN_eq]; exact_mod_cast cut_fits l fr now cu (pgN pg)
        have d1 : decide (max pg 0 < (L.length : Int)) = false := decide_eq_false (by omega)
        have d2 : decide (TO < fr) = false := decide_eq_false (by omega)
        have d3 : decide (now < TO) = false := decide_eq_false (by omega)
        have HUP := Lib.hid (fun (to : Int) W (hW : Below W0.heap.size W0 W) => rup_any A n c l fr to cu W (h0.later hW) hok (by omega))
        have hUl : ∀ to, (upl l fr to cu).length ≤ 100 := fun to => by have := upl_len l fr to cu; have := h0.len; omega
        have HRN := Lib.hid (fun (to : Int) W B c1 (k : SeesR tcl W B (upl l fr to cu).length c1 (upl l fr to cu)) => show Calls Try.prog 14 #[.slice B (upl l fr to cu).length c1] W (GivesS W (net (upl l fr to cu))) from by
          have := rnets_any B _ c1 _ W k (fun t ht => hok t ((upl_mem.1 ht).1)) (by have := hUl to; omega)
          rwa [rnet_net (fun t ht => (goes_okT2 hgo t ((upl_mem.1 ht).1)).ok)] at this)
        have hUT : upl l fr TO cu = cutL l fr now cu (pgN pg) := by rw [hTO]; exact cutL_up (goes_srise hgo) hfr _
        have hNT : net (upl l fr TO cu) = L := by rw [hUT, hL]
        have HUT := Lib.hid (HUP.out TO)
        have HNT := Lib.hid (HRN.out TO)
        rw [hNT] at HNT
        have hmost : TO < later → later ≤ now → max pg 0 < ((net (upl l fr later cu)).length : Int) := fun a b => by
          rw [hTO] at a
          have := cut_most (page := pgN pg) (goes_srise hgo) hfr a b
          rw [← pgN_eq]; exact_mod_cast this
        have HSA := Lib.hid (fun W B c1 D c2 (k1 : SeesR icl W B L.length c1 L) (k2 : SeesR icl W D L.length c2 L) => rsamei_any B D L.length c1 L.length c2 L L W rfl rfl (by omega) (by omega) hLo hLo k1.see k2.see)
        rw [decide_eq_true (rfl : L = L)] at HSA
        have HUL := Lib.hid (HUP.out later)
        have HNL := Lib.hid (HRN.out later)
        obtain ⟨U, hU⟩ : ∃ U, U = upl l fr TO cu := ⟨_, rfl⟩
        obtain ⟨V, hV⟩ : ∃ V, V = upl l fr later cu := ⟨_, rfl⟩
        rw [← hU] at HUT HNT
        rw [← hV] at HUL HNL hmost
        obtain ⟨NV, hNV⟩ : ∃ NV, NV = net V := ⟨_, rfl⟩
        rw [← hNV] at HNL hmost
        have HMOST := Lib.hid hmost
        clear hlg hgo h0 hok hokt hfn hfr hL hTO hLl hLo hU hV hNV hNT hUT hUl HUP HRN hin hfit hmost
        by_cases hl1 : TO < later
        · have f1 : decide (TO < later) = true := decide_eq_true hl1
          by_cases hl2 : later ≤ now
          · have f2 : decide (later ≤ now) = true := decide_eq_true hl2
            have f3 : decide ((NV.length : Int) ≤ max pg 0) = false := decide_eq_false (by have := HMOST.out hl1 hl2; omega)
            clear hl1 hl2 HMOST
            go_enter Try.func4, Try.ntmps4
            go_wp2_with fail
            rw [← HW0.out]
            refine (HLA.out).mono ?_
            rintro e w1 ⟨rfl, hb⟩
            have HB1 := Lib.hid (HBR.out.trans (hb.mono HBR.out.size))
            clear hb
            go_wp2_with fail
            refine (HRG.out _ HB1.out).mono ?_
            rintro e w2 ⟨rfl, hb⟩
            have HB2 := Lib.hid (HB1.out.trans (hb.mono HB1.out.size))
            clear hb
            obtain ⟨q0, q1, q2, q3⟩ := HQ.out _ HB2.out
            clear HLA HRG HB1
            go_wp2_with fail
            refine (HDC.out _ HB2.out).mono ?_
            rintro e w3 ⟨A3, c3, rfl, hs, hb⟩
            have HS3 := Lib.hid hs
            have HB3 := Lib.hid (HB2.out.trans (hb.mono HB2.out.size))
            clear hs hb
            clear q0 q1 q2 q3 HDC HB2
            obtain ⟨q0, q1, q2, q3⟩ := HQ.out _ HB3.out
            go_wp2_with fail
            refine (HUT.out _ HB3.out).mono ?_
            rintro e w4 ⟨A4, c4, rfl, hs, hb⟩
            have HS4 := Lib.hid hs
            have HB4 := Lib.hid (HB3.out.trans (hb.mono HB3.out.size))
            have HS5 := Lib.hid (HS3.out.later hb)
            clear hs hb HS3
            clear q0 q1 q2 q3 HUT HB3
            obtain ⟨q0, q1, q2, q3⟩ := HQ.out _ HB4.out
            go_wp2_with fail
            refine (HNT.out _ _ _ HS4.out).mono ?_
            rintro e w5 ⟨A5, c5, rfl, hs, hb⟩
            have HS6 := Lib.hid hs
            have HS7 := Lib.hid (HS5.out.later hb)
            have HB5 := Lib.hid (HB4.out.trans (hb.mono HB4.out.size))
            clear hs hb HS5 q0 q1 q2 q3 HNT HB4
            obtain ⟨q0, q1, q2, q3⟩ := HQ.out _ HB5.out
            go_wp2_with fail
            refine (HSA.out _ _ _ _ _ HS7.out HS6.out).mono ?_
            rintro e w6 ⟨rfl, hb⟩
            have HB6 := Lib.hid (HB5.out.trans (hb.mono HB5.out.size))
            clear hb
            clear q0 q1 q2 q3 HSA HB5 HS6 HS7 HS4
            obtain ⟨q0, q1, q2, q3⟩ := HQ.out _ HB6.out
            have HBW : Hid (∀ W, Le w6 W → Below W0.heap.size W0 W) := Lib.hid (fun W hl => HB6.out.trans (hl.mono HB6.out.size))
            have cx0 : ∀ kk : LW w6, kk.val.cell? ⟨w.heap.size, 0, none⟩ = some (.int .i64 fr) := fun kk => (HQ.out _ (HBW.out _ kk.le)).1
            have cx1 : ∀ kk : LW w6, kk.val.cell? ⟨w.heap.size, 1, none⟩ = some (.int .i64 now) := fun kk => (HQ.out _ (HBW.out _ kk.le)).2.1
            have cx2 : ∀ kk : LW w6, kk.val.cell? ⟨w.heap.size, 2, none⟩ = some (.int .i64 cu) := fun kk => (HQ.out _ (HBW.out _ kk.le)).2.2.1
            have cx3 : ∀ kk : LW w6, kk.val.cell? ⟨w.heap.size, 3, none⟩ = some (.int .i64 pg) := fun kk => (HQ.out _ (HBW.out _ kk.le)).2.2.2
            clear HQ HB6
            go_wp2_with fail
            refine wp_region_steady [(84, relR tcl V), (85, relR icl NV)] 93 (by kernel_rfl) (by kernel_rfl) (by kernel_rfl) (by rfl) ?_
            iterate 16 (refine wpG_quiet (by rfl) (by rfl) (by rfl) (fun K hK => ?_); go_big_quiet_op; refine hK _ ?_; clear hK K)
            refine wpG_calls (relR tcl V) (by rfl) (by rfl) 13 #[.slice A n c, .int .i64 fr, .int .i64 later, .int .i64 cu] (by intro _; simp [go_sem]) (fun wx hl => (HUL.out wx (HBW.out wx hl.1)).mono ?_) ?_
            · rintro e w5 ⟨A5, c5, rfl, k1, k2⟩
              exact ⟨_, rfl, k2, A5, c5, rfl, k1⟩
            rintro _ ⟨_, _, _, ⟨A8, c8, rfl, _⟩⟩
            simp only [Act.put, List.setIfInBounds_toArray, List.set_cons_zero, List.set_cons_succ]
            refine wpG_calls (relR icl NV) (by rfl) (by rfl) 14 #[.slice A8 V.length c8] (by intro _; simp [go_sem]) (fun wx hl => ?_) ?_
            · obtain ⟨A9, c9, e9, k9⟩ := hl.2 84 _ (by simp [Op.operands, Call.operands]) rfl (by intro h; cases h)
              cases e9
              refine (HNL.out wx _ _ k9).mono ?_
              rintro e w5 ⟨A5, c5, rfl, k1, k2⟩
              exact ⟨_, rfl, k2, A5, c5, rfl, k1⟩
            rintro _ ⟨_, _, _, ⟨A9, c9, rfl, _⟩⟩
            simp only [Act.put, List.setIfInBounds_toArray, List.set_cons_zero, List.set_cons_succ]
            iterate 6 (refine wpG_quiet (by rfl) (by rfl) (by rfl) (fun K hK => ?_); go_big_quiet_op; refine hK _ ?_; clear hK K)
            refine wpG_nil fun w7 hl _ => ?_
            have HB7 := Lib.hid (HBW.out w7 hl)
            clear cx0 cx1 cx2 cx3 HBW hl
            go_wp2_with fail
            refine (HAW.out _).mono ?_
            rintro e w29 ⟨rfl, hb⟩
            have HB29 := Lib.hid (HB0.out.trans ((HB7.out.trans (hb.mono HB7.out.size)).mono HB0.out.size))
            clear hb
            go_wp2_with fail
            go_ret
            exact ⟨rfl, HB29.out⟩
          · have f2 : decide (later ≤ now) = false := decide_eq_false hl2
            clear hl1 hl2 HMOST
            go_enter Try.func4, Try.ntmps4
            go_wp2_with fail
            rw [← HW0.out]
            refine (HLA.out).mono ?_
            rintro e w1 ⟨rfl, hb⟩
            have HB1 := Lib.hid (HBR.out.trans (hb.mono HBR.out.size))
            clear hb
            go_wp2_with fail
            refine (HRG.out _ HB1.out).mono ?_
            rintro e w2 ⟨rfl, hb⟩
            have HB2 := Lib.hid (HB1.out.trans (hb.mono HB1.out.size))
            clear hb
            obtain ⟨q0, q1, q2, q3⟩ := HQ.out _ HB2.out
            clear HLA HRG HB1
            go_wp2_with fail
            refine (HDC.out _ HB2.out).mono ?_
            rintro e w3 ⟨A3, c3, rfl, hs, hb⟩
            have HS3 := Lib.hid hs
            have HB3 := Lib.hid (HB2.out.trans (hb.mono HB2.out.size))
            clear hs hb
            clear q0 q1 q2 q3 HDC HB2
            obtain ⟨q0, q1, q2, q3⟩ := HQ.out _ HB3.out
            go_wp2_with fail
            refine (HUT.out _ HB3.out).mono ?_
            rintro e w4 ⟨A4, c4, rfl, hs, hb⟩
            have HS4 := Lib.hid hs
            have HB4 := Lib.hid (HB3.out.trans (hb.mono HB3.out.size))
            have HS5 := Lib.hid (HS3.out.later hb)
            clear hs hb HS3
            clear q0 q1 q2 q3 HUT HB3
            obtain ⟨q0, q1, q2, q3⟩ := HQ.out _ HB4.out
            go_wp2_with fail
            refine (HNT.out _ _ _ HS4.out).mono ?_
            rintro e w5 ⟨A5, c5, rfl, hs, hb⟩
            have HS6 := Lib.hid hs
            have HS7 := Lib.hid (HS5.out.later hb)
            have HB5 := Lib.hid (HB4.out.trans (hb.mono HB4.out.size))
            clear hs hb HS5 q0 q1 q2 q3 HNT HB4
            obtain ⟨q0, q1, q2, q3⟩ := HQ.out _ HB5.out
            go_wp2_with fail
            refine (HSA.out _ _ _ _ _ HS7.out HS6.out).mono ?_
            rintro e w6 ⟨rfl, hb⟩
            have HB6 := Lib.hid (HB5.out.trans (hb.mono HB5.out.size))
            clear hb
            clear q0 q1 q2 q3 HSA HB5 HS6 HS7 HS4
            obtain ⟨q0, q1, q2, q3⟩ := HQ.out _ HB6.out
            have HBW : Hid (∀ W, Le w6 W → Below W0.heap.size W0 W) := Lib.hid (fun W hl => HB6.out.trans (hl.mono HB6.out.size))
            have cx0 : ∀ kk : LW w6, kk.val.cell? ⟨w.heap.size, 0, none⟩ = some (.int .i64 fr) := fun kk => (HQ.out _ (HBW.out _ kk.le)).1
            have cx1 : ∀ kk : LW w6, kk.val.cell? ⟨w.heap.size, 1, none⟩ = some (.int .i64 now) := fun kk => (HQ.out _ (HBW.out _ kk.le)).2.1
            have cx2 : ∀ kk : LW w6, kk.val.cell? ⟨w.heap.size, 2, none⟩ = some (.int .i64 cu) := fun kk => (HQ.out _ (HBW.out _ kk.le)).2.2.1
            have cx3 : ∀ kk : LW w6, kk.val.cell? ⟨w.heap.size, 3, none⟩ = some (.int .i64 pg) := fun kk => (HQ.out _ (HBW.out _ kk.le)).2.2.2
            clear HQ HB6
            go_wp2_with fail
            refine wp_region_steady [] 93 (by kernel_rfl) (by kernel_rfl) (by kernel_rfl) (by rfl) ?_
            iterate 10 (refine wpG_quiet (by rfl) (by rfl) (by rfl) (fun K hK => ?_); go_big_quiet_op; refine hK _ ?_; clear hK K)
            iterate 13 (refine wpG_skip (by rfl) ?_; simp only [Act.put, List.setIfInBounds_toArray, List.set_cons_zero, List.set_cons_succ])
            iterate 1 (refine wpG_quiet (by rfl) (by rfl) (by rfl) (fun K hK => ?_); go_big_quiet_op; refine hK _ ?_; clear hK K)
            refine wpG_nil fun w7 hl _ => ?_
            have HB7 := Lib.hid (HBW.out w7 hl)
            clear cx0 cx1 cx2 cx3 HBW hl
            go_wp2_with fail
            refine (HAW.out _).mono ?_
            rintro e w29 ⟨rfl, hb⟩
            have HB29 := Lib.hid (HB0.out.trans ((HB7.out.trans (hb.mono HB7.out.size)).mono HB0.out.size))
            clear hb
            go_wp2_with fail
            go_ret
            exact ⟨rfl, HB29.out⟩
        · have f1 : decide (TO < later) = false := decide_eq_false hl1
          clear hl1 HMOST
          go_enter Try.func4, Try.ntmps4
          go_wp2_with fail
          rw [← HW0.out]
          refine (HLA.out).mono ?_
          rintro e w1 ⟨rfl, hb⟩
          have HB1 := Lib.hid (HBR.out.trans (hb.mono HBR.out.size))
          clear hb
          go_wp2_with fail
          refine (HRG.out _ HB1.out).mono ?_
          rintro e w2 ⟨rfl, hb⟩
          have HB2 := Lib.hid (HB1.out.trans (hb.mono HB1.out.size))
          clear hb
          obtain ⟨q0, q1, q2, q3⟩ := HQ.out _ HB2.out
          clear HLA HRG HB1
          go_wp2_with fail
          refine (HDC.out _ HB2.out).mono ?_
          rintro e w3 ⟨A3, c3, rfl, hs, hb⟩
          have HS3 := Lib.hid hs
          have HB3 := Lib.hid (HB2.out.trans (hb.mono HB2.out.size))
          clear hs hb
          clear q0 q1 q2 q3 HDC HB2
          obtain ⟨q0, q1, q2, q3⟩ := HQ.out _ HB3.out
          go_wp2_with fail
          refine (HUT.out _ HB3.out).mono ?_
          rintro e w4 ⟨A4, c4, rfl, hs, hb⟩
          have HS4 := Lib.hid hs
          have HB4 := Lib.hid (HB3.out.trans (hb.mono HB3.out.size))
          have HS5 := Lib.hid (HS3.out.later hb)
          clear hs hb HS3
          clear q0 q1 q2 q3 HUT HB3
          obtain ⟨q0, q1, q2, q3⟩ := HQ.out _ HB4.out
          go_wp2_with fail
          refine (HNT.out _ _ _ HS4.out).mono ?_
          rintro e w5 ⟨A5, c5, rfl, hs, hb⟩
          have HS6 := Lib.hid hs
          have HS7 := Lib.hid (HS5.out.later hb)
          have HB5 := Lib.hid (HB4.out.trans (hb.mono HB4.out.size))
          clear hs hb HS5 q0 q1 q2 q3 HNT HB4
          obtain ⟨q0, q1, q2, q3⟩ := HQ.out _ HB5.out
          go_wp2_with fail
          refine (HSA.out _ _ _ _ _ HS7.out HS6.out).mono ?_
          rintro e w6 ⟨rfl, hb⟩
          have HB6 := Lib.hid (HB5.out.trans (hb.mono HB5.out.size))
          clear hb
          clear q0 q1 q2 q3 HSA HB5 HS6 HS7 HS4
          obtain ⟨q0, q1, q2, q3⟩ := HQ.out _ HB6.out
          have HBW : Hid (∀ W, Le w6 W → Below W0.heap.size W0 W) := Lib.hid (fun W hl => HB6.out.trans (hl.mono HB6.out.size))
          have cx0 : ∀ kk : LW w6, kk.val.cell? ⟨w.heap.size, 0, none⟩ = some (.int .i64 fr) := fun kk => (HQ.out _ (HBW.out _ kk.le)).1
          have cx1 : ∀ kk : LW w6, kk.val.cell? ⟨w.heap.size, 1, none⟩ = some (.int .i64 now) := fun kk => (HQ.out _ (HBW.out _ kk.le)).2.1
          have cx2 : ∀ kk : LW w6, kk.val.cell? ⟨w.heap.size, 2, none⟩ = some (.int .i64 cu) := fun kk => (HQ.out _ (HBW.out _ kk.le)).2.2.1
          have cx3 : ∀ kk : LW w6, kk.val.cell? ⟨w.heap.size, 3, none⟩ = some (.int .i64 pg) := fun kk => (HQ.out _ (HBW.out _ kk.le)).2.2.2
          clear HQ HB6
          go_wp2_with fail
          refine wp_region_steady [] 93 (by kernel_rfl) (by kernel_rfl) (by kernel_rfl) (by rfl) ?_
          iterate 4 (refine wpG_quiet (by rfl) (by rfl) (by rfl) (fun K hK => ?_); go_big_quiet_op; refine hK _ ?_; clear hK K)
          iterate 4 (refine wpG_skip (by rfl) ?_; simp only [Act.put, List.setIfInBounds_toArray, List.set_cons_zero, List.set_cons_succ])
          iterate 2 (refine wpG_quiet (by rfl) (by rfl) (by rfl) (fun K hK => ?_); go_big_quiet_op; refine hK _ ?_; clear hK K)
          iterate 13 (refine wpG_skip (by rfl) ?_; simp only [Act.put, List.setIfInBounds_toArray, List.set_cons_zero, List.set_cons_succ])
          iterate 1 (refine wpG_quiet (by rfl) (by rfl) (by rfl) (fun K hK => ?_); go_big_quiet_op; refine hK _ ?_; clear hK K)
          refine wpG_nil fun w7 hl _ => ?_
          have HB7 := Lib.hid (HBW.out w7 hl)
          clear cx0 cx1 cx2 cx3 HBW hl
          go_wp2_with fail
          refine (HAW.out _).mono ?_
          rintro e w29 ⟨rfl, hb⟩
          have HB29 := Lib.hid (HB0.out.trans ((HB7.out.trans (hb.mono HB7.out.size)).mono HB0.out.size))
          clear hb
          go_wp2_with fail
          go_ret
          exact ⟨rfl, HB29.out⟩
end Go.Proofs.Ytcdmbidggikmfaa

/- Items: are they more, or longer, than are looked at; two lists of cards held against each other by the document. -/
namespace Go.Proofs.Ytcdmbidggikmfaa
set_option linter.unusedVariables false
set_option linter.unusedSimpArgs false
open Go Go.RowKit BitM

instance : DecidableEq Cd := fun c d => inferInstanceAs (Decidable (c = d))
theorem ccl_lens {l : List Cd} (h : ∀ t ∈ l, okCd t) : ∀ x ∈ l, (ccl x).length = 27 := fun x hx => ccl_len (h x hx)
/-- The cells of a card that lies in a slice. -/
theorem card_cells {w : World} {A : Option Addr} {n c : Nat} {l : List Cd} (h : SeesR ccl w A n c l) (hok : ∀ t ∈ l, okCd t) (hl : 0 < l.length) :
    ∃ b o, A = some ⟨b, o, none⟩ ∧ b < w.heap.size ∧ ∀ W, Below w.heap.size w W → ∀ k (hk : k < l.length), W.cell? ⟨b, o + k * 27, none⟩ = some (.int .i64 l[k].1) ∧ W.cell? ⟨b, o + k * 27 + 1, none⟩ = some (.int .i64 l[k].2.1) ∧
      W.rangeAt b (o + k * 27) (ccl l[k]) ∧ W.rangeAt b (o + k * 27 + 3) (fcells l[k].2.2.2) := by
  obtain ⟨b, o, e, hb, hr⟩ := h.gets (ccl_lens hok) (by omega) hl
  refine ⟨b, o, e, hb, fun W hW k hk => ?_⟩
  have r := hr W hW k hk
  refine ⟨r 0 _ rfl, r 1 _ rfl, r, fun j v hj => ?_⟩
  have := r (3 + j) v (ccl_fields _ j v hj)
  rw [show o + k * 27 + 3 + j = o + k * 27 + (3 + j) by omega]
  exact this

set_option maxRecDepth 100000 in
set_option maxHeartbeats 3200000 in
theorem rsamec_any (A B : Option Addr) (n c m d : Nat) (l l' : List Cd) (w : World) (hl : l.length = n) (hm : l'.length = m) (hn : n ≤ 1099511627776) (hm2 : m ≤ 1099511627776) (hok : ∀ x ∈ l, okCd x) (hok' : ∀ x ∈ l', okCd x) (hA : Sees w w.heap.size A (rws ccl l)) (hB : Sees w w.heap.size B (rws ccl l')) :
    Calls Try.prog 18 #[.slice A n c, .slice B m d] w fun e w' => e = .returned (.bool (decide (l = l'))) ∧ Below w.heap.size w w' := by
  have hu := Try.underlying43
  by_cases hnm : n = m
  · subst hnm
    obtain ⟨R, hR⟩ : ∃ R, R = decide (l = l') := ⟨_, rfl⟩
    have HR : Hid (R = true ↔ l = l') := Lib.hid (by rw [hR, decide_eq_true_eq])
    rw [← hR]
    have HLL := Lib.hid hl
    have HOK1 := Lib.hid hok
    have HOK2 := Lib.hid hok'
    clear hok hok'
    have HML := Lib.hid hm
    clear hR hl hm hm2
    go_enter Try.func18, Try.ntmps18
    go_wp2_with fail
    go_loopw [5] (fun i wr => ∃ k : Nat, k ≤ n ∧ i = .int .i64 k ∧ Hid (∀ i (h1 : i < l.length) (h2 : i < l'.length), i < k → l[i] = l'[i]) ∧ Below w.heap.size w wr) (fun i _ => n - (iOf i).toNat)
    case atStart => exact ⟨0, by omega, rfl, Lib.hid (fun i _ _ h => absurd h (by omega)), Below.refl _ _⟩
    case round =>
      obtain ⟨k, hk, rfl, HK, hbr⟩ := hrel
      by_cases hlt : k < n
      · have dk : (k : Int) < (n : Int) := by omega
        have hkl : k < l.length := by rw [HLL.out]; exact hlt
        have hkm : k < l'.length := by rw [HML.out]; exact hlt
        obtain ⟨b1, o1, rfl, hb1, hr1⟩ := sees_rw (sz := 27) (ccl_lens HOK1.out) (hA.below hbr) (by decide) k hkl
        obtain ⟨b2, o2, rfl, hb2, hr2⟩ := sees_rw (sz := 27) (ccl_lens HOK2.out) (hB.below hbr) (by decide) k hkm
        have hL1 := ccl_lens HOK1.out _ (List.getElem_mem hkl)
        have hO1 := HOK1.out _ (List.getElem_mem hkl)
        have hL2 := ccl_lens HOK2.out _ (List.getElem_mem hkm)
        have hO2 := HOK2.out _ (List.getElem_mem hkm)
        obtain ⟨u, hu2⟩ : ∃ u, u = l[k] := ⟨_, rfl⟩
        obtain ⟨v, hv2⟩ : ∃ v, v = l'[k] := ⟨_, rfl⟩
        rw [← hu2] at hr1 hL1 hO1
        rw [← hv2] at hr2 hL2 hO2
        have HUL := Lib.hid hL1
        have HVL := Lib.hid hL2
        have hbz := hbr.size
        have HA : Hid (∀ w1, Le wr w1 → w1.rangeAt b1 (o1 + k * 27) (ccl u)) := Lib.hid (fun w1 h1 j v hj => (h1.cell (p := ⟨b1, o1 + k * 27 + j, none⟩) (by show b1 < wr.heap.size; omega)).trans (hr1 j v hj))
        have HB : Hid (∀ w1, Le wr w1 → w1.rangeAt b2 (o2 + k * 27) (ccl v)) := Lib.hid (fun w1 h1 j v hj => (h1.cell (p := ⟨b2, o2 + k * 27 + j, none⟩) (by show b2 < wr.heap.size; omega)).trans (hr2 j v hj))
        have HQ := Lib.hid (fun w1 : World => eq_ccl u v hO1 hO2 w1)
        have HU2 := Lib.hid hu2
        have HV2 := Lib.hid hv2
        clear hr1 hr2 hL1 hL2 hO1 hO2 hu2 hv2 hb1 hb2
        cases huv : decide (u = v) with
        | true =>
          rw [huv] at HQ
          have HE := Lib.hid (of_decide_eq_true huv)
          clear huv
          go_wp2_with fail
          refine wp_region_steady [] 26 (by kernel_rfl) (by kernel_rfl) (by kernel_rfl) (by rfl) ?_
          iterate 3 (refine wpG_quiet (by rfl) (by rfl) (by rfl) (fun K hK => ?_); go_big_quiet_op; refine hK _ ?_; clear hK K)
          refine wpG_run (by rfl) (by rfl) (.agg (ccl u).toArray) (fun wx hl => exec_load 43 (.tmp 19) rfl b1 (o1 + k * 27) rfl (ccl u) _ (HA.out wx hl.1) hu rfl (by rw [HUL.out]; exact info_card)) ?_
          simp only [Act.put, List.setIfInBounds_toArray, List.set_cons_zero, List.set_cons_succ]
          iterate 3 (refine wpG_quiet (by rfl) (by rfl) (by rfl) (fun K hK => ?_); go_big_quiet_op; refine hK _ ?_; clear hK K)
          refine wpG_run (by rfl) (by rfl) (.agg (ccl v).toArray) (fun wx hl => exec_load 43 (.tmp 23) rfl b2 (o2 + k * 27) rfl (ccl v) _ (HB.out wx hl.1) hu rfl (by rw [HVL.out]; exact info_card)) ?_
          simp only [Act.put, List.setIfInBounds_toArray, List.set_cons_zero, List.set_cons_succ]
          refine wpG_run (by rfl) (by rfl) (.bool (!true)) (fun wx hl => exec_neq 43 _ (.tmp 20) (.tmp 24) rfl _ _ rfl rfl guard_card true (HQ.out wx)) ?_
          simp only [Act.put, List.setIfInBounds_toArray, List.set_cons_zero, List.set_cons_succ]
          refine wpG_nil fun w1 hl _ => ?_
          have hb1 := hbr.trans (hl.mono hbr.size)
          clear hA hB hbr
          go_wp2_with fail
          go_roundw
          case rel => exact ⟨k + 1, by omega, by go_num, Lib.hid (fun i h1 h2 hi => by
            by_cases e : i = k
            · subst e; rw [← HU2.out, ← HV2.out]; exact HE.out
            · exact HK.out i h1 h2 (by omega)), hb1⟩
          case measure => simp [iOf]; omega
        | false =>
          rw [huv] at HQ
          have HRR : Hid (R = false) := Lib.hid (by
            rw [Bool.eq_false_iff]
            intro e
            replace e := HR.out.1 e
            refine of_decide_eq_false huv ?_
            rw [HU2.out, HV2.out]
            subst e
            rfl)
          clear huv
          go_wp2_with fail
          refine wp_region_steady [] 26 (by kernel_rfl) (by kernel_rfl) (by kernel_rfl) (by rfl) ?_
          iterate 3 (refine wpG_quiet (by rfl) (by rfl) (by rfl) (fun K hK => ?_); go_big_quiet_op; refine hK _ ?_; clear hK K)
          refine wpG_run (by rfl) (by rfl) (.agg (ccl u).toArray) (fun wx hl => exec_load 43 (.tmp 19) rfl b1 (o1 + k * 27) rfl (ccl u) _ (HA.out wx hl.1) hu rfl (by rw [HUL.out]; exact info_card)) ?_
          simp only [Act.put, List.setIfInBounds_toArray, List.set_cons_zero, List.set_cons_succ]
          iterate 3 (refine wpG_quiet (by rfl) (by rfl) (by rfl) (fun K hK => ?_); go_big_quiet_op; refine hK _ ?_; clear hK K)
          refine wpG_run (by rfl) (by rfl) (.agg (ccl v).toArray) (fun wx hl => exec_load 43 (.tmp 23) rfl b2 (o2 + k * 27) rfl (ccl v) _ (HB.out wx hl.1) hu rfl (by rw [HVL.out]; exact info_card)) ?_
          simp only [Act.put, List.setIfInBounds_toArray, List.set_cons_zero, List.set_cons_succ]
          refine wpG_run (by rfl) (by rfl) (.bool (!false)) (fun wx hl => exec_neq 43 _ (.tmp 20) (.tmp 24) rfl _ _ rfl rfl guard_card false (HQ.out wx)) ?_
          simp only [Act.put, List.setIfInBounds_toArray, List.set_cons_zero, List.set_cons_succ]
          refine wpG_nil fun w1 hl _ => ?_
          have hb1 := hbr.trans (hl.mono hbr.size)
          clear hA hB hbr
          go_wp2_with fail
          go_ret
          exact ⟨by rw [HRR.out]; rfl, hb1⟩
      · obtain rfl : k = n := by omega
        have HRR : Hid (R = true) := Lib.hid (by
          exact HR.out.2 (List.ext_getElem (by rw [HLL.out, HML.out]) (fun i h1 h2 => HK.out i h1 h2 (by rw [HLL.out] at h1; exact h1))))
        go_wp2_with fail
        go_ret
        exact ⟨by rw [HRR.out]; rfl, hbr⟩
  · have HRR : Hid (decide (l = l') = false) := Lib.hid (decide_eq_false (fun e => hnm (by rw [← hl, ← hm, e])))
    rw [HRR.out]
    have b1 : ((n : Int) != (m : Int)) = true := by rw [bne_iff_ne]; omega
    clear hA hB hl hm hok hok'
    go_enter Try.func18, Try.ntmps18
    go_wp2_with fail
    go_ret
    exact ⟨rfl, Below.refl _ _⟩
end Go.Proofs.Ytcdmbidggikmfaa

/- Which items may be: the program's CheckItems, the document's. -/
namespace Go.Proofs.Ytcdmbidggikmfaa
set_option linter.unusedVariables false
set_option linter.unusedSimpArgs false
open Go Go.RowKit BitM

end Go.Proofs.Ytcdmbidggikmfaa

/- Which items may be: the document's CheckItems. -/
namespace Go.Proofs.Ytcdmbidggikmfaa
set_option linter.unusedVariables false
set_option linter.unusedSimpArgs false
open Go Go.RowKit BitM
end Go.Proofs.Ytcdmbidggikmfaa
