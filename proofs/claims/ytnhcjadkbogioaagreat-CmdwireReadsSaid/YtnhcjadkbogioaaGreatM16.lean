/- Commands: which may be: amid Check. -/
import Derived.Test.YtnhcjadkbogioaaGreatM15
import Derived.Test.YtnhcjadkbogioaaGreatM8
import Derived.Test.YtnhcjadkbogioaaGreatM13
import Derived.Test.YtnhcjadkbogioaaGreatM4
set_option maxRecDepth 100000
set_option maxHeartbeats 6400000
namespace Go.Proofs.YtnhcjadkbogioaaGreat
set_option linter.unusedVariables false
set_option linter.unusedSimpArgs false
open Go Go.RowKit OctM
theorem wpList_store_asC {P : Program} {ops : Array Oper} {rest : List Oper} {op : Oper} {a : Act} {w : World} {Q : Exit → Act → World → Prop} (hgd : op.guard = none) (ty : TypeId) (x y : Operand) (ho : op.op = .store ty x y)
    (b o : Nat) (cells : Array Value) (hx : a.eval x = .pointer (some ⟨b, o, none⟩)) (hy : a.eval y = .agg cells)
    (ht : w.there b o cells.size) (hi : (P.info? ty).map (·.size) = some cells.size) (h1 : cells.all (·.oneCell') = true) (W3 : World) (hW : W3 = w.setCells b o cells.toList)
    (h : wpList P ops Q rest (a.put op.dst undef) W3) : wpList P ops Q (op :: rest) a w :=
  wpList_store_mid hgd ty x y ho b o cells hx hy ht hi h1 (by rw [← hW]; exact h)
def y1 (x : Cm) : Cm := { x with kd := 0, ek := 0, eid := 0, eg := 0, em := 0#32, el := 0#32, ef := zeros }
def y5 (x : Cm) : Cm := { x with kd := 0, kp := 0 }
def y4 (x : Cm) : Cm := { x with kd := 0, dv := 0, rq := 0 }
def y2 (x : Cm) : Cm := { x with kd := 0, dv := 0, rq := 0, id := 0, bs := 0, pm := 0#32, pl := 0#32, pf := zeros }
def y3 (x : Cm) : Cm := { x with kd := 0, dv := 0, rq := 0, A := none, n := 0, c := 0, f := [], ms := 0#32 }
theorem cok_1 {x : Cm} (h : x.kd = 1) : cok x ↔ echk x.ek x.eid x.eg x.em (x.el.toNat : Int) x.ef = 0 ∧ cz (y1 x) := by
  constructor
  · rintro ⟨_, h1, _⟩
    obtain ⟨a, b, c, d, e, f, g, i, j⟩ := h1 h
    exact ⟨a, c, ⟨rfl, rfl, rfl, rfl, rfl, rfl⟩, b, d, e, f, g, i, j⟩
  · rintro ⟨a, c, _, b, d, e, f, g, i, j⟩
    exact ⟨.inl h, fun _ => ⟨a, b, c, d, e, f, g, i, j⟩, fun k => by omega, fun k => by omega, fun k => by omega, fun k => by omega, fun k => by omega⟩
theorem cok_5 {x : Cm} (h : x.kd = 5) : cok x ↔ (0 ≤ x.kp ∧ x.kp ≤ 1099511627776) ∧ cz (y5 x) := by
  constructor
  · rintro ⟨_, _, h1, _⟩
    obtain ⟨a, b, c, d, e, f, g, i, j⟩ := h1 h
    exact ⟨a, d, b, c, e, f, g, i, j, rfl⟩
  · rintro ⟨a, d, b, c, e, f, g, i, j, _⟩
    exact ⟨.inr (.inr (.inr (.inr h))), fun k => by omega, fun _ => ⟨a, b, c, d, e, f, g, i, j⟩, fun k => by omega, fun k => by omega, fun k => by omega, fun k => by omega⟩
theorem cok_4 {x : Cm} (h : x.kd = 4) : cok x ↔ (0 ≤ x.dv ∧ x.dv < 6) ∧ (1 ≤ x.rq ∧ x.rq ≤ 1099511627776) ∧ cz (y4 x) := by
  constructor
  · rintro ⟨_, _, _, h1, _, _, h2⟩
    obtain ⟨a, b, c, d⟩ := h1 (.inr (.inr h))
    obtain ⟨e, f, g, i, j⟩ := h2 h
    exact ⟨a, b, f, c, e, g, rfl, rfl, i, j, d⟩
  · rintro ⟨a, b, f, c, e, g, _, _, i, j, d⟩
    exact ⟨.inr (.inr (.inr (.inl h))), fun k => by omega, fun k => by omega, fun _ => ⟨a, b, c, d⟩, fun k => by omega, fun k => by omega, fun _ => ⟨e, f, g, i, j⟩⟩
theorem cok_2 {x : Cm} (h : x.kd = 2) : cok x ↔ (0 ≤ x.dv ∧ x.dv < 6) ∧ (1 ≤ x.rq ∧ x.rq ≤ 1099511627776) ∧ (1 ≤ x.id ∧ x.id < 1073741824) ∧ (1 ≤ x.bs ∧ x.bs ≤ 1099511627776) ∧ pchk x.pm (x.pl.toNat : Int) x.pf = 0 ∧ cz (y2 x) := by
  constructor
  · rintro ⟨_, _, _, h1, h2, _⟩
    obtain ⟨a, b, c, d⟩ := h1 (.inl h)
    obtain ⟨e, f, g, i, j⟩ := h2 h
    exact ⟨a, b, e, f, g, i, c, ⟨rfl, rfl, rfl⟩, j, rfl, rfl, rfl, rfl, d⟩
  · rintro ⟨a, b, e, f, g, i, c, _, j, _, _, _, _, d⟩
    exact ⟨.inr (.inl h), fun k => by omega, fun k => by omega, fun _ => ⟨a, b, c, d⟩, fun _ => ⟨e, f, g, i, j⟩, fun k => by omega, fun k => by omega⟩
theorem cok_3 {x : Cm} (h : x.kd = 3) : cok x ↔ (0 ≤ x.dv ∧ x.dv < 6) ∧ (1 ≤ x.rq ∧ x.rq ≤ 1099511627776) ∧ lchk x.f = 0 ∧ x.ms.toNat ≤ 511 ∧ cz (y3 x) := by
  constructor
  · rintro ⟨_, _, _, h1, _, h2, _⟩
    obtain ⟨a, b, c, d⟩ := h1 (.inr (.inl h))
    obtain ⟨e, f, g, i, j⟩ := h2 h
    exact ⟨a, b, e, f, rfl, c, g, rfl, rfl, rfl, i, j, d⟩
  · rintro ⟨a, b, e, f, _, c, g, _, _, _, i, j, d⟩
    exact ⟨.inr (.inr (.inl h)), fun k => by omega, fun k => by omega, fun _ => ⟨a, b, c, d⟩, fun k => by omega, fun _ => ⟨e, f, g, i, j⟩, fun k => by omega⟩
structure CkSt (w : World) (x y : Cm) (W : World) : Prop where
  a : Blk W w.heap.size (cmc x)
  b : Blk W (w.heap.size + 1) (cmc y)
  be : Below w.heap.size w W
  y1 : y.ef.length = 8
  y2 : y.pf.length = 8
section
variable {w W W' : World} {x y y' : Cm}
theorem CkSt.later (h : CkSt w x y W) (hb : Below W.heap.size W W') : CkSt w x y W' := ⟨h.a.later hb, h.b.later hb, h.be.trans (hb.mono h.be.size), h.y1, h.y2⟩
theorem CkSt.set (h : CkSt w x y W) (j : Nat) (v : Value) (e : (cmc y).set j v = cmc y') (e1 : y'.ef.length = 8) (e2 : y'.pf.length = 8) : CkSt w x y' (W.setCell ⟨w.heap.size + 1, j, none⟩ v) :=
  ⟨h.a.setOther j v (by omega), by rw [← e]; exact h.b.set j v, h.be.setCell (p := ⟨w.heap.size + 1, j, none⟩) (by show w.heap.size ≤ w.heap.size + 1; omega) v, e1, e2⟩
theorem CkSt.setE (h : CkSt w x y W) : CkSt w x { y with ek := 0, eid := 0, eg := 0, em := 0#32, el := 0#32, ef := zeros } (W.setCells (w.heap.size + 1) 1 (ecells 0 0 0 0 0 zeros)) :=
  ⟨Blk.setsOther (by omega) _ _ h.a, by have := h.b.sets (ecells 0 0 0 0 0 zeros) 1 (by rw [cmc_len h.y1 h.y2, ecells_len _ _ _ _ _ zeros_len]; omega); rw [cm_setE h.y1 h.y2] at this; exact this, below_sets (by omega) _ _ h.be, zeros_len, h.y2⟩
theorem CkSt.setP (h : CkSt w x y W) : CkSt w x { y with pm := 0#32, pl := 0#32, pf := zeros } (W.setCells (w.heap.size + 1) 35 (pcells 0 0 zeros)) :=
  ⟨Blk.setsOther (by omega) _ _ h.a, by have := h.b.sets (pcells 0 0 zeros) 35 (by rw [cmc_len h.y1 h.y2, pcells_len _ _ zeros_len]; omega); rw [cm_setP h.y1 h.y2] at this; exact this, below_sets (by omega) _ _ h.be, h.y1, zeros_len⟩
end
theorem CkSt.new (w : World) (x : Cm) (h1 : x.ef.length = 8) (h2 : x.pf.length = 8) :
    CkSt w x x (((w.alloc (.cells (cmc x).toArray 41)).alloc (.cells zA63 41)).setCells (w.heap.size + 1) 0 (cmc x)) ∧ ((w.alloc (.cells (cmc x).toArray 41)).alloc (.cells zA63 41)).there (w.heap.size + 1) 0 63 := by
  have hl := cmc_len h1 h2
  have ha := (Blk.new w (cmc x) 41).alloc (.cells zA63 41)
  have hz := Blk.new (w.alloc (.cells (cmc x).toArray 41)) [.int .i64 0, .int .i64 0, .int .i64 0, .int .i64 0, .int .u32 0, .int .u32 0, .int .i64 0, .int .i64 0, .string ⟨#[]⟩, .int .i64 0, .int .i64 0, .string ⟨#[]⟩, .int .i64 0, .int .i64 0, .string ⟨#[]⟩, .int .i64 0, .int .i64 0, .string ⟨#[]⟩, .int .i64 0, .int .i64 0, .string ⟨#[]⟩, .int .i64 0, .int .i64 0, .string ⟨#[]⟩, .int .i64 0, .int .i64 0, .string ⟨#[]⟩, .int .i64 0, .int .i64 0, .string ⟨#[]⟩, .int .i64 0, .int .i64 0, .int .i64 0, .int .i64 0, .int .i64 0, .int .u32 0, .int .u32 0, .int .i64 0, .int .i64 0, .string ⟨#[]⟩, .int .i64 0, .int .i64 0, .string ⟨#[]⟩, .int .i64 0, .int .i64 0, .string ⟨#[]⟩, .int .i64 0, .int .i64 0, .string ⟨#[]⟩, .int .i64 0, .int .i64 0, .string ⟨#[]⟩, .int .i64 0, .int .i64 0, .string ⟨#[]⟩, .int .i64 0, .int .i64 0, .string ⟨#[]⟩, .int .i64 0, .int .i64 0, .string ⟨#[]⟩, .slice none 0 0, .int .u32 0] 41
  rw [show (w.alloc (.cells (cmc x).toArray 41)).heap.size = w.heap.size + 1 by simp] at hz
  have hs := hz.sets (cmc x) 0 (by rw [hl]; exact Nat.le_refl 63)
  rw [List.take_zero, List.nil_append, List.drop_eq_nil_of_le (by rw [hl]; exact Nat.le_refl 63), List.append_nil] at hs
  exact ⟨⟨Blk.setsOther (by omega) _ _ ha, hs, below_sets (by omega) _ _ ((below_a1C _ _).alloc (below_a1C _ _).size _), h1, h2⟩, hz.there 0 63 (Nat.le_refl 63)⟩
theorem cabove_any (z : Int) (w : World) : Calls Tryz.prog 43 #[.int .i64 z] w fun e w' => e = .returned (.bool (decide (1 ≤ z ∧ z ≤ 1099511627776))) ∧ w = w' := by
  obtain ⟨R, hR⟩ : ∃ R, R = decide (1 ≤ z ∧ z ≤ 1099511627776) := ⟨_, rfl⟩
  rw [← hR]
  have HR := hid hR
  clear hR
  go_enter Tryz.func43, Tryz.ntmps43
  go_wp2_with fail
  all_goals
    go_ret
    refine ⟨?_, rfl⟩
    show Ending.returned (Value.bool _) = _
    rw [HR.out]
    refine congrArg (fun b => Ending.returned (Value.bool b)) (Bool.eq_iff_iff.2 ?_)
    simp only [decide_eq_true_eq, Bool.and_eq_true, Bool.or_eq_true, Bool.not_eq_true', decide_eq_false_iff_not, Bool.false_eq_true, beq_iff_eq, false_iff, true_iff]
    (try simp only [decide_eq_true_eq, decide_eq_false_iff_not] at *)
    omega
variable {P : Program} {ops : Array Oper} {rest : List Oper} {op : Oper} {a : Act} {w : World} {Q : Exit → Act → World → Prop}
theorem wpList_store_i (hgd : op.guard = none) (ty : TypeId) (x y : Operand) (ho : op.op = .store ty x y)
    (b o : Nat) (k : IntKind) (n : Int) (hx : a.eval x = .pointer (some ⟨b, o, none⟩)) (hy : a.eval y = .int k n) (old : Value) (hi : (P.info? ty).map (·.size) = some 1)
    (hc : w.cell? ⟨b, o, none⟩ = some old) (hf : w.frozen? ⟨b, o, none⟩ = false) (W3 : World) (hW : W3 = w.setCell ⟨b, o, none⟩ (.int k n))
    (h : wpList P ops Q rest (a.put op.dst undef) W3) : wpList P ops Q (op :: rest) a w :=
  wpList_plain hgd fun _ hK => by
    obtain ⟨i, hq, hs⟩ : ∃ i, P.info? ty = some i ∧ i.size = 1 := by
      cases e : P.info? ty with
      | none => simp [e] at hi
      | some i => exact ⟨i, rfl, by simpa [e] using hi⟩
    have hst : (storeVar ty ⟨b, o, none⟩ (.int k n)).run P w = .ok () W3 := by
      simp [Addr.add, storeVar, sizeOf, typeInfo, hq, hs, Value.cells, storeCells, run_store_int, stored, hc, hf, hW]
    unfold Oper.wp execOp
    simp only [ho, hx, hy, Instr.storeAt, Instr.sureAddr, Sem.run_bind, Sem.run_pure, Result.andThen_ok, hst]
    exact hK _ _ h
theorem wpList_store_s (hgd : op.guard = none) (ty : TypeId) (x y : Operand) (ho : op.op = .store ty x y)
    (b o : Nat) (k : Option Addr) (n c : Nat) (hx : a.eval x = .pointer (some ⟨b, o, none⟩)) (hy : a.eval y = .slice k n c) (old : Value) (hi : (P.info? ty).map (·.size) = some 1)
    (hc : w.cell? ⟨b, o, none⟩ = some old) (hf : w.frozen? ⟨b, o, none⟩ = false) (W3 : World) (hW : W3 = w.setCell ⟨b, o, none⟩ (.slice k n c))
    (h : wpList P ops Q rest (a.put op.dst undef) W3) : wpList P ops Q (op :: rest) a w :=
  wpList_plain hgd fun _ hK => by
    obtain ⟨i, hq, hs⟩ : ∃ i, P.info? ty = some i ∧ i.size = 1 := by
      cases e : P.info? ty with
      | none => simp [e] at hi
      | some i => exact ⟨i, rfl, by simpa [e] using hi⟩
    have hst : (storeVar ty ⟨b, o, none⟩ (.slice k n c)).run P w = .ok () W3 := by
      simp [Addr.add, storeVar, sizeOf, typeInfo, hq, hs, Value.cells, storeCells, run_store_slice, stored, hc, hf, hW]
    unfold Oper.wp execOp
    simp only [ho, hx, hy, Instr.storeAt, Instr.sureAddr, Sem.run_bind, Sem.run_pure, Result.andThen_ok, hst]
    exact hK _ _ h
theorem info_i : (Tryz.prog.info? 3).map (·.size) = some 1 := by kernel_rfl
theorem info_f : (Tryz.prog.info? 39).map (·.size) = some 1 := by kernel_rfl
theorem info_m : (Tryz.prog.info? 31).map (·.size) = some 1 := by kernel_rfl
theorem ccheck_0 (x : Cm) (w : World) (h : okCm w x) (hk : ¬ (x.kd = 1 ∨ x.kd = 2 ∨ x.kd = 3 ∨ x.kd = 4 ∨ x.kd = 5)) :
    Calls Tryz.prog 18 #[.agg (cmc x).toArray] w fun e w' => e = .returned (.bool (decide (cok x))) ∧ Below w.heap.size w w' := by
  have hue := Tryz.underlying38
  have hup := Tryz.underlying36
  have huc := Tryz.underlying41
  obtain ⟨hs1, hth⟩ := CkSt.new w x h.e8 h.p8
  have B0 := Blk.new w (cmc x) 41
  have RG0 := B0.range 0 (cmc x) (by rw [List.drop_zero, List.take_length])
  have honc := all_oneCell_toArray (cmc_one x)
  have HLC := hid (cmc_len h.e8 h.p8)
  have HPX := hid (cm_at h.e8 h.p8)
  obtain ⟨xc, hxc⟩ : ∃ c, c = cmc x := ⟨_, rfl⟩
  obtain ⟨W1, hW1⟩ : ∃ W1, W1 = ((w.alloc (.cells (cmc x).toArray 41)).alloc (.cells zA63 41)).setCells (w.heap.size + 1) 0 (cmc x) := ⟨_, rfl⟩
  rw [← hW1] at hs1
  rw [← hxc] at hW1 RG0 honc HLC hth ⊢
  have HS1 := hid hs1
  have HW1 := hid hW1
  have HON := hid honc
  have TH1 := hth
  obtain ⟨R, hR⟩ : ∃ R, R = decide (cok x) := ⟨_, rfl⟩
  rw [← hR]
  have HR := hid hR
  have e1 : (x.kd == 1) = false := by simp only [not_or] at hk; simp [hk]
  have e5 : (x.kd == 5) = false := by simp only [not_or] at hk; simp [hk]
  have e2 : (x.kd == 2) = false := by simp only [not_or] at hk; simp [hk]
  have e3 : (x.kd == 3) = false := by simp only [not_or] at hk; simp [hk]
  have e4 : (x.kd == 4) = false := by simp only [not_or] at hk; simp [hk]
  have ka_kd := HS1.out.a.cell HPX.out.1
  have kb_kd := HS1.out.b.cell (cm_at HS1.out.y1 HS1.out.y2).1
  have kf_kd := HS1.out.b.frozen 0
  clear hs1 hth hxc hW1 honc hR B0
  have HBE := hid HS1.out.be
  have hHT : R = false := by rw [HR.out]; exact decide_eq_false (fun e => hk e.1)
  have HT := hid hHT
  clear hHT
  have hsk := HS1.out.set 0 (.int .i64 0) (cm_sets HS1.out.y1 HS1.out.y2 0 0#32).1 HS1.out.y1 HS1.out.y2
  have HBE := hid hsk.be
  clear hk hsk
  go_enter Tryz.func18, Tryz.ntmps18
  go_wp2_with (first
    | (refine wpList_load_mid rfl 41 (.tmp 1) rfl w.heap.size 0 rfl xc _ RG0 huc rfl (by rw [HLC.out]; exact info_cm) ?_
       simp only [pq4])
    | (refine wpList_store_asC rfl 41 (.tmp 3) (.tmp 5) rfl (w.heap.size + 1) 0 xc.toArray rfl rfl (by simpa [HLC.out] using TH1) (by simpa [HLC.out] using info_cm) HON.out W1 HW1.out ?_)
    | fail)
  all_goals (
    go_ret
    exact ⟨by first | rfl | (rw [HT.out]; rfl), HBE.out⟩)
theorem ccheck_1 (x : Cm) (w : World) (h : okCm w x) (hk : x.kd = 1) :
    Calls Tryz.prog 18 #[.agg (cmc x).toArray] w fun e w' => e = .returned (.bool (decide (cok x))) ∧ Below w.heap.size w w' := by
  have hue := Tryz.underlying38
  have hup := Tryz.underlying36
  have huc := Tryz.underlying41
  obtain ⟨hs1, hth⟩ := CkSt.new w x h.e8 h.p8
  have B0 := Blk.new w (cmc x) 41
  have RG0 := B0.range 0 (cmc x) (by rw [List.drop_zero, List.take_length])
  have honc := all_oneCell_toArray (cmc_one x)
  have HLC := hid (cmc_len h.e8 h.p8)
  have HPX := hid (cm_at h.e8 h.p8)
  obtain ⟨xc, hxc⟩ : ∃ c, c = cmc x := ⟨_, rfl⟩
  obtain ⟨W1, hW1⟩ : ∃ W1, W1 = ((w.alloc (.cells (cmc x).toArray 41)).alloc (.cells zA63 41)).setCells (w.heap.size + 1) 0 (cmc x) := ⟨_, rfl⟩
  rw [← hW1] at hs1
  rw [← hxc] at hW1 RG0 honc HLC hth ⊢
  have HS1 := hid hs1
  have HW1 := hid hW1
  have HON := hid honc
  have TH1 := hth
  obtain ⟨R, hR⟩ : ∃ R, R = decide (cok x) := ⟨_, rfl⟩
  rw [← hR]
  have HR := hid hR
  have e1 : (x.kd == 1) = true := by rw [hk]; rfl
  have e5 : (x.kd == 5) = false := by rw [hk]; rfl
  have e2 : (x.kd == 2) = false := by rw [hk]; rfl
  have e3 : (x.kd == 3) = false := by rw [hk]; rfl
  have e4 : (x.kd == 4) = false := by rw [hk]; rfl
  have ka_kd := HS1.out.a.cell HPX.out.1
  have kb_kd := HS1.out.b.cell (cm_at HS1.out.y1 HS1.out.y2).1
  have kf_kd := HS1.out.b.frozen 0
  clear hs1 hth hxc hW1 honc hR B0
  have hs2 := HS1.out.set 0 (.int .i64 0) (cm_sets HS1.out.y1 HS1.out.y2 0 0#32).1 HS1.out.y1 HS1.out.y2
  have HS2 := hid hs2
  have HEC := hid (fun wx : World => echeck_any x.ek x.eid x.eg (x.el.toNat : Int) x.em x.ef wx h.e8)
  have HEL := hid (cmE_len h.e8)
  have RE := hs2.a.range 1 (cmE x) (cm_edit h.e8 h.p8)
  have HEC : Hid (∀ wx : World, Calls Tryz.prog 42 #[.agg (cmE x).toArray] wx fun e w' => e = .returned (.int .i64 (echk x.ek x.eid x.eg x.em (x.el.toNat : Int) x.ef)) ∧ Below wx.heap.size wx w') := HEC
  obtain ⟨xe, hxe⟩ : ∃ c, c = cmE x := ⟨_, rfl⟩
  obtain ⟨ie, hie⟩ : ∃ c, c = echk x.ek x.eid x.eg x.em (x.el.toNat : Int) x.ef := ⟨_, rfl⟩
  rw [← hxe] at HEC HEL RE
  rw [← hie] at HEC
  have HIE := hid hie
  clear hs2 hxe hie
  go_enter Tryz.func18, Tryz.ntmps18
  go_wp2_with (first
    | (refine wpList_load_mid rfl 41 (.tmp 1) rfl w.heap.size 0 rfl xc _ RG0 huc rfl (by rw [HLC.out]; exact info_cm) ?_
       simp only [pq4])
    | (refine wpList_store_asC rfl 41 (.tmp 3) (.tmp 5) rfl (w.heap.size + 1) 0 xc.toArray rfl rfl (by simpa [HLC.out] using TH1) (by simpa [HLC.out] using info_cm) HON.out W1 HW1.out ?_)
    | (refine wpList_load_g (by rfl) 38 (.tmp 11) rfl w.heap.size 1 rfl xe _ RE hue rfl (by rw [HEL.out]; exact info_edit) ?_
       simp only [pq4])
    | fail)
  refine (HEC.out _).mono ?_
  rintro e w3 ⟨rfl, hb3⟩
  have hs3 := HS2.out.later hb3
  have hs4 := hs3.setE
  have THE := hs3.b.there 1 29 (by rw [cmc_len hs3.y1 hs3.y2]; omega)
  obtain ⟨W4, hW4⟩ : ∃ W4, W4 = w3.setCells (w.heap.size + 1) 1 (ecells 0 0 0 0 0 zeros) := ⟨_, rfl⟩
  rw [← hW4] at hs4
  have hs4 : CkSt w x (y1 x) W4 := hs4
  have HS4 := hid hs4
  have HW4 := hid hW4
  have HONE := hid (all_oneCell_toArray (ecells_one 0 0 0 0 0 zeros))
  have ka4 := hs4.a.cell HPX.out.1
  clear hb3 hs3 hs4 hW4 HEC RE HEL HS2 RG0 TH1 ka_kd kb_kd kf_kd HS1 HW1
  by_cases hE : ie = 0
  · have b0 : (ie == 0) = true := by simp [hE]
    have hzz := czero_any (y1 x) (W4) ⟨HS4.out.y1, HS4.out.y2, h.len, h.cap, h.max, ((h.see.below HS4.out.be).more HS4.out.be.size)⟩
    have RGZ := HS4.out.b.range 0 (cmc (y1 x)) (by rw [List.drop_zero, List.take_length])
    have HLZ := hid (cmc_len HS4.out.y1 HS4.out.y2)
    obtain ⟨yc, hyc⟩ : ∃ c, c = cmc (y1 x) := ⟨_, rfl⟩
    obtain ⟨zr, hzr⟩ : ∃ b, b = decide (cz (y1 x)) := ⟨_, rfl⟩
    rw [← hyc] at hzz RGZ HLZ
    rw [← hzr] at hzz
    have hHT : R = zr := by rw [HR.out, hzr]; exact decide_eq_decide.2 ((cok_1 hk).trans ⟨fun z => z.2, fun z => ⟨HIE.out.symm.trans hE, z⟩⟩)
    have HZZ := hid hzz
    have HT := hid hHT
    have HBE := hid HS4.out.be
    clear hzz hyc hzr hHT
    clear hE hk
    go_wp2_with (first
      | (refine wpList_store_asC rfl 38 (.tmp 16) (.tmp 15) rfl (w.heap.size + 1) 1 (ecells 0 0 0 0 0 zeros).toArray rfl rfl THE info_edit HONE.out W4 HW4.out ?_)
      | (refine wpList_load_g (by rfl) 41 (.tmp 3) rfl (w.heap.size + 1) 0 rfl yc _ RGZ huc rfl (by rw [HLZ.out]; exact info_cm) ?_; simp only [pq4])
      | fail)
    refine HZZ.out.mono ?_
    rintro e w9 ⟨rfl, hb9⟩
    have HB9 := hid (HBE.out.trans (hb9.mono HBE.out.size))
    clear hb9
    go_wp2_with fail
    go_ret
    exact ⟨by first | rfl | (rw [HT.out]; rfl), HB9.out⟩
  · have b0 : (ie == 0) = false := by simp [hE]
    have hHT : R = false := by rw [HR.out]; exact decide_eq_false (fun z => hE (HIE.out.trans ((cok_1 hk).1 z).1))
    have HT := hid hHT
    clear hHT
    have HBE := hid HS4.out.be
    clear hE hk
    go_wp2_with (first
      | (refine wpList_store_asC rfl 38 (.tmp 16) (.tmp 15) rfl (w.heap.size + 1) 1 (ecells 0 0 0 0 0 zeros).toArray rfl rfl THE info_edit HONE.out W4 HW4.out ?_)
      | fail)
    go_ret
    exact ⟨by first | rfl | (rw [HT.out]; rfl), HBE.out⟩
theorem ccheck_2a (x : Cm) (w : World) (h : okCm w x) (hk : x.kd = 2) (hg : ¬ (0 ≤ x.dv)) :
    Calls Tryz.prog 18 #[.agg (cmc x).toArray] w fun e w' => e = .returned (.bool (decide (cok x))) ∧ Below w.heap.size w w' := by
  have hue := Tryz.underlying38
  have hup := Tryz.underlying36
  have huc := Tryz.underlying41
  obtain ⟨hs1, hth⟩ := CkSt.new w x h.e8 h.p8
  have B0 := Blk.new w (cmc x) 41
  have RG0 := B0.range 0 (cmc x) (by rw [List.drop_zero, List.take_length])
  have honc := all_oneCell_toArray (cmc_one x)
  have HLC := hid (cmc_len h.e8 h.p8)
  have HPX := hid (cm_at h.e8 h.p8)
  obtain ⟨xc, hxc⟩ : ∃ c, c = cmc x := ⟨_, rfl⟩
  obtain ⟨W1, hW1⟩ : ∃ W1, W1 = ((w.alloc (.cells (cmc x).toArray 41)).alloc (.cells zA63 41)).setCells (w.heap.size + 1) 0 (cmc x) := ⟨_, rfl⟩
  rw [← hW1] at hs1
  rw [← hxc] at hW1 RG0 honc HLC hth ⊢
  have HS1 := hid hs1
  have HW1 := hid hW1
  have HON := hid honc
  have TH1 := hth
  obtain ⟨R, hR⟩ : ∃ R, R = decide (cok x) := ⟨_, rfl⟩
  rw [← hR]
  have HR := hid hR
  have e1 : (x.kd == 1) = false := by rw [hk]; rfl
  have e5 : (x.kd == 5) = false := by rw [hk]; rfl
  have e2 : (x.kd == 2) = true := by rw [hk]; rfl
  have e3 : (x.kd == 3) = false := by rw [hk]; rfl
  have e4 : (x.kd == 4) = false := by rw [hk]; rfl
  have ka_kd := HS1.out.a.cell HPX.out.1
  have kb_kd := HS1.out.b.cell (cm_at HS1.out.y1 HS1.out.y2).1
  have kf_kd := HS1.out.b.frozen 0
  clear hs1 hth hxc hW1 honc hR B0
  clear ka_kd kb_kd kf_kd
  have S2 := HS1.out.set 0 (.int .i64 0) (cm_sets HS1.out.y1 HS1.out.y2 0 0#32).1 HS1.out.y1 HS1.out.y2
  have S2 : CkSt w x _ (W1.setCell ⟨w.heap.size + 1, 0, none⟩ (.int .i64 0)) := S2
  obtain ⟨W2, hW2⟩ : ∃ W, W = W1.setCell ⟨w.heap.size + 1, 0, none⟩ (.int .i64 0) := ⟨_, rfl⟩
  rw [← hW2] at S2
  have C0 := hid (HS1.out.b.cell (cm_at HS1.out.y1 HS1.out.y2).1)
  have F0 := hid (HS1.out.b.frozen 0)
  have HW2 := hid hW2
  have S2 := hid S2
  clear hW2
  have S3 := S2.out.set 30 (.int .i64 0) (cm_sets S2.out.y1 S2.out.y2 0 0#32).2.1 S2.out.y1 S2.out.y2
  have S3 : CkSt w x _ (W2.setCell ⟨w.heap.size + 1, 30, none⟩ (.int .i64 0)) := S3
  obtain ⟨W3, hW3⟩ : ∃ W, W = W2.setCell ⟨w.heap.size + 1, 30, none⟩ (.int .i64 0) := ⟨_, rfl⟩
  rw [← hW3] at S3
  have C30 := hid (S2.out.b.cell (cm_at S2.out.y1 S2.out.y2).2.1)
  have F30 := hid (S2.out.b.frozen 30)
  have HW3 := hid hW3
  have S3 := hid S3
  clear hW3
  have HS4 := S3.out.set 31 (.int .i64 0) (cm_sets S3.out.y1 S3.out.y2 0 0#32).2.2.1 S3.out.y1 S3.out.y2
  have HS4 : CkSt w x (y4 x) (W3.setCell ⟨w.heap.size + 1, 31, none⟩ (.int .i64 0)) := HS4
  obtain ⟨W4, hW4⟩ : ∃ W, W = W3.setCell ⟨w.heap.size + 1, 31, none⟩ (.int .i64 0) := ⟨_, rfl⟩
  rw [← hW4] at HS4
  have C31 := hid (S3.out.b.cell (cm_at S3.out.y1 S3.out.y2).2.2.1)
  have F31 := hid (S3.out.b.frozen 31)
  have HW4 := hid hW4
  have HS4 := hid HS4
  clear hW4
  have ka_kd := S2.out.a.cell HPX.out.1
  have ka_30 := S2.out.a.cell HPX.out.2.1
  have ka_31 := S2.out.a.cell HPX.out.2.2.1
  have kd_kd := HS4.out.a.cell HPX.out.1
  have HONP := hid (all_oneCell_toArray (pcells_one 0 0 zeros))
  have bg : decide (0 ≤ x.dv) = false := by simp [hg]
  have ka_32 := HS4.out.a.cell HPX.out.2.2.2.1
  have ka_33 := HS4.out.a.cell HPX.out.2.2.2.2.1
  have S5 := HS4.out.set 32 (.int .i64 0) (cm_sets HS4.out.y1 HS4.out.y2 0 0#32).2.2.2.1 HS4.out.y1 HS4.out.y2
  have S5 : CkSt w x _ (W4.setCell ⟨w.heap.size + 1, 32, none⟩ (.int .i64 0)) := S5
  obtain ⟨W5, hW5⟩ : ∃ W, W = W4.setCell ⟨w.heap.size + 1, 32, none⟩ (.int .i64 0) := ⟨_, rfl⟩
  rw [← hW5] at S5
  have C32 := hid (HS4.out.b.cell (cm_at HS4.out.y1 HS4.out.y2).2.2.2.1)
  have F32 := hid (HS4.out.b.frozen 32)
  have HW5 := hid hW5
  have S5 := hid S5
  clear hW5
  have S6 := S5.out.set 33 (.int .i64 0) (cm_sets S5.out.y1 S5.out.y2 0 0#32).2.2.2.2.1 S5.out.y1 S5.out.y2
  have S6 : CkSt w x _ (W5.setCell ⟨w.heap.size + 1, 33, none⟩ (.int .i64 0)) := S6
  obtain ⟨W6, hW6⟩ : ∃ W, W = W5.setCell ⟨w.heap.size + 1, 33, none⟩ (.int .i64 0) := ⟨_, rfl⟩
  rw [← hW6] at S6
  have C33 := hid (S5.out.b.cell (cm_at S5.out.y1 S5.out.y2).2.2.2.2.1)
  have F33 := hid (S5.out.b.frozen 33)
  have HW6 := hid hW6
  have S6 := hid S6
  clear hW6
  have hs7 := S6.out.setP
  have THP := S6.out.b.there 35 26 (by rw [cmc_len S6.out.y1 S6.out.y2]; omega)
  obtain ⟨W7, hW7⟩ : ∃ W7, W7 = W6.setCells (w.heap.size + 1) 35 (pcells 0 0 zeros) := ⟨_, rfl⟩
  rw [← hW7] at hs7
  have hs7 : CkSt w x (y2 x) W7 := hs7
  have HS7 := hid hs7
  have HW7 := hid hW7
  clear hs7 hW7
  have hHT : R = false := by rw [HR.out]; exact decide_eq_false (fun z => hg ((cok_2 hk).1 z).1.1)
  have HT := hid hHT
  clear hHT
  have HBE := hid HS7.out.be
  clear hk
  go_enter Tryz.func18, Tryz.ntmps18
  go_wp2_with (first
    | (refine wpList_load_mid rfl 41 (.tmp 1) rfl w.heap.size 0 rfl xc _ RG0 huc rfl (by rw [HLC.out]; exact info_cm) ?_
       simp only [pq4])
    | (refine wpList_store_asC rfl 41 (.tmp 3) (.tmp 5) rfl (w.heap.size + 1) 0 xc.toArray rfl rfl (by simpa [HLC.out] using TH1) (by simpa [HLC.out] using info_cm) HON.out W1 HW1.out ?_)
    | (refine wpList_store_i rfl 3 (.tmp 6) (.const (.int .i64 0)) rfl (w.heap.size + 1) 0 .i64 0 rfl rfl _ info_i C0.out F0.out W2 HW2.out ?_)
    | (refine wpList_store_i rfl 3 (.tmp 45) (.const (.int .i64 0)) rfl (w.heap.size + 1) 30 .i64 0 rfl rfl _ info_i C30.out F30.out W3 HW3.out ?_)
    | (refine wpList_store_i rfl 3 (.tmp 46) (.const (.int .i64 0)) rfl (w.heap.size + 1) 31 .i64 0 rfl rfl _ info_i C31.out F31.out W4 HW4.out ?_)
    | (refine wpList_store_i rfl 3 (.tmp 74) (.const (.int .i64 0)) rfl (w.heap.size + 1) 32 .i64 0 rfl rfl _ info_i C32.out F32.out W5 HW5.out ?_)
    | (refine wpList_store_i rfl 3 (.tmp 75) (.const (.int .i64 0)) rfl (w.heap.size + 1) 33 .i64 0 rfl rfl _ info_i C33.out F33.out W6 HW6.out ?_)
    | (refine wpList_store_asC rfl 36 (.tmp 76) (.tmp 73) rfl (w.heap.size + 1) 35 (pcells 0 0 zeros).toArray rfl rfl THP info_patch HONP.out W7 HW7.out ?_)
    | fail)
  go_ret
  exact ⟨by first | rfl | (rw [HT.out]; rfl), HBE.out⟩
theorem ccheck_2b (x : Cm) (w : World) (h : okCm w x) (hk : x.kd = 2) (hg : 0 ≤ x.dv) (hl : ¬ (x.dv < 6)) :
    Calls Tryz.prog 18 #[.agg (cmc x).toArray] w fun e w' => e = .returned (.bool (decide (cok x))) ∧ Below w.heap.size w w' := by
  have hue := Tryz.underlying38
  have hup := Tryz.underlying36
  have huc := Tryz.underlying41
  obtain ⟨hs1, hth⟩ := CkSt.new w x h.e8 h.p8
  have B0 := Blk.new w (cmc x) 41
  have RG0 := B0.range 0 (cmc x) (by rw [List.drop_zero, List.take_length])
  have honc := all_oneCell_toArray (cmc_one x)
  have HLC := hid (cmc_len h.e8 h.p8)
  have HPX := hid (cm_at h.e8 h.p8)
  obtain ⟨xc, hxc⟩ : ∃ c, c = cmc x := ⟨_, rfl⟩
  obtain ⟨W1, hW1⟩ : ∃ W1, W1 = ((w.alloc (.cells (cmc x).toArray 41)).alloc (.cells zA63 41)).setCells (w.heap.size + 1) 0 (cmc x) := ⟨_, rfl⟩
  rw [← hW1] at hs1
  rw [← hxc] at hW1 RG0 honc HLC hth ⊢
  have HS1 := hid hs1
  have HW1 := hid hW1
  have HON := hid honc
  have TH1 := hth
  obtain ⟨R, hR⟩ : ∃ R, R = decide (cok x) := ⟨_, rfl⟩
  rw [← hR]
  have HR := hid hR
  have e1 : (x.kd == 1) = false := by rw [hk]; rfl
  have e5 : (x.kd == 5) = false := by rw [hk]; rfl
  have e2 : (x.kd == 2) = true := by rw [hk]; rfl
  have e3 : (x.kd == 3) = false := by rw [hk]; rfl
  have e4 : (x.kd == 4) = false := by rw [hk]; rfl
  have ka_kd := HS1.out.a.cell HPX.out.1
  have kb_kd := HS1.out.b.cell (cm_at HS1.out.y1 HS1.out.y2).1
  have kf_kd := HS1.out.b.frozen 0
  clear hs1 hth hxc hW1 honc hR B0
  clear ka_kd kb_kd kf_kd
  have S2 := HS1.out.set 0 (.int .i64 0) (cm_sets HS1.out.y1 HS1.out.y2 0 0#32).1 HS1.out.y1 HS1.out.y2
  have S2 : CkSt w x _ (W1.setCell ⟨w.heap.size + 1, 0, none⟩ (.int .i64 0)) := S2
  obtain ⟨W2, hW2⟩ : ∃ W, W = W1.setCell ⟨w.heap.size + 1, 0, none⟩ (.int .i64 0) := ⟨_, rfl⟩
  rw [← hW2] at S2
  have C0 := hid (HS1.out.b.cell (cm_at HS1.out.y1 HS1.out.y2).1)
  have F0 := hid (HS1.out.b.frozen 0)
  have HW2 := hid hW2
  have S2 := hid S2
  clear hW2
  have S3 := S2.out.set 30 (.int .i64 0) (cm_sets S2.out.y1 S2.out.y2 0 0#32).2.1 S2.out.y1 S2.out.y2
  have S3 : CkSt w x _ (W2.setCell ⟨w.heap.size + 1, 30, none⟩ (.int .i64 0)) := S3
  obtain ⟨W3, hW3⟩ : ∃ W, W = W2.setCell ⟨w.heap.size + 1, 30, none⟩ (.int .i64 0) := ⟨_, rfl⟩
  rw [← hW3] at S3
  have C30 := hid (S2.out.b.cell (cm_at S2.out.y1 S2.out.y2).2.1)
  have F30 := hid (S2.out.b.frozen 30)
  have HW3 := hid hW3
  have S3 := hid S3
  clear hW3
  have HS4 := S3.out.set 31 (.int .i64 0) (cm_sets S3.out.y1 S3.out.y2 0 0#32).2.2.1 S3.out.y1 S3.out.y2
  have HS4 : CkSt w x (y4 x) (W3.setCell ⟨w.heap.size + 1, 31, none⟩ (.int .i64 0)) := HS4
  obtain ⟨W4, hW4⟩ : ∃ W, W = W3.setCell ⟨w.heap.size + 1, 31, none⟩ (.int .i64 0) := ⟨_, rfl⟩
  rw [← hW4] at HS4
  have C31 := hid (S3.out.b.cell (cm_at S3.out.y1 S3.out.y2).2.2.1)
  have F31 := hid (S3.out.b.frozen 31)
  have HW4 := hid hW4
  have HS4 := hid HS4
  clear hW4
  have ka_kd := S2.out.a.cell HPX.out.1
  have ka_30 := S2.out.a.cell HPX.out.2.1
  have ka_31 := S2.out.a.cell HPX.out.2.2.1
  have kd_kd := HS4.out.a.cell HPX.out.1
  have HONP := hid (all_oneCell_toArray (pcells_one 0 0 zeros))
  have bg : decide (0 ≤ x.dv) = true := by simp [hg]
  have bl : decide (x.dv < 6) = false := by simp [hl]
  have ka_32 := HS4.out.a.cell HPX.out.2.2.2.1
  have ka_33 := HS4.out.a.cell HPX.out.2.2.2.2.1
  have S5 := HS4.out.set 32 (.int .i64 0) (cm_sets HS4.out.y1 HS4.out.y2 0 0#32).2.2.2.1 HS4.out.y1 HS4.out.y2
  have S5 : CkSt w x _ (W4.setCell ⟨w.heap.size + 1, 32, none⟩ (.int .i64 0)) := S5
  obtain ⟨W5, hW5⟩ : ∃ W, W = W4.setCell ⟨w.heap.size + 1, 32, none⟩ (.int .i64 0) := ⟨_, rfl⟩
  rw [← hW5] at S5
  have C32 := hid (HS4.out.b.cell (cm_at HS4.out.y1 HS4.out.y2).2.2.2.1)
  have F32 := hid (HS4.out.b.frozen 32)
  have HW5 := hid hW5
  have S5 := hid S5
  clear hW5
  have S6 := S5.out.set 33 (.int .i64 0) (cm_sets S5.out.y1 S5.out.y2 0 0#32).2.2.2.2.1 S5.out.y1 S5.out.y2
  have S6 : CkSt w x _ (W5.setCell ⟨w.heap.size + 1, 33, none⟩ (.int .i64 0)) := S6
  obtain ⟨W6, hW6⟩ : ∃ W, W = W5.setCell ⟨w.heap.size + 1, 33, none⟩ (.int .i64 0) := ⟨_, rfl⟩
  rw [← hW6] at S6
  have C33 := hid (S5.out.b.cell (cm_at S5.out.y1 S5.out.y2).2.2.2.2.1)
  have F33 := hid (S5.out.b.frozen 33)
  have HW6 := hid hW6
  have S6 := hid S6
  clear hW6
  have hs7 := S6.out.setP
  have THP := S6.out.b.there 35 26 (by rw [cmc_len S6.out.y1 S6.out.y2]; omega)
  obtain ⟨W7, hW7⟩ : ∃ W7, W7 = W6.setCells (w.heap.size + 1) 35 (pcells 0 0 zeros) := ⟨_, rfl⟩
  rw [← hW7] at hs7
  have hs7 : CkSt w x (y2 x) W7 := hs7
  have HS7 := hid hs7
  have HW7 := hid hW7
  clear hs7 hW7
  have hHT : R = false := by rw [HR.out]; exact decide_eq_false (fun z => hl ((cok_2 hk).1 z).1.2)
  have HT := hid hHT
  clear hHT
  have HBE := hid HS7.out.be
  clear hk
  go_enter Tryz.func18, Tryz.ntmps18
  go_wp2_with (first
    | (refine wpList_load_mid rfl 41 (.tmp 1) rfl w.heap.size 0 rfl xc _ RG0 huc rfl (by rw [HLC.out]; exact info_cm) ?_
       simp only [pq4])
    | (refine wpList_store_asC rfl 41 (.tmp 3) (.tmp 5) rfl (w.heap.size + 1) 0 xc.toArray rfl rfl (by simpa [HLC.out] using TH1) (by simpa [HLC.out] using info_cm) HON.out W1 HW1.out ?_)
    | (refine wpList_store_i rfl 3 (.tmp 6) (.const (.int .i64 0)) rfl (w.heap.size + 1) 0 .i64 0 rfl rfl _ info_i C0.out F0.out W2 HW2.out ?_)
    | (refine wpList_store_i rfl 3 (.tmp 45) (.const (.int .i64 0)) rfl (w.heap.size + 1) 30 .i64 0 rfl rfl _ info_i C30.out F30.out W3 HW3.out ?_)
    | (refine wpList_store_i rfl 3 (.tmp 46) (.const (.int .i64 0)) rfl (w.heap.size + 1) 31 .i64 0 rfl rfl _ info_i C31.out F31.out W4 HW4.out ?_)
    | (refine wpList_store_i rfl 3 (.tmp 74) (.const (.int .i64 0)) rfl (w.heap.size + 1) 32 .i64 0 rfl rfl _ info_i C32.out F32.out W5 HW5.out ?_)
    | (refine wpList_store_i rfl 3 (.tmp 75) (.const (.int .i64 0)) rfl (w.heap.size + 1) 33 .i64 0 rfl rfl _ info_i C33.out F33.out W6 HW6.out ?_)
    | (refine wpList_store_asC rfl 36 (.tmp 76) (.tmp 73) rfl (w.heap.size + 1) 35 (pcells 0 0 zeros).toArray rfl rfl THP info_patch HONP.out W7 HW7.out ?_)
    | fail)
  go_ret
  exact ⟨by first | rfl | (rw [HT.out]; rfl), HBE.out⟩
theorem ccheck_2c (x : Cm) (w : World) (h : okCm w x) (hk : x.kd = 2) (hg : 0 ≤ x.dv) (hl : x.dv < 6) (hq : ¬ (1 ≤ x.rq ∧ x.rq ≤ 1099511627776)) :
    Calls Tryz.prog 18 #[.agg (cmc x).toArray] w fun e w' => e = .returned (.bool (decide (cok x))) ∧ Below w.heap.size w w' := by
  have hue := Tryz.underlying38
  have hup := Tryz.underlying36
  have huc := Tryz.underlying41
  obtain ⟨hs1, hth⟩ := CkSt.new w x h.e8 h.p8
  have B0 := Blk.new w (cmc x) 41
  have RG0 := B0.range 0 (cmc x) (by rw [List.drop_zero, List.take_length])
  have honc := all_oneCell_toArray (cmc_one x)
  have HLC := hid (cmc_len h.e8 h.p8)
  have HPX := hid (cm_at h.e8 h.p8)
  obtain ⟨xc, hxc⟩ : ∃ c, c = cmc x := ⟨_, rfl⟩
  obtain ⟨W1, hW1⟩ : ∃ W1, W1 = ((w.alloc (.cells (cmc x).toArray 41)).alloc (.cells zA63 41)).setCells (w.heap.size + 1) 0 (cmc x) := ⟨_, rfl⟩
  rw [← hW1] at hs1
  rw [← hxc] at hW1 RG0 honc HLC hth ⊢
  have HS1 := hid hs1
  have HW1 := hid hW1
  have HON := hid honc
  have TH1 := hth
  obtain ⟨R, hR⟩ : ∃ R, R = decide (cok x) := ⟨_, rfl⟩
  rw [← hR]
  have HR := hid hR
  have e1 : (x.kd == 1) = false := by rw [hk]; rfl
  have e5 : (x.kd == 5) = false := by rw [hk]; rfl
  have e2 : (x.kd == 2) = true := by rw [hk]; rfl
  have e3 : (x.kd == 3) = false := by rw [hk]; rfl
  have e4 : (x.kd == 4) = false := by rw [hk]; rfl
  have ka_kd := HS1.out.a.cell HPX.out.1
  have kb_kd := HS1.out.b.cell (cm_at HS1.out.y1 HS1.out.y2).1
  have kf_kd := HS1.out.b.frozen 0
  clear hs1 hth hxc hW1 honc hR B0
  clear ka_kd kb_kd kf_kd
  have S2 := HS1.out.set 0 (.int .i64 0) (cm_sets HS1.out.y1 HS1.out.y2 0 0#32).1 HS1.out.y1 HS1.out.y2
  have S2 : CkSt w x _ (W1.setCell ⟨w.heap.size + 1, 0, none⟩ (.int .i64 0)) := S2
  obtain ⟨W2, hW2⟩ : ∃ W, W = W1.setCell ⟨w.heap.size + 1, 0, none⟩ (.int .i64 0) := ⟨_, rfl⟩
  rw [← hW2] at S2
  have C0 := hid (HS1.out.b.cell (cm_at HS1.out.y1 HS1.out.y2).1)
  have F0 := hid (HS1.out.b.frozen 0)
  have HW2 := hid hW2
  have S2 := hid S2
  clear hW2
  have S3 := S2.out.set 30 (.int .i64 0) (cm_sets S2.out.y1 S2.out.y2 0 0#32).2.1 S2.out.y1 S2.out.y2
  have S3 : CkSt w x _ (W2.setCell ⟨w.heap.size + 1, 30, none⟩ (.int .i64 0)) := S3
  obtain ⟨W3, hW3⟩ : ∃ W, W = W2.setCell ⟨w.heap.size + 1, 30, none⟩ (.int .i64 0) := ⟨_, rfl⟩
  rw [← hW3] at S3
  have C30 := hid (S2.out.b.cell (cm_at S2.out.y1 S2.out.y2).2.1)
  have F30 := hid (S2.out.b.frozen 30)
  have HW3 := hid hW3
  have S3 := hid S3
  clear hW3
  have HS4 := S3.out.set 31 (.int .i64 0) (cm_sets S3.out.y1 S3.out.y2 0 0#32).2.2.1 S3.out.y1 S3.out.y2
  have HS4 : CkSt w x (y4 x) (W3.setCell ⟨w.heap.size + 1, 31, none⟩ (.int .i64 0)) := HS4
  obtain ⟨W4, hW4⟩ : ∃ W, W = W3.setCell ⟨w.heap.size + 1, 31, none⟩ (.int .i64 0) := ⟨_, rfl⟩
  rw [← hW4] at HS4
  have C31 := hid (S3.out.b.cell (cm_at S3.out.y1 S3.out.y2).2.2.1)
  have F31 := hid (S3.out.b.frozen 31)
  have HW4 := hid hW4
  have HS4 := hid HS4
  clear hW4
  have ka_kd := S2.out.a.cell HPX.out.1
  have ka_30 := S2.out.a.cell HPX.out.2.1
  have ka_31 := S2.out.a.cell HPX.out.2.2.1
  have kd_kd := HS4.out.a.cell HPX.out.1
  have HONP := hid (all_oneCell_toArray (pcells_one 0 0 zeros))
  have bg : decide (0 ≤ x.dv) = true := by simp [hg]
  have bl : decide (x.dv < 6) = true := by simp [hl]
  have HAQ : Hid (∀ wx : World, Calls Tryz.prog 43 #[.int .i64 x.rq] wx fun e w' => e = .returned (.bool false) ∧ wx = w') := Lib.hid (fun wx => by
    have h0 := cabove_any x.rq wx
    rwa [decide_eq_false hq] at h0)
  have ka_32 := HS4.out.a.cell HPX.out.2.2.2.1
  have ka_33 := HS4.out.a.cell HPX.out.2.2.2.2.1
  have S5 := HS4.out.set 32 (.int .i64 0) (cm_sets HS4.out.y1 HS4.out.y2 0 0#32).2.2.2.1 HS4.out.y1 HS4.out.y2
  have S5 : CkSt w x _ (W4.setCell ⟨w.heap.size + 1, 32, none⟩ (.int .i64 0)) := S5
  obtain ⟨W5, hW5⟩ : ∃ W, W = W4.setCell ⟨w.heap.size + 1, 32, none⟩ (.int .i64 0) := ⟨_, rfl⟩
  rw [← hW5] at S5
  have C32 := hid (HS4.out.b.cell (cm_at HS4.out.y1 HS4.out.y2).2.2.2.1)
  have F32 := hid (HS4.out.b.frozen 32)
  have HW5 := hid hW5
  have S5 := hid S5
  clear hW5
  have S6 := S5.out.set 33 (.int .i64 0) (cm_sets S5.out.y1 S5.out.y2 0 0#32).2.2.2.2.1 S5.out.y1 S5.out.y2
  have S6 : CkSt w x _ (W5.setCell ⟨w.heap.size + 1, 33, none⟩ (.int .i64 0)) := S6
  obtain ⟨W6, hW6⟩ : ∃ W, W = W5.setCell ⟨w.heap.size + 1, 33, none⟩ (.int .i64 0) := ⟨_, rfl⟩
  rw [← hW6] at S6
  have C33 := hid (S5.out.b.cell (cm_at S5.out.y1 S5.out.y2).2.2.2.2.1)
  have F33 := hid (S5.out.b.frozen 33)
  have HW6 := hid hW6
  have S6 := hid S6
  clear hW6
  have hs7 := S6.out.setP
  have THP := S6.out.b.there 35 26 (by rw [cmc_len S6.out.y1 S6.out.y2]; omega)
  obtain ⟨W7, hW7⟩ : ∃ W7, W7 = W6.setCells (w.heap.size + 1) 35 (pcells 0 0 zeros) := ⟨_, rfl⟩
  rw [← hW7] at hs7
  have hs7 : CkSt w x (y2 x) W7 := hs7
  have HS7 := hid hs7
  have HW7 := hid hW7
  clear hs7 hW7
  have hHT : R = false := by rw [HR.out]; exact decide_eq_false (fun z => hq ((cok_2 hk).1 z).2.1)
  have HT := hid hHT
  clear hHT
  have HBE := hid HS7.out.be
  clear hk
  go_enter Tryz.func18, Tryz.ntmps18
  go_wp2_with (first
    | (refine wpList_load_mid rfl 41 (.tmp 1) rfl w.heap.size 0 rfl xc _ RG0 huc rfl (by rw [HLC.out]; exact info_cm) ?_
       simp only [pq4])
    | (refine wpList_store_asC rfl 41 (.tmp 3) (.tmp 5) rfl (w.heap.size + 1) 0 xc.toArray rfl rfl (by simpa [HLC.out] using TH1) (by simpa [HLC.out] using info_cm) HON.out W1 HW1.out ?_)
    | (refine wpList_store_i rfl 3 (.tmp 6) (.const (.int .i64 0)) rfl (w.heap.size + 1) 0 .i64 0 rfl rfl _ info_i C0.out F0.out W2 HW2.out ?_)
    | fail)
  refine (HAQ.out _).mono ?_
  rintro e wq ⟨rfl, rfl⟩
  go_wp2_with (first
    | (refine wpList_store_i rfl 3 (.tmp 45) (.const (.int .i64 0)) rfl (w.heap.size + 1) 30 .i64 0 rfl rfl _ info_i C30.out F30.out W3 HW3.out ?_)
    | (refine wpList_store_i rfl 3 (.tmp 46) (.const (.int .i64 0)) rfl (w.heap.size + 1) 31 .i64 0 rfl rfl _ info_i C31.out F31.out W4 HW4.out ?_)
    | (refine wpList_store_i rfl 3 (.tmp 74) (.const (.int .i64 0)) rfl (w.heap.size + 1) 32 .i64 0 rfl rfl _ info_i C32.out F32.out W5 HW5.out ?_)
    | (refine wpList_store_i rfl 3 (.tmp 75) (.const (.int .i64 0)) rfl (w.heap.size + 1) 33 .i64 0 rfl rfl _ info_i C33.out F33.out W6 HW6.out ?_)
    | (refine wpList_store_asC rfl 36 (.tmp 76) (.tmp 73) rfl (w.heap.size + 1) 35 (pcells 0 0 zeros).toArray rfl rfl THP info_patch HONP.out W7 HW7.out ?_)
    | fail)
  go_ret
  exact ⟨by first | rfl | (rw [HT.out]; rfl), HBE.out⟩
theorem ccheck_2d (x : Cm) (w : World) (h : okCm w x) (hk : x.kd = 2) (hg : 0 ≤ x.dv) (hl : x.dv < 6) (hq : 1 ≤ x.rq ∧ x.rq ≤ 1099511627776) (hi : ¬ (1 ≤ x.id ∧ x.id ≤ 1099511627776)) :
    Calls Tryz.prog 18 #[.agg (cmc x).toArray] w fun e w' => e = .returned (.bool (decide (cok x))) ∧ Below w.heap.size w w' := by
  have hue := Tryz.underlying38
  have hup := Tryz.underlying36
  have huc := Tryz.underlying41
  obtain ⟨hs1, hth⟩ := CkSt.new w x h.e8 h.p8
  have B0 := Blk.new w (cmc x) 41
  have RG0 := B0.range 0 (cmc x) (by rw [List.drop_zero, List.take_length])
  have honc := all_oneCell_toArray (cmc_one x)
  have HLC := hid (cmc_len h.e8 h.p8)
  have HPX := hid (cm_at h.e8 h.p8)
  obtain ⟨xc, hxc⟩ : ∃ c, c = cmc x := ⟨_, rfl⟩
  obtain ⟨W1, hW1⟩ : ∃ W1, W1 = ((w.alloc (.cells (cmc x).toArray 41)).alloc (.cells zA63 41)).setCells (w.heap.size + 1) 0 (cmc x) := ⟨_, rfl⟩
  rw [← hW1] at hs1
  rw [← hxc] at hW1 RG0 honc HLC hth ⊢
  have HS1 := hid hs1
  have HW1 := hid hW1
  have HON := hid honc
  have TH1 := hth
  obtain ⟨R, hR⟩ : ∃ R, R = decide (cok x) := ⟨_, rfl⟩
  rw [← hR]
  have HR := hid hR
  have e1 : (x.kd == 1) = false := by rw [hk]; rfl
  have e5 : (x.kd == 5) = false := by rw [hk]; rfl
  have e2 : (x.kd == 2) = true := by rw [hk]; rfl
  have e3 : (x.kd == 3) = false := by rw [hk]; rfl
  have e4 : (x.kd == 4) = false := by rw [hk]; rfl
  have ka_kd := HS1.out.a.cell HPX.out.1
  have kb_kd := HS1.out.b.cell (cm_at HS1.out.y1 HS1.out.y2).1
  have kf_kd := HS1.out.b.frozen 0
  clear hs1 hth hxc hW1 honc hR B0
  clear ka_kd kb_kd kf_kd
  have S2 := HS1.out.set 0 (.int .i64 0) (cm_sets HS1.out.y1 HS1.out.y2 0 0#32).1 HS1.out.y1 HS1.out.y2
  have S2 : CkSt w x _ (W1.setCell ⟨w.heap.size + 1, 0, none⟩ (.int .i64 0)) := S2
  obtain ⟨W2, hW2⟩ : ∃ W, W = W1.setCell ⟨w.heap.size + 1, 0, none⟩ (.int .i64 0) := ⟨_, rfl⟩
  rw [← hW2] at S2
  have C0 := hid (HS1.out.b.cell (cm_at HS1.out.y1 HS1.out.y2).1)
  have F0 := hid (HS1.out.b.frozen 0)
  have HW2 := hid hW2
  have S2 := hid S2
  clear hW2
  have S3 := S2.out.set 30 (.int .i64 0) (cm_sets S2.out.y1 S2.out.y2 0 0#32).2.1 S2.out.y1 S2.out.y2
  have S3 : CkSt w x _ (W2.setCell ⟨w.heap.size + 1, 30, none⟩ (.int .i64 0)) := S3
  obtain ⟨W3, hW3⟩ : ∃ W, W = W2.setCell ⟨w.heap.size + 1, 30, none⟩ (.int .i64 0) := ⟨_, rfl⟩
  rw [← hW3] at S3
  have C30 := hid (S2.out.b.cell (cm_at S2.out.y1 S2.out.y2).2.1)
  have F30 := hid (S2.out.b.frozen 30)
  have HW3 := hid hW3
  have S3 := hid S3
  clear hW3
  have HS4 := S3.out.set 31 (.int .i64 0) (cm_sets S3.out.y1 S3.out.y2 0 0#32).2.2.1 S3.out.y1 S3.out.y2
  have HS4 : CkSt w x (y4 x) (W3.setCell ⟨w.heap.size + 1, 31, none⟩ (.int .i64 0)) := HS4
  obtain ⟨W4, hW4⟩ : ∃ W, W = W3.setCell ⟨w.heap.size + 1, 31, none⟩ (.int .i64 0) := ⟨_, rfl⟩
  rw [← hW4] at HS4
  have C31 := hid (S3.out.b.cell (cm_at S3.out.y1 S3.out.y2).2.2.1)
  have F31 := hid (S3.out.b.frozen 31)
  have HW4 := hid hW4
  have HS4 := hid HS4
  clear hW4
  have ka_kd := S2.out.a.cell HPX.out.1
  have ka_30 := S2.out.a.cell HPX.out.2.1
  have ka_31 := S2.out.a.cell HPX.out.2.2.1
  have kd_kd := HS4.out.a.cell HPX.out.1
  have HONP := hid (all_oneCell_toArray (pcells_one 0 0 zeros))
  have bg : decide (0 ≤ x.dv) = true := by simp [hg]
  have bl : decide (x.dv < 6) = true := by simp [hl]
  have HAQ : Hid (∀ wx : World, Calls Tryz.prog 43 #[.int .i64 x.rq] wx fun e w' => e = .returned (.bool true) ∧ wx = w') := Lib.hid (fun wx => by
    have h0 := cabove_any x.rq wx
    rwa [decide_eq_true hq] at h0)
  have HAI : Hid (∀ wx : World, Calls Tryz.prog 43 #[.int .i64 x.id] wx fun e w' => e = .returned (.bool false) ∧ wx = w') := Lib.hid (fun wx => by
    have h0 := cabove_any x.id wx
    rwa [decide_eq_false hi] at h0)
  have ka_32 := HS4.out.a.cell HPX.out.2.2.2.1
  have ka_33 := HS4.out.a.cell HPX.out.2.2.2.2.1
  have S5 := HS4.out.set 32 (.int .i64 0) (cm_sets HS4.out.y1 HS4.out.y2 0 0#32).2.2.2.1 HS4.out.y1 HS4.out.y2
  have S5 : CkSt w x _ (W4.setCell ⟨w.heap.size + 1, 32, none⟩ (.int .i64 0)) := S5
  obtain ⟨W5, hW5⟩ : ∃ W, W = W4.setCell ⟨w.heap.size + 1, 32, none⟩ (.int .i64 0) := ⟨_, rfl⟩
  rw [← hW5] at S5
  have C32 := hid (HS4.out.b.cell (cm_at HS4.out.y1 HS4.out.y2).2.2.2.1)
  have F32 := hid (HS4.out.b.frozen 32)
  have HW5 := hid hW5
  have S5 := hid S5
  clear hW5
  have S6 := S5.out.set 33 (.int .i64 0) (cm_sets S5.out.y1 S5.out.y2 0 0#32).2.2.2.2.1 S5.out.y1 S5.out.y2
  have S6 : CkSt w x _ (W5.setCell ⟨w.heap.size + 1, 33, none⟩ (.int .i64 0)) := S6
  obtain ⟨W6, hW6⟩ : ∃ W, W = W5.setCell ⟨w.heap.size + 1, 33, none⟩ (.int .i64 0) := ⟨_, rfl⟩
  rw [← hW6] at S6
  have C33 := hid (S5.out.b.cell (cm_at S5.out.y1 S5.out.y2).2.2.2.2.1)
  have F33 := hid (S5.out.b.frozen 33)
  have HW6 := hid hW6
  have S6 := hid S6
  clear hW6
  have hs7 := S6.out.setP
  have THP := S6.out.b.there 35 26 (by rw [cmc_len S6.out.y1 S6.out.y2]; omega)
  obtain ⟨W7, hW7⟩ : ∃ W7, W7 = W6.setCells (w.heap.size + 1) 35 (pcells 0 0 zeros) := ⟨_, rfl⟩
  rw [← hW7] at hs7
  have hs7 : CkSt w x (y2 x) W7 := hs7
  have HS7 := hid hs7
  have HW7 := hid hW7
  clear hs7 hW7
  have hHT : R = false := by rw [HR.out]; exact decide_eq_false (fun z => hi (by have := ((cok_2 hk).1 z).2.2.1; omega))
  have HT := hid hHT
  clear hHT
  have HBE := hid HS7.out.be
  clear hk
  go_enter Tryz.func18, Tryz.ntmps18
  go_wp2_with (first
    | (refine wpList_load_mid rfl 41 (.tmp 1) rfl w.heap.size 0 rfl xc _ RG0 huc rfl (by rw [HLC.out]; exact info_cm) ?_
       simp only [pq4])
    | (refine wpList_store_asC rfl 41 (.tmp 3) (.tmp 5) rfl (w.heap.size + 1) 0 xc.toArray rfl rfl (by simpa [HLC.out] using TH1) (by simpa [HLC.out] using info_cm) HON.out W1 HW1.out ?_)
    | (refine wpList_store_i rfl 3 (.tmp 6) (.const (.int .i64 0)) rfl (w.heap.size + 1) 0 .i64 0 rfl rfl _ info_i C0.out F0.out W2 HW2.out ?_)
    | fail)
  refine (HAQ.out _).mono ?_
  rintro e wq ⟨rfl, rfl⟩
  go_wp2_with (first
    | (refine wpList_store_i rfl 3 (.tmp 45) (.const (.int .i64 0)) rfl (w.heap.size + 1) 30 .i64 0 rfl rfl _ info_i C30.out F30.out W3 HW3.out ?_)
    | (refine wpList_store_i rfl 3 (.tmp 46) (.const (.int .i64 0)) rfl (w.heap.size + 1) 31 .i64 0 rfl rfl _ info_i C31.out F31.out W4 HW4.out ?_)
    | fail)
  refine (HAI.out _).mono ?_
  rintro e wq ⟨rfl, rfl⟩
  go_wp2_with (first
    | (refine wpList_store_i rfl 3 (.tmp 74) (.const (.int .i64 0)) rfl (w.heap.size + 1) 32 .i64 0 rfl rfl _ info_i C32.out F32.out W5 HW5.out ?_)
    | (refine wpList_store_i rfl 3 (.tmp 75) (.const (.int .i64 0)) rfl (w.heap.size + 1) 33 .i64 0 rfl rfl _ info_i C33.out F33.out W6 HW6.out ?_)
    | (refine wpList_store_asC rfl 36 (.tmp 76) (.tmp 73) rfl (w.heap.size + 1) 35 (pcells 0 0 zeros).toArray rfl rfl THP info_patch HONP.out W7 HW7.out ?_)
    | fail)
  go_ret
  exact ⟨by first | rfl | (rw [HT.out]; rfl), HBE.out⟩
theorem ccheck_2e (x : Cm) (w : World) (h : okCm w x) (hk : x.kd = 2) (hg : 0 ≤ x.dv) (hl : x.dv < 6) (hq : 1 ≤ x.rq ∧ x.rq ≤ 1099511627776) (hi : 1 ≤ x.id ∧ x.id ≤ 1099511627776) (hx : ¬ (x.id < 1073741824)) :
    Calls Tryz.prog 18 #[.agg (cmc x).toArray] w fun e w' => e = .returned (.bool (decide (cok x))) ∧ Below w.heap.size w w' := by
  have hue := Tryz.underlying38
  have hup := Tryz.underlying36
  have huc := Tryz.underlying41
  obtain ⟨hs1, hth⟩ := CkSt.new w x h.e8 h.p8
  have B0 := Blk.new w (cmc x) 41
  have RG0 := B0.range 0 (cmc x) (by rw [List.drop_zero, List.take_length])
  have honc := all_oneCell_toArray (cmc_one x)
  have HLC := hid (cmc_len h.e8 h.p8)
  have HPX := hid (cm_at h.e8 h.p8)
  obtain ⟨xc, hxc⟩ : ∃ c, c = cmc x := ⟨_, rfl⟩
  obtain ⟨W1, hW1⟩ : ∃ W1, W1 = ((w.alloc (.cells (cmc x).toArray 41)).alloc (.cells zA63 41)).setCells (w.heap.size + 1) 0 (cmc x) := ⟨_, rfl⟩
  rw [← hW1] at hs1
  rw [← hxc] at hW1 RG0 honc HLC hth ⊢
  have HS1 := hid hs1
  have HW1 := hid hW1
  have HON := hid honc
  have TH1 := hth
  obtain ⟨R, hR⟩ : ∃ R, R = decide (cok x) := ⟨_, rfl⟩
  rw [← hR]
  have HR := hid hR
  have e1 : (x.kd == 1) = false := by rw [hk]; rfl
  have e5 : (x.kd == 5) = false := by rw [hk]; rfl
  have e2 : (x.kd == 2) = true := by rw [hk]; rfl
  have e3 : (x.kd == 3) = false := by rw [hk]; rfl
  have e4 : (x.kd == 4) = false := by rw [hk]; rfl
  have ka_kd := HS1.out.a.cell HPX.out.1
  have kb_kd := HS1.out.b.cell (cm_at HS1.out.y1 HS1.out.y2).1
  have kf_kd := HS1.out.b.frozen 0
  clear hs1 hth hxc hW1 honc hR B0
  clear ka_kd kb_kd kf_kd
  have S2 := HS1.out.set 0 (.int .i64 0) (cm_sets HS1.out.y1 HS1.out.y2 0 0#32).1 HS1.out.y1 HS1.out.y2
  have S2 : CkSt w x _ (W1.setCell ⟨w.heap.size + 1, 0, none⟩ (.int .i64 0)) := S2
  obtain ⟨W2, hW2⟩ : ∃ W, W = W1.setCell ⟨w.heap.size + 1, 0, none⟩ (.int .i64 0) := ⟨_, rfl⟩
  rw [← hW2] at S2
  have C0 := hid (HS1.out.b.cell (cm_at HS1.out.y1 HS1.out.y2).1)
  have F0 := hid (HS1.out.b.frozen 0)
  have HW2 := hid hW2
  have S2 := hid S2
  clear hW2
  have S3 := S2.out.set 30 (.int .i64 0) (cm_sets S2.out.y1 S2.out.y2 0 0#32).2.1 S2.out.y1 S2.out.y2
  have S3 : CkSt w x _ (W2.setCell ⟨w.heap.size + 1, 30, none⟩ (.int .i64 0)) := S3
  obtain ⟨W3, hW3⟩ : ∃ W, W = W2.setCell ⟨w.heap.size + 1, 30, none⟩ (.int .i64 0) := ⟨_, rfl⟩
  rw [← hW3] at S3
  have C30 := hid (S2.out.b.cell (cm_at S2.out.y1 S2.out.y2).2.1)
  have F30 := hid (S2.out.b.frozen 30)
  have HW3 := hid hW3
  have S3 := hid S3
  clear hW3
  have HS4 := S3.out.set 31 (.int .i64 0) (cm_sets S3.out.y1 S3.out.y2 0 0#32).2.2.1 S3.out.y1 S3.out.y2
  have HS4 : CkSt w x (y4 x) (W3.setCell ⟨w.heap.size + 1, 31, none⟩ (.int .i64 0)) := HS4
  obtain ⟨W4, hW4⟩ : ∃ W, W = W3.setCell ⟨w.heap.size + 1, 31, none⟩ (.int .i64 0) := ⟨_, rfl⟩
  rw [← hW4] at HS4
  have C31 := hid (S3.out.b.cell (cm_at S3.out.y1 S3.out.y2).2.2.1)
  have F31 := hid (S3.out.b.frozen 31)
  have HW4 := hid hW4
  have HS4 := hid HS4
  clear hW4
  have ka_kd := S2.out.a.cell HPX.out.1
  have ka_30 := S2.out.a.cell HPX.out.2.1
  have ka_31 := S2.out.a.cell HPX.out.2.2.1
  have kd_kd := HS4.out.a.cell HPX.out.1
  have HONP := hid (all_oneCell_toArray (pcells_one 0 0 zeros))
  have bg : decide (0 ≤ x.dv) = true := by simp [hg]
  have bl : decide (x.dv < 6) = true := by simp [hl]
  have HAQ : Hid (∀ wx : World, Calls Tryz.prog 43 #[.int .i64 x.rq] wx fun e w' => e = .returned (.bool true) ∧ wx = w') := Lib.hid (fun wx => by
    have h0 := cabove_any x.rq wx
    rwa [decide_eq_true hq] at h0)
  have HAI : Hid (∀ wx : World, Calls Tryz.prog 43 #[.int .i64 x.id] wx fun e w' => e = .returned (.bool true) ∧ wx = w') := Lib.hid (fun wx => by
    have h0 := cabove_any x.id wx
    rwa [decide_eq_true hi] at h0)
  have bx : decide (x.id < 1073741824) = false := by simp [hx]
  have ka_32 := HS4.out.a.cell HPX.out.2.2.2.1
  have ka_33 := HS4.out.a.cell HPX.out.2.2.2.2.1
  have S5 := HS4.out.set 32 (.int .i64 0) (cm_sets HS4.out.y1 HS4.out.y2 0 0#32).2.2.2.1 HS4.out.y1 HS4.out.y2
  have S5 : CkSt w x _ (W4.setCell ⟨w.heap.size + 1, 32, none⟩ (.int .i64 0)) := S5
  obtain ⟨W5, hW5⟩ : ∃ W, W = W4.setCell ⟨w.heap.size + 1, 32, none⟩ (.int .i64 0) := ⟨_, rfl⟩
  rw [← hW5] at S5
  have C32 := hid (HS4.out.b.cell (cm_at HS4.out.y1 HS4.out.y2).2.2.2.1)
  have F32 := hid (HS4.out.b.frozen 32)
  have HW5 := hid hW5
  have S5 := hid S5
  clear hW5
  have S6 := S5.out.set 33 (.int .i64 0) (cm_sets S5.out.y1 S5.out.y2 0 0#32).2.2.2.2.1 S5.out.y1 S5.out.y2
  have S6 : CkSt w x _ (W5.setCell ⟨w.heap.size + 1, 33, none⟩ (.int .i64 0)) := S6
  obtain ⟨W6, hW6⟩ : ∃ W, W = W5.setCell ⟨w.heap.size + 1, 33, none⟩ (.int .i64 0) := ⟨_, rfl⟩
  rw [← hW6] at S6
  have C33 := hid (S5.out.b.cell (cm_at S5.out.y1 S5.out.y2).2.2.2.2.1)
  have F33 := hid (S5.out.b.frozen 33)
  have HW6 := hid hW6
  have S6 := hid S6
  clear hW6
  have hs7 := S6.out.setP
  have THP := S6.out.b.there 35 26 (by rw [cmc_len S6.out.y1 S6.out.y2]; omega)
  obtain ⟨W7, hW7⟩ : ∃ W7, W7 = W6.setCells (w.heap.size + 1) 35 (pcells 0 0 zeros) := ⟨_, rfl⟩
  rw [← hW7] at hs7
  have hs7 : CkSt w x (y2 x) W7 := hs7
  have HS7 := hid hs7
  have HW7 := hid hW7
  clear hs7 hW7
  have hHT : R = false := by rw [HR.out]; exact decide_eq_false (fun z => hx ((cok_2 hk).1 z).2.2.1.2)
  have HT := hid hHT
  clear hHT
  have HBE := hid HS7.out.be
  clear hk
  go_enter Tryz.func18, Tryz.ntmps18
  go_wp2_with (first
    | (refine wpList_load_mid rfl 41 (.tmp 1) rfl w.heap.size 0 rfl xc _ RG0 huc rfl (by rw [HLC.out]; exact info_cm) ?_
       simp only [pq4])
    | (refine wpList_store_asC rfl 41 (.tmp 3) (.tmp 5) rfl (w.heap.size + 1) 0 xc.toArray rfl rfl (by simpa [HLC.out] using TH1) (by simpa [HLC.out] using info_cm) HON.out W1 HW1.out ?_)
    | (refine wpList_store_i rfl 3 (.tmp 6) (.const (.int .i64 0)) rfl (w.heap.size + 1) 0 .i64 0 rfl rfl _ info_i C0.out F0.out W2 HW2.out ?_)
    | fail)
  refine (HAQ.out _).mono ?_
  rintro e wq ⟨rfl, rfl⟩
  go_wp2_with (first
    | (refine wpList_store_i rfl 3 (.tmp 45) (.const (.int .i64 0)) rfl (w.heap.size + 1) 30 .i64 0 rfl rfl _ info_i C30.out F30.out W3 HW3.out ?_)
    | (refine wpList_store_i rfl 3 (.tmp 46) (.const (.int .i64 0)) rfl (w.heap.size + 1) 31 .i64 0 rfl rfl _ info_i C31.out F31.out W4 HW4.out ?_)
    | fail)
  refine (HAI.out _).mono ?_
  rintro e wq ⟨rfl, rfl⟩
  go_wp2_with (first
    | (refine wpList_store_i rfl 3 (.tmp 74) (.const (.int .i64 0)) rfl (w.heap.size + 1) 32 .i64 0 rfl rfl _ info_i C32.out F32.out W5 HW5.out ?_)
    | (refine wpList_store_i rfl 3 (.tmp 75) (.const (.int .i64 0)) rfl (w.heap.size + 1) 33 .i64 0 rfl rfl _ info_i C33.out F33.out W6 HW6.out ?_)
    | (refine wpList_store_asC rfl 36 (.tmp 76) (.tmp 73) rfl (w.heap.size + 1) 35 (pcells 0 0 zeros).toArray rfl rfl THP info_patch HONP.out W7 HW7.out ?_)
    | fail)
  go_ret
  exact ⟨by first | rfl | (rw [HT.out]; rfl), HBE.out⟩
end Go.Proofs.YtnhcjadkbogioaaGreat
