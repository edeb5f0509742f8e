/- A token as it is read of bytes: the program's. -/
import Derived.Test.YticdpfjajkfheaaDoorOctX
import Derived.Test.YticdpfjajkfheaaDoorLoadG
namespace Go.Proofs.YticdpfjajkfheaaDoor
set_option linter.unusedVariables false
open Go Go.RowKit OctM

/-- A token's cells. -/
def tks (d p s c : Int) : List Value := [.int .i64 d, .int .i64 p, .int .i64 s, .int .i64 c]
def tk4 (t : Nat × Nat × Nat × Nat) : List Value := tks (t.1 : Int) (t.2.1 : Int) (t.2.2.1 : Int) (t.2.2.2 : Int)
theorem info_tok : (Tryd.prog.info? 42).map (·.size) = some 4 := by kernel_rfl
theorem tks_one (d p s c : Int) : (tks d p s c).toArray.all (·.oneCell') = true := by
  refine all_oneCell_toArray fun v hv => ?_
  simp only [tks, List.mem_cons, List.not_mem_nil, or_false] at hv
  rcases hv with rfl | rfl | rfl | rfl <;> rfl
/-- What is read of bytes: the token, how far, the error. -/
def tokOut (l : List UInt8) (a : Nat) (e : Int) : (Nat × Nat × Nat × Nat) × Nat × Int :=
  let r1 := numOut l a e 5
  let r2 := numOut l r1.2.1 r1.2.2 1099511627776
  let r3 := numOut l r2.2.1 (if r2.1 = 0 then failOut r2.2.2 3 else r2.2.2) 1099511627776
  let r4 := numOut l r3.2.1 r3.2.2 1073741824
  (if r4.2.2 = 0 then (r1.1, r2.1, r3.1, r4.1) else (0, 0, 0, 0), r4.2.1, r4.2.2)
theorem tokOut_at (l : List UInt8) (a : Nat) (e : Int) (h : a ≤ l.length) : (tokOut l a e).2.1 ≤ l.length := by
  unfold tokOut
  exact numOut_at _ _ _ _ (numOut_at _ _ _ _ (numOut_at _ _ _ _ (numOut_at _ _ _ _ h)))
theorem tok_results {P : Program} {fn : Func} {q : Tmp} {ty : TypeId} (h : fn.results = #[.cell q ty]) (tmps : Array Value) (w : World) (g : Nat) (cs : List Value) (d : TypeDesc)
    (hq : tmps.getD q undef = .pointer (some ⟨g, 0, none⟩)) (hB : Blk w g cs)
    (hu : P.underlying ty = some d) (hd : (match d with | .struct _ | .array _ _ => true | _ => false) = true) (hi : (P.info? ty).map (·.size) = some cs.length) :
    (results fn tmps).run P w = .ok (.agg cs.toArray) w := by
  obtain ⟨t, hB⟩ := hB
  exact results_cell_row h tmps w g t cs.toArray (0, 0) d hq hB hu hd (by simpa using hi)
theorem grown_set1 (w : World) (b j : Nat) (v : Value) : w.grownBy (w.setCell ⟨b, j, none⟩ v) (some b) :=
  ⟨rfl, rfl, rfl, by simp [World.setCell], fun k _ hk => Below.heap_setCell _ _ _ k (fun e => hk (by rw [e]))⟩
theorem Blk.wholeT {w : World} {g : Nat} {cs ds : List Value} (h : Blk w g cs) (hl : ds.length = cs.length) : Blk (w.setCells g 0 ds) g ds := by
  have h2 := h.sets ds 0 (by omega)
  rw [List.take_zero, List.nil_append, List.drop_eq_nil_of_le (by omega), List.append_nil] at h2
  exact h2
theorem grown_sets4 (b : Nat) : ∀ (vs : List Value) (o : Nat) (w : World), w.grownBy (w.setCells b o vs) (some b)
  | [], _, w => World.grownBy.refl w _
  | v :: vs, o, w => (grown_set1 w b o v).trans (grown_sets4 b vs (o + 1) _)
theorem grown_new {a b c : World} {row : Option Nat} {m : Nat} (h : a.grownBy b row) (k : b.grownBy c (some m)) (hm : a.heap.size ≤ m) : a.grownBy c row :=
  ⟨k.os.trans h.os, k.tape.trans h.tape, k.output.trans h.output, Nat.le_trans h.size k.size, fun i hi hr => (k.block i (Nat.lt_of_lt_of_le hi h.size) (by simp; omega)).trans (h.block i hi hr)⟩

set_option maxRecDepth 100000 in
set_option maxHeartbeats 3200000 in
theorem rd_tok (base g : Nat) (l : List UInt8) (a : Nat) (e : Int) (w : World) (h : Rd w base g l a e) (ha : a ≤ l.length) (hm : l.length ≤ 2000) :
    Calls Tryd.prog 28 #[.pointer (some ⟨g, 0, none⟩)] w fun x w' => x = .returned (.agg (tk4 (tokOut l a e).1).toArray) ∧ Rd w' base g l (tokOut l a e).2.1 (tokOut l a e).2.2 ∧ w.grownBy w' (some g) := by
  have hg := h.block.2
  obtain ⟨T, hT⟩ : ∃ T, T = tokOut l a e := ⟨_, rfl⟩
  rw [← hT]
  unfold tokOut at hT
  have A1 := numOut_at l a e 5 ha
  have H1 : Hid (∀ wx, Rd wx base g l a e → Calls Tryd.prog 50 #[.pointer (some ⟨g, 0, none⟩), .int .i64 5] wx fun x w' => x = .returned (.int .i64 ((numOut l a e 5).1 : Nat)) ∧ Rd w' base g l (numOut l a e 5).2.1 (numOut l a e 5).2.2 ∧ wx.grownBy w' (some g)) := Lib.hid fun wx hx => rd_num base g l a e 5 wx hx ha (by omega)
  obtain ⟨r1, hr1⟩ : ∃ r, r = numOut l a e 5 := ⟨_, rfl⟩
  rw [← hr1] at H1 A1 hT
  obtain ⟨v1, a1, e1⟩ := r1
  simp only at H1 A1 hT
  have A2 := numOut_at l a1 e1 1099511627776 A1
  have H2 : Hid (∀ wx, Rd wx base g l a1 e1 → Calls Tryd.prog 50 #[.pointer (some ⟨g, 0, none⟩), .int .i64 1099511627776] wx fun x w' => x = .returned (.int .i64 ((numOut l a1 e1 1099511627776).1 : Nat)) ∧ Rd w' base g l (numOut l a1 e1 1099511627776).2.1 (numOut l a1 e1 1099511627776).2.2 ∧ wx.grownBy w' (some g)) := Lib.hid fun wx hx => rd_num base g l a1 e1 1099511627776 wx hx A1 (by omega)
  obtain ⟨r2, hr2⟩ : ∃ r, r = numOut l a1 e1 1099511627776 := ⟨_, rfl⟩
  rw [← hr2] at H2 A2 hT
  obtain ⟨v2, a2, e2⟩ := r2
  simp only at H2 A2 hT
  have HF : Hid (∀ wx, Rd wx base g l a2 e2 → Calls Tryd.prog 51 #[.pointer (some ⟨g, 0, none⟩), .int .i64 3] wx fun x w' => x = .returned (.tuple #[]) ∧ Rd w' base g l a2 (failOut e2 3) ∧ wx.grownBy w' (some g)) := Lib.hid fun wx hx => rd_fail base g l a2 e2 3 wx hx
  obtain ⟨e5, he5⟩ : ∃ z, z = (if v2 = 0 then failOut e2 3 else e2) := ⟨_, rfl⟩
  rw [← he5] at hT
  have A3 := numOut_at l a2 e5 1099511627776 A2
  have H3 : Hid (∀ wx, Rd wx base g l a2 e5 → Calls Tryd.prog 50 #[.pointer (some ⟨g, 0, none⟩), .int .i64 1099511627776] wx fun x w' => x = .returned (.int .i64 ((numOut l a2 e5 1099511627776).1 : Nat)) ∧ Rd w' base g l (numOut l a2 e5 1099511627776).2.1 (numOut l a2 e5 1099511627776).2.2 ∧ wx.grownBy w' (some g)) := Lib.hid fun wx hx => rd_num base g l a2 e5 1099511627776 wx hx A2 (by omega)
  obtain ⟨r3, hr3⟩ : ∃ r, r = numOut l a2 e5 1099511627776 := ⟨_, rfl⟩
  rw [← hr3] at H3 A3 hT
  obtain ⟨v3, a3, e3⟩ := r3
  simp only at H3 A3 hT
  have H4 : Hid (∀ wx, Rd wx base g l a3 e3 → Calls Tryd.prog 50 #[.pointer (some ⟨g, 0, none⟩), .int .i64 1073741824] wx fun x w' => x = .returned (.int .i64 ((numOut l a3 e3 1073741824).1 : Nat)) ∧ Rd w' base g l (numOut l a3 e3 1073741824).2.1 (numOut l a3 e3 1073741824).2.2 ∧ wx.grownBy w' (some g)) := Lib.hid fun wx hx => rd_num base g l a3 e3 1073741824 wx hx A3 (by omega)
  obtain ⟨r4, hr4⟩ : ∃ r, r = numOut l a3 e3 1073741824 := ⟨_, rfl⟩
  rw [← hr4] at H4 hT
  obtain ⟨v4, a4, e4⟩ := r4
  simp only at H4 hT
  have HE : Hid (∀ wx, Rd wx base g l a4 e4 → Calls Tryd.prog 30 #[.pointer (some ⟨g, 0, none⟩)] wx fun x w' => x = .returned (.int .i64 e4) ∧ wx = w') := Lib.hid fun wx hx => rd_err base g l a4 e4 wx hx
  have HT := Lib.hid hT
  have HE5 := Lib.hid he5
  clear hr1 hr2 hr3 hr4 hT he5 A1 A2 A3 ha hm
  have B2 := Blk.new w (tks 0 0 0 0) 42
  have R0 := h.later ((Below.refl w.heap.size w).alloc (Nat.le_refl _) (.cells (tks 0 0 0 0).toArray 42))
  have G0 := World.grownBy_alloc w (.cells (tks 0 0 0 0).toArray 42) (some g)
  have hu := Tryd.underlying42
  clear h
  have hne : (some g : Option Nat) ≠ some w.heap.size := by simp; omega
  obtain ⟨bz, hbz⟩ : ∃ b, b = (((v2 : Nat) : Int) == 0) := ⟨_, rfl⟩
  obtain ⟨be, hbe⟩ : ∃ b, b = (e4 != 0) := ⟨_, rfl⟩
  have ke : (e4 != 0) = be := hbe.symm
  have kz : (((v2 : Nat) : Int) == 0) = bz := hbz.symm
  have HV : Hid ((bz = true → e5 = failOut e2 3) ∧ (bz = false → e5 = e2)) := Lib.hid ⟨fun h => by rw [HE5.out, if_pos (by rw [h] at hbz; simpa using hbz)], fun h => by rw [HE5.out, if_neg (by rw [h] at hbz; simpa using hbz)]⟩
  have HTO : Hid ((be = true → tk4 T.1 = tks 0 0 0 0) ∧ (be = false → tk4 T.1 = tks (v1 : Int) (v2 : Int) (v3 : Int) (v4 : Int)) ∧ T.2.1 = a4 ∧ T.2.2 = e4) := Lib.hid ⟨fun h => by rw [HT.out, if_neg (by rw [h] at hbe; simpa using hbe.symm)]; rfl, fun h => by rw [HT.out, if_pos (by rw [h] at hbe; simpa using hbe.symm)]; rfl, by rw [HT.out], by rw [HT.out]⟩
  clear hbz hbe HT HE5
  cases bz
  all_goals
    go_enter Tryd.func28, Tryd.ntmps28
    go_wp2_with fail
    refine (H1.out _ R0).mono ?_
    rintro x w1 ⟨rfl, R1, G1⟩
    replace B2 := B2.kept G1 hne
    have GG := G0.trans G1
    clear R0 G0 G1
    go_wp2_with fail
    refine (H2.out _ R1).mono ?_
    rintro x w2 ⟨rfl, R2, G2⟩
    replace B2 := B2.kept G2 hne
    replace GG := GG.trans G2
    have B3 := Blk.new w2 (tks 0 0 0 0) 42
    have T3 := B3.there 0 4 (Nat.le_refl _)
    have S3 := B3.wholeT (ds := tks (v1 : Int) (v2 : Int) 0 0) rfl
    have LE3 : Le w2 (World.setCells (w2.alloc (.cells (tks 0 0 0 0).toArray 42)) w2.heap.size 0 (tks (v1 : Int) (v2 : Int) 0 0)) := below_sets (Nat.le_refl _) _ 0 ((Below.refl w2.heap.size w2).alloc (Nat.le_refl _) _)
    have O3 := tks_one (v1 : Int) (v2 : Int) 0 0
    have hsz := GG.size
    clear B3 R1 G2
    obtain ⟨g3, hg3⟩ : ∃ z, z = w2.heap.size := ⟨_, rfl⟩
    have hb2 := B2.lt
    rw [← hg3] at T3 S3 LE3 hsz hb2
    have HG3 := Lib.hid hg3
    clear hg3
    go_wp2_with (first
      | (rw [← HG3.out]
         refine wpList_store_mid rfl 42 (.tmp 3) (.tmp 8) rfl g3 0 (tks (v1 : Int) (v2 : Int) 0 0).toArray rfl rfl T3 info_tok O3 ?_
         simp only [Act.put]
         generalize hw3 : World.setCells _ g3 0 (tks (v1 : Int) (v2 : Int) 0 0).toArray.toList = w3
         have S3' : Blk w3 g3 (tks (v1 : Int) (v2 : Int) 0 0) := hw3 ▸ S3
         have LE3' : Le w2 w3 := hw3 ▸ LE3
         have q1 : w3.cell? ⟨g3, 1, none⟩ = some (.int .i64 (v2 : Int)) := S3'.cell rfl
         clear hw3 T3 S3 LE3 O3)
      | fail)
    have hne3 : (some g : Option Nat) ≠ some g3 := by simp; omega
    have R3 := R2.later LE3'
    replace B2 := B2.later LE3'
    replace GG := GG.trans (grown_none LE3' _)
    clear R2 LE3' q1
  · have hv := HV.out.2 trivial
    have R4 := R3
    have S4 := S3'
    rw [← hv] at R4
    clear hv R3 S3'
    refine (H3.out _ R4).mono ?_
    rintro x w5 ⟨rfl, R5, G5⟩
    replace B2 := B2.kept G5 hne
    replace S4 := S4.kept G5 hne3
    replace GG := GG.trans G5
    clear R4 G5
    go_wp2_with fail
    refine (H4.out _ R5).mono ?_
    rintro x w6 ⟨rfl, R6, G6⟩
    replace B2 := B2.kept G6 hne
    replace S4 := S4.kept G6 hne3
    replace GG := GG.trans G6
    have f2 := S4.frozen 2
    have f3 := S4.frozen 3
    have q2 : w6.cell? ⟨g3, 2, none⟩ = some (.int .i64 0) := S4.cell rfl
    have q3 : w6.cell? ⟨g3, 3, none⟩ = some (.int .i64 0) := S4.cell rfl
    have S8 : Blk ((w6.setCell ⟨g3, 2, none⟩ (.int .i64 (v3 : Int))).setCell ⟨g3, 3, none⟩ (.int .i64 (v4 : Int))) g3 (tks (v1 : Int) (v2 : Int) (v3 : Int) (v4 : Int)) := (S4.set 2 _).set 3 _
    have R8 := (R6.other (grown_set1 w6 g3 2 (.int .i64 (v3 : Int))) (by omega)).other (grown_set1 _ g3 3 (.int .i64 (v4 : Int))) (by omega)
    have B8 := (B2.setOther (b := g3) 2 (.int .i64 (v3 : Int)) (by omega)).setOther (b := g3) 3 (.int .i64 (v4 : Int)) (by omega)
    have G8 := grown_new (grown_new GG (grown_set1 w6 g3 2 (.int .i64 (v3 : Int))) hsz) (grown_set1 _ g3 3 (.int .i64 (v4 : Int))) hsz
    clear R5 G6 B2 S4 GG R6
    go_wp2_with fail
    obtain ⟨w8, hw8⟩ : ∃ z, z = (w6.setCell ⟨g3, 2, none⟩ (.int .i64 (v3 : Int))).setCell ⟨g3, 3, none⟩ (.int .i64 (v4 : Int)) := ⟨_, rfl⟩
    rw [← hw8] at S8 R8 B8 G8 ⊢
    clear hw8 f2 f3 q2 q3
    refine (HE.out _ R8).mono ?_
    rintro x w9 ⟨rfl, rfl⟩
    have T8 := B8.there 0 4 (Nat.le_refl _)
    have RG := S8.range 0 (tks (v1 : Int) (v2 : Int) (v3 : Int) (v4 : Int)) rfl
    cases be
    · have FIN := B8.wholeT (ds := tks (v1 : Int) (v2 : Int) (v3 : Int) (v4 : Int)) rfl
      have O8 := tks_one (v1 : Int) (v2 : Int) (v3 : Int) (v4 : Int)
      have R9 := R8.other (grown_sets4 w.heap.size (tks (v1 : Int) (v2 : Int) (v3 : Int) (v4 : Int)) 0 w8) (by omega)
      have G9 := grown_new G8 (grown_sets4 w.heap.size (tks (v1 : Int) (v2 : Int) (v3 : Int) (v4 : Int)) 0 w8) (by omega)
      clear S8 R8 B8 G8
      go_wp2_with (first
        | (refine wpList_load_mid rfl 42 (.tmp 3) rfl g3 0 rfl (tks (v1 : Int) (v2 : Int) (v3 : Int) (v4 : Int)) _ RG hu rfl info_tok ?_)
        | (refine wpList_store_mid rfl 42 (.tmp 2) (.tmp 24) rfl w.heap.size 0 (tks (v1 : Int) (v2 : Int) (v3 : Int) (v4 : Int)).toArray rfl rfl T8 info_tok O8 ?_)
        | fail)
      exact bodyPost_ret (v := .agg (tks (v1 : Int) (v2 : Int) (v3 : Int) (v4 : Int)).toArray) (tok_results (q := 2) rfl _ _ w.heap.size _ _ rfl FIN hu rfl info_tok) rfl ⟨by rw [HTO.out.2.1 trivial], by rw [HTO.out.2.2.1, HTO.out.2.2.2]; exact R9, G9⟩
    · have FIN := B8.wholeT (ds := tks 0 0 0 0) rfl
      have O8 := tks_one 0 0 0 0
      have R9 := R8.other (grown_sets4 w.heap.size (tks 0 0 0 0) 0 w8) (by omega)
      have G9 := grown_new G8 (grown_sets4 w.heap.size (tks 0 0 0 0) 0 w8) (by omega)
      clear S8 R8 B8 G8 RG
      go_wp2_with (first
        | (refine wpList_store_mid rfl 42 (.tmp 2) (.tmp 23) rfl w.heap.size 0 (tks 0 0 0 0).toArray rfl rfl T8 info_tok O8 ?_)
        | fail)
      exact bodyPost_ret (v := .agg (tks 0 0 0 0).toArray) (tok_results (q := 2) rfl _ _ w.heap.size _ _ rfl FIN hu rfl info_tok) rfl ⟨by rw [HTO.out.1 trivial], by rw [HTO.out.2.2.1, HTO.out.2.2.2]; exact R9, G9⟩
  · have hv := HV.out.1 trivial
    refine (HF.out _ R3).mono ?_
    rintro x w4 ⟨rfl, R4, G4⟩
    replace B2 := B2.kept G4 hne
    have S4 := S3'.kept G4 hne3
    replace GG := GG.trans G4
    rw [← hv] at R4
    clear R3 G4 S3' hv
    go_wp2_with fail
    refine (H3.out _ R4).mono ?_
    rintro x w5 ⟨rfl, R5, G5⟩
    replace B2 := B2.kept G5 hne
    replace S4 := S4.kept G5 hne3
    replace GG := GG.trans G5
    clear R4 G5
    go_wp2_with fail
    refine (H4.out _ R5).mono ?_
    rintro x w6 ⟨rfl, R6, G6⟩
    replace B2 := B2.kept G6 hne
    replace S4 := S4.kept G6 hne3
    replace GG := GG.trans G6
    have f2 := S4.frozen 2
    have f3 := S4.frozen 3
    have q2 : w6.cell? ⟨g3, 2, none⟩ = some (.int .i64 0) := S4.cell rfl
    have q3 : w6.cell? ⟨g3, 3, none⟩ = some (.int .i64 0) := S4.cell rfl
    have S8 : Blk ((w6.setCell ⟨g3, 2, none⟩ (.int .i64 (v3 : Int))).setCell ⟨g3, 3, none⟩ (.int .i64 (v4 : Int))) g3 (tks (v1 : Int) (v2 : Int) (v3 : Int) (v4 : Int)) := (S4.set 2 _).set 3 _
    have R8 := (R6.other (grown_set1 w6 g3 2 (.int .i64 (v3 : Int))) (by omega)).other (grown_set1 _ g3 3 (.int .i64 (v4 : Int))) (by omega)
    have B8 := (B2.setOther (b := g3) 2 (.int .i64 (v3 : Int)) (by omega)).setOther (b := g3) 3 (.int .i64 (v4 : Int)) (by omega)
    have G8 := grown_new (grown_new GG (grown_set1 w6 g3 2 (.int .i64 (v3 : Int))) hsz) (grown_set1 _ g3 3 (.int .i64 (v4 : Int))) hsz
    clear R5 G6 B2 S4 GG R6
    go_wp2_with fail
    obtain ⟨w8, hw8⟩ : ∃ z, z = (w6.setCell ⟨g3, 2, none⟩ (.int .i64 (v3 : Int))).setCell ⟨g3, 3, none⟩ (.int .i64 (v4 : Int)) := ⟨_, rfl⟩
    rw [← hw8] at S8 R8 B8 G8 ⊢
    clear hw8 f2 f3 q2 q3
    refine (HE.out _ R8).mono ?_
    rintro x w9 ⟨rfl, rfl⟩
    have T8 := B8.there 0 4 (Nat.le_refl _)
    have RG := S8.range 0 (tks (v1 : Int) (v2 : Int) (v3 : Int) (v4 : Int)) rfl
    cases be
    · have FIN := B8.wholeT (ds := tks (v1 : Int) (v2 : Int) (v3 : Int) (v4 : Int)) rfl
      have O8 := tks_one (v1 : Int) (v2 : Int) (v3 : Int) (v4 : Int)
      have R9 := R8.other (grown_sets4 w.heap.size (tks (v1 : Int) (v2 : Int) (v3 : Int) (v4 : Int)) 0 w8) (by omega)
      have G9 := grown_new G8 (grown_sets4 w.heap.size (tks (v1 : Int) (v2 : Int) (v3 : Int) (v4 : Int)) 0 w8) (by omega)
      clear S8 R8 B8 G8
      go_wp2_with (first
        | (refine wpList_load_mid rfl 42 (.tmp 3) rfl g3 0 rfl (tks (v1 : Int) (v2 : Int) (v3 : Int) (v4 : Int)) _ RG hu rfl info_tok ?_)
        | (refine wpList_store_mid rfl 42 (.tmp 2) (.tmp 24) rfl w.heap.size 0 (tks (v1 : Int) (v2 : Int) (v3 : Int) (v4 : Int)).toArray rfl rfl T8 info_tok O8 ?_)
        | fail)
      exact bodyPost_ret (v := .agg (tks (v1 : Int) (v2 : Int) (v3 : Int) (v4 : Int)).toArray) (tok_results (q := 2) rfl _ _ w.heap.size _ _ rfl FIN hu rfl info_tok) rfl ⟨by rw [HTO.out.2.1 trivial], by rw [HTO.out.2.2.1, HTO.out.2.2.2]; exact R9, G9⟩
    · have FIN := B8.wholeT (ds := tks 0 0 0 0) rfl
      have O8 := tks_one 0 0 0 0
      have R9 := R8.other (grown_sets4 w.heap.size (tks 0 0 0 0) 0 w8) (by omega)
      have G9 := grown_new G8 (grown_sets4 w.heap.size (tks 0 0 0 0) 0 w8) (by omega)
      clear S8 R8 B8 G8 RG
      go_wp2_with (first
        | (refine wpList_store_mid rfl 42 (.tmp 2) (.tmp 23) rfl w.heap.size 0 (tks 0 0 0 0).toArray rfl rfl T8 info_tok O8 ?_)
        | fail)
      exact bodyPost_ret (v := .agg (tks 0 0 0 0).toArray) (tok_results (q := 2) rfl _ _ w.heap.size _ _ rfl FIN hu rfl info_tok) rfl ⟨by rw [HTO.out.1 trivial], by rw [HTO.out.2.2.1, HTO.out.2.2.2]; exact R9, G9⟩
end Go.Proofs.YticdpfjajkfheaaDoor
