/- A token as it is read of bytes: the program's. -/
import Derived.Test.YticdpfjajkfheaaDoorM3
import Derived.Shelf.Strings.Builder1
import Derived.Shelf.Strings.Builder2
import Derived.Shelf.Strings.OnBuilder
import Derived.Shelf.Small.Strs
import Derived.Shelf.Strconv.Itoa0
import Derived.Shelf.Strconv.Itoa1
import Derived.Shelf.LaysM
import Derived.Shelf.Strconv.Itoa2
import Derived.Shelf.Strconv.Itoa3
import Derived.Shelf.Strings.Search1
import Derived.Shelf.Strings.Search2
import Derived.Shelf.Strings.Search3
import Derived.Shelf.Strings.Count
import Derived.Shelf.Strings.Shaped
import Derived.Shelf.Strings.Split
import Derived.Shelf.Strings.SplitShaped
import Derived.Test.YticdpfjajkfheaaDoorProg
import Derived.Test.YticdpfjajkfheaaDoorM2
import Derived.Lib.LaidTab
import Derived.LaidSub
namespace Go.Proofs.YticdpfjajkfheaaDoor
set_option linter.unusedVariables false
open Go Go.RowKit OctM

/-- A token's cells. -/
def tks (d p s c : Int) : List Value := [.int .i64 d, .int .i64 p, .int .i64 s, .int .i64 c]
def tk4 (t : Nat × Nat × Nat × Nat) : List Value := tks (t.1 : Int) (t.2.1 : Int) (t.2.2.1 : Int) (t.2.2.2 : Int)
theorem info_tok : (Tryd.prog.info? 42).map (·.size) = some 4 := by kernel_rfl
theorem tks_one (d p s c : Int) : (tks d p s c).toArray.all (·.oneCell') = true := by
  refine all_oneCell_toArray fun v hv => ?_
  simp only [tks, List.mem_cons, List.not_mem_nil, or_false] at hv
  rcases hv with rfl | rfl | rfl | rfl <;> rfl
/-- What is read of bytes: the token, how far, the error. -/
def tokOut (l : List UInt8) (a : Nat) (e : Int) : (Nat × Nat × Nat × Nat) × Nat × Int :=
  let r1 := numOut l a e 5
  let r2 := numOut l r1.2.1 r1.2.2 1099511627776
  let r3 := numOut l r2.2.1 (if r2.1 = 0 then failOut r2.2.2 3 else r2.2.2) 1099511627776
  let r4 := numOut l r3.2.1 r3.2.2 1073741824
  (if r4.2.2 = 0 then (r1.1, r2.1, r3.1, r4.1) else (0, 0, 0, 0), r4.2.1, r4.2.2)
theorem tokOut_at (l : List UInt8) (a : Nat) (e : Int) (h : a ≤ l.length) : (tokOut l a e).2.1 ≤ l.length := by
  unfold tokOut
  exact numOut_at _ _ _ _ (numOut_at _ _ _ _ (numOut_at _ _ _ _ (numOut_at _ _ _ _ h)))
theorem tok_results {P : Program} {fn : Func} {q : Tmp} {ty : TypeId} (h : fn.results = #[.cell q ty]) (tmps : Array Value) (w : World) (g : Nat) (cs : List Value) (d : TypeDesc)
    (hq : tmps.getD q undef = .pointer (some ⟨g, 0, none⟩)) (hB : Blk w g cs)
    (hu : P.underlying ty = some d) (hd : (match d with | .struct _ | .array _ _ => true | _ => false) = true) (hi : (P.info? ty).map (·.size) = some cs.length) :
    (results fn tmps).run P w = .ok (.agg cs.toArray) w := by
  obtain ⟨t, hB⟩ := hB
  exact results_cell_row h tmps w g t cs.toArray (0, 0) d hq hB hu hd (by simpa using hi)
theorem grown_set1 (w : World) (b j : Nat) (v : Value) : w.grownBy (w.setCell ⟨b, j, none⟩ v) (some b) :=
  ⟨rfl, rfl, rfl, by simp [World.setCell], fun k _ hk => Below.heap_setCell _ _ _ k (fun e => hk (by rw [e]))⟩
theorem Blk.wholeT {w : World} {g : Nat} {cs ds : List Value} (h : Blk w g cs) (hl : ds.length = cs.length) : Blk (w.setCells g 0 ds) g ds := by
  have h2 := h.sets ds 0 (by omega)
  rw [List.take_zero, List.nil_append, List.drop_eq_nil_of_le (by omega), List.append_nil] at h2
  exact h2
theorem grown_sets4 (b : Nat) : ∀ (vs : List Value) (o : Nat) (w : World), w.grownBy (w.setCells b o vs) (some b)
  | [], _, w => World.grownBy.refl w _
  | v :: vs, o, w => (grown_set1 w b o v).trans (grown_sets4 b vs (o + 1) _)
theorem grown_new {a b c : World} {row : Option Nat} {m : Nat} (h : a.grownBy b row) (k : b.grownBy c (some m)) (hm : a.heap.size ≤ m) : a.grownBy c row :=
  ⟨k.os.trans h.os, k.tape.trans h.tape, k.output.trans h.output, Nat.le_trans h.size k.size, fun i hi hr => (k.block i (Nat.lt_of_lt_of_le hi h.size) (by simp; omega)).trans (h.block i hi hr)⟩

set_option maxRecDepth 100000 in
set_option maxHeartbeats 3200000 in
theorem rd_tok (base g : Nat) (l : List UInt8) (a : Nat) (e : Int) (w : World) (h : Rd w base g l a e) (ha : a ≤ l.length) (hm : l.length ≤ 2000) :
    Calls Tryd.prog 28 #[.pointer (some ⟨g, 0, none⟩)] w fun x w' => x = .returned (.agg (tk4 (tokOut l a e).1).toArray) ∧ Rd w' base g l (tokOut l a e).2.1 (tokOut l a e).2.2 ∧ w.grownBy w' (some g) := by
  have hg := h.block.2
  obtain ⟨T, hT⟩ : ∃ T, T = tokOut l a e := ⟨_, rfl⟩
  rw [← hT]
  unfold tokOut at hT
  have A1 := numOut_at l a e 5 ha
  have H1 : Hid (∀ wx, Rd wx base g l a e → Calls Tryd.prog 50 #[.pointer (some ⟨g, 0, none⟩), .int .i64 5] wx fun x w' => x = .returned (.int .i64 ((numOut l a e 5).1 : Nat)) ∧ Rd w' base g l (numOut l a e 5).2.1 (numOut l a e 5).2.2 ∧ wx.grownBy w' (some g)) := Lib.hid fun wx hx => rd_num base g l a e 5 wx hx ha (by omega)
  obtain ⟨r1, hr1⟩ : ∃ r, r = numOut l a e 5 := ⟨_, rfl⟩
  rw [← hr1] at H1 A1 hT
  obtain ⟨v1, a1, e1⟩ := r1
  simp only at H1 A1 hT
  have A2 := numOut_at l a1 e1 1099511627776 A1
  have H2 : Hid (∀ wx, Rd wx base g l a1 e1 → Calls Tryd.prog 50 #[.pointer (some ⟨g, 0, none⟩), .int .i64 1099511627776] wx fun x w' => x = .returned (.int .i64 ((numOut l a1 e1 1099511627776).1 : Nat)) ∧ Rd w' base g l (numOut l a1 e1 1099511627776).2.1 (numOut l a1 e1 1099511627776).2.2 ∧ wx.grownBy w' (some g)) := Lib.hid fun wx hx => rd_num base g l a1 e1 1099511627776 wx hx A1 (by omega)
  obtain ⟨r2, hr2⟩ : ∃ r, r = numOut l a1 e1 1099511627776 := ⟨_, rfl⟩
  rw [← hr2] at H2 A2 hT
  obtain ⟨v2, a2, e2⟩ := r2
  simp only at H2 A2 hT
  have HF : Hid (∀ wx, Rd wx base g l a2 e2 → Calls Tryd.prog 51 #[.pointer (some ⟨g, 0, none⟩), .int .i64 3] wx fun x w' => x = .returned (.tuple #[]) ∧ Rd w' base g l a2 (failOut e2 3) ∧ wx.grownBy w' (some g)) := Lib.hid fun wx hx => rd_fail base g l a2 e2 3 wx hx
  obtain ⟨e5, he5⟩ : ∃ z, z = (if v2 = 0 then failOut e2 3 else e2) := ⟨_, rfl⟩
  rw [← he5] at hT
  have A3 := numOut_at l a2 e5 1099511627776 A2
  have H3 : Hid (∀ wx, Rd wx base g l a2 e5 → Calls Tryd.prog 50 #[.pointer (some ⟨g, 0, none⟩), .int .i64 1099511627776] wx fun x w' => x = .returned (.int .i64 ((numOut l a2 e5 1099511627776).1 : Nat)) ∧ Rd w' base g l (numOut l a2 e5 1099511627776).2.1 (numOut l a2 e5 1099511627776).2.2 ∧ wx.grownBy w' (some g)) := Lib.hid fun wx hx => rd_num base g l a2 e5 1099511627776 wx hx A2 (by omega)
  obtain ⟨r3, hr3⟩ : ∃ r, r = numOut l a2 e5 1099511627776 := ⟨_, rfl⟩
  rw [← hr3] at H3 A3 hT
  obtain ⟨v3, a3, e3⟩ := r3
  simp only at H3 A3 hT
  have H4 : Hid (∀ wx, Rd wx base g l a3 e3 → Calls Tryd.prog 50 #[.pointer (some ⟨g, 0, none⟩), .int .i64 1073741824] wx fun x w' => x = .returned (.int .i64 ((numOut l a3 e3 1073741824).1 : Nat)) ∧ Rd w' base g l (numOut l a3 e3 1073741824).2.1 (numOut l a3 e3 1073741824).2.2 ∧ wx.grownBy w' (some g)) := Lib.hid fun wx hx => rd_num base g l a3 e3 1073741824 wx hx A3 (by omega)
  obtain ⟨r4, hr4⟩ : ∃ r, r = numOut l a3 e3 1073741824 := ⟨_, rfl⟩
  rw [← hr4] at H4 hT
  obtain ⟨v4, a4, e4⟩ := r4
  simp only at H4 hT
  have HE : Hid (∀ wx, Rd wx base g l a4 e4 → Calls Tryd.prog 30 #[.pointer (some ⟨g, 0, none⟩)] wx fun x w' => x = .returned (.int .i64 e4) ∧ wx = w') := Lib.hid fun wx hx => rd_err base g l a4 e4 wx hx
  have HT := Lib.hid hT
  have HE5 := Lib.hid he5
  clear hr1 hr2 hr3 hr4 hT he5 A1 A2 A3 ha hm
  have B2 := Blk.new w (tks 0 0 0 0) 42
  have R0 := h.later ((Below.refl w.heap.size w).alloc (Nat.le_refl _) (.cells (tks 0 0 0 0).toArray 42))
  have G0 := World.grownBy_alloc w (.cells (tks 0 0 0 0).toArray 42) (some g)
  have hu := Tryd.underlying42
  clear h
  have hne : (some g : Option Nat) ≠ some w.heap.size := by simp; omega
  obtain ⟨bz, hbz⟩ : ∃ b, b = (((v2 : Nat) : Int) == 0) := ⟨_, rfl⟩
  obtain ⟨be, hbe⟩ : ∃ b, b = (e4 != 0) := ⟨_, rfl⟩
  have ke : (e4 != 0) = be := hbe.symm
  have kz : (((v2 : Nat) : Int) == 0) = bz := hbz.symm
  have HV : Hid ((bz = true → e5 = failOut e2 3) ∧ (bz = false → e5 = e2)) := Lib.hid ⟨fun h => by rw [HE5.out, if_pos (by rw [h] at hbz; simpa using hbz)], fun h => by rw [HE5.out, if_neg (by rw [h] at hbz; simpa using hbz)]⟩
  have HTO : Hid ((be = true → tk4 T.1 = tks 0 0 0 0) ∧ (be = false → tk4 T.1 = tks (v1 : Int) (v2 : Int) (v3 : Int) (v4 : Int)) ∧ T.2.1 = a4 ∧ T.2.2 = e4) := Lib.hid ⟨fun h => by rw [HT.out, if_neg (by rw [h] at hbe; simpa using hbe.symm)]; rfl, fun h => by rw [HT.out, if_pos (by rw [h] at hbe; simpa using hbe.symm)]; rfl, by rw [HT.out], by rw [HT.out]⟩
  clear hbz hbe HT HE5
  cases bz
  all_goals
    go_enter Tryd.func28, Tryd.ntmps28
    go_wp2_with fail
    refine (H1.out _ R0).mono ?_
    rintro x w1 ⟨rfl, R1, G1⟩
    replace B2 := B2.kept G1 hne
    have GG := G0.trans G1
    clear R0 G0 G1
    go_wp2_with fail
    refine (H2.out _ R1).mono ?_
    rintro x w2 ⟨rfl, R2, G2⟩
    replace B2 := B2.kept G2 hne
    replace GG := GG.trans G2
    have B3 := Blk.new w2 (tks 0 0 0 0) 42
    have T3 := B3.there 0 4 (Nat.le_refl _)
    have S3 := B3.wholeT (ds := tks (v1 : Int) (v2 : Int) 0 0) rfl
    have LE3 : Le w2 (World.setCells (w2.alloc (.cells (tks 0 0 0 0).toArray 42)) w2.heap.size 0 (tks (v1 : Int) (v2 : Int) 0 0)) := below_sets (Nat.le_refl _) _ 0 ((Below.refl w2.heap.size w2).alloc (Nat.le_refl _) _)
    have O3 := tks_one (v1 : Int) (v2 : Int) 0 0
    have hsz := GG.size
    clear B3 R1 G2
    obtain ⟨g3, hg3⟩ : ∃ z, z = w2.heap.size := ⟨_, rfl⟩
    have hb2 := B2.lt
    rw [← hg3] at T3 S3 LE3 hsz hb2
    have HG3 := Lib.hid hg3
    clear hg3
    go_wp2_with (first
      | (rw [← HG3.out]
         refine wpList_store_mid rfl 42 (.tmp 3) (.tmp 8) rfl g3 0 (tks (v1 : Int) (v2 : Int) 0 0).toArray rfl rfl T3 info_tok O3 ?_
         simp only [Act.put]
         generalize hw3 : World.setCells _ g3 0 (tks (v1 : Int) (v2 : Int) 0 0).toArray.toList = w3
         have S3' : Blk w3 g3 (tks (v1 : Int) (v2 : Int) 0 0) := hw3 ▸ S3
         have LE3' : Le w2 w3 := hw3 ▸ LE3
         have q1 : w3.cell? ⟨g3, 1, none⟩ = some (.int .i64 (v2 : Int)) := S3'.cell rfl
         clear hw3 T3 S3 LE3 O3)
      | fail)
    have hne3 : (some g : Option Nat) ≠ some g3 := by simp; omega
    have R3 := R2.later LE3'
    replace B2 := B2.later LE3'
    replace GG := GG.trans (grown_none LE3' _)
    clear R2 LE3' q1
  · have hv := HV.out.2 trivial
    have R4 := R3
    have S4 := S3'
    rw [← hv] at R4
    clear hv R3 S3'
    refine (H3.out _ R4).mono ?_
    rintro x w5 ⟨rfl, R5, G5⟩
    replace B2 := B2.kept G5 hne
    replace S4 := S4.kept G5 hne3
    replace GG := GG.trans G5
    clear R4 G5
    go_wp2_with fail
    refine (H4.out _ R5).mono ?_
    rintro x w6 ⟨rfl, R6, G6⟩
    replace B2 := B2.kept G6 hne
    replace S4 := S4.kept G6 hne3
    replace GG := GG.trans G6
    have f2 := S4.frozen 2
    have f3 := S4.frozen 3
    have q2 : w6.cell? ⟨g3, 2, none⟩ = some (.int .i64 0) := S4.cell rfl
    have q3 : w6.cell? ⟨g3, 3, none⟩ = some (.int .i64 0) := S4.cell rfl
    have S8 : Blk ((w6.setCell ⟨g3, 2, none⟩ (.int .i64 (v3 : Int))).setCell ⟨g3, 3, none⟩ (.int .i64 (v4 : Int))) g3 (tks (v1 : Int) (v2 : Int) (v3 : Int) (v4 : Int)) := (S4.set 2 _).set 3 _
    have R8 := (R6.other (grown_set1 w6 g3 2 (.int .i64 (v3 : Int))) (by omega)).other (grown_set1 _ g3 3 (.int .i64 (v4 : Int))) (by omega)
    have B8 := (B2.setOther (b := g3) 2 (.int .i64 (v3 : Int)) (by omega)).setOther (b := g3) 3 (.int .i64 (v4 : Int)) (by omega)
    have G8 := grown_new (grown_new GG (grown_set1 w6 g3 2 (.int .i64 (v3 : Int))) hsz) (grown_set1 _ g3 3 (.int .i64 (v4 : Int))) hsz
    clear R5 G6 B2 S4 GG R6
    go_wp2_with fail
    obtain ⟨w8, hw8⟩ : ∃ z, z = (w6.setCell ⟨g3, 2, none⟩ (.int .i64 (v3 : Int))).setCell ⟨g3, 3, none⟩ (.int .i64 (v4 : Int)) := ⟨_, rfl⟩
    rw [← hw8] at S8 R8 B8 G8 ⊢
    clear hw8 f2 f3 q2 q3
    refine (HE.out _ R8).mono ?_
    rintro x w9 ⟨rfl, rfl⟩
    have T8 := B8.there 0 4 (Nat.le_refl _)
    have RG := S8.range 0 (tks (v1 : Int) (v2 : Int) (v3 : Int) (v4 : Int)) rfl
    cases be
    · have FIN := B8.wholeT (ds := tks (v1 : Int) (v2 : Int) (v3 : Int) (v4 : Int)) rfl
      have O8 := tks_one (v1 : Int) (v2 : Int) (v3 : Int) (v4 : Int)
      have R9 := R8.other (grown_sets4 w.heap.size (tks (v1 : Int) (v2 : Int) (v3 : Int) (v4 : Int)) 0 w8) (by omega)
      have G9 := grown_new G8 (grown_sets4 w.heap.size (tks (v1 : Int) (v2 : Int) (v3 : Int) (v4 : Int)) 0 w8) (by omega)
      clear S8 R8 B8 G8
      go_wp2_with (first
        | (refine wpList_load_mid rfl 42 (.tmp 3) rfl g3 0 rfl (tks (v1 : Int) (v2 : Int) (v3 : Int) (v4 : Int)) _ RG hu rfl info_tok ?_)
        | (refine wpList_store_mid rfl 42 (.tmp 2) (.tmp 24) rfl w.heap.size 0 (tks (v1 : Int) (v2 : Int) (v3 : Int) (v4 : Int)).toArray rfl rfl T8 info_tok O8 ?_)
        | fail)
      exact bodyPost_ret (v := .agg (tks (v1 : Int) (v2 : Int) (v3 : Int) (v4 : Int)).toArray) (tok_results (q := 2) rfl _ _ w.heap.size _ _ rfl FIN hu rfl info_tok) rfl ⟨by rw [HTO.out.2.1 trivial], by rw [HTO.out.2.2.1, HTO.out.2.2.2]; exact R9, G9⟩
    · have FIN := B8.wholeT (ds := tks 0 0 0 0) rfl
      have O8 := tks_one 0 0 0 0
      have R9 := R8.other (grown_sets4 w.heap.size (tks 0 0 0 0) 0 w8) (by omega)
      have G9 := grown_new G8 (grown_sets4 w.heap.size (tks 0 0 0 0) 0 w8) (by omega)
      clear S8 R8 B8 G8 RG
      go_wp2_with (first
        | (refine wpList_store_mid rfl 42 (.tmp 2) (.tmp 23) rfl w.heap.size 0 (tks 0 0 0 0).toArray rfl rfl T8 info_tok O8 ?_)
        | fail)
      exact bodyPost_ret (v := .agg (tks 0 0 0 0).toArray) (tok_results (q := 2) rfl _ _ w.heap.size _ _ rfl FIN hu rfl info_tok) rfl ⟨by rw [HTO.out.1 trivial], by rw [HTO.out.2.2.1, HTO.out.2.2.2]; exact R9, G9⟩
  · have hv := HV.out.1 trivial
    refine (HF.out _ R3).mono ?_
    rintro x w4 ⟨rfl, R4, G4⟩
    replace B2 := B2.kept G4 hne
    have S4 := S3'.kept G4 hne3
    replace GG := GG.trans G4
    rw [← hv] at R4
    clear R3 G4 S3' hv
    go_wp2_with fail
    refine (H3.out _ R4).mono ?_
    rintro x w5 ⟨rfl, R5, G5⟩
    replace B2 := B2.kept G5 hne
    replace S4 := S4.kept G5 hne3
    replace GG := GG.trans G5
    clear R4 G5
    go_wp2_with fail
    refine (H4.out _ R5).mono ?_
    rintro x w6 ⟨rfl, R6, G6⟩
    replace B2 := B2.kept G6 hne
    replace S4 := S4.kept G6 hne3
    replace GG := GG.trans G6
    have f2 := S4.frozen 2
    have f3 := S4.frozen 3
    have q2 : w6.cell? ⟨g3, 2, none⟩ = some (.int .i64 0) := S4.cell rfl
    have q3 : w6.cell? ⟨g3, 3, none⟩ = some (.int .i64 0) := S4.cell rfl
    have S8 : Blk ((w6.setCell ⟨g3, 2, none⟩ (.int .i64 (v3 : Int))).setCell ⟨g3, 3, none⟩ (.int .i64 (v4 : Int))) g3 (tks (v1 : Int) (v2 : Int) (v3 : Int) (v4 : Int)) := (S4.set 2 _).set 3 _
    have R8 := (R6.other (grown_set1 w6 g3 2 (.int .i64 (v3 : Int))) (by omega)).other (grown_set1 _ g3 3 (.int .i64 (v4 : Int))) (by omega)
    have B8 := (B2.setOther (b := g3) 2 (.int .i64 (v3 : Int)) (by omega)).setOther (b := g3) 3 (.int .i64 (v4 : Int)) (by omega)
    have G8 := grown_new (grown_new GG (grown_set1 w6 g3 2 (.int .i64 (v3 : Int))) hsz) (grown_set1 _ g3 3 (.int .i64 (v4 : Int))) hsz
    clear R5 G6 B2 S4 GG R6
    go_wp2_with fail
    obtain ⟨w8, hw8⟩ : ∃ z, z = (w6.setCell ⟨g3, 2, none⟩ (.int .i64 (v3 : Int))).setCell ⟨g3, 3, none⟩ (.int .i64 (v4 : Int)) := ⟨_, rfl⟩
    rw [← hw8] at S8 R8 B8 G8 ⊢
    clear hw8 f2 f3 q2 q3
    refine (HE.out _ R8).mono ?_
    rintro x w9 ⟨rfl, rfl⟩
    have T8 := B8.there 0 4 (Nat.le_refl _)
    have RG := S8.range 0 (tks (v1 : Int) (v2 : Int) (v3 : Int) (v4 : Int)) rfl
    cases be
    · have FIN := B8.wholeT (ds := tks (v1 : Int) (v2 : Int) (v3 : Int) (v4 : Int)) rfl
      have O8 := tks_one (v1 : Int) (v2 : Int) (v3 : Int) (v4 : Int)
      have R9 := R8.other (grown_sets4 w.heap.size (tks (v1 : Int) (v2 : Int) (v3 : Int) (v4 : Int)) 0 w8) (by omega)
      have G9 := grown_new G8 (grown_sets4 w.heap.size (tks (v1 : Int) (v2 : Int) (v3 : Int) (v4 : Int)) 0 w8) (by omega)
      clear S8 R8 B8 G8
      go_wp2_with (first
        | (refine wpList_load_mid rfl 42 (.tmp 3) rfl g3 0 rfl (tks (v1 : Int) (v2 : Int) (v3 : Int) (v4 : Int)) _ RG hu rfl info_tok ?_)
        | (refine wpList_store_mid rfl 42 (.tmp 2) (.tmp 24) rfl w.heap.size 0 (tks (v1 : Int) (v2 : Int) (v3 : Int) (v4 : Int)).toArray rfl rfl T8 info_tok O8 ?_)
        | fail)
      exact bodyPost_ret (v := .agg (tks (v1 : Int) (v2 : Int) (v3 : Int) (v4 : Int)).toArray) (tok_results (q := 2) rfl _ _ w.heap.size _ _ rfl FIN hu rfl info_tok) rfl ⟨by rw [HTO.out.2.1 trivial], by rw [HTO.out.2.2.1, HTO.out.2.2.2]; exact R9, G9⟩
    · have FIN := B8.wholeT (ds := tks 0 0 0 0) rfl
      have O8 := tks_one 0 0 0 0
      have R9 := R8.other (grown_sets4 w.heap.size (tks 0 0 0 0) 0 w8) (by omega)
      have G9 := grown_new G8 (grown_sets4 w.heap.size (tks 0 0 0 0) 0 w8) (by omega)
      clear S8 R8 B8 G8 RG
      go_wp2_with (first
        | (refine wpList_store_mid rfl 42 (.tmp 2) (.tmp 23) rfl w.heap.size 0 (tks 0 0 0 0).toArray rfl rfl T8 info_tok O8 ?_)
        | fail)
      exact bodyPost_ret (v := .agg (tks 0 0 0 0).toArray) (tok_results (q := 2) rfl _ _ w.heap.size _ _ rfl FIN hu rfl info_tok) rfl ⟨by rw [HTO.out.1 trivial], by rw [HTO.out.2.2.1, HTO.out.2.2.2]; exact R9, G9⟩
end Go.Proofs.YticdpfjajkfheaaDoor

/- A token as it is read of bytes: the document's. -/
namespace Go.Proofs.YticdpfjajkfheaaDoor
set_option linter.unusedVariables false
open Go Go.RowKit OctM

theorem Rr.off {w w' : World} {base g m : Nat} {l : List UInt8} {e : Int} (h : Rr w base g l e) (hg : w.grownBy w' (some m)) (hm : m ≠ g) : Rr w' base g l e :=
  Own.kept h hg (.inr (by simp [Value.ownBlock]; omega))
theorem rr_numd (base g : Nat) (l : List UInt8) (a : Nat) (e y : Int) (w : World) (h : Rr w base g (l.drop a) e) (hm : l.length ≤ 2000) :
    Calls Tryd.prog 52 #[.pointer (some ⟨g, 0, none⟩), .int .i64 y] w fun x w' => x = .returned (.int .i64 ((numOut l a e y).1 : Nat)) ∧ Rr w' base g (l.drop (numOut l a e y).2.1) (numOut l a e y).2.2 ∧ w.grownBy w' (some g) :=
  (rr_num base g (l.drop a) e y w h (by simp; omega)).mono fun x w' h => by
    rw [same_num] at h
    exact h

set_option maxRecDepth 100000 in
set_option maxHeartbeats 3200000 in
theorem rr_above (base g : Nat) (l : List UInt8) (a : Nat) (e y : Int) (w : World) (h : Rr w base g (l.drop a) e) (hm : l.length ≤ 2000) :
    Calls Tryd.prog 53 #[.pointer (some ⟨g, 0, none⟩), .int .i64 y] w fun x w' => x = .returned (.int .i64 ((numOut l a e y).1 : Nat)) ∧ Rr w' base g (l.drop (numOut l a e y).2.1) (if (numOut l a e y).1 = 0 then failOut (numOut l a e y).2.2 3 else (numOut l a e y).2.2) ∧ w.grownBy w' (some g) := by
  have H1 := Lib.hid (rr_numd base g l a e y w h hm)
  obtain ⟨r1, hr1⟩ : ∃ r, r = numOut l a e y := ⟨_, rfl⟩
  rw [← hr1] at H1 ⊢
  clear hr1 h hm
  obtain ⟨v1, a1, e1⟩ := r1
  simp only at H1 ⊢
  have HF : Hid (∀ wx, Rr wx base g (l.drop a1) e1 → Calls Tryd.prog 73 #[.pointer (some ⟨g, 0, none⟩), .int .i64 3] wx fun x w' => x = .returned (.tuple #[]) ∧ Rr w' base g (l.drop a1) (failOut e1 3) ∧ wx.grownBy w' (some g)) := Lib.hid fun wx hx => rr_fail base g (l.drop a1) e1 3 wx hx
  obtain ⟨E, hE⟩ : ∃ z, z = (if v1 = 0 then failOut e1 3 else e1) := ⟨_, rfl⟩
  rw [← hE]
  obtain ⟨bz, hbz⟩ : ∃ b, b = (((v1 : Nat) : Int) == 0) := ⟨_, rfl⟩
  obtain ⟨be, hbe⟩ : ∃ b, b = (e1 == 0) := ⟨_, rfl⟩
  have ke : (e1 == 0) = be := hbe.symm
  have kz : (((v1 : Nat) : Int) == 0) = bz := hbz.symm
  cases be
  · have HE : Hid (E = e1) := Lib.hid (by rw [hE]; have : e1 ≠ 0 := by simpa using hbe.symm
                                          unfold failOut; rw [if_neg this]; split <;> rfl)
    clear hE hbz hbe kz
    go_enter Tryd.func53, Tryd.ntmps53
    go_wp2_with fail
    refine H1.out.mono ?_
    rintro x w1 ⟨rfl, R1, G1⟩
    obtain ⟨q0, q1, f0, f1⟩ := R1.facts
    go_wp2_with fail
    go_ret
    exact ⟨rfl, by rw [HE.out]; exact R1, G1⟩
  · cases bz
    · have HE : Hid (E = e1) := Lib.hid (by rw [hE]; exact if_neg (by simpa using hbz))
      clear hE hbz hbe
      go_enter Tryd.func53, Tryd.ntmps53
      go_wp2_with fail
      refine H1.out.mono ?_
      rintro x w1 ⟨rfl, R1, G1⟩
      obtain ⟨q0, q1, f0, f1⟩ := R1.facts
      go_wp2_with fail
      go_ret
      exact ⟨rfl, by rw [HE.out]; exact R1, G1⟩
    · have HE : Hid (E = failOut e1 3) := Lib.hid (by rw [hE]; exact if_pos (by simpa using hbz))
      clear hE hbz hbe
      go_enter Tryd.func53, Tryd.ntmps53
      go_wp2_with fail
      refine H1.out.mono ?_
      rintro x w1 ⟨rfl, R1, G1⟩
      obtain ⟨q0, q1, f0, f1⟩ := R1.facts
      go_wp2_with fail
      refine (HF.out _ R1).mono ?_
      rintro x w2 ⟨rfl, R2, G2⟩
      clear q0 q1 f0 f1
      go_wp2_with fail
      go_ret
      exact ⟨rfl, by rw [HE.out]; exact R2, G1.trans G2⟩

set_option maxRecDepth 100000 in
set_option maxHeartbeats 3200000 in
theorem rr_tok (base g : Nat) (l : List UInt8) (a : Nat) (e : Int) (w : World) (h : Rr w base g (l.drop a) e) (hm : l.length ≤ 2000) :
    Calls Tryd.prog 29 #[.pointer (some ⟨g, 0, none⟩)] w fun x w' => x = .returned (.agg (tk4 (tokOut l a e).1).toArray) ∧ Rr w' base g (l.drop (tokOut l a e).2.1) (tokOut l a e).2.2 ∧ w.grownBy w' (some g) := by
  have hg := h.block.2
  obtain ⟨T, hT⟩ : ∃ T, T = tokOut l a e := ⟨_, rfl⟩
  rw [← hT]
  unfold tokOut at hT
  have H1 : Hid (∀ wx, Rr wx base g (l.drop a) e → Calls Tryd.prog 52 #[.pointer (some ⟨g, 0, none⟩), .int .i64 5] wx fun x w' => x = .returned (.int .i64 ((numOut l a e 5).1 : Nat)) ∧ Rr w' base g (l.drop (numOut l a e 5).2.1) (numOut l a e 5).2.2 ∧ wx.grownBy w' (some g)) := Lib.hid fun wx hx => rr_numd base g l a e 5 wx hx hm
  obtain ⟨r1, hr1⟩ : ∃ r, r = numOut l a e 5 := ⟨_, rfl⟩
  rw [← hr1] at H1 hT
  obtain ⟨v1, a1, e1⟩ := r1
  simp only at H1 hT
  have H2 : Hid (∀ wx, Rr wx base g (l.drop a1) e1 → Calls Tryd.prog 53 #[.pointer (some ⟨g, 0, none⟩), .int .i64 1099511627776] wx fun x w' => x = .returned (.int .i64 ((numOut l a1 e1 1099511627776).1 : Nat)) ∧ Rr w' base g (l.drop (numOut l a1 e1 1099511627776).2.1) (if (numOut l a1 e1 1099511627776).1 = 0 then failOut (numOut l a1 e1 1099511627776).2.2 3 else (numOut l a1 e1 1099511627776).2.2) ∧ wx.grownBy w' (some g)) := Lib.hid fun wx hx => rr_above base g l a1 e1 1099511627776 wx hx hm
  obtain ⟨r2, hr2⟩ : ∃ r, r = numOut l a1 e1 1099511627776 := ⟨_, rfl⟩
  rw [← hr2] at H2 hT
  obtain ⟨v2, a2, e2⟩ := r2
  simp only at H2 hT
  obtain ⟨e5, he5⟩ : ∃ z, z = (if v2 = 0 then failOut e2 3 else e2) := ⟨_, rfl⟩
  rw [← he5] at hT H2
  have H3 : Hid (∀ wx, Rr wx base g (l.drop a2) e5 → Calls Tryd.prog 52 #[.pointer (some ⟨g, 0, none⟩), .int .i64 1099511627776] wx fun x w' => x = .returned (.int .i64 ((numOut l a2 e5 1099511627776).1 : Nat)) ∧ Rr w' base g (l.drop (numOut l a2 e5 1099511627776).2.1) (numOut l a2 e5 1099511627776).2.2 ∧ wx.grownBy w' (some g)) := Lib.hid fun wx hx => rr_numd base g l a2 e5 1099511627776 wx hx hm
  obtain ⟨r3, hr3⟩ : ∃ r, r = numOut l a2 e5 1099511627776 := ⟨_, rfl⟩
  rw [← hr3] at H3 hT
  obtain ⟨v3, a3, e3⟩ := r3
  simp only at H3 hT
  have H4 : Hid (∀ wx, Rr wx base g (l.drop a3) e3 → Calls Tryd.prog 52 #[.pointer (some ⟨g, 0, none⟩), .int .i64 1073741824] wx fun x w' => x = .returned (.int .i64 ((numOut l a3 e3 1073741824).1 : Nat)) ∧ Rr w' base g (l.drop (numOut l a3 e3 1073741824).2.1) (numOut l a3 e3 1073741824).2.2 ∧ wx.grownBy w' (some g)) := Lib.hid fun wx hx => rr_numd base g l a3 e3 1073741824 wx hx hm
  obtain ⟨r4, hr4⟩ : ∃ r, r = numOut l a3 e3 1073741824 := ⟨_, rfl⟩
  rw [← hr4] at H4 hT
  obtain ⟨v4, a4, e4⟩ := r4
  simp only at H4 hT
  have HT := Lib.hid hT
  clear hr1 hr2 hr3 hr4 hT he5 hm
  have B2 := Blk.new w (tks 0 0 0 0) 42
  have R0 := h.later ((Below.refl w.heap.size w).alloc (Nat.le_refl _) (.cells (tks 0 0 0 0).toArray 42))
  have G0 := World.grownBy_alloc w (.cells (tks 0 0 0 0).toArray 42) (some g)
  have hu := Tryd.underlying42
  clear h
  have hne : (some g : Option Nat) ≠ some w.heap.size := by simp; omega
  obtain ⟨be, hbe⟩ : ∃ b, b = (e4 != 0) := ⟨_, rfl⟩
  have ke : (e4 != 0) = be := hbe.symm
  have HTO : Hid ((be = true → tk4 T.1 = (tks 0 0 0 0)) ∧ (be = false → tk4 T.1 = (tks (v1 : Int) (v2 : Int) (v3 : Int) (v4 : Int))) ∧ T.2.1 = a4 ∧ T.2.2 = e4) := Lib.hid ⟨fun h => by rw [HT.out, if_neg (by rw [h] at hbe; simpa using hbe.symm)]; rfl, fun h => by rw [HT.out, if_pos (by rw [h] at hbe; simpa using hbe.symm)]; rfl, by rw [HT.out], by rw [HT.out]⟩
  clear hbe HT
  go_enter Tryd.func29, Tryd.ntmps29
  go_wp2_with fail
  refine (H1.out _ R0).mono ?_
  rintro x w2 ⟨rfl, R2, G2⟩
  replace B2 := B2.kept G2 hne
  have GG := G0.trans G2
  have B3 := Blk.new w2 (tks 0 0 0 0) 42
  have T3 := B3.there 0 4 (Nat.le_refl _)
  have S3 := B3.wholeT (ds := tks (v1 : Int) 0 0 0) rfl
  have LE3 : Le w2 (World.setCells (w2.alloc (.cells (tks 0 0 0 0).toArray 42)) w2.heap.size 0 (tks (v1 : Int) 0 0 0)) := below_sets (Nat.le_refl _) _ 0 ((Below.refl w2.heap.size w2).alloc (Nat.le_refl _) _)
  have O3 := tks_one (v1 : Int) 0 0 0
  have hsz := GG.size
  clear B3 G0 G2 R0
  obtain ⟨g3, hg3⟩ : ∃ z, z = w2.heap.size := ⟨_, rfl⟩
  have hb2 := B2.lt
  rw [← hg3] at T3 S3 LE3 hsz hb2
  have HG3 := Lib.hid hg3
  clear hg3
  go_wp2_with (first
    | (rw [← HG3.out]
       refine wpList_store_mid rfl 42 (.tmp 3) (.tmp 6) rfl g3 0 (tks (v1 : Int) 0 0 0).toArray rfl rfl T3 info_tok O3 ?_
       simp only [Act.put]
       generalize hw3 : World.setCells _ g3 0 (tks (v1 : Int) 0 0 0).toArray.toList = w3
       have S4 : Blk w3 g3 (tks (v1 : Int) 0 0 0) := hw3 ▸ S3
       have LE3' : Le w2 w3 := hw3 ▸ LE3
       clear hw3 T3 S3 LE3 O3)
    | fail)
  have hne3 : (some g : Option Nat) ≠ some g3 := by simp; omega
  have R3 := R2.later LE3'
  replace B2 := B2.later LE3'
  replace GG := GG.trans (grown_none LE3' _)
  clear R2 LE3'
  refine (H2.out _ R3).mono ?_
  rintro x wA2 ⟨rfl, R4, G4⟩
  replace B2 := B2.kept G4 hne
  replace S4 := S4.kept G4 hne3
  replace GG := GG.trans G4
  clear R3 G4
  have f1 := S4.frozen 1
  have q1 : wA2.cell? ⟨g3, 1, none⟩ = some (.int .i64 0) := S4.cell rfl
  have G8 := grown_set1 wA2 g3 1 (.int .i64 (v2 : Int))
  obtain ⟨wB2, hwB2⟩ : ∃ z, z = wA2.setCell ⟨g3, 1, none⟩ (.int .i64 (v2 : Int)) := ⟨_, rfl⟩
  replace S4 := S4.set 1 (.int .i64 (v2 : Int))
  replace B2 := B2.setOther (b := g3) 1 (.int .i64 (v2 : Int)) (by omega)
  rw [← hwB2] at G8 S4 B2
  replace R4 := R4.off G8 (by omega)
  replace GG := grown_new GG G8 hsz
  have HN := Lib.hid hwB2
  clear hwB2 G8
  go_wp2_with fail
  rw [← HN.out]
  clear HN f1 q1
  have P3 := R4
  clear R4
  refine (H3.out _ P3).mono ?_
  rintro x wA3 ⟨rfl, R4, G4⟩
  replace B2 := B2.kept G4 hne
  replace S4 := S4.kept G4 hne3
  replace GG := GG.trans G4
  clear P3 G4
  have f2 := S4.frozen 2
  have q2 : wA3.cell? ⟨g3, 2, none⟩ = some (.int .i64 0) := S4.cell rfl
  have G8 := grown_set1 wA3 g3 2 (.int .i64 (v3 : Int))
  obtain ⟨wB3, hwB3⟩ : ∃ z, z = wA3.setCell ⟨g3, 2, none⟩ (.int .i64 (v3 : Int)) := ⟨_, rfl⟩
  replace S4 := S4.set 2 (.int .i64 (v3 : Int))
  replace B2 := B2.setOther (b := g3) 2 (.int .i64 (v3 : Int)) (by omega)
  rw [← hwB3] at G8 S4 B2
  replace R4 := R4.off G8 (by omega)
  replace GG := grown_new GG G8 hsz
  have HN := Lib.hid hwB3
  clear hwB3 G8
  go_wp2_with fail
  rw [← HN.out]
  clear HN f2 q2
  have P4 := R4
  clear R4
  refine (H4.out _ P4).mono ?_
  rintro x wA ⟨rfl, R4, G4⟩
  replace B2 := B2.kept G4 hne
  replace S4 := S4.kept G4 hne3
  replace GG := GG.trans G4
  clear P4 G4
  have f3 := S4.frozen 3
  have q3 : wA.cell? ⟨g3, 3, none⟩ = some (.int .i64 0) := S4.cell rfl
  have G8 := grown_set1 wA g3 3 (.int .i64 (v4 : Int))
  have S8 : Blk (wA.setCell ⟨g3, 3, none⟩ (.int .i64 (v4 : Int))) g3 (tks (v1 : Int) (v2 : Int) (v3 : Int) (v4 : Int)) := S4.set 3 (.int .i64 (v4 : Int))
  have B8 := B2.setOther (b := g3) 3 (.int .i64 (v4 : Int)) (by omega)
  have R8 := R4.off G8 (by omega)
  have GG8 := grown_new GG G8 hsz
  have T8 := B8.there 0 4 (Nat.le_refl _)
  have RG := S8.range 0 (tks (v1 : Int) (v2 : Int) (v3 : Int) (v4 : Int)) rfl
  obtain ⟨p0, p1, p2, p3⟩ := R8.facts
  clear S4 B2 R4 GG G8 S8
  cases be
  · have FIN := B8.wholeT (ds := (tks (v1 : Int) (v2 : Int) (v3 : Int) (v4 : Int))) rfl
    have O8 := tks_one (v1 : Int) (v2 : Int) (v3 : Int) (v4 : Int)
    have R9 := R8.off (grown_sets4 w.heap.size (tks (v1 : Int) (v2 : Int) (v3 : Int) (v4 : Int)) 0 _) (by omega)
    have G9 := grown_new GG8 (grown_sets4 w.heap.size (tks (v1 : Int) (v2 : Int) (v3 : Int) (v4 : Int)) 0 _) (Nat.le_refl _)
    clear B8 R8 GG8
    go_wp2_with (first
      | (refine wpList_load_mid rfl 42 (.tmp 3) rfl g3 0 rfl (tks (v1 : Int) (v2 : Int) (v3 : Int) (v4 : Int)) _ RG hu rfl info_tok ?_)
      | (refine wpList_store_mid rfl 42 (.tmp 2) (.tmp 22) rfl w.heap.size 0 (tks (v1 : Int) (v2 : Int) (v3 : Int) (v4 : Int)).toArray rfl rfl T8 info_tok O8 ?_)
      | fail)
    exact bodyPost_ret (v := .agg (tks (v1 : Int) (v2 : Int) (v3 : Int) (v4 : Int)).toArray) (tok_results (q := 2) rfl _ _ w.heap.size _ _ rfl FIN hu rfl info_tok) rfl ⟨by rw [HTO.out.2.1 trivial], by rw [HTO.out.2.2.1, HTO.out.2.2.2]; exact R9, G9⟩
  · have FIN := B8.wholeT (ds := (tks 0 0 0 0)) rfl
    have O8 := tks_one 0 0 0 0
    have R9 := R8.off (grown_sets4 w.heap.size (tks 0 0 0 0) 0 _) (by omega)
    have G9 := grown_new GG8 (grown_sets4 w.heap.size (tks 0 0 0 0) 0 _) (Nat.le_refl _)
    clear B8 R8 GG8
    go_wp2_with (first
      | (refine wpList_store_mid rfl 42 (.tmp 2) (.tmp 21) rfl w.heap.size 0 (tks 0 0 0 0).toArray rfl rfl T8 info_tok O8 ?_)
      | fail)
    exact bodyPost_ret (v := .agg (tks 0 0 0 0).toArray) (tok_results (q := 2) rfl _ _ w.heap.size _ _ rfl FIN hu rfl info_tok) rfl ⟨by rw [HTO.out.1 trivial], by rw [HTO.out.2.2.1, HTO.out.2.2.2]; exact R9, G9⟩
end Go.Proofs.YticdpfjajkfheaaDoor

/- Contracts of Go's library at this program: strings.Join, strings.Split and the like, laid by the shelf's own tools. No condition beside what each says. -/
namespace Go.Proofs.YticdpfjajkfheaaDoor
open Go Go.Shelf

def Tryd.lays156_ren : Go.Shelf.Ren := ⟨fun | 156 => 48 | 165 => 67 | 166 => 68 | 169 => 69 | 240 => 83 | 241 => 84 | 276 => 95 | 277 => 96 | n => n, fun | 31 => 73 | 9 => 9 | 3 => 3 | 4 => 4 | 0 => 0 | 20 => 20 | 72 => 97 | 76 => 101 | 70 => 95 | 37 => 48 | 75 => 100 | 127 => 111 | 164 => 118 | 5 => 5 | 80 => 103 | n => n, fun | n => n⟩
theorem Tryd.lays156 : Go.Proofs.Lays.n156 Tryd.prog Tryd.lays156_ren := {
  mixed := by kernel_rfl
  f156 := Tryd.func48.trans (congrArg some (by kernel_rfl))
  f165 := Tryd.func67.trans (congrArg some (by kernel_rfl))
  f166 := Tryd.func68.trans (congrArg some (by kernel_rfl))
  f169 := Tryd.func69.trans (congrArg some (by kernel_rfl))
  f240 := Tryd.func83.trans (congrArg some (by kernel_rfl))
  f241 := Tryd.func84.trans (congrArg some (by kernel_rfl))
  f276 := Tryd.func95.trans (congrArg some (by kernel_rfl))
  f277 := Tryd.func96.trans (congrArg some (by kernel_rfl))
  t0 := Tryd.underlying0
  a0 := Tryd.isAgg0
  z0 := Tryd.sizeOf0
  v0 := Tryd.zeroValue0
  t3 := Tryd.underlying3
  a3 := Tryd.isAgg3
  z3 := Tryd.sizeOf3
  v3 := Tryd.zeroValue3
  t4 := Tryd.underlying4
  a4 := Tryd.isAgg4
  z4 := Tryd.sizeOf4
  v4 := Tryd.zeroValue4
  t9 := Tryd.underlying9
  a9 := Tryd.isAgg9
  z9 := Tryd.sizeOf9
  v9 := Tryd.zeroValue9
  t20 := Tryd.underlying20
  a20 := Tryd.isAgg20
  z20 := Tryd.sizeOf20
  v20 := Tryd.zeroValue20
  t31 := Tryd.underlying73
  a31 := Tryd.isAgg73
  z31 := Tryd.sizeOf73
  v31 := Tryd.zeroValue73
  t37 := Tryd.underlying48
  a37 := Tryd.isAgg48
  z37 := Tryd.sizeOf48
  v37 := Tryd.zeroValue48
  t70 := Tryd.underlying95
  a70 := Tryd.isAgg95
  z70 := Tryd.sizeOf95
  v70 := Tryd.zeroValue95
  t72 := Tryd.underlying97
  a72 := Tryd.isAgg97
  z72 := Tryd.sizeOf97
  v72 := Tryd.zeroValue97
  t75 := Tryd.underlying100
  a75 := Tryd.isAgg100
  z75 := Tryd.sizeOf100
  v75 := Tryd.zeroValue100
  t76 := Tryd.underlying101
  a76 := Tryd.isAgg101
  z76 := Tryd.sizeOf101
  v76 := Tryd.zeroValue101
  t127 := Tryd.underlying111
  a127 := Tryd.isAgg111
  z127 := Tryd.sizeOf111
  v127 := Tryd.zeroValue111
  t164 := Tryd.underlying118
  a164 := Tryd.isAgg118
  z164 := Tryd.sizeOf118
  v164 := Tryd.zeroValue118 }
theorem Tryd.Builder_Extra_156 : Builder.Extra Tryd.prog Tryd.lays156_ren := {
  sizeBuilder := by kernel_rfl
  liesBuilder := by kernel_rfl
  t5 := Tryd.underlying5
  a5 := Tryd.isAgg5
  z5 := Tryd.sizeOf5
  v5 := Tryd.zeroValue5
  infoByte := by kernel_rfl
  cellsByte := by kernel_rfl
  sizeByte := by kernel_rfl
  neB5 := by decide }
open Go.RowKit in
theorem Tryd.strings_Join_none (a : Option Addr) (c : Nat) (sep : ByteArray) (w : World) :
    Calls Tryd.prog 48 #[.slice a 0 c, .string sep] w fun e w' => e = .returned (.string ⟨#[]⟩) ∧ w' = w := Any.strings_Join_none Tryd.lays156 Tryd.Builder_Extra_156 a c sep w
open Go.RowKit in
theorem Tryd.strings_Join (bk o c : Nat) (xs : List ByteArray) (sep : ByteArray) (w : World) (hcells : ∀ (j : Nat) x, xs[j]? = some x → w.cell? ⟨bk, o + j, none⟩ = some (.string x)) (hbk : bk < w.heap.size) (hN : xs.length ≤ 140737488355328) (hcap : xs.length ≤ c) (hlen : (Lib.join (xs.map (·.data.toList)) sep.data.toList).length ≤ 140737488355328) :
    Calls Tryd.prog 48 #[.slice (some ⟨bk, o, none⟩) xs.length c, .string sep] w fun e w' => e = .returned (.string ⟨(Lib.join (xs.map (·.data.toList)) sep.data.toList).toArray⟩) ∧ Below w.heap.size w w' := Any.strings_Join Tryd.lays156 Tryd.Builder_Extra_156 bk o c xs sep w hcells hbk hN hcap hlen
def Tryd.laysM171_ren : Go.Shelf.Ren := ⟨fun | 171 => 66 | 243 => 82 | 246 => 94 | 283 => 101 | 284 => 102 | 285 => 103 | 286 => 104 | 129 => 107 | 317 => 106 | 318 => 108 | 319 => 109 | 320 => 110 | 337 => 111 | 338 => 112 | n => n, fun | 3 => 3 | 9 => 9 | 2 => 2 | 4 => 4 | 171 => 121 | 0 => 0 | 53 => 122 | 37 => 48 | 5 => 5 | 173 => 125 | 212 => 135 | 51 => 131 | 20 => 20 | 213 => 136 | 46 => 110 | 232 => 140 | 233 => 141 | n => n, fun | 17 => 3 | 18 => 4 | 19 => 5 | n => n⟩
theorem Tryd.laysM171 : Go.Proofs.LaysM.n171 Tryd.prog Tryd.laysM171_ren := {
  mixed := by kernel_rfl
  f129 := Tryd.func107.trans (congrArg some (by kernel_rfl))
  f171 := Tryd.func66.trans (congrArg some (by kernel_rfl))
  f243 := Tryd.func82.trans (congrArg some (by kernel_rfl))
  f246 := Tryd.func94.trans (congrArg some (by kernel_rfl))
  f283 := Tryd.func101.trans (congrArg some (by kernel_rfl))
  f284 := Tryd.func102.trans (congrArg some (by kernel_rfl))
  f285 := Tryd.func103.trans (congrArg some (by kernel_rfl))
  f286 := Tryd.func104.trans (congrArg some (by kernel_rfl))
  f317 := Tryd.func106.trans (congrArg some (by kernel_rfl))
  f318 := Tryd.func108.trans (congrArg some (by kernel_rfl))
  f319 := Tryd.func109.trans (congrArg some (by kernel_rfl))
  f320 := Tryd.func110.trans (congrArg some (by kernel_rfl))
  f337 := Tryd.func111.trans (congrArg some (by kernel_rfl))
  f338 := Tryd.func112.trans (congrArg some (by kernel_rfl))
  t0 := Tryd.underlying0
  a0 := Tryd.isAgg0
  z0 := Tryd.sizeOf0
  v0 := Tryd.zeroValue0
  t2 := Tryd.underlying2
  a2 := Tryd.isAgg2
  z2 := Tryd.sizeOf2
  v2 := Tryd.zeroValue2
  t3 := Tryd.underlying3
  a3 := Tryd.isAgg3
  z3 := Tryd.sizeOf3
  v3 := Tryd.zeroValue3
  t4 := Tryd.underlying4
  a4 := Tryd.isAgg4
  z4 := Tryd.sizeOf4
  v4 := Tryd.zeroValue4
  t5 := Tryd.underlying5
  a5 := Tryd.isAgg5
  z5 := Tryd.sizeOf5
  v5 := Tryd.zeroValue5
  t9 := Tryd.underlying9
  a9 := Tryd.isAgg9
  z9 := Tryd.sizeOf9
  v9 := Tryd.zeroValue9
  t20 := Tryd.underlying20
  a20 := Tryd.isAgg20
  z20 := Tryd.sizeOf20
  v20 := Tryd.zeroValue20
  t37 := Tryd.underlying48
  a37 := Tryd.isAgg48
  z37 := Tryd.sizeOf48
  v37 := Tryd.zeroValue48
  t46 := Tryd.underlying110
  a46 := Tryd.isAgg110
  z46 := Tryd.sizeOf110
  v46 := Tryd.zeroValue110
  t51 := Tryd.underlying131
  a51 := Tryd.isAgg131
  z51 := Tryd.sizeOf131
  v51 := Tryd.zeroValue131
  t53 := Tryd.underlying122
  a53 := Tryd.isAgg122
  z53 := Tryd.sizeOf122
  v53 := Tryd.zeroValue122
  t171 := Tryd.underlying121
  a171 := Tryd.isAgg121
  z171 := Tryd.sizeOf121
  v171 := Tryd.zeroValue121
  t173 := Tryd.underlying125
  a173 := Tryd.isAgg125
  z173 := Tryd.sizeOf125
  v173 := Tryd.zeroValue125
  t212 := Tryd.underlying135
  a212 := Tryd.isAgg135
  z212 := Tryd.sizeOf135
  v212 := Tryd.zeroValue135
  t213 := Tryd.underlying136
  a213 := Tryd.isAgg136
  z213 := Tryd.sizeOf136
  t232 := Tryd.underlying140
  a232 := Tryd.isAgg140
  z232 := Tryd.sizeOf140
  v232 := Tryd.zeroValue140
  t233 := Tryd.underlying141
  a233 := Tryd.isAgg141
  z233 := Tryd.sizeOf141
  v233 := Tryd.zeroValue141
  g17 := by kernel_rfl
  g18 := by kernel_rfl
  g19 := by kernel_rfl
  i0 := by kernel_rfl
  i2 := by kernel_rfl
  i3 := by kernel_rfl
  i4 := by kernel_rfl
  i5 := by kernel_rfl
  i9 := by kernel_rfl
  i20 := by kernel_rfl
  i37 := by kernel_rfl
  i46 := by kernel_rfl
  i51 := by kernel_rfl
  i53 := by kernel_rfl
  i171 := by kernel_rfl
  i173 := by kernel_rfl
  i212 := by kernel_rfl
  i232 := by kernel_rfl
  i233 := by kernel_rfl
  m17 := by kernel_rfl
  m18 := by kernel_rfl
  m19 := by kernel_rfl }
open Go.RowKit Go.Sort Go.Lib in
theorem Tryd.strconv_Itoa (n : Int) (h0 : -9223372036854775808 ≤ n) (h1 : n ≤ 9223372036854775807) (w : World) (htab : Lib.TabIs Tryd.prog w "internal/strconv.uint64pow10" .u64 Lib.pow10Tab) :
    Calls Tryd.prog 66 #[.int .i64 n] w fun e w' => e = .returned (.string ⟨(Lib.itoa n).toArray⟩) ∧ ∃ k os, w' = grow (w.drewN k) os := Any.strconv_Itoa Tryd.laysM171 n h0 h1 w htab
def Tryd.lays171_ren : Go.Shelf.Ren := ⟨fun | 171 => 66 | 243 => 82 | 246 => 94 | 283 => 101 | 284 => 102 | 285 => 103 | 286 => 104 | 129 => 107 | 317 => 106 | 318 => 108 | 319 => 109 | 320 => 110 | 337 => 111 | 338 => 112 | n => n, fun | 3 => 3 | 9 => 9 | 2 => 2 | 4 => 4 | 171 => 121 | 0 => 0 | 53 => 122 | 37 => 48 | 5 => 5 | 173 => 125 | 212 => 135 | 51 => 131 | 20 => 20 | 213 => 136 | 46 => 110 | 232 => 140 | 233 => 141 | n => n, fun | 17 => 3 | 18 => 4 | 19 => 5 | n => n⟩
theorem Tryd.lays171 : Go.Proofs.Lays.n171 Tryd.prog Tryd.lays171_ren := {
  mixed := by kernel_rfl
  f129 := Tryd.func107.trans (congrArg some (by kernel_rfl))
  f171 := Tryd.func66.trans (congrArg some (by kernel_rfl))
  f243 := Tryd.func82.trans (congrArg some (by kernel_rfl))
  f246 := Tryd.func94.trans (congrArg some (by kernel_rfl))
  f283 := Tryd.func101.trans (congrArg some (by kernel_rfl))
  f284 := Tryd.func102.trans (congrArg some (by kernel_rfl))
  f285 := Tryd.func103.trans (congrArg some (by kernel_rfl))
  f286 := Tryd.func104.trans (congrArg some (by kernel_rfl))
  f317 := Tryd.func106.trans (congrArg some (by kernel_rfl))
  f318 := Tryd.func108.trans (congrArg some (by kernel_rfl))
  f319 := Tryd.func109.trans (congrArg some (by kernel_rfl))
  f320 := Tryd.func110.trans (congrArg some (by kernel_rfl))
  f337 := Tryd.func111.trans (congrArg some (by kernel_rfl))
  f338 := Tryd.func112.trans (congrArg some (by kernel_rfl))
  t0 := Tryd.underlying0
  a0 := Tryd.isAgg0
  z0 := Tryd.sizeOf0
  v0 := Tryd.zeroValue0
  t2 := Tryd.underlying2
  a2 := Tryd.isAgg2
  z2 := Tryd.sizeOf2
  v2 := Tryd.zeroValue2
  t3 := Tryd.underlying3
  a3 := Tryd.isAgg3
  z3 := Tryd.sizeOf3
  v3 := Tryd.zeroValue3
  t4 := Tryd.underlying4
  a4 := Tryd.isAgg4
  z4 := Tryd.sizeOf4
  v4 := Tryd.zeroValue4
  t5 := Tryd.underlying5
  a5 := Tryd.isAgg5
  z5 := Tryd.sizeOf5
  v5 := Tryd.zeroValue5
  t9 := Tryd.underlying9
  a9 := Tryd.isAgg9
  z9 := Tryd.sizeOf9
  v9 := Tryd.zeroValue9
  t20 := Tryd.underlying20
  a20 := Tryd.isAgg20
  z20 := Tryd.sizeOf20
  v20 := Tryd.zeroValue20
  t37 := Tryd.underlying48
  a37 := Tryd.isAgg48
  z37 := Tryd.sizeOf48
  v37 := Tryd.zeroValue48
  t46 := Tryd.underlying110
  a46 := Tryd.isAgg110
  z46 := Tryd.sizeOf110
  v46 := Tryd.zeroValue110
  t51 := Tryd.underlying131
  a51 := Tryd.isAgg131
  z51 := Tryd.sizeOf131
  v51 := Tryd.zeroValue131
  t53 := Tryd.underlying122
  a53 := Tryd.isAgg122
  z53 := Tryd.sizeOf122
  v53 := Tryd.zeroValue122
  t171 := Tryd.underlying121
  a171 := Tryd.isAgg121
  z171 := Tryd.sizeOf121
  v171 := Tryd.zeroValue121
  t173 := Tryd.underlying125
  a173 := Tryd.isAgg125
  z173 := Tryd.sizeOf125
  v173 := Tryd.zeroValue125
  t212 := Tryd.underlying135
  a212 := Tryd.isAgg135
  z212 := Tryd.sizeOf135
  v212 := Tryd.zeroValue135
  t213 := Tryd.underlying136
  a213 := Tryd.isAgg136
  z213 := Tryd.sizeOf136
  t232 := Tryd.underlying140
  a232 := Tryd.isAgg140
  z232 := Tryd.sizeOf140
  v232 := Tryd.zeroValue140
  t233 := Tryd.underlying141
  a233 := Tryd.isAgg141
  z233 := Tryd.sizeOf141
  v233 := Tryd.zeroValue141
  g17 := by kernel_rfl
  g18 := by kernel_rfl
  g19 := by kernel_rfl }
open Go.RowKit Go.Sort Go.Lib in
theorem Tryd.strconv_Itoa_small (i : Nat) (hi : i < 100) (w : World) :
    Calls Tryd.prog 66 #[.int .i64 i] w fun e w' => e = .returned (.string ⟨(Lib.decDigits i).toArray⟩) ∧ w' = w := Any.strconv_Itoa_small Tryd.lays171 i hi w
def Tryd.lays143_ren : Go.Shelf.Ren := ⟨fun | 143 => 81 | 219 => 93 | 217 => 76 | 225 => 98 | 224 => 99 | 267 => 100 | 266 => 87 | 314 => 105 | n => n, fun | 9 => 9 | 3 => 3 | 4 => 4 | 5 => 5 | 46 => 110 | 146 => 132 | 51 => 131 | n => n, fun | 1 => 0 | n => n⟩
theorem Tryd.lays143 : Go.Proofs.Lays.n143 Tryd.prog Tryd.lays143_ren := {
  mixed := by kernel_rfl
  f143 := Tryd.func81.trans (congrArg some (by kernel_rfl))
  f217 := Tryd.func76.trans (congrArg some (by kernel_rfl))
  f219 := Tryd.func93.trans (congrArg some (by kernel_rfl))
  f224 := Tryd.func99.trans (congrArg some (by kernel_rfl))
  f225 := Tryd.func98.trans (congrArg some (by kernel_rfl))
  f266 := Tryd.func87.trans (congrArg some (by kernel_rfl))
  f267 := Tryd.func100.trans (congrArg some (by kernel_rfl))
  f314 := Tryd.func105.trans (congrArg some (by kernel_rfl))
  t3 := Tryd.underlying3
  a3 := Tryd.isAgg3
  z3 := Tryd.sizeOf3
  v3 := Tryd.zeroValue3
  t4 := Tryd.underlying4
  a4 := Tryd.isAgg4
  z4 := Tryd.sizeOf4
  v4 := Tryd.zeroValue4
  t5 := Tryd.underlying5
  a5 := Tryd.isAgg5
  z5 := Tryd.sizeOf5
  v5 := Tryd.zeroValue5
  t9 := Tryd.underlying9
  a9 := Tryd.isAgg9
  z9 := Tryd.sizeOf9
  v9 := Tryd.zeroValue9
  t46 := Tryd.underlying110
  a46 := Tryd.isAgg110
  z46 := Tryd.sizeOf110
  v46 := Tryd.zeroValue110
  t51 := Tryd.underlying131
  a51 := Tryd.isAgg131
  z51 := Tryd.sizeOf131
  v51 := Tryd.zeroValue131
  t146 := Tryd.underlying132
  a146 := Tryd.isAgg132
  z146 := Tryd.sizeOf132
  v146 := Tryd.zeroValue132
  g1 := by kernel_rfl }
open Go.RowKit Go.Lib in
theorem Tryd.strings_Index_one (s : ByteArray) (c : UInt8) (w : World) :
    Calls Tryd.prog 81 #[.string s, .string ⟨#[c]⟩] w fun e w' => e = .returned (.int .i64 (Lib.indexByte s.data.toList c)) ∧ w' = w := Any.strings_Index_one Tryd.lays143 s c w
def Tryd.lays146_ren : Go.Shelf.Ren := ⟨fun | 146 => 40 | 221 => 64 | 268 => 79 | 138 => 80 | 143 => 81 | 195 => 90 | 197 => 91 | 218 => 92 | 219 => 93 | 260 => 97 | 217 => 76 | 225 => 98 | 224 => 99 | 267 => 100 | 266 => 87 | 314 => 105 | n => n, fun | 9 => 9 | 31 => 73 | 3 => 3 | 4 => 4 | 0 => 0 | 105 => 115 | 21 => 21 | 5 => 5 | 46 => 110 | 119 => 127 | 139 => 130 | 138 => 129 | 146 => 132 | 51 => 131 | n => n, fun | 1 => 0 | 3 => 1 | 4 => 2 | n => n⟩
theorem Tryd.lays146 : Go.Proofs.Lays.n146 Tryd.prog Tryd.lays146_ren := {
  mixed := by kernel_rfl
  f138 := Tryd.func80.trans (congrArg some (by kernel_rfl))
  f143 := Tryd.func81.trans (congrArg some (by kernel_rfl))
  f146 := Tryd.func40.trans (congrArg some (by kernel_rfl))
  f195 := Tryd.func90.trans (congrArg some (by kernel_rfl))
  f197 := Tryd.func91.trans (congrArg some (by kernel_rfl))
  f217 := Tryd.func76.trans (congrArg some (by kernel_rfl))
  f218 := Tryd.func92.trans (congrArg some (by kernel_rfl))
  f219 := Tryd.func93.trans (congrArg some (by kernel_rfl))
  f221 := Tryd.func64.trans (congrArg some (by kernel_rfl))
  f224 := Tryd.func99.trans (congrArg some (by kernel_rfl))
  f225 := Tryd.func98.trans (congrArg some (by kernel_rfl))
  f260 := Tryd.func97.trans (congrArg some (by kernel_rfl))
  f266 := Tryd.func87.trans (congrArg some (by kernel_rfl))
  f267 := Tryd.func100.trans (congrArg some (by kernel_rfl))
  f268 := Tryd.func79.trans (congrArg some (by kernel_rfl))
  f314 := Tryd.func105.trans (congrArg some (by kernel_rfl))
  t0 := Tryd.underlying0
  a0 := Tryd.isAgg0
  z0 := Tryd.sizeOf0
  v0 := Tryd.zeroValue0
  t3 := Tryd.underlying3
  a3 := Tryd.isAgg3
  z3 := Tryd.sizeOf3
  v3 := Tryd.zeroValue3
  t4 := Tryd.underlying4
  a4 := Tryd.isAgg4
  z4 := Tryd.sizeOf4
  v4 := Tryd.zeroValue4
  t5 := Tryd.underlying5
  a5 := Tryd.isAgg5
  z5 := Tryd.sizeOf5
  v5 := Tryd.zeroValue5
  t9 := Tryd.underlying9
  a9 := Tryd.isAgg9
  z9 := Tryd.sizeOf9
  v9 := Tryd.zeroValue9
  t21 := Tryd.underlying21
  a21 := Tryd.isAgg21
  z21 := Tryd.sizeOf21
  v21 := Tryd.zeroValue21
  t31 := Tryd.underlying73
  a31 := Tryd.isAgg73
  z31 := Tryd.sizeOf73
  v31 := Tryd.zeroValue73
  t46 := Tryd.underlying110
  a46 := Tryd.isAgg110
  z46 := Tryd.sizeOf110
  v46 := Tryd.zeroValue110
  t51 := Tryd.underlying131
  a51 := Tryd.isAgg131
  z51 := Tryd.sizeOf131
  v51 := Tryd.zeroValue131
  t105 := Tryd.underlying115
  a105 := Tryd.isAgg115
  z105 := Tryd.sizeOf115
  v105 := Tryd.zeroValue115
  t119 := Tryd.underlying127
  a119 := Tryd.isAgg127
  z119 := Tryd.sizeOf127
  t138 := Tryd.underlying129
  a138 := Tryd.isAgg129
  z138 := Tryd.sizeOf129
  v138 := Tryd.zeroValue129
  t139 := Tryd.underlying130
  a139 := Tryd.isAgg130
  z139 := Tryd.sizeOf130
  v139 := Tryd.zeroValue130
  t146 := Tryd.underlying132
  a146 := Tryd.isAgg132
  z146 := Tryd.sizeOf132
  v146 := Tryd.zeroValue132
  g1 := by kernel_rfl
  g3 := by kernel_rfl
  g4 := by kernel_rfl }
open Go.RowKit Go.Lib in
theorem Tryd.strings_Split (s sep : ByteArray) (m : Int) (w : World) (hs : s.size < 4294967281) (hm : w.cell? ⟨0, 0, none⟩ = some (.int .i64 m)) (h1 : 1 ≤ sep.size) :
    Calls Tryd.prog 40 #[.string s, .string sep] w fun e w' =>
      e = .returned (.slice (some ⟨w.heap.size, 0, none⟩) (Lib.countB s sep + 1) (Lib.countB s sep + 1)) ∧ w' = w.alloc (.cells ((Lib.splitB sep 0 (Lib.countB s sep) s).map Value.string).toArray 9) := Any.strings_Split Tryd.lays146 (by kernel_rfl) s sep m w hs hm h1
end Go.Proofs.YticdpfjajkfheaaDoor

/- Texts of numbers, where Go's table of powers stands as laid. -/
namespace Go.Proofs.YticdpfjajkfheaaDoor
set_option linter.unusedVariables false
open Go Go.RowKit

def Tab (w : World) : Prop := Lib.TabIs Tryd.prog w "internal/strconv.uint64pow10" .u64 Lib.pow10Tab
theorem Tab.later {w w' : World} (h : Tab w) (hb : Below w.heap.size w w') : Tab w' := by
  unfold Tab Lib.TabIs World.var? at h ⊢
  cases hg : Tryd.prog.globalNamed "internal/strconv.uint64pow10" with
  | none => rw [hg] at h; cases h
  | some g =>
    rw [hg] at h
    simp only [Option.bind_some] at h ⊢
    have hlt : g < w.heap.size := by
      rcases Nat.lt_or_ge g w.heap.size with h' | h'
      · exact h'
      · rw [Array.getElem?_eq_none h'] at h; cases h
    rw [hb.block g hlt]
    exact h
theorem below_grow {w w2 : World} (h : ∃ k os, w2 = «Sort».grow (w.drewN k) os) : Below w.heap.size w w2 := by
  obtain ⟨k, os, rfl⟩ := h
  refine ⟨rfl, rfl, rfl, ?_, fun j hj => ?_⟩
  · show w.heap.size ≤ (w.heap ++ os).size
    rw [Array.size_append]; omega
  · show (w.heap ++ os)[j]? = w.heap[j]?
    exact Array.getElem?_append_left hj
theorem tens_any (n : Int) (w : World) (h0 : -9223372036854775808 ≤ n) (h1 : n ≤ 9223372036854775807) (ht : Tab w) : Calls Tryd.prog 47 #[.int .i64 n] w fun e w' => e = .returned (.string (str (Lib.itoa n))) ∧ Below w.heap.size w w' := by
  have HI := Lib.hid (Tryd.strconv_Itoa n h0 h1 w ht)
  have HE : Hid ((⟨(Lib.itoa n).toArray⟩ : ByteArray) = str (Lib.itoa n)) := Lib.hid rfl
  rw [HE.out] at HI
  clear HE
  obtain ⟨u, hu⟩ : ∃ u, u = str (Lib.itoa n) := ⟨_, rfl⟩
  rw [← hu] at HI ⊢
  clear hu ht
  go_enter Tryd.func47, Tryd.ntmps47
  go_wp2_with fail
  refine HI.out.mono ?_
  rintro e w1 ⟨rfl, hg⟩
  have hb := below_grow hg
  clear hg
  go_wp2_with fail
  go_ret
  exact ⟨rfl, hb⟩

end Go.Proofs.YticdpfjajkfheaaDoor

/- Go's table of powers of ten, as the rows' condition lays it. -/
namespace Go.Proofs.YticdpfjajkfheaaDoor
open Go

theorem pow_at : ∃ g : Nat, Tryd.prog.globalNamed "internal/strconv.uint64pow10" = some g ∧ (Tryd.prog.globals[g]?).map (·.type) = some 135 :=
  ⟨3, by kernel_rfl, by kernel_rfl⟩
theorem tab_of {W : World} (h : laidMetH Tryd.prog Rows.tokenReadsRow.laid W) : Tab W := by
  have h1 : laidMet Tryd.prog Rows.tokenReadsRow.laid W := h
  have h2 := h1.filter (fun x => x.1 == "internal/strconv.uint64pow10")
  have e : (Rows.tokenReadsRow.laid.filter fun x => x.1 == "internal/strconv.uint64pow10") = [("internal/strconv.uint64pow10", Lib.tabData .u64 Lib.pow10Tab)] := by kernel_rfl
  rw [e] at h2
  obtain ⟨g, hg, hty⟩ := pow_at
  exact Lib.tabIs_of_head hg hty Tryd.underlying135 Tryd.underlying122 (by kernel_rfl) (by kernel_rfl) h2
end Go.Proofs.YticdpfjajkfheaaDoor

/- Tokens: reading of none; the text of the chapter's example. -/
namespace Go.Proofs.YticdpfjajkfheaaDoor
set_option linter.unusedVariables false
open Go Go.RowKit OctM

set_option maxRecDepth 100000 in
set_option maxHeartbeats 3200000 in
theorem nil_tok (w : World) : Calls Tryd.prog 28 #[.pointer none] w fun x w' => x = .returned (.agg (tks 0 0 0 0).toArray) ∧ Below w.heap.size w w' := by
  have hu := Tryd.underlying42
  have B2 := Blk.new w (tks 0 0 0 0) 42
  have hb := (Below.refl w.heap.size w).alloc (Nat.le_refl _) (.cells (tks 0 0 0 0).toArray 42)
  go_enter Tryd.func28, Tryd.ntmps28
  go_wp2_with fail
  refine (nil_num _ _).mono ?_
  rintro x w1 ⟨rfl, h1⟩
  generalize hw0 : w.alloc (.cells #[Value.int .i64 0, .int .i64 0, .int .i64 0, .int .i64 0] 42) = w0 at h1
  have B2' : Blk w0 w.heap.size (tks 0 0 0 0) := hw0 ▸ B2
  have hb0 : Below w.heap.size w w0 := hw0 ▸ hb
  clear B2 hb hw0
  subst h1
  go_wp2_with fail
  refine (nil_num _ _).mono ?_
  rintro x w1 ⟨rfl, rfl⟩
  have B3 := Blk.new w0 (tks 0 0 0 0) 42
  have T3 := B3.there 0 4 (Nat.le_refl _)
  have S3 := B3.wholeT (ds := tks 0 0 0 0) rfl
  have LE3 : Le w0 (World.setCells (w0.alloc (.cells (tks 0 0 0 0).toArray 42)) w0.heap.size 0 (tks 0 0 0 0)) := below_sets (Nat.le_refl _) _ 0 ((Below.refl w0.heap.size w0).alloc (Nat.le_refl _) _)
  have O3 := tks_one 0 0 0 0
  have hsz := hb0.size
  have hb2 := B2'.lt
  obtain ⟨g3, hg3⟩ : ∃ z, z = w0.heap.size := ⟨_, rfl⟩
  rw [← hg3] at T3 S3 LE3 hsz hb2
  have HG3 := Lib.hid hg3
  clear hg3 B3
  go_wp2_with (first
    | (rw [← HG3.out]
       refine wpList_store_mid rfl 42 (.tmp 3) (.tmp 8) rfl g3 0 (tks 0 0 0 0).toArray rfl rfl T3 info_tok O3 ?_
       simp only [Act.put]
       generalize hw3 : World.setCells _ g3 0 (tks 0 0 0 0).toArray.toList = w3
       have S4 : Blk w3 g3 (tks 0 0 0 0) := hw3 ▸ S3
       have LE3' : Le w0 w3 := hw3 ▸ LE3
       have q1 : w3.cell? ⟨g3, 1, none⟩ = some (.int .i64 0) := S4.cell rfl
       clear hw3 T3 S3 LE3)
    | fail)
  refine (nil_fail _ _).mono ?_
  rintro x w4 ⟨rfl, rfl⟩
  replace B2' := B2'.later LE3'
  replace hb0 := hb0.trans (LE3'.mono hb0.size)
  go_wp2_with fail
  refine (nil_num _ _).mono ?_
  rintro x w4 ⟨rfl, rfl⟩
  go_wp2_with fail
  refine (nil_num _ _).mono ?_
  rintro x w4 ⟨rfl, rfl⟩
  have f2 := S4.frozen 2
  have f3 := S4.frozen 3
  have q2 : w3.cell? ⟨g3, 2, none⟩ = some (.int .i64 0) := S4.cell rfl
  have q3 : w3.cell? ⟨g3, 3, none⟩ = some (.int .i64 0) := S4.cell rfl
  have B8 := (B2'.setOther (b := g3) 2 (.int .i64 0) (by omega)).setOther (b := g3) 3 (.int .i64 0) (by omega)
  have H8 : Below w.heap.size w ((w3.setCell ⟨g3, 2, none⟩ (.int .i64 0)).setCell ⟨g3, 3, none⟩ (.int .i64 0)) := (hb0.setCell hsz (.int .i64 0)).setCell hsz (.int .i64 0)
  go_wp2_with fail
  refine (nil_err _).mono ?_
  rintro x w9 ⟨rfl, h9⟩
  generalize (w3.setCell ⟨g3, 2, none⟩ (.int .i64 0)).setCell ⟨g3, 3, none⟩ (.int .i64 0) = w8 at B8 H8 h9
  subst h9
  have T8 := B8.there 0 4 (Nat.le_refl _)
  have FIN := B8.wholeT (ds := tks 0 0 0 0) rfl
  have H9 := below_sets (Nat.le_refl w.heap.size) (tks 0 0 0 0) 0 H8
  clear f2 f3 q1 q2 q3 S4
  go_wp2_with (first
    | (refine wpList_store_mid rfl 42 (.tmp 2) (.tmp 23) rfl w.heap.size 0 (tks 0 0 0 0).toArray rfl rfl T8 info_tok O3 ?_)
    | fail)
  exact bodyPost_ret (v := .agg (tks 0 0 0 0).toArray) (tok_results (q := 2) rfl _ _ w.heap.size _ _ rfl FIN hu rfl info_tok) rfl ⟨rfl, H9⟩

/-- A slot that holds a slice of four texts. -/
def relStr4 (a b c d : ByteArray) : Rel where
  rel x w := ∃ g, x = .slice (some ⟨g, 0, none⟩) 4 4 ∧ Blk w g [.string a, .string b, .string c, .string d]
  mono := fun x w w' h ⟨g, e, hr⟩ => ⟨g, e, hr.later h⟩
  real := fun w ⟨g, e, _⟩ => by cases e
theorem run_str4 (a b c d : ByteArray) (w : World) : (Instr.buildSlice 73 4 #[(0, .string a), (1, .string b), (2, .string c), (3, .string d)]).run Tryd.prog w = .ok (.slice (some ⟨w.heap.size, 0, none⟩) 4 4) (w.alloc (.cells [.string a, .string b, .string c, .string d].toArray 9)) := by kernel_rfl
theorem str4_gives {a : Act} {op : Oper} (x y z u : Operand) (p q r s : ByteArray) (ho : op.op = .buildSlice 73 4 #[(0, x), (1, y), (2, z), (3, u)]) (hx : a.eval x = .string p) (hy : a.eval y = .string q) (hz : a.eval z = .string r) (hu : a.eval u = .string s) (w : World) : gives Tryd.prog op a (relStr4 p q r s).rel w := by
  unfold gives execOp
  simp only [ho, List.map_toArray, List.map_cons, List.map_nil, hx, hy, hz, hu, Sem.run_bind, run_str4, Result.andThen_ok, Sem.run_pure]
  exact ⟨(Below.refl _ _).alloc (Nat.le_refl _) _, _, rfl, Blk.new w _ _⟩
/-- strings.Join of four texts by points. -/
theorem join4 (g : Nat) (a b c d : ByteArray) (w : World) (h : Blk w g [.string a, .string b, .string c, .string d]) (hl : (Lib.join ([a, b, c, d].map (·.data.toList)) [46]).length ≤ 140737488355328) :
    Calls Tryd.prog 48 #[.slice (some ⟨g, 0, none⟩) 4 4, .string { data := #[46] }] w fun e w' => e = .returned (.string (str (Lib.join ([a, b, c, d].map (·.data.toList)) [46]))) ∧ Below w.heap.size w w' := by
  have h := Tryd.strings_Join g 0 4 [a, b, c, d] { data := #[46] } w (fun j x hj => by
    rw [Nat.zero_add]
    match j with
    | 0 => simp at hj; subst hj; exact h.cell rfl
    | 1 => simp at hj; subst hj; exact h.cell rfl
    | 2 => simp at hj; subst hj; exact h.cell rfl
    | 3 => simp at hj; subst hj; exact h.cell rfl
    | n + 4 => simp at hj) h.lt (by simp) (by simp) hl
  exact h
end Go.Proofs.YticdpfjajkfheaaDoor

/- Tokens: which may be. -/
namespace Go.Proofs.YticdpfjajkfheaaDoor
set_option linter.unusedVariables false
open Go Go.RowKit OctM

/-- May this token be? -/
def tchk (d p s c : Int) : Bool := decide (0 ≤ d ∧ d < 6 ∧ 1 ≤ p ∧ p ≤ 1099511627776 ∧ 0 ≤ s ∧ s ≤ 1099511627776 ∧ 0 ≤ c ∧ c ≤ 1073741824)
set_option maxRecDepth 100000 in
set_option maxHeartbeats 3200000 in
theorem tcheck_any (d p s c : Int) (w : World) : Calls Tryd.prog 17 #[.agg (tks d p s c).toArray] w fun e w' => e = .returned (.bool (tchk d p s c)) ∧ Below w.heap.size w w' := by
  have B := Blk.new w (tks d p s c) 42
  have hb := (Below.refl w.heap.size w).alloc (Nat.le_refl _) (.cells (tks d p s c).toArray 42)
  obtain ⟨R, hR⟩ : ∃ R, R = tchk d p s c := ⟨_, rfl⟩
  rw [← hR]
  unfold tchk at hR
  obtain ⟨pc, hpc⟩ : ∃ pc, pc = tks d p s c := ⟨_, rfl⟩
  rw [← hpc] at B hb ⊢
  have p0 : (w.alloc (.cells pc.toArray 42)).cell? ⟨w.heap.size, 0, none⟩ = some (.int .i64 d) := B.cell (by rw [hpc]; rfl)
  have p1 : (w.alloc (.cells pc.toArray 42)).cell? ⟨w.heap.size, 1, none⟩ = some (.int .i64 p) := B.cell (by rw [hpc]; rfl)
  have p2 : (w.alloc (.cells pc.toArray 42)).cell? ⟨w.heap.size, 2, none⟩ = some (.int .i64 s) := B.cell (by rw [hpc]; rfl)
  have p3 : (w.alloc (.cells pc.toArray 42)).cell? ⟨w.heap.size, 3, none⟩ = some (.int .i64 c) := B.cell (by rw [hpc]; rfl)
  clear hpc B
  by_cases h0 : 0 ≤ d
  · have k0 : decide (0 ≤ d) = true := decide_eq_true h0
    by_cases h1 : d < 6
    · have k1 : decide (d < 6) = true := decide_eq_true h1
      by_cases h2 : 1 ≤ p
      · have k2 : decide (1 ≤ p) = true := decide_eq_true h2
        by_cases h3 : p ≤ 1099511627776
        · have k3 : decide (p ≤ 1099511627776) = true := decide_eq_true h3
          by_cases h4 : 0 ≤ s
          · have k4 : decide (0 ≤ s) = true := decide_eq_true h4
            by_cases h5 : s ≤ 1099511627776
            · have k5 : decide (s ≤ 1099511627776) = true := decide_eq_true h5
              by_cases h6 : 0 ≤ c
              · have k6 : decide (0 ≤ c) = true := decide_eq_true h6
                by_cases h7 : c ≤ 1073741824
                · have k7 : decide (c ≤ 1073741824) = true := decide_eq_true h7
                  have HR : Hid (R = true) := Lib.hid (by rw [hR, decide_eq_true ⟨h0, h1, h2, h3, h4, h5, h6, h7⟩])
                  clear hR h0 h1 h2 h3 h4 h5 h6 h7
                  go_enter Tryd.func17, Tryd.ntmps17
                  go_wp2_with fail
                  go_ret
                  exact ⟨by rw [HR.out]; rfl, hb⟩
                · have HR : Hid (R = false) := Lib.hid (by rw [hR, decide_eq_false (by omega)])
                  have k7 : decide (c ≤ 1073741824) = false := decide_eq_false h7
                  clear hR h0 h1 h2 h3 h4 h5 h6 h7
                  go_enter Tryd.func17, Tryd.ntmps17
                  go_wp2_with fail
                  go_ret
                  exact ⟨by rw [HR.out]; rfl, hb⟩
              · have HR : Hid (R = false) := Lib.hid (by rw [hR, decide_eq_false (by omega)])
                have k6 : decide (0 ≤ c) = false := decide_eq_false h6
                clear hR h0 h1 h2 h3 h4 h5 h6
                go_enter Tryd.func17, Tryd.ntmps17
                go_wp2_with fail
                go_ret
                exact ⟨by rw [HR.out]; rfl, hb⟩
            · have HR : Hid (R = false) := Lib.hid (by rw [hR, decide_eq_false (by omega)])
              have k5 : decide (s ≤ 1099511627776) = false := decide_eq_false h5
              clear hR h0 h1 h2 h3 h4 h5
              go_enter Tryd.func17, Tryd.ntmps17
              go_wp2_with fail
              go_ret
              exact ⟨by rw [HR.out]; rfl, hb⟩
          · have HR : Hid (R = false) := Lib.hid (by rw [hR, decide_eq_false (by omega)])
            have k4 : decide (0 ≤ s) = false := decide_eq_false h4
            clear hR h0 h1 h2 h3 h4
            go_enter Tryd.func17, Tryd.ntmps17
            go_wp2_with fail
            go_ret
            exact ⟨by rw [HR.out]; rfl, hb⟩
        · have HR : Hid (R = false) := Lib.hid (by rw [hR, decide_eq_false (by omega)])
          have k3 : decide (p ≤ 1099511627776) = false := decide_eq_false h3
          clear hR h0 h1 h2 h3
          go_enter Tryd.func17, Tryd.ntmps17
          go_wp2_with fail
          go_ret
          exact ⟨by rw [HR.out]; rfl, hb⟩
      · have HR : Hid (R = false) := Lib.hid (by rw [hR, decide_eq_false (by omega)])
        have k2 : decide (1 ≤ p) = false := decide_eq_false h2
        clear hR h0 h1 h2
        go_enter Tryd.func17, Tryd.ntmps17
        go_wp2_with fail
        go_ret
        exact ⟨by rw [HR.out]; rfl, hb⟩
    · have HR : Hid (R = false) := Lib.hid (by rw [hR, decide_eq_false (by omega)])
      have k1 : decide (d < 6) = false := decide_eq_false h1
      clear hR h0 h1
      go_enter Tryd.func17, Tryd.ntmps17
      go_wp2_with fail
      go_ret
      exact ⟨by rw [HR.out]; rfl, hb⟩
  · have HR : Hid (R = false) := Lib.hid (by rw [hR, decide_eq_false (by omega)])
    have k0 : decide (0 ≤ d) = false := decide_eq_false h0
    clear hR h0
    go_enter Tryd.func17, Tryd.ntmps17
    go_wp2_with fail
    go_ret
    exact ⟨by rw [HR.out]; rfl, hb⟩
set_option maxRecDepth 100000 in
set_option maxHeartbeats 3200000 in
theorem rtcheck_any (d p s c : Int) (w : World) : Calls Tryd.prog 18 #[.agg (tks d p s c).toArray] w fun e w' => e = .returned (.bool (tchk d p s c)) ∧ Below w.heap.size w w' := by
  have B := Blk.new w (tks d p s c) 42
  have hb := (Below.refl w.heap.size w).alloc (Nat.le_refl _) (.cells (tks d p s c).toArray 42)
  obtain ⟨R, hR⟩ : ∃ R, R = tchk d p s c := ⟨_, rfl⟩
  rw [← hR]
  unfold tchk at hR
  obtain ⟨pc, hpc⟩ : ∃ pc, pc = tks d p s c := ⟨_, rfl⟩
  rw [← hpc] at B hb ⊢
  have p0 : (w.alloc (.cells pc.toArray 42)).cell? ⟨w.heap.size, 0, none⟩ = some (.int .i64 d) := B.cell (by rw [hpc]; rfl)
  have p1 : (w.alloc (.cells pc.toArray 42)).cell? ⟨w.heap.size, 1, none⟩ = some (.int .i64 p) := B.cell (by rw [hpc]; rfl)
  have p2 : (w.alloc (.cells pc.toArray 42)).cell? ⟨w.heap.size, 2, none⟩ = some (.int .i64 s) := B.cell (by rw [hpc]; rfl)
  have p3 : (w.alloc (.cells pc.toArray 42)).cell? ⟨w.heap.size, 3, none⟩ = some (.int .i64 c) := B.cell (by rw [hpc]; rfl)
  clear hpc B
  by_cases h0 : 0 ≤ d
  · have k0 : decide (0 ≤ d) = true := decide_eq_true h0
    by_cases h1 : d < 6
    · have k1 : decide (d < 6) = true := decide_eq_true h1
      by_cases h2 : 1 ≤ p
      · have k2 : decide (1 ≤ p) = true := decide_eq_true h2
        by_cases h3 : p ≤ 1099511627776
        · have k3 : decide (p ≤ 1099511627776) = true := decide_eq_true h3
          by_cases h4 : 0 ≤ s
          · have k4 : decide (0 ≤ s) = true := decide_eq_true h4
            by_cases h5 : s ≤ 1099511627776
            · have k5 : decide (s ≤ 1099511627776) = true := decide_eq_true h5
              by_cases h6 : 0 ≤ c
              · have k6 : decide (0 ≤ c) = true := decide_eq_true h6
                by_cases h7 : c ≤ 1073741824
                · have k7 : decide (c ≤ 1073741824) = true := decide_eq_true h7
                  have HR : Hid (R = true) := Lib.hid (by rw [hR, decide_eq_true ⟨h0, h1, h2, h3, h4, h5, h6, h7⟩])
                  clear hR h0 h1 h2 h3 h4 h5 h6 h7
                  go_enter Tryd.func18, Tryd.ntmps18
                  go_wp2_with fail
                  go_ret
                  exact ⟨by rw [HR.out]; rfl, hb⟩
                · have HR : Hid (R = false) := Lib.hid (by rw [hR, decide_eq_false (by omega)])
                  have k7 : decide (c ≤ 1073741824) = false := decide_eq_false h7
                  clear hR h0 h1 h2 h3 h4 h5 h6 h7
                  go_enter Tryd.func18, Tryd.ntmps18
                  go_wp2_with fail
                  go_ret
                  exact ⟨by rw [HR.out]; rfl, hb⟩
              · have HR : Hid (R = false) := Lib.hid (by rw [hR, decide_eq_false (by omega)])
                have k6 : decide (0 ≤ c) = false := decide_eq_false h6
                clear hR h0 h1 h2 h3 h4 h5 h6
                go_enter Tryd.func18, Tryd.ntmps18
                go_wp2_with fail
                go_ret
                exact ⟨by rw [HR.out]; rfl, hb⟩
            · have HR : Hid (R = false) := Lib.hid (by rw [hR, decide_eq_false (by omega)])
              have k5 : decide (s ≤ 1099511627776) = false := decide_eq_false h5
              clear hR h0 h1 h2 h3 h4 h5
              go_enter Tryd.func18, Tryd.ntmps18
              go_wp2_with fail
              go_ret
              exact ⟨by rw [HR.out]; rfl, hb⟩
          · have HR : Hid (R = false) := Lib.hid (by rw [hR, decide_eq_false (by omega)])
            have k4 : decide (0 ≤ s) = false := decide_eq_false h4
            clear hR h0 h1 h2 h3 h4
            go_enter Tryd.func18, Tryd.ntmps18
            go_wp2_with fail
            go_ret
            exact ⟨by rw [HR.out]; rfl, hb⟩
        · have HR : Hid (R = false) := Lib.hid (by rw [hR, decide_eq_false (by omega)])
          have k3 : decide (p ≤ 1099511627776) = false := decide_eq_false h3
          clear hR h0 h1 h2 h3
          go_enter Tryd.func18, Tryd.ntmps18
          go_wp2_with fail
          go_ret
          exact ⟨by rw [HR.out]; rfl, hb⟩
      · have HR : Hid (R = false) := Lib.hid (by rw [hR, decide_eq_false (by omega)])
        have k2 : decide (1 ≤ p) = false := decide_eq_false h2
        clear hR h0 h1 h2
        go_enter Tryd.func18, Tryd.ntmps18
        go_wp2_with fail
        go_ret
        exact ⟨by rw [HR.out]; rfl, hb⟩
    · have HR : Hid (R = false) := Lib.hid (by rw [hR, decide_eq_false (by omega)])
      have k1 : decide (d < 6) = false := decide_eq_false h1
      clear hR h0 h1
      go_enter Tryd.func18, Tryd.ntmps18
      go_wp2_with fail
      go_ret
      exact ⟨by rw [HR.out]; rfl, hb⟩
  · have HR : Hid (R = false) := Lib.hid (by rw [hR, decide_eq_false (by omega)])
    have k0 : decide (0 ≤ d) = false := decide_eq_false h0
    clear hR h0
    go_enter Tryd.func18, Tryd.ntmps18
    go_wp2_with fail
    go_ret
    exact ⟨by rw [HR.out]; rfl, hb⟩
end Go.Proofs.YticdpfjajkfheaaDoor
