/- Nets: Take. -/
import Derived.Test.YtlagodbkkkdmkaaNetH
import Derived.Test.YtlagodbkkkdmkaaLoadG
namespace Go.Proofs.Ytlagodbkkkdmkaa
set_option linter.unusedVariables false
set_option linter.unusedSimpArgs false
open Go Go.RowKit Go.MuLone

theorem look_no {w : World} {g : Nat} {st : Int} {r : Option Nat} {l : List V3} {k : Int} (h : NetAt w g st r l) (hk : k < 0 ∨ (l.length : Int) ≤ k) :
    Calls Try.prog 47 #[.pointer (some ⟨g, 0, none⟩), .int .i64 k] w fun e w' => e = .returned (.tuple #[.agg (vcells zv).toArray, .bool false]) ∧ Below w.heap.size w w' := by
  have := net_look w g st r l k h
  rw [(pkAt_no hk).1, (pkAt_no hk).2] at this
  exact this
theorem look_yes {w : World} {g : Nat} {st : Int} {r : Option Nat} {l : List V3} {i : Nat} (h : NetAt w g st r l) (hi : i < l.length) :
    Calls Try.prog 47 #[.pointer (some ⟨g, 0, none⟩), .int .i64 i] w fun e w' => e = .returned (.tuple #[.agg (vcells l[i]).toArray, .bool true]) ∧ Below w.heap.size w w' := by
  have := net_look w g st r l i h
  rw [(pkAt_nat hi).1, (pkAt_nat hi).2] at this
  exact this

set_option maxRecDepth 100000 in
set_option maxHeartbeats 3200000 in
theorem take_no (w : World) (g : Nat) (r : Option Nat) (l : List V3) (k : Int) (h : NetAt w g 0 r l) (hk : k < 0 ∨ (l.length : Int) ≤ k) :
    Calls Try.prog 28 #[.pointer (some ⟨g, 0, none⟩), .int .i64 k] w (Put0 w g r l (.tuple #[.agg (vcells zv).toArray, .bool false])) := by
  have hu := Try.underlying59
  have hgl : g < w.heap.size := by obtain ⟨A, c, B, _⟩ := h; exact B.lt
  have HR : ∀ k, r = some k → k < w.heap.size := fun k hk => (h.row k hk).2
  have BX := Blk.new w (vcells zv) 59
  have hb := (Below.refl w.heap.size w).alloc (Nat.le_refl _) (.cells (vcells zv).toArray 59)
  obtain ⟨h0, f0⟩ := (h.later hb).cell0
  have N1 := Lib.hid ((h.later hb).lock 1)
  have T1 := Lib.hid ((Turn2.of_below hb g r).trans (Turn2.setCell _ g 0 (.int .i32 1) r) (.inl rfl))
  have BX1 := Lib.hid (BX.setOther (b := g) 0 (.int .i32 1) (by omega))
  have HL := Lib.hid (fun wx (hx : NetAt wx g 1 r l) => look_no hx hk)
  obtain ⟨p, hp⟩ : ∃ p : V3, p = zv := ⟨_, rfl⟩
  rw [← hp] at HL ⊢
  clear hp BX hb h hk
  go_enter_defers Try.func28, Try.ntmps28
  go_wp2_with fail
  refine (lock_free muLib ⟨g, 0, none⟩ _ h0 f0).mono ?_
  rintro e w1 ⟨rfl, hw1⟩
  have hw1' : w1 = (w.alloc (.cells (vcells zv).toArray 59)).setCell ⟨g, 0, none⟩ (.int .i32 1) := hw1
  rw [← hw1'] at N1 T1 BX1
  clear hw1 hw1' h0 f0
  go_wp2_with fail
  refine (HL.out _ N1.out).mono ?_
  rintro e w2 ⟨rfl, hb2⟩
  have N2 := N1.out.later hb2
  have T2 := T1.out.trans (Turn2.of_below hb2 g r) (.inl rfl)
  have BX2 := BX1.out.later hb2
  obtain ⟨W3, hW3⟩ : ∃ W3, W3 = (w2.alloc (.cells #[.int .i64 0, .int .i64 0, .string ⟨#[]⟩] 59)).setCells w2.heap.size 0 (vcells p) := ⟨_, rfl⟩
  obtain ⟨F3, B3, z3⟩ := pk_put w2 W3 p _ rfl hW3
  have TH := pk_there w2 3 rfl
  have HW3 := Lib.hid hW3
  have N3 := N2.later B3
  have T3 := T2.trans (Turn2.of_below B3 g r) (.inl rfl)
  have BX3 := BX2.later B3
  have hz2 := T2.size
  have hxl := BX2.lt
  clear N1 T1 BX1 HL N2 T2 BX2 hb2 hW3
  have THR := BX3.there 0 3 (by simp [vcells])
  have BX5 := BX3.sets (vcells p) 0 (by simp [vcells])
  have e5 : (vcells zv).take 0 ++ vcells p ++ (vcells zv).drop (0 + (vcells p).length) = vcells p := by simp [vcells]
  rw [e5] at BX5
  obtain ⟨N5, T5⟩ := own_store hgl HR N3 T3 w.heap.size (Nat.le_refl _) (vcells p) 0
  obtain ⟨W5, hW5⟩ : ∃ W5, W5 = W3.setCells w.heap.size 0 (vcells p) := ⟨_, rfl⟩
  have HW5 := Lib.hid hW5
  rw [← hW5] at N5 T5 BX5
  have N6 := Lib.hid (N5.lock 0)
  have T6 := Lib.hid (T5.trans (Turn2.setCell _ g 0 (.int .i32 0) r) (.inl rfl))
  have BX6 := Lib.hid (BX5.setOther (b := g) 0 (.int .i32 0) (by omega))
  have RX := Lib.hid (F3.range 0 (vcells p) (by simp [vcells]))
  obtain ⟨h2, f2⟩ := N5.cell0
  clear N3 T3 BX3 F3 B3 N5 T5 BX5 e5 hW5
  go_wp2_with (first
    | (refine wpList_store_mid rfl 59 (.tmp 6) (.tmp 22) rfl w2.heap.size 0 (vcells p).toArray rfl rfl TH info_pk (all_oneCell_toArray (vcells_one p)) ?_
       rw [show (w2.alloc (.cells #[.int .i64 0, .int .i64 0, .string ⟨#[]⟩] 59)).setCells w2.heap.size 0 (vcells p).toArray.toList = W3 from HW3.out.symm])
    | (refine wpList_load_mid rfl 59 (.tmp 6) rfl w2.heap.size 0 rfl (vcells p) _ RX.out hu rfl info_pk ?_)
    | (refine wpList_store_mid rfl 59 (.tmp 4) (.tmp 36) rfl w.heap.size 0 (vcells p).toArray rfl rfl THR info_pk (all_oneCell_toArray (vcells_one p)) ?_
       rw [show W3.setCells w.heap.size 0 (vcells p).toArray.toList = W5 from HW5.out.symm])
    | fail)
  refine leaves_cons (f := 45) (args := #[.pointer (some ⟨g, 0, none⟩)]) (by simp) (by simp [go_sem]) ?_
  refine (unlock_deferred muLib ⟨g, 0, none⟩ .returning _ h2 f2).mono ?_
  rintro e u' w'' ⟨rfl, rfl, rfl⟩
  exact ⟨_, results_cellb (p := 5) (q := 4) rfl _ _ w.heap.size (vcells p) _ _ rfl rfl BX6.out hu rfl info_pk, r, rfl, N6.out, T6.out, .inl rfl⟩

set_option maxRecDepth 100000 in
set_option maxHeartbeats 3200000 in
theorem take_yes (w : World) (g : Nat) (r : Option Nat) (l : List V3) (i : Nat) (h : NetAt w g 0 r l) (hi : i < l.length) (h40 : l.length ≤ 40) :
    Calls Try.prog 28 #[.pointer (some ⟨g, 0, none⟩), .int .i64 i] w (Put0 w g r (l.take i ++ l.drop (i + 1)) (.tuple #[.agg (vcells l[i]).toArray, .bool true])) := by
  have hu := Try.underlying59
  have hgl : g < w.heap.size := by obtain ⟨A, c, B, _⟩ := h; exact B.lt
  have HR : ∀ k, r = some k → k < w.heap.size := fun k hk => (h.row k hk).2
  have BX := Blk.new w (vcells zv) 59
  have hb := (Below.refl w.heap.size w).alloc (Nat.le_refl _) (.cells (vcells zv).toArray 59)
  obtain ⟨h0, f0⟩ := (h.later hb).cell0
  have N1 := Lib.hid ((h.later hb).lock 1)
  have T1 := Lib.hid ((Turn2.of_below hb g r).trans (Turn2.setCell _ g 0 (.int .i32 1) r) (.inl rfl))
  have BX1 := Lib.hid (BX.setOther (b := g) 0 (.int .i32 1) (by omega))
  have HL := Lib.hid (fun wx (hx : NetAt wx g 1 r l) => look_yes hx hi)
  obtain ⟨p, hp⟩ : ∃ p, p = l[i] := ⟨_, rfl⟩
  rw [← hp] at HL ⊢
  clear hp BX hb h
  go_enter_defers Try.func28, Try.ntmps28
  go_wp2_with fail
  refine (lock_free muLib ⟨g, 0, none⟩ _ h0 f0).mono ?_
  rintro e w1 ⟨rfl, hw1⟩
  have hw1' : w1 = (w.alloc (.cells (vcells zv).toArray 59)).setCell ⟨g, 0, none⟩ (.int .i32 1) := hw1
  rw [← hw1'] at N1 T1 BX1
  clear hw1 hw1' h0 f0
  go_wp2_with fail
  refine (HL.out _ N1.out).mono ?_
  rintro e w2 ⟨rfl, hb2⟩
  have N2 := N1.out.later hb2
  have T2 := T1.out.trans (Turn2.of_below hb2 g r) (.inl rfl)
  have BX2 := BX1.out.later hb2
  obtain ⟨W3, hW3⟩ : ∃ W3, W3 = (w2.alloc (.cells #[.int .i64 0, .int .i64 0, .string ⟨#[]⟩] 59)).setCells w2.heap.size 0 (vcells p) := ⟨_, rfl⟩
  obtain ⟨F3, B3, z3⟩ := pk_put w2 W3 p _ rfl hW3
  have TH := pk_there w2 3 rfl
  have HW3 := Lib.hid hW3
  have N3 := N2.later B3
  have T3 := T2.trans (Turn2.of_below B3 g r) (.inl rfl)
  have BX3 := BX2.later B3
  have hz2 := T2.size
  have hxl := BX2.lt
  clear N1 T1 BX1 HL N2 T2 BX2 hb2 hW3
  obtain ⟨A, c, BN, hrow, hrr⟩ := N3
  have hc2 := BN.cell (j := 2) rfl
  have hfz2 := BN.frozen 2
  have hag : (Value.slice A l.length c).ownBlock ≠ some g := fun e => by
    have := hrow.lt g e
    omega
  have hax : (Value.slice A l.length c).ownBlock ≠ some w.heap.size := fun e => by
    rw [← hrr] at e
    have := HR _ e
    omega
  have hat : (Value.slice A l.length c).ownBlock ≠ some w2.heap.size := fun e => by
    rw [← hrr] at e
    have := HR _ e
    omega
  have HD := Lib.hid (del_row W3 g l.length c i A l rfl hi h40 hrow)
  have HN1 := Lib.hid (show (l.take i ++ l.drop (i + 1)).length = l.length - 1 by rw [List.length_append, List.length_take, List.length_drop]; omega)
  have HRR := Lib.hid hrr
  have HBN := Lib.hid BN
  have HT3 := Lib.hid T3
  have HBX3 := Lib.hid BX3
  have HF3 := Lib.hid F3
  have HI := Lib.hid hi
  obtain ⟨l', hl'⟩ : ∃ l', l' = l.take i ++ l.drop (i + 1) := ⟨_, rfl⟩
  rw [← hl'] at HD HN1
  have HLP := Lib.hid hl'
  obtain ⟨n, hn⟩ : ∃ n, n = l.length := ⟨_, rfl⟩
  rw [← hn] at hc2 hag hax hat HD HN1 HRR HBN h40
  have hin : i < n := by rw [hn]; exact hi
  have i1 : IntKind.i64.wrap ((i : Int) + 1) = (i : Int) + 1 := by rw [IntKind.wrap_i64]; omega
  clear hl' hn BN hrow hrr T3 BX3 F3 B3 hi
  go_wp2_with (first
    | (refine wpList_store_mid rfl 59 (.tmp 6) (.tmp 22) rfl w2.heap.size 0 (vcells p).toArray rfl rfl TH info_pk (all_oneCell_toArray (vcells_one p)) ?_
       rw [show (w2.alloc (.cells #[.int .i64 0, .int .i64 0, .string ⟨#[]⟩] 59)).setCells w2.heap.size 0 (vcells p).toArray.toList = W3 from HW3.out.symm])
    | fail)
  refine HD.out.mono ?_
  rintro e w4 ⟨rfl, hrow4, hg4⟩
  have BN4 := HBN.out.kept hg4 hag
  have T4 := HT3.out.trans (Turn2.of_grown (g := g) hg4) (.inl HRR.out.symm)
  have BX4 := (HBX3.out.kept hg4 hax).setOther (b := g) 2 (.slice A (n - 1) c) (by omega)
  have F4 := (HF3.out.kept hg4 hat).setOther (b := g) 2 (.slice A (n - 1) c) (by omega)
  have BS := BN4.set 2 (.slice A (n - 1) c)
  have hrS := row_set hrow4 2 (.slice A (n - 1) c)
  have hc4 := BN4.cell (j := 2) rfl
  have hf4 := BN4.frozen 2
  have T4S := T4.trans (Turn2.setCell w4 g 2 (.slice A (n - 1) c) r) (.inl rfl)
  have NS : NetAt (w4.setCell ⟨g, 2, none⟩ (.slice A (n - 1) c)) g 1 r l' := ⟨A, c, by rw [HN1.out]; simpa using BS, by rw [HN1.out]; exact hrS, by rw [HN1.out]; rw [HRR.out]; cases A <;> rfl⟩
  have THR := BX4.there 0 3 (by simp [vcells])
  have BX5 := BX4.sets (vcells p) 0 (by simp [vcells])
  have e5 : (vcells zv).take 0 ++ vcells p ++ (vcells zv).drop (0 + (vcells p).length) = vcells p := by simp [vcells]
  rw [e5] at BX5
  obtain ⟨N5, T5⟩ := own_store hgl HR NS T4S w.heap.size (Nat.le_refl _) (vcells p) 0
  obtain ⟨W5, hW5⟩ : ∃ W5, W5 = (w4.setCell ⟨g, 2, none⟩ (.slice A (n - 1) c)).setCells w.heap.size 0 (vcells p) := ⟨_, rfl⟩
  have HW5 := Lib.hid hW5
  rw [← hW5] at N5 T5 BX5
  have N6 := Lib.hid (N5.lock 0)
  have T6 := Lib.hid (T5.trans (Turn2.setCell _ g 0 (.int .i32 0) r) (.inl rfl))
  have BX6 := Lib.hid (BX5.setOther (b := g) 0 (.int .i32 0) (by omega))
  have RX := Lib.hid (F4.range 0 (vcells p) (by simp [vcells]))
  obtain ⟨h2, f2⟩ := N5.cell0
  clear HD HBN HT3 HBX3 HF3 BN4 T4 BX4 F4 BS hrS T4S NS N5 T5 BX5 e5 hW5 hrow4 hg4
  go_wp2_with (first
    | (refine wpList_load_mid rfl 59 (.tmp 6) rfl w2.heap.size 0 rfl (vcells p) _ RX.out hu rfl info_pk ?_)
    | (refine wpList_store_mid rfl 59 (.tmp 4) (.tmp 36) rfl w.heap.size 0 (vcells p).toArray rfl rfl THR info_pk (all_oneCell_toArray (vcells_one p)) ?_
       rw [show (w4.setCell ⟨g, 2, none⟩ (.slice A (n - 1) c)).setCells w.heap.size 0 (vcells p).toArray.toList = W5 from HW5.out.symm])
    | fail)
  refine leaves_cons (f := 45) (args := #[.pointer (some ⟨g, 0, none⟩)]) (by simp) (by simp [go_sem]) ?_
  refine (unlock_deferred muLib ⟨g, 0, none⟩ .returning _ h2 f2).mono ?_
  rintro e u' w'' ⟨rfl, rfl, rfl⟩
  exact ⟨_, results_cellb (p := 5) (q := 4) rfl _ _ w.heap.size (vcells p) _ _ rfl rfl BX6.out hu rfl info_pk, r, rfl, HLP.out ▸ N6.out, T6.out, .inl rfl⟩
end Go.Proofs.Ytlagodbkkkdmkaa
