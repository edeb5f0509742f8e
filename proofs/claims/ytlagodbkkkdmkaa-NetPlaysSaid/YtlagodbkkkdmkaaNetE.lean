/- Nets: Look, Twice. -/
import Derived.Test.YtlagodbkkkdmkaaNetD
namespace Go.Proofs.Ytlagodbkkkdmkaa
set_option linter.unusedVariables false
set_option linter.unusedSimpArgs false
open Go Go.RowKit Go.MuLone

theorem NetAt.same {w w' : World} {g : Nat} {st : Int} {r : Option Nat} {l : List V3} (h : NetAt w g st r l) (hk : ∀ k, k = g ∨ some k = r → w'.heap[k]? = w.heap[k]?) : NetAt w' g st r l := by
  obtain ⟨A, c, ⟨t, B⟩, ⟨h1, h2⟩, e⟩ := h
  refine ⟨A, c, ⟨t, (hk g (.inl rfl)).trans B⟩, ⟨h1, h2.imp id fun ⟨k, cap, cur, e1, e2, e3, e4⟩ => ⟨k, cap, cur, e1, e2, (hk k (.inr ?_)).trans e3, e4⟩⟩, e⟩
  rw [e, e1]; rfl
/-- A store into a block of the call's own. -/
theorem own_store {w w2 : World} {g : Nat} {r : Option Nat} {st : Int} {l : List V3} (hg : g < w.heap.size) (hr : ∀ k, r = some k → k < w.heap.size) (N : NetAt w2 g st r l) (T : Turn2 w w2 g r) (m : Nat) (hm : w.heap.size ≤ m) (vs : List Value) (o : Nat) :
    NetAt (w2.setCells m o vs) g st r l ∧ Turn2 w (w2.setCells m o vs) g r := by
  have G := grown_sets m vs o w2
  refine ⟨N.same fun k hk => G.block k ?_ ?_, ⟨G.os.trans T.os, G.tape.trans T.tape, G.output.trans T.output, Nat.le_trans T.size G.size, fun i hi h1 h2 => (G.block i (Nat.lt_of_lt_of_le hi T.size) (by simp; omega)).trans (T.block i hi h1 h2)⟩⟩
  · have := T.size
    rcases hk with rfl | hk
    · omega
    · have := hr k hk.symm; omega
  · rcases hk with rfl | hk
    · simp; omega
    · have := hr k hk.symm
      simp; omega

set_option maxRecDepth 100000 in
set_option maxHeartbeats 3200000 in
theorem net_Look (w : World) (g : Nat) (r : Option Nat) (l : List V3) (k : Int) (h : NetAt w g 0 r l) :
    Calls Try.prog 32 #[.pointer (some ⟨g, 0, none⟩), .int .i64 k] w (Put0 w g r l (.tuple #[.agg (vcells (pkAt l k)).toArray, .bool (pkIs l k)])) := by
  have hu := Try.underlying59
  have hgl : g < w.heap.size := by obtain ⟨A, c, B, _⟩ := h; exact B.lt
  have HR : ∀ k, r = some k → k < w.heap.size := fun k hk => (h.row k hk).2
  have BX := Blk.new w (vcells zv) 59
  have hb := (Below.refl w.heap.size w).alloc (Nat.le_refl _) (.cells (vcells zv).toArray 59)
  obtain ⟨h0, f0⟩ := (h.later hb).cell0
  have N1 := Lib.hid ((h.later hb).lock 1)
  have T1 := Lib.hid ((Turn2.of_below hb g r).trans (Turn2.setCell _ g 0 (.int .i32 1) r) (.inl rfl))
  have BX1 := Lib.hid (BX.setOther (b := g) 0 (.int .i32 1) (by omega))
  have HL := Lib.hid (fun wx (hx : NetAt wx g 1 r l) => net_look wx g 1 r l k hx)
  obtain ⟨p, hp⟩ : ∃ p, p = pkAt l k := ⟨_, rfl⟩
  obtain ⟨b, hbb⟩ : ∃ b, b = pkIs l k := ⟨_, rfl⟩
  rw [← hp, ← hbb] at HL ⊢
  clear hp hbb BX hb h
  go_enter_defers Try.func32, Try.ntmps32
  go_wp2_with fail
  refine (lock_free muLib ⟨g, 0, none⟩ _ h0 f0).mono ?_
  rintro e w1 ⟨rfl, hw1⟩
  have hw1' : w1 = (w.alloc (.cells (vcells zv).toArray 59)).setCell ⟨g, 0, none⟩ (.int .i32 1) := hw1
  rw [← hw1'] at N1 T1 BX1
  clear hw1 hw1' h0 f0
  go_wp2_with fail
  refine (HL.out _ N1.out).mono ?_
  rintro e w2 ⟨rfl, hb2⟩
  have N2 := N1.out.later hb2
  have T2 := T1.out.trans (Turn2.of_below hb2 g r) (.inl rfl)
  have BX2 := BX1.out.later hb2
  have hpl : (vcells p).length = 3 := rfl
  have TH := BX2.there 0 (vcells p).length (by simp [vcells])
  have BX3 := BX2.sets (vcells p) 0 (by simp [vcells])
  have e3 : (vcells zv).take 0 ++ vcells p ++ (vcells zv).drop (0 + (vcells p).length) = vcells p := by simp [vcells]
  rw [e3] at BX3
  obtain ⟨N3, T3⟩ := own_store hgl HR N2 T2 w.heap.size (Nat.le_refl _) (vcells p) 0
  obtain ⟨W3, hW3⟩ : ∃ W3, W3 = w2.setCells w.heap.size 0 (vcells p) := ⟨_, rfl⟩
  have HW3 := Lib.hid hW3
  rw [← hW3] at N3 T3 BX3
  have N4 := Lib.hid (N3.lock 0)
  have T4 := Lib.hid (T3.trans (Turn2.setCell _ g 0 (.int .i32 0) r) (.inl rfl))
  have BX4 := Lib.hid (BX3.setOther (b := g) 0 (.int .i32 0) (by omega))
  obtain ⟨h2, f2⟩ := N3.cell0
  clear N1 T1 BX1 HL N2 T2 BX2 BX3 e3 hW3 N3 T3 hb2
  go_wp2_with (first
    | (refine wpList_store_mid rfl 59 (.tmp 4) (.tmp 19) rfl w.heap.size 0 (vcells p).toArray rfl rfl TH info_pk (all_oneCell_toArray (vcells_one p)) ?_
       rw [show w2.setCells w.heap.size 0 (vcells p).toArray.toList = W3 from HW3.out.symm])
    | fail)
  refine leaves_cons (f := 45) (args := #[.pointer (some ⟨g, 0, none⟩)]) (by simp) (by simp [go_sem]) ?_
  refine (unlock_deferred muLib ⟨g, 0, none⟩ .returning _ h2 f2).mono ?_
  rintro e u' w'' ⟨rfl, rfl, rfl⟩
  exact ⟨_, results_cellb (p := 5) (q := 4) rfl _ _ w.heap.size (vcells p) _ _ rfl rfl BX4.out hu rfl info_pk, r, rfl, N4.out, T4.out, .inl rfl⟩
end Go.Proofs.Ytlagodbkkkdmkaa
