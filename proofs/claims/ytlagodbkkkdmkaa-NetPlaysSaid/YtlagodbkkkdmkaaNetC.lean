/- Nets: send. -/
import Derived.Test.YtlagodbkkkdmkaaNetB
import Derived.Deep.RegionHeld3
import Derived.Deep.AppendLies
namespace Go.Proofs.Ytlagodbkkkdmkaa
set_option linter.unusedVariables false
set_option linter.unusedSimpArgs false
open Go Go.RowKit Go.MuLone

theorem info_pkd : (Try.prog.info? 59).map (fun i => (i.zero, i.size, i.bytes)) = some (some (.agg #[.int .i64 0, .int .i64 0, .string ⟨#[]⟩]), 3, 32) := by kernel_rfl

theorem row_set {w : World} {g : Nat} {e : TypeId} {size n : Nat} {v : Value} {xs : List Value} (h : w.ownsRow (g + 1) e size v n xs) (j : Nat) (u : Value) : (w.setCell ⟨g, j, none⟩ u).ownsRow (g + 1) e size v n xs := by
  obtain ⟨h1, h2⟩ := h
  refine ⟨h1, h2.imp id fun ⟨k, cap, cur, e1, e2, e3, e4⟩ => ⟨k, cap, cur, e1, e2, ?_, e4⟩⟩
  exact (Below.heap_setCell w ⟨g, j, none⟩ u k (by simp only; omega)).trans e3
theorem Turn2.of_grown {w w' : World} {g : Nat} {r : Option Nat} (h : w.grownBy w' r) : Turn2 w w' g r := ⟨h.os, h.tape, h.output, h.size, fun k hk _ hr => h.block k hk hr⟩
/-- What a call of send has made. -/
def Sent (w : World) (g : Nat) (r : Option Nat) (l : List V3) (b : Bool) : Ending → World → Prop := fun e w' => ∃ r', e = .returned (.bool b) ∧ NetAt w' g 1 r' l ∧ Turn2 w w' g r ∧ (r' = r ∨ ∀ k, r' = some k → w.heap.size ≤ k)
theorem sent_end {w w2 w1 : World} {g n c cap gg : Nat} {A : Option Addr} {l : List V3} {v : V3} (hn : l.length = n) (hB : Blk w g [.int .i32 1, .int .u32 0, .slice A n c]) (hb : Below w.heap.size w w2) (hgrow : w2.grownBy w1 (Value.slice A n c).ownBlock)
    (ag : (Value.slice A n c).ownBlock ≠ some g) (hown : w1.ownsRow (g + 1) 59 3 (.slice (some ⟨gg, 0, none⟩) (n + 1) cap) (n + 1) (fcells l ++ vcells v)) (hat : (Value.slice A n c).ownBlock = some gg ∨ w.heap.size ≤ gg) :
    Sent w g (Value.slice A n c).ownBlock (l ++ [v]) true (.returned (.bool true)) (w1.setCell ⟨g, 2, none⟩ (.slice (some ⟨gg, 0, none⟩) (n + 1) cap)) := by
  have hl : (l ++ [v]).length = n + 1 := by simp [hn]
  refine ⟨some gg, rfl, ⟨some ⟨gg, 0, none⟩, cap, ?_, ?_, rfl⟩, ?_, ?_⟩
  · rw [hl]
    have := ((hB.later hb).kept hgrow ag).set 2 (.slice (some ⟨gg, 0, none⟩) (n + 1) cap)
    simpa using this
  · rw [hl]
    have := row_set hown 2 (.slice (some ⟨gg, 0, none⟩) (n + 1) cap)
    rw [show fcells (l ++ [v]) = fcells l ++ vcells v by simp [fcells]]
    exact this
  · exact ((Turn2.of_below hb g _).trans (Turn2.of_grown hgrow) (.inl rfl)).trans (Turn2.setCell _ g 2 _ _) (.inl rfl)
  · rcases hat with h | h
    · exact .inl h.symm
    · exact .inr fun k hk => by cases hk; exact h

set_option maxRecDepth 100000 in
set_option maxHeartbeats 3200000 in
theorem send_more (w : World) (g : Nat) (A : Option Addr) (c n : Nat) (l : List V3) (v0 v1 : Int) (v2 : ByteArray) (hn : l.length = n) (hB : Blk w g [.int .i32 1, .int .u32 0, .slice A n c]) (hr : w.ownsRow (g + 1) 59 3 (.slice A n c) n (fcells l)) (hl : n < 40) :
    Calls Try.prog 46 #[.pointer (some ⟨g, 0, none⟩), .agg #[.int .i64 v0, .int .i64 v1, .string v2]] w (Sent w g (Value.slice A n c).ownBlock (l ++ [(v0, v1, v2)]) true) := by
  obtain ⟨i0, hi0, hz0, hz1, hz2⟩ := info_parts info_pkd
  have HB := Lib.hid hB
  have HN := Lib.hid hn
  have HBB := Lib.hid ((((Below.refl w.heap.size w).alloc (Nat.le_refl _) (.cells #[.int .i64 v0, .int .i64 v1, .string v2] 59)).alloc (by simp) (.cells #[.int .i64 v0, .int .i64 v1, .string v2] 59)).drew)
  have hgl := hB.lt
  have hrl := hr.lt
  have h2 : w.cell? ⟨g, 2, none⟩ = some (.slice A n c) := hB.cell rfl
  have d1 : decide ((40 : Int) ≤ (n : Int)) = false := decide_eq_false (by omega)
  have d2 : decide (40 ≤ n) = false := decide_eq_false (by omega)
  have ag : (Value.slice A n c).ownBlock ≠ some g := fun e => by have := hrl g e; omega
  have BX := Blk.new w (vcells (v0, v1, v2)) 59
  have x0 : (w.alloc (.cells #[.int .i64 v0, .int .i64 v1, .string v2] 59)).cell? ⟨w.heap.size, 0, none⟩ = some (.int .i64 v0) := BX.cell rfl
  have x1 : (w.alloc (.cells #[.int .i64 v0, .int .i64 v1, .string v2] 59)).cell? ⟨w.heap.size, 1, none⟩ = some (.int .i64 v1) := BX.cell rfl
  have x2 : (w.alloc (.cells #[.int .i64 v0, .int .i64 v1, .string v2] 59)).cell? ⟨w.heap.size, 2, none⟩ = some (.string v2) := BX.cell rfl
  have h2' : (w.alloc (.cells #[.int .i64 v0, .int .i64 v1, .string v2] 59)).cell? ⟨g, 2, none⟩ = some (.slice A n c) := (hB.alloc _).cell rfl
  have ar : (Value.slice A n c).ownBlock ≠ some w.heap.size := fun e => by have := hrl _ e; omega
  have f2' : (w.alloc (.cells #[.int .i64 v0, .int .i64 v1, .string v2] 59)).frozen? ⟨g, 2, none⟩ = false := (hB.alloc _).frozen 2
  have HNB : ((w.alloc (.cells #[.int .i64 v0, .int .i64 v1, .string v2] 59)).alloc (.cells #[.int .i64 v0, .int .i64 v1, .string v2] 59)).drew.heap[w.heap.size + 1]? = some (.cells #[.int .i64 v0, .int .i64 v1, .string v2] 59) := by
    have h := heap_alloc_new (w.alloc (.cells #[.int .i64 v0, .int .i64 v1, .string v2] 59)) (.cells #[.int .i64 v0, .int .i64 v1, .string v2] 59)
    rw [show (w.alloc (.cells #[.int .i64 v0, .int .i64 v1, .string v2] 59)).heap.size = w.heap.size + 1 by simp] at h
    exact h
  have FZ2 : ((w.alloc (.cells #[.int .i64 v0, .int .i64 v1, .string v2] 59)).alloc (.cells #[.int .i64 v0, .int .i64 v1, .string v2] 59)).drew.frozen? ⟨g, 2, none⟩ = false := ((hB.alloc _).alloc _).drew.frozen 2
  have CZ2 : ((w.alloc (.cells #[.int .i64 v0, .int .i64 v1, .string v2] 59)).alloc (.cells #[.int .i64 v0, .int .i64 v1, .string v2] 59)).drew.cell? ⟨g, 2, none⟩ = some (.slice A n c) := ((hB.alloc _).alloc _).drew.cell rfl
  go_enter Try.func46, Try.ntmps46
  go_wp2_with fail
  go_region_law
    ((refine step_append_lies _ (by rfl) _ _ _ (by rfl) (g + 1) 59 i0 _ 3 32 Try.underlying72 hi0 hz0 hz1 hz2 rfl (by omega) (.slice A n c) n (fcells l) (by rfl) (((hr.alloc _).alloc _).drew)
        ⟨w.heap.size + 1, 0, none⟩ 1 1 [.int .i64 v0, .int .i64 v1, .string v2] (by rfl) (by rfl) (World.news_of_block (cs := #[.int .i64 v0, .int .i64 v1, .string v2]) (t := 59) (fr := (0, 0)) HNB) (by simp [Value.oneCell'])
        (by omega) (by unfold maxLen; omega) (by omega) (by simp; omega) (w.heap.size + 2) (by simp) ?_; intro gg cap w1 hown1 hgrow hat hlt; have hfz : w1.frozen? ⟨g, 2, none⟩ = false := (hgrow.frozen_far ⟨g, 2, none⟩ (by simp; omega) (Ne.symm ag)).trans FZ2; have hc2 : w1.cell? ⟨g, 2, none⟩ = some (.slice A n c) := (hgrow.cell_far ⟨g, 2, none⟩ (by simp; omega) (Ne.symm ag)).trans CZ2))
  all_goals
    go_wp2
    go_ret
    exact sent_end HN.out HB.out HBB.out hgrow ag hown1 (hat.imp id (fun h => by omega))

theorem net_send (w : World) (g : Nat) (r : Option Nat) (l : List V3) (v : V3) (h : NetAt w g 1 r l) :
    Calls Try.prog 46 #[.pointer (some ⟨g, 0, none⟩), .agg (vcells v).toArray] w (Sent w g r (if l.length < 40 then l ++ [v] else l) (decide (l.length < 40))) := by
  obtain ⟨A, c, B, hr, rfl⟩ := h
  obtain ⟨v0, v1, v2⟩ := v
  by_cases hl : l.length < 40
  · rw [if_pos hl, decide_eq_true hl]
    exact send_more w g A c l.length l v0 v1 v2 rfl B hr hl
  · rw [if_neg hl, decide_eq_false hl]
    have B1 := B.alloc (.cells #[.int .i64 v0, .int .i64 v1, .string v2] 59)
    have HE : Hid (∀ W, W = w.alloc (.cells #[.int .i64 v0, .int .i64 v1, .string v2] 59) → Sent w g (Value.slice A l.length c).ownBlock l false (.returned (.bool false)) W) := Lib.hid (fun W hW => by
      subst hW
      exact ⟨_, rfl, ⟨A, c, B1, hr.alloc _, rfl⟩, Turn2.of_below ((Below.refl w.heap.size w).alloc (Nat.le_refl _) _) g _, .inl rfl⟩)
    have h2 := B1.cell (j := 2) rfl
    obtain ⟨n, hn⟩ : ∃ n, n = l.length := ⟨_, rfl⟩
    rw [← hn] at h2 hl HE ⊢
    have d1 : decide ((40 : Int) ≤ (n : Int)) = true := decide_eq_true (by omega)
    have d2 : decide (40 ≤ n) = true := decide_eq_true (by omega)
    clear hn hr B B1 hl
    show Calls Try.prog 46 #[.pointer (some ⟨g, 0, none⟩), .agg #[.int .i64 v0, .int .i64 v1, .string v2]] w _
    go_enter Try.func46, Try.ntmps46
    go_wp2_with fail
    go_ret
    exact HE.out _ rfl
end Go.Proofs.Ytlagodbkkkdmkaa
