/- Nets: Send, Look, Twice: methods that lock. -/
import Derived.Test.YtlagodbkkkdmkaaNetC
namespace Go.Proofs.Ytlagodbkkkdmkaa
set_option linter.unusedVariables false
set_option linter.unusedSimpArgs false
open Go Go.RowKit Go.MuLone

theorem NetAt.later {w w' : World} {g : Nat} {st : Int} {r : Option Nat} {l : List V3} (h : NetAt w g st r l) (hb : Below w.heap.size w w') : NetAt w' g st r l := by
  obtain ⟨A, c, B, hr, e⟩ := h
  exact ⟨A, c, B.later hb, row_later hr hb, e⟩
/-- What a call of Send has made. -/
def Put0 (w : World) (g : Nat) (r : Option Nat) (l : List V3) (v : Value) : Ending → World → Prop := fun e w' => ∃ r', e = .returned v ∧ NetAt w' g 0 r' l ∧ Turn2 w w' g r ∧ (r' = r ∨ ∀ k, r' = some k → w.heap.size ≤ k)

set_option maxRecDepth 100000 in
set_option maxHeartbeats 3200000 in
theorem net_Send (w : World) (g : Nat) (r : Option Nat) (l : List V3) (v : V3) (h : NetAt w g 0 r l) :
    Calls Try.prog 25 #[.pointer (some ⟨g, 0, none⟩), .agg (vcells v).toArray] w (Put0 w g r (if l.length < 40 then l ++ [v] else l) (.bool (decide (l.length < 40)))) := by
  have hu := Try.underlying59
  have hgl : g < w.heap.size := by obtain ⟨A, c, B, _⟩ := h; exact B.lt
  have BX := Blk.new w (vcells v) 59
  have hb := (Below.refl w.heap.size w).alloc (Nat.le_refl _) (.cells (vcells v).toArray 59)
  obtain ⟨h0, f0⟩ := (h.later hb).cell0
  have N1 := Lib.hid ((h.later hb).lock 1)
  have T1 := Lib.hid ((Turn2.of_below hb g r).trans (Turn2.setCell _ g 0 (.int .i32 1) r) (.inl rfl))
  have RX := Lib.hid ((BX.setOther (b := g) 0 (.int .i32 1) (by omega)).range 0 (vcells v) (by simp [vcells]))
  have HI : Hid ((Try.prog.info? 59).map (·.size) = some (vcells v).length) := Lib.hid info_pk
  have HS := Lib.hid (fun wx (hx : NetAt wx g 1 r l) => net_send wx g r l v hx)
  obtain ⟨vc, hvc⟩ : ∃ vc, vc = vcells v := ⟨_, rfl⟩
  obtain ⟨q, hq⟩ : ∃ q, q = decide (l.length < 40) := ⟨_, rfl⟩
  obtain ⟨l', hl'⟩ : ∃ l', l' = if l.length < 40 then l ++ [v] else l := ⟨_, rfl⟩
  rw [← hvc] at BX hb h0 f0 N1 T1 RX HI HS ⊢
  rw [← hq, ← hl'] at HS ⊢
  clear hvc hq hl' BX hb h
  obtain ⟨arr, harr⟩ : ∃ arr, arr = vc.toArray := ⟨_, rfl⟩
  have HARR := Lib.hid harr
  rw [← harr] at h0 f0 N1 T1 RX HS ⊢
  clear harr
  go_enter_defers Try.func25, Try.ntmps25
  go_wp2_with fail
  refine (lock_free muLib ⟨g, 0, none⟩ _ h0 f0).mono ?_
  rintro e w1 ⟨rfl, hw1⟩
  rw [← hw1] at N1 T1 RX
  clear hw1 h0 f0
  go_wp2_with (first
    | (refine wpList_load_mid rfl 59 (.tmp 3) rfl w.heap.size 0 rfl vc _ RX.out hu rfl HI.out ?_; rw [← HARR.out])
    | fail)
  refine (HS.out _ N1.out).mono ?_
  rintro e w2 ⟨r', rfl, N2, T2, hr2⟩
  have hz := T1.out.size
  obtain ⟨h2, f2⟩ := N2.cell0
  have N3 := Lib.hid (N2.lock 0)
  have T3 := Lib.hid ((T1.out.trans T2 (.inl rfl)).trans (Turn2.setCell _ g 0 (.int .i32 0) r) (.inl rfl))
  have HR2 : Hid (r' = r ∨ ∀ k, r' = some k → w.heap.size ≤ k) := Lib.hid (hr2.imp id (fun h k hk => Nat.le_trans hz (h k hk)))
  clear N1 T1 RX HS N2 T2 hr2 hz hgl
  go_wp2_with fail
  refine leaves_cons (f := 45) (args := #[.pointer (some ⟨g, 0, none⟩)]) (by simp) (by simp [go_sem]) ?_
  refine (unlock_deferred muLib ⟨g, 0, none⟩ .returning _ h2 f2).mono ?_
  rintro e u' w'' ⟨rfl, rfl, rfl⟩
  exact ⟨_, results_tmp rfl _ _ _, r', rfl, N3.out, T3.out, HR2.out⟩
end Go.Proofs.Ytlagodbkkkdmkaa
