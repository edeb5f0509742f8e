/- Nets: Twice; the law's own to and long. -/
import Derived.Test.YtlagodbkkkdmkaaNetE
import Derived.Test.YtlagodbkkkdmkaaLoadG
namespace Go.Proofs.Ytlagodbkkkdmkaa
set_option linter.unusedVariables false
set_option linter.unusedSimpArgs false
open Go Go.RowKit Go.MuLone

set_option maxRecDepth 100000 in
set_option maxHeartbeats 3200000 in
theorem net_Twice (w : World) (g : Nat) (r : Option Nat) (l : List V3) (k : Int) (h : NetAt w g 0 r l) :
    Calls Try.prog 30 #[.pointer (some ⟨g, 0, none⟩), .int .i64 k] w (Put0 w g r (if pkIs l k = true ∧ l.length < 40 then l ++ [pkAt l k] else l) (.bool (pkIs l k && decide (l.length < 40)))) := by
  have hu := Try.underlying59
  have hgl : g < w.heap.size := by obtain ⟨A, c, B, _⟩ := h; exact B.lt
  have HR : ∀ k, r = some k → k < w.heap.size := fun k hk => (h.row k hk).2
  obtain ⟨h0, f0⟩ := h.cell0
  have N1 := Lib.hid (h.lock 1)
  have T1 := Lib.hid (Turn2.setCell w g 0 (.int .i32 1) r)
  have HL := Lib.hid (fun wx (hx : NetAt wx g 1 r l) => net_look wx g 1 r l k hx)
  obtain ⟨p, hp⟩ : ∃ p, p = pkAt l k := ⟨_, rfl⟩
  have HS := Lib.hid (fun wx (hx : NetAt wx g 1 r l) => net_send wx g r l p hx)
  obtain ⟨b, hbb⟩ : ∃ b, b = pkIs l k := ⟨_, rfl⟩
  rw [← hp, ← hbb] at HL
  rw [← hbb]
  obtain ⟨q, hq⟩ : ∃ q, q = decide (l.length < 40) := ⟨_, rfl⟩
  rw [← hq] at HS ⊢
  obtain ⟨l', hl'⟩ : ∃ l', l' = if b = true ∧ l.length < 40 then l ++ [p] else l := ⟨_, rfl⟩
  obtain ⟨x, hx⟩ : ∃ x, x = if l.length < 40 then l ++ [p] else l := ⟨_, rfl⟩
  rw [← hp, ← hl']
  rw [← hx] at HS
  have HLF : Hid (b = false → l' = l) := Lib.hid (fun e => by rw [hl', e]; simp)
  have HLT : Hid (b = true → l' = x) := Lib.hid (fun e => by rw [hl', hx, e]; simp)
  clear hp hbb h hq hl' hx
  go_enter_defers Try.func30, Try.ntmps30
  go_wp2_with fail
  refine (lock_free muLib ⟨g, 0, none⟩ _ h0 f0).mono ?_
  rintro e w1 ⟨rfl, hw1⟩
  rw [← hw1] at N1 T1
  clear hw1 h0 f0
  go_wp2_with fail
  refine (HL.out _ N1.out).mono ?_
  rintro e w2 ⟨rfl, hb2⟩
  have N2 := N1.out.later hb2
  have T2 := T1.out.trans (Turn2.of_below hb2 g r) (.inl rfl)
  obtain ⟨W3, hW3⟩ : ∃ W3, W3 = (w2.alloc (.cells #[.int .i64 0, .int .i64 0, .string ⟨#[]⟩] 59)).setCells w2.heap.size 0 (vcells p) := ⟨_, rfl⟩
  obtain ⟨F3, B3, _⟩ := pk_put w2 W3 p _ rfl hW3
  have TH := pk_there w2 3 rfl
  have HW3 := Lib.hid hW3
  have N3 := N2.later B3
  have T3 := T2.trans (Turn2.of_below B3 g r) (.inl rfl)
  have RX := Lib.hid (F3.range 0 (vcells p) (by simp [vcells]))
  clear N1 T1 HL N2 T2 hb2 B3 F3 hW3
  cases b with
  | false =>
    obtain rfl := HLF.out rfl
    have N4 := Lib.hid (N3.lock 0)
    have T4 := Lib.hid (T3.trans (Turn2.setCell _ g 0 (.int .i32 0) r) (.inl rfl))
    obtain ⟨h2, f2⟩ := N3.cell0
    clear HS N3 T3
    go_wp2_with (first
      | (refine wpList_store_mid rfl 59 (.tmp 5) (.tmp 20) rfl w2.heap.size 0 (vcells p).toArray rfl rfl TH info_pk (all_oneCell_toArray (vcells_one p)) ?_
         rw [show (w2.alloc (.cells #[.int .i64 0, .int .i64 0, .string ⟨#[]⟩] 59)).setCells w2.heap.size 0 (vcells p).toArray.toList = W3 from HW3.out.symm])
      | fail)
    refine leaves_cons (f := 45) (args := #[.pointer (some ⟨g, 0, none⟩)]) (by simp) (by simp [go_sem]) ?_
    refine (unlock_deferred muLib ⟨g, 0, none⟩ .returning _ h2 f2).mono ?_
    rintro e u' w'' ⟨rfl, rfl, rfl⟩
    exact ⟨_, results_tmp rfl _ _ _, r, rfl, N4.out, T4.out, .inl rfl⟩
  | true =>
    obtain rfl := HLT.out rfl
    have HN3 := Lib.hid N3
    have HT3 := Lib.hid T3
    clear N3 T3
    go_wp2_with (first
      | (refine wpList_store_mid rfl 59 (.tmp 5) (.tmp 20) rfl w2.heap.size 0 (vcells p).toArray rfl rfl TH info_pk (all_oneCell_toArray (vcells_one p)) ?_
         rw [show (w2.alloc (.cells #[.int .i64 0, .int .i64 0, .string ⟨#[]⟩] 59)).setCells w2.heap.size 0 (vcells p).toArray.toList = W3 from HW3.out.symm])
      | (refine wpList_load_g (by rfl) 59 (.tmp 5) rfl w2.heap.size 0 rfl (vcells p) _ RX.out hu rfl info_pk ?_)
      | fail)
    refine (HS.out _ HN3.out).mono ?_
    rintro e w4 ⟨r', rfl, N4, T4, hr4⟩
    have hz := HT3.out.size
    obtain ⟨h2, f2⟩ := N4.cell0
    have N5 := Lib.hid (N4.lock 0)
    have T5 := Lib.hid ((HT3.out.trans T4 (.inl rfl)).trans (Turn2.setCell _ g 0 (.int .i32 0) r) (.inl rfl))
    have HR2 : Hid (r' = r ∨ ∀ k, r' = some k → w.heap.size ≤ k) := Lib.hid (hr4.imp id (fun h k hk => Nat.le_trans hz (h k hk)))
    clear HS N4 T4 hr4 hz RX TH
    go_wp2_with fail
    refine leaves_cons (f := 45) (args := #[.pointer (some ⟨g, 0, none⟩)]) (by simp) (by simp [go_sem]) ?_
    refine (unlock_deferred muLib ⟨g, 0, none⟩ .returning _ h2 f2).mono ?_
    rintro e u' w'' ⟨rfl, rfl, rfl⟩
    exact ⟨_, results_tmp rfl _ _ _, r', by simp, N5.out, T5.out, HR2.out⟩
end Go.Proofs.Ytlagodbkkkdmkaa
