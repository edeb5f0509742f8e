/- Ledger: Raise. -/
import Derived.Test.YtadmaalhhigbeaaW30
namespace Go.Proofs.Ytadmaalhhigbeaa
set_option linter.unusedVariables false
set_option linter.unusedSimpArgs false
open Go Go.RowKit ValM

set_option maxRecDepth 100000 in
set_option maxHeartbeats 1600000 in
theorem aload_any (a : Addr) (d : Int) (w : World) (hc : w.cell? a = some (.int .i64 d)) :
    Calls Try.prog 58 #[.pointer (some a)] w fun e w' => e = .returned (.int .i64 d) ∧ w = w' := by
  have hl := run_call_load (P := Try.prog) Try.func86 (by kernel_rfl) (by kernel_rfl) (by kernel_rfl) .i64 (by kernel_rfl) hc
  obtain ⟨b, o, sp⟩ := a
  go_enter Try.func58, Try.ntmps58
  go_wp2
  go_ret
  exact ⟨rfl, rfl⟩
set_option maxRecDepth 100000 in
set_option maxHeartbeats 1600000 in
theorem aadd_any (a : Addr) (d : Int) (w : World) (hc : w.cell? a = some (.int .i64 d)) (hz : w.frozen? a = false) (h0 : 0 ≤ d) (h1 : d < 1099511627776) :
    Calls Try.prog 59 #[.pointer (some a), .int .i64 1] w fun e w' => e = .returned (.int .i64 (d + 1)) ∧ w.setCell a (.int .i64 (d + 1)) = w' := by
  have hl := run_call_add (P := Try.prog) Try.func87 (by kernel_rfl) (by kernel_rfl) (by kernel_rfl) .i64 (by kernel_rfl) (y := 1) (s := d + 1) hc hz (by
    have : IntKind.i64.wrap (d + 1) = d + 1 := by rw [IntKind.wrap_i64]; omega
    simp [go_sem, this])
  obtain ⟨b, o, sp⟩ := a
  clear h0 h1
  go_enter Try.func59, Try.ntmps59
  go_wp2
  go_ret
  exact ⟨rfl, rfl⟩
theorem LgAt.raise {w : World} {g : Nat} {es : List Int} {rs : List Rp} (h : LgAt w g es rs) (k : Nat) (hk : k < es.length) (e : Int) (he : 0 ≤ e ∧ e ≤ 1099511627776) : LgAt (w.setCell ⟨g, k, none⟩ (.int .i64 e)) g (es.set k e) rs := by
  refine ⟨?_, by rw [List.length_set]; exact h.le, h.lr, fun x hx => ?_, fun r hr => ?_⟩
  · have := h.blk.set k (.int .i64 e)
    rw [List.set_append_left _ _ (by simpa using hk), ← List.map_set] at this
    exact this
  · rcases List.mem_or_eq_of_mem_set hx with hx | rfl
    · exact h.er x hx
    · exact he
  · obtain ⟨a, b, c⟩ := h.ok r hr
    exact ⟨okRp.store (o := k) (vs := [.int .i64 e]) a b, b, c⟩
def rcode (es : List Int) (dv : Int) : Int := if (0 ≤ dv ∧ dv < 6) ∧ es.getD dv.toNat 0 < 1099511627776 then es.getD dv.toNat 0 + 1 else 0
def res (es : List Int) (dv : Int) : List Int := if (0 ≤ dv ∧ dv < 6) ∧ es.getD dv.toNat 0 < 1099511627776 then es.set dv.toNat (es.getD dv.toNat 0 + 1) else es
set_option maxRecDepth 100000 in
set_option maxHeartbeats 3200000 in
theorem lgraise_any (g : Nat) (es : List Int) (rs : List Rp) (dv : Int) (w : World) (h : LgAt w g es rs) :
    Calls Try.prog 27 #[.pointer (some ⟨g, 0, none⟩), .int .i64 dv] w fun e w' => e = .returned (.int .i64 (rcode es dv)) ∧ LgAt w' g (res es dv) rs ∧ w.grownBy w' (some g) := by
  by_cases h1 : 0 ≤ dv ∧ dv < 6
  · have HD := Lib.hid (fun W => lgdev_any dv W)
    rw [decide_eq_true h1] at HD
    obtain ⟨k, rfl⟩ : ∃ k : Nat, dv = (k : Int) := ⟨dv.toNat, by omega⟩
    have hk : k < es.length := by rw [h.le]; omega
    have hg : es.getD ((k : Int)).toNat 0 = es[k] := by simp [hk]
    have kc := h.epoch k hk
    have HL := Lib.hid (aload_any ⟨g, k, none⟩ es[k] w kc)
    have her := h.er es[k] (List.getElem_mem hk)
    have hnk : ¬ (6 : Int) ≤ (k : Int) := by omega
    have hnk2 : ¬ 6 ≤ k := by omega
    by_cases h2 : es[k] < 1099511627776
    · have e1 : rcode es k = es[k] + 1 := by unfold rcode; rw [hg, if_pos ⟨h1, h2⟩]
      have e2 : res es k = es.set k (es[k] + 1) := by unfold res; rw [hg, if_pos ⟨h1, h2⟩]; simp
      rw [e1, e2]
      have HA := Lib.hid (aadd_any ⟨g, k, none⟩ es[k] w kc (h.blk.blk.frozen k) her.1 h2)
      have HF := Lib.hid (h.raise k hk (es[k] + 1) ⟨by omega, by omega⟩)
      have HG : Hid (w.grownBy (w.setCell ⟨g, k, none⟩ (.int .i64 (es[k] + 1))) (some g)) := Lib.hid (grown_sets g [.int .i64 (es[k] + 1)] k w)
      have d1 : decide (1099511627776 ≤ es[k]) = false := decide_eq_false (by omega)
      clear e1 e2 h h1 h2 her kc
      generalize es.set k (es[k] + 1) = es2 at HF ⊢
      generalize es[k] = x at *
      clear hg
      go_enter Try.func27, Try.ntmps27
      go_wp2_with fail
      refine (HD.out _).mono ?_
      rintro e w2 ⟨rfl, rfl⟩
      go_wp2_with fail
      refine HL.out.mono ?_
      rintro e w2 ⟨rfl, rfl⟩
      go_wp2_with fail
      refine HA.out.mono ?_
      rintro e w2 ⟨rfl, rfl⟩
      go_wp2_with fail
      go_ret
      exact ⟨rfl, HF.out, HG.out⟩
    · have e1 : rcode es k = 0 := by unfold rcode; rw [hg, if_neg (fun x => h2 x.2)]
      have e2 : res es k = es := by unfold res; rw [hg, if_neg (fun x => h2 x.2)]
      rw [e1, e2]
      have HF := Lib.hid h
      have d1 : decide (1099511627776 ≤ es[k]) = true := decide_eq_true (by omega)
      clear e1 e2 h h1 h2 her kc
      generalize es[k] = x at *
      clear hg
      go_enter Try.func27, Try.ntmps27
      go_wp2_with fail
      refine (HD.out _).mono ?_
      rintro e w2 ⟨rfl, rfl⟩
      go_wp2_with fail
      refine HL.out.mono ?_
      rintro e w2 ⟨rfl, rfl⟩
      go_wp2_with fail
      go_ret
      exact ⟨rfl, HF.out, World.grownBy.refl _ _⟩
  · have HD := Lib.hid (fun W => lgdev_any dv W)
    rw [decide_eq_false h1] at HD
    have e1 : rcode es dv = 0 := by unfold rcode; rw [if_neg (fun x => h1 x.1)]
    have e2 : res es dv = es := by unfold res; rw [if_neg (fun x => h1 x.1)]
    rw [e1, e2]
    have HF := Lib.hid h
    clear h1 e1 e2 h
    go_enter Try.func27, Try.ntmps27
    go_wp2_with fail
    refine (HD.out _).mono ?_
    rintro e w2 ⟨rfl, rfl⟩
    go_wp2_with fail
    go_ret
    exact ⟨rfl, HF.out, World.grownBy.refl _ _⟩
end Go.Proofs.Ytadmaalhhigbeaa
