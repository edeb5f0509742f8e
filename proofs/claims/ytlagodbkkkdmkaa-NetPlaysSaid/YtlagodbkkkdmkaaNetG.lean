/- slices.Delete of one packet: what the row holds. -/
import Derived.Test.YtlagodbkkkdmkaaNetF
import Derived.Deep.RegionLaw
import Derived.Lib.SliceRun
namespace Go.Proofs.Ytlagodbkkkdmkaa
set_option linter.unusedVariables false
set_option linter.unusedSimpArgs false
open Go Go.RowKit Go.MuLone

theorem run_clear1 {P : Program} (w : World) (t e ty : TypeId) (ht : P.underlying t = some (.slice e)) (hv : ∀ w, (zeroValue e).run P w = .ok (.agg #[.int .i64 0, .int .i64 0, .string ⟨#[]⟩]) w) (b o c : Nat)
    (hc : ∀ j, j < 3 → (w.cell? ⟨b, o + j, none⟩).isSome = true) (hf : ∀ j, j < 3 → w.frozen? ⟨b, o + j, none⟩ = false) :
    (Builtin.clear_ #[t] ty #[.slice (some ⟨b, o, none⟩) 1 c]).run P w = .ok (.tuple #[]) (w.setCells b o (vcells zv)) := by
  have hzc : (Builtin.zeroCells (Value.agg #[.int .i64 0, .int .i64 0, .string ⟨#[]⟩]).cells 1).toList = vcells zv := by kernel_rfl
  have hst := run_storeCells_cells (P := P) b o (vcells zv) 0 w (by simpa [vcells] using hc) (by simpa [vcells] using hf) (vcells_one zv)
  simp only [Nat.add_zero] at hst
  simp [Builtin.clear_, run_underlying ht, hv, hzc, hst]
theorem wpList_clear1 {P : Program} {ops : Array Oper} {rest : List Oper} {o : Oper} {a : Act} {w : World} {Q : Exit → Act → World → Prop} (hgd : o.guard = none) (s : Operand) (t e : TypeId)
    (ho : o.op = .call { callee := .builtin .clear, args := #[s], argTypes := #[t] }) (ht : P.underlying t = some (.slice e)) (hv : ∀ w, (zeroValue e).run P w = .ok (.agg #[.int .i64 0, .int .i64 0, .string ⟨#[]⟩]) w) (b k c : Nat) (hs : a.eval s = .slice (some ⟨b, k, none⟩) 1 c)
    (hc : ∀ j, j < 3 → (w.cell? ⟨b, k + j, none⟩).isSome = true) (hf : ∀ j, j < 3 → w.frozen? ⟨b, k + j, none⟩ = false)
    (h : wpList P ops Q rest (a.put o.dst (.tuple #[])) (w.setCells b k (vcells zv))) : wpList P ops Q (o :: rest) a w :=
  wpList_plain hgd fun _ hK => by
    have hr := run_clear1 (P := P) w t e o.type ht hv b k c hc hf
    unfold Oper.wp
    simp [execOp, ho, resolve, invoke, builtin, hs, hr, Result.andThen]
    exact hK _ _ h
theorem zero_pk (w : World) : (zeroValue 59).run Try.prog w = .ok (.agg #[.int .i64 0, .int .i64 0, .string ⟨#[]⟩]) w := Try.zeroValue59 w
/-- The cells that are moved: those behind a place. -/
def movedP (l : List V3) (i : Nat) : List Value := fcells (l.drop (i + 1))
theorem movedP_len (l : List V3) (i : Nat) : (movedP l i).length = (l.length - (i + 1)) * 3 := by
  unfold movedP; rw [fcells_len, List.length_drop]; omega

set_option maxRecDepth 100000 in
set_option maxHeartbeats 3200000 in
theorem del_pk (w : World) (g b c n i : Nat) (l : List V3) (cur : Array Value) (hn : l.length = n) (hi : i < n) (hcap : n ≤ c) (hcm : c ≤ maxLen) (hsz : cur.size = c * 3) (hh : w.heap[b]? = some (.cells cur 59 (0, 0))) (hcur : cur.toList.take (n * 3) = fcells l) (hn40 : n ≤ 40) :
    Calls Try.prog 48 #[.slice (some ⟨b, 0, none⟩) n c, .int .i64 i, .int .i64 (i + 1)] w fun e w' => e = .returned (.slice (some ⟨b, 0, none⟩) (n - 1) c) ∧ w' = (w.drew.setCells b (i * 3) (movedP l i)).setCells b ((n - 1) * 3) (vcells zv) := by
  obtain ⟨i0, hi0, hz0, hz1, hz2⟩ := info_parts info_pkd
  have hcell : ∀ j u, (fcells l)[j]? = some u → w.cell? ⟨b, j, none⟩ = some u := fun j u hu => by
    rw [← hcur, List.getElem?_take] at hu
    split at hu
    · simp [World.cell?, hh]; simpa using hu
    · cases hu
  have hfr : ∀ j, w.frozen? ⟨b, j, none⟩ = false := fun j => by simp [World.frozen?, hh]
  have hthere : ∀ j, j < c * 3 → (w.cell? ⟨b, j, none⟩).isSome = true := fun j hj => by
    simp [World.cell?, hh]; omega
  obtain ⟨A, hA, hnews⟩ : ∃ A : Addr, (if c = i + 1 then some (⟨b, 0, none⟩ : Addr) else some ⟨b, (i + 1) * 3, none⟩) = some A ∧ Hid (∀ j u, (movedP l i)[j]? = some u → w.drew.cell? (A.add j) = some u) := by
    by_cases h : c = i + 1
    · refine ⟨⟨b, 0, none⟩, by simp [h], fun j u hu => ?_⟩
      have h0 : (movedP l i).length = 0 := by rw [movedP_len]; omega
      rw [List.length_eq_zero_iff.1 h0] at hu
      simp at hu
    · refine ⟨⟨b, (i + 1) * 3, none⟩, by simp [h], fun j u hu => ?_⟩
      rw [Addr.add_lit]
      refine hcell _ u ?_
      unfold movedP at hu
      rw [← hu, show fcells (l.drop (i + 1)) = (fcells l).drop ((i + 1) * 3) from ?_, List.getElem?_drop]
      have h1 := List.take_append_drop (i + 1) l
      conv => rhs; rw [← h1]
      rw [show fcells (l.take (i + 1) ++ l.drop (i + 1)) = fcells (l.take (i + 1)) ++ fcells (l.drop (i + 1)) by unfold fcells; rw [List.flatMap_append], List.drop_left']
      rw [fcells_len, List.length_take]; omega
  have s1 : Hid ((movedP l i).length = (n - (i + 1)) * 3) := Lib.hid (by rw [movedP_len, hn])
  have s2 : Hid (∀ u ∈ movedP l i, u.oneCell' = true) := Lib.hid (fcells_one _)
  have s3 : Hid (∀ j, j < (movedP l i).length → (w.drew.cell? ⟨b, 0 + i * 3 + j, none⟩).isSome = true ∧ w.drew.frozen? ⟨b, 0 + i * 3 + j, none⟩ = false) := Lib.hid (fun j hj => by
    rw [s1.out] at hj
    exact ⟨hthere _ (by omega), hfr _⟩)
  have s4 : Hid (∀ j, j < 3 → ((w.drew.setCells b (i * 3) (movedP l i)).cell? ⟨b, (n - 1) * 3 + j, none⟩).isSome = true) := Lib.hid (fun j hj => World.isSome_setCells b _ _ _ _ (hthere _ (by omega)))
  have s5 : Hid (∀ j, j < 3 → (w.drew.setCells b (i * 3) (movedP l i)).frozen? ⟨b, (n - 1) * 3 + j, none⟩ = false) := Lib.hid (fun j hj => by rw [World.frozen?_setCells]; exact hfr _)
  have hic : i ≤ c := by omega
  have e1 : ((i : Int) == (i : Int) + 1) = false := by rw [beq_eq_false_iff_ne]; omega
  have hp0 : (0 : Int) ≤ (i : Int) + 1 := by omega
  have hp1 : (i : Int) + 1 ≤ (n : Int) := by omega
  have hp2 : ((i : Int) + 1).toNat = i + 1 := by omega
  have hp3 : (i : Int) ≤ (n : Int) := by omega
  have hp4 : (n : Int) ≤ (c : Int) := by omega
  have hp5 : (i : Int) ≤ (i : Int) + 1 := by omega
  clear hcell hfr hthere hcur hh
  go_enter Try.func48, Try.ntmps48
  go_wp2_with fail
  go_region_law (refine step_append_room rfl (.tmp 22) (.tmp 25) 72 rfl 59 i0 3 Try.underlying72 hi0 hz1 b 0 i c (by simp [Act.eval, Act.put]) A (n - (i + 1)) (c - (i + 1)) (movedP l i) (by simp [Act.eval, Act.put]) s1.out hnews.out s2.out (by omega) s3.out ?_)
  have m1 : i + (n - (i + 1)) = n - 1 := by omega
  have HM1 := Lib.hid m1
  have m2 : n - (n - 1) = 1 := by omega
  go_wp2_with (first
    | (refine wpList_clear1 rfl (.tmp 31) 72 59 rfl Try.underlying72 zero_pk b ((n - 1) * 3) (c - (n - 1)) (by rfl) s4.out s5.out ?_)
    | fail)
  go_ret
  exact ⟨rfl, rfl⟩
end Go.Proofs.Ytlagodbkkkdmkaa
