/- Groups: slices.Delete of one group of a row of the call's own. -/
import Derived.Test.YtglhgdkghddcaaaGrP
import Derived.Lib.SliceRun
namespace Go.Proofs.Ytglhgdkghddcaaa
set_option linter.unusedVariables false
set_option linter.unusedSimpArgs false
open Go Go.RowKit IdsM

theorem run_clear1z {P : Program} (w : World) (t e ty : TypeId) (z : Value) (cs : List Value) (ht : P.underlying t = some (.slice e)) (hv : ∀ w, (zeroValue e).run P w = .ok z w) (hzc : (Builtin.zeroCells z.cells 1).toList = cs) (h1 : ∀ v ∈ cs, v.oneCell' = true) (b o c : Nat)
    (hc : ∀ j, j < cs.length → (w.cell? ⟨b, o + j, none⟩).isSome = true) (hf : ∀ j, j < cs.length → w.frozen? ⟨b, o + j, none⟩ = false) :
    (Builtin.clear_ #[t] ty #[.slice (some ⟨b, o, none⟩) 1 c]).run P w = .ok (.tuple #[]) (w.setCells b o cs) := by
  have hst := run_storeCells_cells (P := P) b o cs 0 w (by simpa using hc) (by simpa using hf) h1
  simp only [Nat.add_zero] at hst
  simp [Builtin.clear_, run_underlying ht, hv, hzc, hst]
theorem wpList_clear1z {P : Program} {ops : Array Oper} {rest : List Oper} {o : Oper} {a : Act} {w : World} {Q : Exit → Act → World → Prop} (hgd : o.guard = none) (s : Operand) (t e : TypeId) (z : Value) (cs : List Value)
    (ho : o.op = .call { callee := .builtin .clear, args := #[s], argTypes := #[t] }) (ht : P.underlying t = some (.slice e)) (hv : ∀ w, (zeroValue e).run P w = .ok z w) (hzc : (Builtin.zeroCells z.cells 1).toList = cs) (h1 : ∀ v ∈ cs, v.oneCell' = true) (b k c : Nat) (hs : a.eval s = .slice (some ⟨b, k, none⟩) 1 c)
    (hc : ∀ j, j < cs.length → (w.cell? ⟨b, k + j, none⟩).isSome = true) (hf : ∀ j, j < cs.length → w.frozen? ⟨b, k + j, none⟩ = false)
    (h : wpList P ops Q rest (a.put o.dst (.tuple #[])) (w.setCells b k cs)) : wpList P ops Q (o :: rest) a w :=
  wpList_plain hgd fun _ hK => by
    have hr := run_clear1z (P := P) w t e o.type z cs ht hv hzc h1 b k c hc hf
    unfold Oper.wp
    simp [execOp, ho, resolve, invoke, builtin, hs, hr, Result.andThen]
    exact hK _ _ h
theorem zero_gp (w : World) : (zeroValue 41).run Try.prog w = .ok (.agg #[.int .i64 0, .slice none 0 0]) w := Try.zeroValue41 w
/-- The cells that are moved: those behind a place. -/
def movedG (l : List Gp) (i : Nat) : List Value := rws gpc (l.drop (i + 1))
theorem movedG_len (l : List Gp) (i : Nat) : (movedG l i).length = (l.length - (i + 1)) * 2 := by
  unfold movedG; rw [rws_len _ (gp_len _), List.length_drop]

set_option maxRecDepth 100000 in
set_option maxHeartbeats 3200000 in
theorem del_gp (w : World) (b c n i : Nat) (l : List Gp) (cur : Array Value) (hn : l.length = n) (hi : i < n) (hcap : n ≤ c) (hcm : c ≤ maxLen) (hsz : cur.size = c * 2) (hh : w.heap[b]? = some (.cells cur 41 (0, 0))) (hcur : cur.toList.take (n * 2) = rws gpc l) (hn40 : n ≤ 65536) :
    Calls Try.prog 38 #[.slice (some ⟨b, 0, none⟩) n c, .int .i64 i, .int .i64 (i + 1)] w fun e w' => e = .returned (.slice (some ⟨b, 0, none⟩) (n - 1) c) ∧ w' = (w.drew.setCells b (i * 2) (movedG l i)).setCells b ((n - 1) * 2) (gpc zg) := by
  obtain ⟨i0, hi0, hz0, hz1, hz2⟩ := info_grp
  have hcell : ∀ j u, (rws gpc l)[j]? = some u → w.cell? ⟨b, j, none⟩ = some u := fun j u hu => by
    rw [← hcur, List.getElem?_take] at hu
    split at hu
    · simp [World.cell?, hh]; simpa using hu
    · cases hu
  have hfr : ∀ j, w.frozen? ⟨b, j, none⟩ = false := fun j => by simp [World.frozen?, hh]
  have hthere : ∀ j, j < c * 2 → (w.cell? ⟨b, j, none⟩).isSome = true := fun j hj => by
    simp [World.cell?, hh]; omega
  obtain ⟨A, hA, hnews⟩ : ∃ A : Addr, (if c = i + 1 then some (⟨b, 0, none⟩ : Addr) else some ⟨b, (i + 1) * 2, none⟩) = some A ∧ Hid (∀ j u, (movedG l i)[j]? = some u → w.drew.cell? (A.add j) = some u) := by
    by_cases h : c = i + 1
    · refine ⟨⟨b, 0, none⟩, by simp [h], fun j u hu => ?_⟩
      have h0 : (movedG l i).length = 0 := by rw [movedG_len]; omega
      rw [List.length_eq_zero_iff.1 h0] at hu
      simp at hu
    · refine ⟨⟨b, (i + 1) * 2, none⟩, by simp [h], fun j u hu => ?_⟩
      rw [Addr.add_lit]
      refine hcell _ u ?_
      unfold movedG at hu
      rw [← hu, ← rws_drop l (i + 1) (gp_len l), List.getElem?_drop]
  have s1 : Hid ((movedG l i).length = (n - (i + 1)) * 2) := Lib.hid (by rw [movedG_len, hn])
  have s2 : Hid (∀ u ∈ movedG l i, u.oneCell' = true) := Lib.hid (rws_all (fun y _ => gpc_one y))
  have s3 : Hid (∀ j, j < (movedG l i).length → (w.drew.cell? ⟨b, 0 + i * 2 + j, none⟩).isSome = true ∧ w.drew.frozen? ⟨b, 0 + i * 2 + j, none⟩ = false) := Lib.hid (fun j hj => by
    rw [s1.out] at hj
    exact ⟨hthere _ (by omega), hfr _⟩)
  have s4 : Hid (∀ j, j < 2 → ((w.drew.setCells b (i * 2) (movedG l i)).cell? ⟨b, (n - 1) * 2 + j, none⟩).isSome = true) := Lib.hid (fun j hj => World.isSome_setCells b _ _ _ _ (hthere _ (by omega)))
  have s5 : Hid (∀ j, j < 2 → (w.drew.setCells b (i * 2) (movedG l i)).frozen? ⟨b, (n - 1) * 2 + j, none⟩ = false) := Lib.hid (fun j hj => by rw [World.frozen?_setCells]; exact hfr _)
  have hic : i ≤ c := by omega
  have e1 : ((i : Int) == (i : Int) + 1) = false := by rw [beq_eq_false_iff_ne]; omega
  have hp0 : (0 : Int) ≤ (i : Int) + 1 := by omega
  have hp1 : (i : Int) + 1 ≤ (n : Int) := by omega
  have hp2 : ((i : Int) + 1).toNat = i + 1 := by omega
  have hp3 : (i : Int) ≤ (n : Int) := by omega
  have hp4 : (n : Int) ≤ (c : Int) := by omega
  have hp5 : (i : Int) ≤ (i : Int) + 1 := by omega
  clear hcell hfr hthere hcur hh
  go_enter Try.func38, Try.ntmps38
  go_wp2_with fail
  go_region_law (refine step_append_room rfl (.tmp 22) (.tmp 25) 22 rfl 41 i0 2 Try.underlying22 hi0 hz1 b 0 i c (by simp [Act.eval, Act.put]) A (n - (i + 1)) (c - (i + 1)) (movedG l i) (by simp [Act.eval, Act.put]) s1.out hnews.out s2.out (by omega) s3.out ?_)
  have m1 : i + (n - (i + 1)) = n - 1 := by omega
  have HM1 := Lib.hid m1
  have m2 : n - (n - 1) = 1 := by omega
  go_wp2_with (first
    | (refine wpList_clear1z rfl (.tmp 31) 22 41 _ (gpc zg) rfl Try.underlying22 zero_gp (by kernel_rfl) (gpc_one zg) b ((n - 1) * 2) (c - (n - 1)) (by rfl) s4.out s5.out ?_)
    | fail)
  go_ret
  exact ⟨rfl, rfl⟩

theorem del_grow (w : World) (base n c i : Nat) (A : Option Addr) (l : List Gp) (hn : l.length = n) (hi : i < n) (hn40 : n ≤ 65536) (hr : w.ownsRow base 41 2 (.slice A n c) n (rws gpc l)) :
    Calls Try.prog 38 #[.slice A n c, .int .i64 i, .int .i64 (i + 1)] w fun e w' => e = .returned (.slice A (n - 1) c) ∧ w'.ownsRow base 41 2 (.slice A (n - 1) c) (n - 1) (rws gpc (l.take i ++ l.drop (i + 1))) ∧ w.grownBy w' (Value.slice A n c).ownBlock := by
  obtain ⟨h1, h2 | ⟨b, cap, cur, e1, e2, e3, e4, e5, e6, e7⟩⟩ := hr
  · omega
  · cases e1
    refine (del_gp w b c n i l cur hn hi e4 e5 e6 e3 e7 hn40).mono ?_
    rintro e w' ⟨rfl, rfl⟩
    have hml := movedG_len l i
    rw [hn] at hml
    have hzl : (gpc zg).length = 2 := rfl
    have B0 : BT w.drew b cur.toList 41 := by unfold BT; rw [Array.toArray_toList]; exact e3
    have hcl : cur.toList.length = c * 2 := by simpa using e6
    have B1 := B0.sets (movedG l i) (i * 2) (by rw [hml, hcl]; omega)
    have l1 : (cur.toList.take (i * 2) ++ movedG l i ++ cur.toList.drop (i * 2 + (movedG l i).length)).length = c * 2 := by
      simp only [List.length_append, List.length_take, List.length_drop, hml, hcl]; omega
    have B2 := B1.sets (gpc zg) ((n - 1) * 2) (by rw [l1, hzl]; omega)
    have hfl : (rws gpc (l.take i ++ l.drop (i + 1))).length = (n - 1) * 2 := by
      rw [rws_len _ (gp_len _), List.length_append, List.length_take, List.length_drop, hn]; omega
    have key : cur.toList.take (i * 2) ++ movedG l i = rws gpc (l.take i ++ l.drop (i + 1)) := by
      rw [rws_append, ← rws_take l i (gp_len l), ← e7, List.take_take, Nat.min_eq_left (by omega)]; rfl
    rw [key] at B2 l1
    refine ⟨rfl, ⟨hfl, .inr ⟨b, c, _, rfl, e2, B2, by omega, e5, ?_, ?_⟩⟩, ?_⟩
    · simp only [List.size_toArray, List.length_append, List.length_take, List.length_drop, hzl, hcl, hml, hfl]; omega
    · simp only [List.append_assoc]
      rw [List.take_append_of_le_length (by rw [List.length_take, List.length_append, hfl]; omega), List.take_append_of_le_length (by rw [hfl]; exact Nat.le_refl _), List.take_take, Nat.min_self, List.take_of_length_le (by rw [hfl]; exact Nat.le_refl _)]
    · exact ((grown_drew w _).trans (grown_sets _ _ _ _)).trans (grown_sets _ _ _ _)
end Go.Proofs.Ytglhgdkghddcaaa
