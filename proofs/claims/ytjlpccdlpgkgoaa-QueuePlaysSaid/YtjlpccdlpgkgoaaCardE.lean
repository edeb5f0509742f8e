/- When two values, fields, cards, patches are the same: what == gives. -/
import Derived.Test.YtjlpccdlpgkgoaaCardC
import Derived.Laws.StructEq
namespace Go.Proofs.Ytjlpccdlpgkgoaa
set_option linter.unusedVariables false
open Go Go.RowKit BitM

theorem fieldsV : Try.prog.underlying 29 = some (.struct (Try.prog.fieldsOf 29)) := by kernel_rfl
theorem fieldsC : Try.prog.underlying 32 = some (.struct (Try.prog.fieldsOf 32)) := by kernel_rfl
theorem fieldsP : Try.prog.underlying 34 = some (.struct (Try.prog.fieldsOf 34)) := by kernel_rfl
theorem list_str (a b : ByteArray) : a.toList = b.toList ↔ a = b := by
  rw [ByteArray.toList_eq, ByteArray.toList_eq]
  constructor
  · intro h
    apply ByteArray.ext
    apply Array.ext'
    exact h
  · rintro rfl; rfl
theorem ite_ok {p : Prop} [Decidable p] (w : World) : (if p then Result.ok true w else Result.ok false w) = Result.ok (decide p) w := by
  by_cases h : p <;> simp [h]

theorem eq_val (d : Nat) (u v : V3) (w : World) : (Op.equalIn (d + 2) 29 (.agg (vcells u).toArray) (.agg (vcells v).toArray)).run Try.prog w = .ok (decide (u = v)) w := by
  obtain ⟨a, b, c⟩ := u
  obtain ⟨a', b', c'⟩ := v
  rw [run_equalIn_agg w (d + 1) 29 _ _ fieldsV (by kernel_rfl)]
  have e : (Try.prog.fieldsOf 29).toList = [⟨"Kind", 3, 0, false, "", "", 0⟩, ⟨"N", 3, 1, false, "", "", 8⟩, ⟨"S", 9, 2, false, "", "", 16⟩] := by kernel_rfl
  rw [e]
  simp only [vcells, Op.eqFields]
  simp [go_sem, part, isAgg]
  by_cases h1 : a = a' <;> by_cases h2 : b = b' <;> simp [h1, h2, list_str, ite_ok]

theorem fcells_ext (f : List V3) (i : Nat) (h : i < f.length) : (fcells f).toArray.extract (i * 3) (i * 3 + 3) = (vcells f[i]).toArray := by
  rw [← fcells_drop f i h, Nat.mul_comm i 3]
  simp [List.extract_eq_take_drop]
theorem all_fields : ∀ (f g : List V3), f.length = g.length → ((List.range f.length).all fun i => decide (f.getD i zv = g.getD i zv)) = decide (f = g)
  | [], [], _ => rfl
  | x :: xs, y :: ys, h => by
    have ih := all_fields xs ys (by simpa using h)
    rw [List.length_cons, List.range_succ_eq_map, List.all_cons, List.all_map]
    simp only [List.getD_cons_zero, Function.comp_def, List.getD_cons_succ, ih]
    by_cases h1 : x = y <;> by_cases h2 : xs = ys <;> simp [h1, h2]
  | [], _ :: _, h => by simp at h
  | _ :: _, [], h => by simp at h
theorem eq_fields (d : Nat) (f g : List V3) (hf : f.length = 8) (hg : g.length = 8) (w : World) :
    (Op.equalIn (d + 3) 30 (.agg (fcells f).toArray) (.agg (fcells g).toArray)).run Try.prog w = .ok (decide (f = g)) w := by
  have hsz : ∀ w, (sizeOf 29).run Try.prog w = .ok 3 w := fun w => by kernel_rfl
  have hag : ∀ w, (isAgg 29).run Try.prog w = .ok true w := fun w => by kernel_rfl
  rw [← all_fields f g (hf.trans hg.symm), hf, List.range_eq_range', Op.equalIn]
  simp only [Sem.run_bind, run_underlying Try.underlying30, Result.andThen_ok, hsz, Std.Legacy.Range.forIn_eq_forIn_range', Std.Legacy.Range.size, Nat.sub_zero, Nat.add_sub_cancel, Nat.div_one]
  have hl : ∀ i ∈ List.range' 0 8 1, i < 8 := fun i hi => by simpa using (List.mem_range'_1.1 hi).2
  generalize List.range' 0 8 1 = l at hl ⊢
  induction l with
  | nil => simp
  | cons i l ih =>
    have hi : i < 8 := hl i (by simp)
    have px : (part 29 (fcells f).toArray (i * 3)).run Try.prog w = .ok (.agg (vcells (f.getD i zv)).toArray) w := by
      have h : i < f.length := by omega
      simp only [part, Sem.run_bind, hag, Result.andThen_ok, hsz, if_true, Sem.run_pure, fcells_ext f i h]
      simp [List.getD, h]
    have py : (part 29 (fcells g).toArray (i * 3)).run Try.prog w = .ok (.agg (vcells (g.getD i zv)).toArray) w := by
      have h : i < g.length := by omega
      simp only [part, Sem.run_bind, hag, Result.andThen_ok, hsz, if_true, Sem.run_pure, fcells_ext g i h]
      simp [List.getD, h]
    simp only [List.forIn_cons, Sem.run_bind, px, py, eq_val d, Result.andThen_ok, List.all_cons]
    cases hb : decide (f.getD i zv = g.getD i zv)
    · simp
    · simp only [Bool.not_true, Bool.false_eq_true, if_false, Sem.run_pure, Result.andThen_ok, Bool.true_and]
      exact ih fun j hj => hl j (by simp [hj])
theorem fcells_pre (pre : List Value) (f : List V3) (o : Nat) (ho : pre.length = o) (hf : f.length = 8) : (pre ++ fcells f).toArray.extract o (o + 24) = (fcells f).toArray := by
  subst ho
  have hl : (fcells f).length = 24 := by rw [fcells_len, hf]
  simp [List.extract_eq_take_drop, ← hl]
theorem eq_card (d : Nat) (id ver lab id' ver' lab' : Int) (f g : List V3) (hf : f.length = 8) (hg : g.length = 8) (w : World) :
    (Op.equalIn (d + 4) 32 (.agg (ccells id ver lab f).toArray) (.agg (ccells id' ver' lab' g).toArray)).run Try.prog w = .ok (decide (id = id' ∧ ver = ver' ∧ lab = lab' ∧ f = g)) w := by
  have hsz : ∀ w, (sizeOf 30).run Try.prog w = .ok 24 w := fun w => by kernel_rfl
  have hag : ∀ w, (isAgg 30).run Try.prog w = .ok true w := fun w => by kernel_rfl
  rw [run_equalIn_agg w (d + 3) 32 _ _ fieldsC (by kernel_rfl)]
  have e : (Try.prog.fieldsOf 32).toList = [⟨"ID", 3, 0, false, "", "", 0⟩, ⟨"Ver", 3, 1, false, "", "", 8⟩, ⟨"Labels", 27, 2, false, "", "", 16⟩, ⟨"F", 30, 3, false, "", "", 24⟩] := by kernel_rfl
  rw [e]
  have px : ∀ (a b c : Int) (h : List V3), h.length = 8 → (part 30 (ccells a b c h).toArray 3).run Try.prog w = .ok (.agg (fcells h).toArray) w := fun a b c h hh => by
    simp only [part, Sem.run_bind, hag, Result.andThen_ok, hsz, if_true, Sem.run_pure]
    unfold ccells
    rw [fcells_pre _ h 3 rfl hh]
  have p0 : ∀ (a b c : Int) (h : List V3), (part 3 (ccells a b c h).toArray 0).run Try.prog w = .ok (.int .i64 a) w := fun a b c h => by simp [go_sem, part, isAgg, ccells]
  have p1 : ∀ (a b c : Int) (h : List V3), (part 3 (ccells a b c h).toArray 1).run Try.prog w = .ok (.int .i64 b) w := fun a b c h => by simp [go_sem, part, isAgg, ccells]
  have p2 : ∀ (a b c : Int) (h : List V3), (part 27 (ccells a b c h).toArray 2).run Try.prog w = .ok (.int .u32 c) w := fun a b c h => by simp [go_sem, part, isAgg, ccells]
  have ef := eq_fields d f g hf hg w
  have q0 : ∀ a b : Int, (Op.equalIn (d + 3) 3 (.int .i64 a) (.int .i64 b)).run Try.prog w = .ok (a == b) w := fun a b => run_equalIn_int w (d + 2) 3 .i64 .i64 a b Try.underlying3
  have q1 : ∀ a b : Int, (Op.equalIn (d + 3) 27 (.int .u32 a) (.int .u32 b)).run Try.prog w = .ok (a == b) w := fun a b => run_equalIn_int w (d + 2) 27 .u32 .u32 a b Try.underlying27
  simp only [Op.eqFields, if_pos (show ("ID" : String) ≠ "_" by decide), if_pos (show ("Ver" : String) ≠ "_" by decide), if_pos (show ("Labels" : String) ≠ "_" by decide), if_pos (show ("F" : String) ≠ "_" by decide)]
  simp only [Sem.run_bind, Sem.run_ite, Sem.run_pure, px _ _ _ f hf, px _ _ _ g hg, p0, p1, p2, q0, q1, ef, Result.andThen_ok]
  by_cases h1 : id = id' <;> by_cases h2 : ver = ver' <;> by_cases h3 : lab = lab' <;> by_cases h4 : f = g <;> simp [h1, h2, h3, h4]
theorem eq_patch (d : Nat) (m lab m' lab' : Int) (f g : List V3) (hf : f.length = 8) (hg : g.length = 8) (w : World) :
    (Op.equalIn (d + 4) 34 (.agg (pcells m lab f).toArray) (.agg (pcells m' lab' g).toArray)).run Try.prog w = .ok (decide (m = m' ∧ lab = lab' ∧ f = g)) w := by
  have hsz : ∀ w, (sizeOf 30).run Try.prog w = .ok 24 w := fun w => by kernel_rfl
  have hag : ∀ w, (isAgg 30).run Try.prog w = .ok true w := fun w => by kernel_rfl
  rw [run_equalIn_agg w (d + 3) 34 _ _ fieldsP (by kernel_rfl)]
  have e : (Try.prog.fieldsOf 34).toList = [⟨"Mask", 27, 0, false, "", "", 0⟩, ⟨"Labels", 27, 1, false, "", "", 4⟩, ⟨"F", 30, 2, false, "", "", 8⟩] := by kernel_rfl
  rw [e]
  have px : ∀ (a b : Int) (h : List V3), h.length = 8 → (part 30 (pcells a b h).toArray 2).run Try.prog w = .ok (.agg (fcells h).toArray) w := fun a b h hh => by
    simp only [part, Sem.run_bind, hag, Result.andThen_ok, hsz, if_true, Sem.run_pure]
    unfold pcells
    rw [fcells_pre _ h 2 rfl hh]
  have p0 : ∀ (a b : Int) (h : List V3), (part 27 (pcells a b h).toArray 0).run Try.prog w = .ok (.int .u32 a) w := fun a b h => by simp [go_sem, part, isAgg, pcells]
  have p1 : ∀ (a b : Int) (h : List V3), (part 27 (pcells a b h).toArray 1).run Try.prog w = .ok (.int .u32 b) w := fun a b h => by simp [go_sem, part, isAgg, pcells]
  have ef := eq_fields d f g hf hg w
  have q1 : ∀ a b : Int, (Op.equalIn (d + 3) 27 (.int .u32 a) (.int .u32 b)).run Try.prog w = .ok (a == b) w := fun a b => run_equalIn_int w (d + 2) 27 .u32 .u32 a b Try.underlying27
  simp only [Op.eqFields, if_pos (show ("Mask" : String) ≠ "_" by decide), if_pos (show ("Labels" : String) ≠ "_" by decide), if_pos (show ("F" : String) ≠ "_" by decide)]
  simp only [Sem.run_bind, Sem.run_ite, Sem.run_pure, px _ _ f hf, px _ _ g hg, p0, p1, q1, ef, Result.andThen_ok]
  by_cases h1 : m = m' <;> by_cases h2 : lab = lab' <;> by_cases h4 : f = g <;> simp [h1, h2, h4]
end Go.Proofs.Ytjlpccdlpgkgoaa
