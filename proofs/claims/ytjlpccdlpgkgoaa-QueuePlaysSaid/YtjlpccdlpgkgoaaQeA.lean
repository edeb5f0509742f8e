/- Writes: their types, equal writes, a new write stored, slices.Clone of writes. -/
import Derived.Test.YtjlpccdlpgkgoaaQeM
import Derived.Test.YtjlpccdlpgkgoaaCardE
import Derived.Test.YtjlpccdlpgkgoaaInMid
import Derived.Test.YtjlpccdlpgkgoaaRowN
import Derived.Test.YtjlpccdlpgkgoaaCardB
namespace Go.Proofs.Ytjlpccdlpgkgoaa
set_option linter.unusedVariables false
set_option linter.unusedSimpArgs false
open Go Go.RowKit BitM

/-- Are two writes one? -/
def weq (a b : Wr) : Bool := decide (a.1 = b.1 ∧ a.2.1 = b.2.1 ∧ a.2.2.1 = b.2.2.1 ∧ a.2.2.2.1 = b.2.2.2.1 ∧ a.2.2.2.2 = b.2.2.2.2)
theorem weq_iff (a b : Wr) : weq a b = true ↔ a = b := by
  obtain ⟨i, v, m, lab, f⟩ := a
  obtain ⟨i', v', m', lab', f'⟩ := b
  simp [weq]
theorem weq_self (a : Wr) : weq a a = true := (weq_iff a a).2 rfl
def zwr : Wr := (0, 0, 0#32, 0#32, zeros)
theorem zwr_cells : (wrc zwr).toArray = #[Value.int .i64 0, .int .i64 0, .int .u32 0, .int .u32 0, .int .i64 0, .int .i64 0, .string { data := #[] }, .int .i64 0, .int .i64 0, .string { data := #[] }, .int .i64 0, .int .i64 0, .string { data := #[] }, .int .i64 0, .int .i64 0, .string { data := #[] }, .int .i64 0, .int .i64 0, .string { data := #[] }, .int .i64 0, .int .i64 0, .string { data := #[] }, .int .i64 0, .int .i64 0, .string { data := #[] }, .int .i64 0, .int .i64 0, .string { data := #[] }] := rfl
theorem zwr_len : (wrc zwr).length = 28 := wrc_len zeros_len
/-- A new write's cells, stored. -/
theorem wr_put (w : World) (T : TypeId) (x : Wr) (hx : x.2.2.2.2.length = 8) : ∃ W, W = w.alloc (.cells (wrc zwr).toArray T) ∧ W.there w.heap.size 0 28 ∧ Blk (W.setCells w.heap.size 0 (wrc x)) w.heap.size (wrc x) ∧ Below w.heap.size w (W.setCells w.heap.size 0 (wrc x)) := by
  have h0 := Blk.new w (wrc zwr) T
  refine ⟨_, rfl, h0.there 0 28 (by rw [zwr_len]; exact Nat.le_refl _), h0.whole (by rw [wrc_len hx, zwr_len]), below_sets (Nat.le_refl _) _ 0 ((Below.refl w.heap.size w).alloc (Nat.le_refl _) _)⟩
theorem info_qw : (Try.prog.info? 55).map (·.size) = some 28 := by kernel_rfl
theorem info_qwd : (Try.prog.info? 55).map (fun i => (i.zero, i.size, i.bytes)) = some (some (.agg (wrc zwr).toArray), 28, 280) := by kernel_rfl
theorem guard_qw : Try.prog.eqGuardType Try.prog.depth 55 = false := by kernel_rfl
theorem fields_qw : Try.prog.underlying 55 = some (.struct (Try.prog.fieldsOf 55)) := by kernel_rfl
set_option maxRecDepth 100000 in
set_option maxHeartbeats 1600000 in
theorem eq_qw (d : Nat) (a b : Wr) (ha : a.2.2.2.2.length = 8) (hb : b.2.2.2.2.length = 8) (w : World) : (Op.equalIn (d + 5) 55 (.agg (wrc a).toArray) (.agg (wrc b).toArray)).run Try.prog w = .ok (weq a b) w := by
  obtain ⟨i, v, m, lab, f⟩ := a
  obtain ⟨i', v', m', lab', f'⟩ := b
  have hsz : ∀ w, (sizeOf 34).run Try.prog w = .ok 26 w := fun w => by kernel_rfl
  have hag : ∀ w, (isAgg 34).run Try.prog w = .ok true w := fun w => by kernel_rfl
  rw [run_equalIn_agg w (d + 4) 55 _ _ fields_qw (by kernel_rfl)]
  have e : (Try.prog.fieldsOf 55).toList = [⟨"ID", 3, 0, false, "", "", 0⟩, ⟨"Base", 3, 1, false, "", "", 8⟩, ⟨"Patch", 34, 2, false, "", "", 16⟩] := by kernel_rfl
  rw [e]
  have px : ∀ (a b : Int) (m l : BitVec 32) (h : List V3), h.length = 8 → (part 34 (wrc (a, b, m, l, h)).toArray 2).run Try.prog w = .ok (.agg (pcells (m.toNat : Int) (l.toNat : Int) h).toArray) w := fun a b m l h hh => by
    simp only [part, Sem.run_bind, hag, Result.andThen_ok, hsz, if_true, Sem.run_pure]
    unfold wrc
    have : ((([Value.int .i64 a, .int .i64 b] ++ pcells (m.toNat : Int) (l.toNat : Int) h).toArray).extract 2 (2 + 26)) = (pcells (m.toNat : Int) (l.toNat : Int) h).toArray := by
      apply Array.toList_inj.1
      rw [Array.toList_extract]
      simp only [List.extract_eq_take_drop]
      have hp := pcells_len (m.toNat : Int) (l.toNat : Int) hh
      simp only [List.cons_append, List.nil_append, List.drop_succ_cons, List.drop_zero]
      rw [List.take_of_length_le (by rw [hp]; omega)]
    rw [this]
  have p0 : ∀ (a b : Int) (m l : BitVec 32) (h : List V3), (part 3 (wrc (a, b, m, l, h)).toArray 0).run Try.prog w = .ok (.int .i64 a) w := fun a b m l h => by simp [go_sem, part, isAgg, wrc]
  have p1 : ∀ (a b : Int) (m l : BitVec 32) (h : List V3), (part 3 (wrc (a, b, m, l, h)).toArray 1).run Try.prog w = .ok (.int .i64 b) w := fun a b m l h => by simp [go_sem, part, isAgg, wrc]
  have ef := eq_patch d (m.toNat : Int) (lab.toNat : Int) (m'.toNat : Int) (lab'.toNat : Int) f f' ha hb w
  have q0 : ∀ a b : Int, (Op.equalIn (d + 4) 3 (.int .i64 a) (.int .i64 b)).run Try.prog w = .ok (a == b) w := fun a b => run_equalIn_int w (d + 3) 3 .i64 .i64 a b Try.underlying3
  simp only [Op.eqFields, if_pos (show ("ID" : String) ≠ "_" by decide), if_pos (show ("Base" : String) ≠ "_" by decide), if_pos (show ("Patch" : String) ≠ "_" by decide)]
  simp only [Sem.run_bind, Sem.run_ite, Sem.run_pure, px _ _ _ _ f ha, px _ _ _ _ f' hb, p0, p1, q0, ef, Result.andThen_ok]
  have em : ((m.toNat : Int) = (m'.toNat : Int)) = (m = m') := propext ⟨fun h => BitVec.eq_of_toNat_eq (by omega), fun h => by rw [h]⟩
  have el : ((lab.toNat : Int) = (lab'.toNat : Int)) = (lab = lab') := propext ⟨fun h => BitVec.eq_of_toNat_eq (by omega), fun h => by rw [h]⟩
  simp only [em, el, weq]
  by_cases h1 : i = i' <;> by_cases h2 : v = v' <;> by_cases h3 : m = m' <;> by_cases h4 : lab = lab' <;> by_cases h5 : f = f' <;> simp [h1, h2, h3, h4, h5]
theorem info_rw : (Try.prog.info? 63).map (·.size) = some 28 := by kernel_rfl
theorem info_rwd : (Try.prog.info? 63).map (fun i => (i.zero, i.size, i.bytes)) = some (some (.agg (wrc zwr).toArray), 28, 280) := by kernel_rfl
theorem guard_rw : Try.prog.eqGuardType Try.prog.depth 63 = false := by kernel_rfl
theorem fields_rw : Try.prog.underlying 63 = some (.struct (Try.prog.fieldsOf 63)) := by kernel_rfl
set_option maxRecDepth 100000 in
set_option maxHeartbeats 1600000 in
theorem eq_rw (d : Nat) (a b : Wr) (ha : a.2.2.2.2.length = 8) (hb : b.2.2.2.2.length = 8) (w : World) : (Op.equalIn (d + 5) 63 (.agg (wrc a).toArray) (.agg (wrc b).toArray)).run Try.prog w = .ok (weq a b) w := by
  obtain ⟨i, v, m, lab, f⟩ := a
  obtain ⟨i', v', m', lab', f'⟩ := b
  have hsz : ∀ w, (sizeOf 34).run Try.prog w = .ok 26 w := fun w => by kernel_rfl
  have hag : ∀ w, (isAgg 34).run Try.prog w = .ok true w := fun w => by kernel_rfl
  rw [run_equalIn_agg w (d + 4) 63 _ _ fields_rw (by kernel_rfl)]
  have e : (Try.prog.fieldsOf 63).toList = [⟨"ID", 3, 0, false, "", "", 0⟩, ⟨"Base", 3, 1, false, "", "", 8⟩, ⟨"Patch", 34, 2, false, "", "", 16⟩] := by kernel_rfl
  rw [e]
  have px : ∀ (a b : Int) (m l : BitVec 32) (h : List V3), h.length = 8 → (part 34 (wrc (a, b, m, l, h)).toArray 2).run Try.prog w = .ok (.agg (pcells (m.toNat : Int) (l.toNat : Int) h).toArray) w := fun a b m l h hh => by
    simp only [part, Sem.run_bind, hag, Result.andThen_ok, hsz, if_true, Sem.run_pure]
    unfold wrc
    have : ((([Value.int .i64 a, .int .i64 b] ++ pcells (m.toNat : Int) (l.toNat : Int) h).toArray).extract 2 (2 + 26)) = (pcells (m.toNat : Int) (l.toNat : Int) h).toArray := by
      apply Array.toList_inj.1
      rw [Array.toList_extract]
      simp only [List.extract_eq_take_drop]
      have hp := pcells_len (m.toNat : Int) (l.toNat : Int) hh
      simp only [List.cons_append, List.nil_append, List.drop_succ_cons, List.drop_zero]
      rw [List.take_of_length_le (by rw [hp]; omega)]
    rw [this]
  have p0 : ∀ (a b : Int) (m l : BitVec 32) (h : List V3), (part 3 (wrc (a, b, m, l, h)).toArray 0).run Try.prog w = .ok (.int .i64 a) w := fun a b m l h => by simp [go_sem, part, isAgg, wrc]
  have p1 : ∀ (a b : Int) (m l : BitVec 32) (h : List V3), (part 3 (wrc (a, b, m, l, h)).toArray 1).run Try.prog w = .ok (.int .i64 b) w := fun a b m l h => by simp [go_sem, part, isAgg, wrc]
  have ef := eq_patch d (m.toNat : Int) (lab.toNat : Int) (m'.toNat : Int) (lab'.toNat : Int) f f' ha hb w
  have q0 : ∀ a b : Int, (Op.equalIn (d + 4) 3 (.int .i64 a) (.int .i64 b)).run Try.prog w = .ok (a == b) w := fun a b => run_equalIn_int w (d + 3) 3 .i64 .i64 a b Try.underlying3
  simp only [Op.eqFields, if_pos (show ("ID" : String) ≠ "_" by decide), if_pos (show ("Base" : String) ≠ "_" by decide), if_pos (show ("Patch" : String) ≠ "_" by decide)]
  simp only [Sem.run_bind, Sem.run_ite, Sem.run_pure, px _ _ _ _ f ha, px _ _ _ _ f' hb, p0, p1, q0, ef, Result.andThen_ok]
  have em : ((m.toNat : Int) = (m'.toNat : Int)) = (m = m') := propext ⟨fun h => BitVec.eq_of_toNat_eq (by omega), fun h => by rw [h]⟩
  have el : ((lab.toNat : Int) = (lab'.toNat : Int)) = (lab = lab') := propext ⟨fun h => BitVec.eq_of_toNat_eq (by omega), fun h => by rw [h]⟩
  simp only [em, el, weq]
  by_cases h1 : i = i' <;> by_cases h2 : v = v' <;> by_cases h3 : m = m' <;> by_cases h4 : lab = lab' <;> by_cases h5 : f = f' <;> simp [h1, h2, h3, h4, h5]
/-- What a call gives that tells writes, in a row of its own. -/
def GivesWrs (w : World) (T : TypeId) (l : List Wr) : Ending → World → Prop := fun e w' => ∃ A c, e = .returned (.slice A l.length c) ∧ w'.ownsRow w.heap.size T 28 (.slice A l.length c) l.length (wrs l) ∧ Below w.heap.size w w'
set_option maxRecDepth 100000 in
set_option maxHeartbeats 1600000 in
theorem clone_wrs (A : Option Addr) (n c : Nat) (l : List Wr) (w : World) (hn : l.length = n) (hw : Whole l) (hs : Sees w w.heap.size A (wrs l)) (hm : n ≤ 65536) :
    Calls Try.prog 22 #[.slice A n c] w (GivesWrs w 55 l) := by
  obtain ⟨i1, ji, jz0, jz1, jz2⟩ := info_parts info_qwd
  subst hn
  have hwl := wrs_len hw
  rcases A with _ | ad
  · have hl : l = [] := by
      rcases l with _ | ⟨x, l⟩
      · rfl
      · obtain ⟨b, o, h, _⟩ := hs (by rw [hwl]; simp)
        cases h
    subst hl
    have hq := fun wx => Lib.run_eql_slice_nil (P := Try.prog) wx 25 55 none 0 c 0 0 Try.underlying25
    go_enter Try.func22, Try.ntmps22
    go_wp2
    go_ret
    exact ⟨none, 0, rfl, World.ownsRow_nil _ _ _ _, Below.refl _ _⟩
  · have hq := fun wx => Lib.run_eql_slice_nil (P := Try.prog) wx 25 55 (some ad) l.length c 0 0 Try.underlying25
    have R1 := row_lit w w.heap.size 55 28 0 #[] (Nat.le_refl _) (by simp [maxLen]) rfl
    go_enter Try.func22, Try.ntmps22
    go_wp2_with (first
      | (at_builtin
         refine wpList_appk _ rfl (.tmp 5) (.tmp 6) 25 rfl w.heap.size 55 i1 _ 28 280 Try.underlying25 ji jz0 jz1 jz2 (by rfl) (by decide) (.slice (some ⟨w.heap.size, 0, none⟩) 0 0) 0 [] rfl R1 w.heap.size (some ad) c (wrs l) l.length rfl (by rw [hwl]) (hs.alloc (Nat.le_refl _) (.cells #[] 55)) (wrs_one l) (by unfold maxLen; omega) (by omega) (by simp) ?_
         intro A3 c3 w3 hr3 hb3 hg3 hat3
         rw [Nat.zero_add, List.nil_append] at hr3
         simp only [Nat.zero_add])
      | fail)
    go_ret
    exact ⟨A3, c3, rfl, hr3, ((Below.refl _ _).alloc (Nat.le_refl _) _).trans hb3⟩
end Go.Proofs.Ytjlpccdlpgkgoaa
