/- Disks: a new one; a sector of bytes, as the law has it. -/
import Derived.Test.YtjnfdhjnfginpaaDkH
namespace Go.Proofs.Ytjnfdhjnfginpaa
set_option linter.unusedVariables false
set_option linter.unusedSimpArgs false
open Go Go.RowKit

/-- Cells of zero structs, made. -/
theorem made_rws {α : Type} (f : α → List Value) (x : α) (sz : Nat) (hf : (f x).length = sz) (hz : 0 < sz) (n : Nat) : madeCells (f x).toArray (n * sz) = (rws f (List.replicate n x)).toArray := by
  have hl : ∀ y ∈ List.replicate n x, (f y).length = sz := fun y hy => by rw [List.eq_of_mem_replicate hy]; exact hf
  apply Array.toList_inj.1
  apply List.ext_getElem
  · rw [Array.length_toList, size_madeCells, rws_len _ hl, List.length_replicate]
  · intro j h1 h2
    rw [Array.length_toList, size_madeCells] at h1
    have hjd : j / sz < n := Nat.div_lt_of_lt_mul (by rw [Nat.mul_comm]; exact h1)
    have hjm : j % sz < sz := Nat.mod_lt _ hz
    have hk : j / sz < (List.replicate n x).length := by rw [List.length_replicate]; exact hjd
    have h3 := rws_at (List.replicate n x) hl (j / sz) hk (j % sz) ((f x)[j % sz]'(by rw [hf]; exact hjm)) (by rw [List.getElem_replicate]; exact List.getElem?_eq_getElem _)
    rw [show j / sz * sz + j % sz = j by rw [Nat.mul_comm]; exact Nat.div_add_mod j sz] at h3
    have h4 := (List.getElem?_eq_some_iff.1 h3).2
    rw [h4]
    simp only [madeCells, Array.toList_map, List.getElem_map, Array.toList_range, List.getElem_range, List.size_toArray, hf]
    rw [getElem!_pos (f x).toArray (j % sz) (by simp [hf]; exact hjm)]
    simp
theorem info_secd : ∃ i0, Try.prog.info? 63 = some i0 ∧ i0.zero = some (.agg (scell (z64, false)).toArray) ∧ i0.size = 65 ∧ i0.bytes = 65 := by
  have h : (Try.prog.info? 63).map (fun i => (i.zero, i.size, i.bytes)) = some (some (.agg (scell (z64, false)).toArray), 65, 65) := by kernel_rfl
  cases hi : Try.prog.info? 63 with
  | none => rw [hi] at h; cases h
  | some i0 =>
    rw [hi] at h
    simp only [Option.map_some, Option.some.injEq, Prod.mk.injEq] at h
    exact ⟨i0, rfl, h.1, h.2.1, h.2.2⟩
theorem mk_secs (n : Nat) (hn : n ≤ 2048) (w : World) : (Instr.makeSlice 50 (.int .i64 (n : Int)) (.int .i64 (n : Int))).run Try.prog w = .ok (.slice (some ⟨w.heap.size, 0, none⟩) n n) (w.alloc (.cells (scs (List.replicate n (z64, false))).toArray 63)) := by
  obtain ⟨i0, hi, hz, hs, hb⟩ := info_secd
  have hr := run_make (P := Try.prog) w 50 63 i0 _ Try.underlying50 hi hz .i64 .i64 (n : Int) (n : Int) (by omega) (Int.le_refl _) (by rw [hb]; omega) (by omega)
  simp only [Int.toNat_natCast, hs] at hr
  rw [show (Value.agg (scell (z64, false)).toArray).cells = (scell (z64, false)).toArray from rfl, made_rws scell (z64, false) 65 (scell_len _) (by decide) n] at hr
  exact hr
theorem mk_bytes (w : World) : (Instr.makeSlice 60 (.int .i64 64) (.int .i64 64)).run Try.prog w = .ok (.slice (some ⟨w.heap.size, 0, none⟩) 64 64) (w.alloc (.cells (bvs (List.replicate 64 0)).toArray 5)) := by kernel_rfl

set_option maxRecDepth 100000 in
set_option maxHeartbeats 3200000 in
theorem new_any (n : Nat) (w : World) (h1 : 1 ≤ n) (h2 : n ≤ 2048) : Calls Try.prog 5 #[.int .i64 (n : Int)] w fun e w' => e = .returned (.pointer (some ⟨w.heap.size + 1, 0, none⟩)) ∧ DkAt w' w.heap.size (w.heap.size + 1) w.heap.size none (dnew n) ∧ Below w.heap.size w w' := by
  have d1 : decide ((n : Int) < 1) = false := decide_eq_false (by omega)
  have d2 : decide ((2048 : Int) < (n : Int)) = false := decide_eq_false (by omega)
  have HM := Lib.hid (mk_secs n h2 w)
  have B1 := Blk.new w (scs (List.replicate n (z64, false))) 63
  obtain ⟨W1, hW1⟩ : ∃ W1, W1 = w.alloc (.cells (scs (List.replicate n (z64, false))).toArray 63) := ⟨_, rfl⟩
  rw [← hW1] at HM B1
  have L1 : Below w.heap.size w W1 := by rw [hW1]; exact (Below.refl w.heap.size w).alloc (Nat.le_refl _) _
  have z1 : W1.heap.size = w.heap.size + 1 := by rw [hW1]; simp
  have HE : Hid (∀ W2, W2 = W1.alloc (.cells #[.slice (some ⟨w.heap.size, 0, none⟩) n n, .slice none 0 0, .int .i64 (-1), .bool false] 53) → DkAt W2 w.heap.size (w.heap.size + 1) w.heap.size none (dnew n) ∧ Below w.heap.size w W2) := Lib.hid (fun W2 e => by
    subst e
    have B2 := Blk.new W1 [.slice (some ⟨w.heap.size, 0, none⟩) n n, .slice none 0 0, .int .i64 (-1), .bool false] 53
    rw [z1] at B2
    refine ⟨⟨⟨none, 0, ?_, World.ownsRow_nil _ _ _ _, rfl⟩, ?_, by omega, by simp, by simp, by omega, Nat.le_refl _⟩, L1.alloc (by omega) _⟩
    · rw [show (dnew n).s.length = n by simp [dnew]]
      exact B2
    · exact B1.alloc _)
  have HZ := Lib.hid z1
  clear B1 hW1 L1 h1 h2
  go_enter Try.func5, Try.ntmps5
  go_wp2_with fail
  rw [HM.out]
  simp only [Result.andThen]
  rw [Oper.upon_value]
  simp only [Act.put, List.setIfInBounds_toArray, List.set_cons_zero, List.set_cons_succ]
  go_wp2_with fail
  go_ret
  exact ⟨rfl, HE.out _ rfl⟩

/-- So many bytes of one kind. -/
def fil (k : Nat) (c : UInt8) : List UInt8 := List.replicate k c
theorem fil_len (k : Nat) (c : UInt8) : (fil k c).length = k := List.length_replicate
theorem fill_set (c : UInt8) (k : Nat) (h : k < 64) : (List.replicate k c ++ List.replicate (64 - k) 0).set k c = List.replicate (k + 1) c ++ List.replicate (64 - (k + 1)) 0 := by
  rw [List.set_append_right _ _ (by simp), List.length_replicate, Nat.sub_self]
  rw [show 64 - k = (64 - (k + 1)) + 1 by omega, List.replicate_succ, List.set_cons_zero, List.replicate_succ' (n := k), List.append_assoc]
  rfl
theorem bvs_set (l : List UInt8) (k : Nat) (c : UInt8) : (bvs l).set k (.int .u8 (c.toNat : Int)) = bvs (l.set k c) := by
  show (l.map bv).set k (bv c) = (l.set k c).map bv
  rw [List.map_set]
set_option maxRecDepth 100000 in
set_option maxHeartbeats 3200000 in
theorem sect_any (c : UInt8) (n : Int) (w : World) : Calls Try.prog 12 #[.int .u8 (c.toNat : Int), .int .i64 n] w fun e w' => e = .returned (.string (str (fil (if n = 7 then 63 else 64) c))) ∧ Below w.heap.size w w' := by
  obtain ⟨R, hR⟩ : ∃ R, R = str (fil (if n = 7 then 63 else 64) c) := ⟨_, rfl⟩
  rw [← hR]
  have HR := Lib.hid hR
  clear hR
  have HM := Lib.hid (mk_bytes w)
  have B1 := Blk.new w (bvs (List.replicate 64 0)) 5
  obtain ⟨W1, hW1⟩ : ∃ W1, W1 = w.alloc (.cells (bvs (List.replicate 64 0)).toArray 5) := ⟨_, rfl⟩
  rw [← hW1] at HM B1
  have HL1 : Hid (Below w.heap.size w W1) := Lib.hid (by rw [hW1]; exact (Below.refl w.heap.size w).alloc (Nat.le_refl _) _)
  have HB1 : Hid (Blk W1 w.heap.size (bvs (fil 0 c ++ fil (64 - 0) 0))) := Lib.hid B1
  clear B1 hW1
  go_enter Try.func12, Try.ntmps12
  go_wp2_with fail
  rw [HM.out]
  simp only [Result.andThen]
  rw [Oper.upon_value]
  simp only [Act.put, List.setIfInBounds_toArray, List.set_cons_zero, List.set_cons_succ]
  go_wp2_with fail
  go_loopw [6] (fun i wr => ∃ k : Nat, k ≤ 64 ∧ i = .int .i64 (k : Int) ∧ Hid (Blk wr w.heap.size (bvs (fil k c ++ fil (64 - k) 0))) ∧ Hid (Below w.heap.size w wr)) (fun i _ => 64 - (intOf i).toNat)
  case atStart => exact ⟨0, by omega, rfl, HB1, HL1⟩
  case round =>
    obtain ⟨k, hk, rfl, HB, HL⟩ := hrel
    by_cases hlt : k < 64
    · have d1 : decide ((k : Int) < 64) = true := decide_eq_true (by omega)
      have hkk : k < (fil k c ++ fil (64 - k) (0 : UInt8)).length := by rw [List.length_append, fil_len, fil_len]; omega
      have cz : ∃ v, wr.cell? ⟨w.heap.size, k, none⟩ = some v := ⟨_, HB.out.cell (List.getElem?_eq_getElem (by rw [bvs_length]; exact hkk))⟩
      obtain ⟨v, cz⟩ := cz
      have fz := HB.out.frozen k
      have HB2 : Hid (Blk (wr.setCell ⟨w.heap.size, k, none⟩ (.int .u8 (c.toNat : Int))) w.heap.size (bvs (fil (k + 1) c ++ fil (64 - (k + 1)) 0))) := Lib.hid (by
        have := HB.out.set k (.int .u8 (c.toNat : Int))
        rw [bvs_set] at this
        exact (congrArg (fun l => Blk (wr.setCell ⟨w.heap.size, k, none⟩ (.int .u8 (c.toNat : Int))) w.heap.size (bvs l)) (fill_set c k hlt)).mp this)
      have HL2 := Lib.hid (HL.out.setCell (p := ⟨w.heap.size, k, none⟩) (Nat.le_refl _) (.int .u8 (c.toNat : Int)))
      clear hkk
      go_wp2_with fail
      go_roundw
      case rel => exact ⟨k + 1, by omega, by go_num, HB2, HL2⟩
      case measure => simp [intOf]; omega
    · obtain rfl : k = 64 := by omega
      have HB3 : Hid (Blk wr w.heap.size (bvs (fil 64 c))) := Lib.hid (by
        have := HB.out
        rw [Nat.sub_self, show fil 0 (0 : UInt8) = [] from rfl, List.append_nil] at this
        exact this)
      have hs0 : Sees wr wr.heap.size (some ⟨w.heap.size, 0, none⟩) (bvs (fil 64 c)) := fun _ => ⟨w.heap.size, 0, rfl, HB3.out.lt, fun j hj => by rw [Nat.zero_add]; exact HB3.out.cell (List.getElem?_eq_getElem hj)⟩
      have hs1 : Sees wr wr.heap.size (some ⟨w.heap.size, 1, none⟩) (bvs (fil 63 c)) := fun _ => ⟨w.heap.size, 1, rfl, HB3.out.lt, fun j hj => by
        rw [bvs_length, fil_len] at hj
        have e : (bvs (fil 64 c))[1 + j]? = some ((bvs (fil 63 c))[j]'(by rw [bvs_length, fil_len]; exact hj)) := by
          rw [List.getElem?_eq_getElem (by rw [bvs_length, fil_len]; omega)]
          unfold bvs fil
          simp only [List.getElem_map, List.getElem_replicate]
        exact HB3.out.cell e⟩
      have hstr0 := run_str (P := Try.prog) wr wr.heap.size 60 5 9 Try.underlying60 Try.underlying5 Try.underlying9 (some ⟨w.heap.size, 0, none⟩) 64 64 (fil 64 c) (fil_len _ _) hs0
      have hstr1 := run_str (P := Try.prog) wr wr.heap.size 60 5 9 Try.underlying60 Try.underlying5 Try.underlying9 (some ⟨w.heap.size, 1, none⟩) 63 63 (fil 63 c) (fil_len _ _) hs1
      obtain ⟨s0, hs0'⟩ : ∃ s0, s0 = str (fil 64 c) := ⟨_, rfl⟩
      obtain ⟨s1, hs1'⟩ : ∃ s1, s1 = str (fil 63 c) := ⟨_, rfl⟩
      rw [← hs0'] at hstr0
      rw [← hs1'] at hstr1
      have HS0 := Lib.hid hs0'
      have HS1 := Lib.hid hs1'
      clear hs0 hs1 hs0' hs1' HB
      by_cases h7 : n = 7
      · have HRR : Hid (R = s1) := Lib.hid (by rw [HR.out, if_pos h7, HS1.out])
        subst h7
        go_wp2_with fail
        go_ret
        exact ⟨by rw [HRR.out]; rfl, HL.out⟩
      · have n7 : (n == 7) = false := by rw [beq_eq_false_iff_ne]; exact h7
        go_wp2_with fail
        go_ret
        exact ⟨by rw [HR.out, if_neg h7, ← HS0.out]; rfl, HL.out⟩
end Go.Proofs.Ytjnfdhjnfginpaa
