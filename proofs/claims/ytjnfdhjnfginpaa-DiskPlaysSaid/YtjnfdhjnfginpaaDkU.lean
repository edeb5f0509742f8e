/- Disks: the document's New. -/
import Derived.Test.YtjnfdhjnfginpaaDkT
import Derived.Test.YtjnfdhjnfginpaaTail
namespace Go.Proofs.Ytjnfdhjnfginpaa
set_option linter.unusedVariables false
set_option linter.unusedSimpArgs false
open Go Go.RowKit

/-- A slot that holds a slice of one string. -/
def relStr1 (x : ByteArray) : Rel where
  rel v w := ∃ g, v = .slice (some ⟨g, 0, none⟩) 1 1 ∧ Blk w g [.string x]
  mono := fun v w w' h ⟨g, e, hb⟩ => ⟨g, e, hb.later h⟩
  real := fun w ⟨_, e, _⟩ => by cases e
theorem run_str1 (x : ByteArray) (w : World) : (Instr.buildSlice 26 1 #[(0, .string x)]).run Try.prog w = .ok (.slice (some ⟨w.heap.size, 0, none⟩) 1 1) (w.alloc (.cells #[.string x] 9)) := by kernel_rfl
theorem str1_gives {a : Act} {op : Oper} (y : Operand) (x : ByteArray) (ho : op.op = .buildSlice 26 1 #[(0, y)]) (hx : a.eval y = .string x) (w : World) : gives Try.prog op a (relStr1 x).rel w := by
  unfold gives execOp
  simp only [ho, List.map_toArray, List.map_cons, List.map_nil, hx, Sem.run_bind, run_str1 x, Result.andThen_ok, Sem.run_pure]
  exact ⟨(Below.refl _ _).alloc (Nat.le_refl _) _, _, rfl, Blk.new w [.string x] _⟩
def zrep (k : Nat) : List Value := stc (List.replicate k (z64, false))
theorem zrep_snoc (k : Nat) : zrep k ++ [.string (str z64.1)] = zrep (k + 1) := by
  unfold zrep stc
  rw [List.replicate_succ', List.map_append]
  rfl
theorem zrep_one (k : Nat) : ∀ u ∈ zrep k, u.oneCell' = true := stc_one _
set_option maxRecDepth 100000 in
set_option maxHeartbeats 3200000 in
theorem rnew_any (n : Nat) (w : World) (hn : n ≤ 2048) : Calls Try.prog 7 #[.int .i64 (n : Int)] w fun e w' => ∃ A c, e = .returned (.agg #[.slice A n c, .slice none 0 0, .int .i64 (-1), .bool false]) ∧ w'.ownsRow w.heap.size 9 1 (.slice A n c) n (stc (dnew n).s) ∧ Below w.heap.size w w' := by
  obtain ⟨i1, ji, jz0, jz1, jz2⟩ := info_parts info_str
  have hu := Try.underlying29
  obtain ⟨zs, hzs⟩ : ∃ zs, zs = stc (dnew n).s := ⟨_, rfl⟩
  rw [← hzs]
  have HZS : Hid (zs = zrep n) := Lib.hid hzs
  obtain ⟨z0, hz0⟩ : ∃ z0, z0 = str z64.1 := ⟨_, rfl⟩
  have HZ0 := Lib.hid hz0
  have HZN := Lib.hid (zrep_snoc)
  rw [← hz0] at HZN
  have HZR : Hid (∀ wx : World, Calls Try.prog 20 #[] wx fun e w' => e = .returned (.string z0) ∧ Below wx.heap.size wx w') := Lib.hid (fun wx => by rw [hz0]; exact rzero_any wx)
  clear hz0 hzs
  go_enter Try.func7, Try.ntmps7
  go_wp2_with fail
  have B0 := Lib.hid (((Blk.new w [.slice none 0 0, .slice none 0 0, .int .i64 0, .bool false] 29)).alloc (.cells #[.slice none 0 0, .slice none 0 0, .int .i64 (-1), .bool false] 29))
  have B1 := Blk.new (w.alloc (.cells #[.slice none 0 0, .slice none 0 0, .int .i64 0, .bool false] 29)) [.slice none 0 0, .slice none 0 0, .int .i64 (-1), .bool false] 29
  have L0 := Lib.hid ((((Below.refl w.heap.size w).alloc (Nat.le_refl _) (.cells #[.slice none 0 0, .slice none 0 0, .int .i64 0, .bool false] 29))).alloc (by simp) (.cells #[.slice none 0 0, .slice none 0 0, .int .i64 (-1), .bool false] 29))
  have RW0 := Lib.hid (World.ownsRow_nil ((w.alloc (.cells #[.slice none 0 0, .slice none 0 0, .int .i64 0, .bool false] 29)).alloc (.cells #[.slice none 0 0, .slice none 0 0, .int .i64 (-1), .bool false] 29)) (w.heap.size + 2) 9 1)
  have S0 : Hid (w.heap.size + 2 ≤ ((w.alloc (.cells #[.slice none 0 0, .slice none 0 0, .int .i64 0, .bool false] 29)).alloc (.cells #[.slice none 0 0, .slice none 0 0, .int .i64 (-1), .bool false] 29)).heap.size) := Lib.hid (by simp)
  rw [World.size_alloc] at B1
  have B1 := Lib.hid B1
  go_loopw [4] (fun i wr => ∃ k : Nat, k ≤ n ∧ i = .int .i64 (k : Int) ∧ ∃ A c, Hid (Blk wr (w.heap.size + 1) [.slice A k c, .slice none 0 0, .int .i64 (-1), .bool false]) ∧ Hid (wr.ownsRow (w.heap.size + 2) 9 1 (.slice A k c) k (zrep k)) ∧ Hid (Blk wr w.heap.size [.slice none 0 0, .slice none 0 0, .int .i64 0, .bool false]) ∧ Hid (Below w.heap.size w wr) ∧ Hid (w.heap.size + 2 ≤ wr.heap.size)) (fun i _ => (n - intOf i).toNat)
  case atStart => exact ⟨0, by omega, rfl, none, 0, B1, RW0, B0, L0, S0⟩
  case round =>
    clear B1 B0 L0 RW0 S0
    obtain ⟨k, hk, rfl, A, c, HB1, HR, HB0, HL, HS⟩ := hrel
    have k0 : wr.cell? ⟨w.heap.size + 1, 0, none⟩ = some (.slice A k c) := HB1.out.cell (j := 0) rfl
    have k1 : wr.cell? ⟨w.heap.size + 1, 1, none⟩ = some (.slice none 0 0) := HB1.out.cell (j := 1) rfl
    have k2 : wr.cell? ⟨w.heap.size + 1, 2, none⟩ = some (.int .i64 (-1)) := HB1.out.cell (j := 2) rfl
    have k3 : wr.cell? ⟨w.heap.size + 1, 3, none⟩ = some (.bool false) := HB1.out.cell (j := 3) rfl
    by_cases hlt : k < n
    · clear k0 k1 k2 k3
      go_wp2_with fail
      refine wp_region_tail [(14, relStr1 z0)] 18 4 (by kernel_rfl) (by kernel_rfl) (by kernel_rfl) (by rfl) ?_
      simp only [List.take_succ_cons, List.take_zero, List.drop_succ_cons, List.drop_zero]
      iterate 1 (refine wpG_quiet (by rfl) (by rfl) (by rfl) (fun K hK => ?_); go_big_quiet_op; refine hK _ ?_; clear hK K)
      have hk0 : ∀ wx, Le wr wx → wx.cell? ⟨w.heap.size + 1, 0, none⟩ = some (.slice A k c) := fun wx hl => (HB1.out.later hl).cell (j := 0) rfl
      refine wpG_run (by rfl) (by rfl) (.slice A k c) (fun w1 hl => by have := hk0 w1 hl.1; simp [go_sem, this]) ?_
      simp only [Act.put, List.setIfInBounds_toArray, List.set_cons_zero, List.set_cons_succ]
      refine wpG_call (by rfl) (by rfl) 20 #[] (.string z0) (by intro _; simp [go_sem]) (by kernel_rfl) (fun w1 _ => HZR.out w1) ?_
      simp only [Act.put, List.setIfInBounds_toArray, List.set_cons_zero, List.set_cons_succ]
      refine wpG_open (relStr1 z0) (by rfl) (by rfl) (fun w1 hl => str1_gives (.tmp 13) z0 rfl rfl w1) ?_
      rintro _ ⟨_, _, _, ⟨g, rfl, _⟩⟩
      simp only [Act.put, List.setIfInBounds_toArray, List.set_cons_zero, List.set_cons_succ]
      refine wpG_nil fun w1 hl hS => ?_
      obtain ⟨_, ⟨g', eg, hB1⟩⟩ := hS
      cases eg
      have hsz := Nat.le_trans HS.out hl.size
      have HB1' := HB1.out.later hl
      have HB0' := Lib.hid (HB0.out.later hl)
      have HR' := Lib.hid (row_later HR.out hl)
      have HL' := Lib.hid (HL.out.trans (hl.mono HL.out.size))
      have hsee : Sees w1 w1.heap.size (some ⟨g, 0, none⟩) [.string z0] := fun _ => ⟨g, 0, rfl, hB1.lt, fun j hj => by rw [Nat.zero_add]; exact hB1.cell (List.getElem?_eq_getElem hj)⟩
      clear hk0 HB1 HB0 HR HL
      refine wpList_appk _ rfl (.tmp 12) (.tmp 14) 26 rfl (w.heap.size + 2) 9 i1 _ 1 16 Try.underlying26 ji jz0 jz1 jz2 (by rfl) (by decide) (.slice A k c) k (zrep k) (by rfl) HR'.out w1.heap.size (some ⟨g, 0, none⟩) 1 [.string z0] 1 (by rfl) rfl hsee (by simp [Value.oneCell']) (by unfold maxLen; omega) (by omega) hsz ?_
      intro A3 c3 w3 hr3 hb3 hg3 hat3
      rw [HZN.out] at hr3
      have hB3 := (HB1'.below hb3 (by omega))
      have HB03 := Lib.hid (HB0'.out.below hb3 (by omega))
      have HL3 := Lib.hid (HL'.out.trans (hb3.mono (by omega)))
      have hsz3 := Lib.hid (Nat.le_trans hsz hb3.size)
      have hr3 := Lib.hid hr3
      have c3_ := hB3.cell (j := 0) rfl
      have f3_ := hB3.frozen 0
      have HB3 := Lib.hid hB3
      clear hg3 hat3 hb3 hB3 HB1' HB0' HR' HL' hsee hB1 hsz hl
      go_wp2_with fail
      go_roundw
      case rel =>
        have hq : (Value.slice A3 (k + 1) c3).ownBlock ≠ some (w.heap.size + 1) := fun e => by have := (row_lt hr3.out _ e).1; omega
        refine ⟨k + 1, by omega, by go_num, A3, c3, Lib.hid ?_, Lib.hid (row_apartD hr3.out hq [.slice A3 (k + 1) c3] 0), Lib.hid (HB03.out.setOther 0 _ (by omega)), Lib.hid (HL3.out.setCell (by simp) _), Lib.hid (by simpa using hsz3.out)⟩
        have := HB3.out.set 0 (.slice A3 (k + 1) c3)
        simpa using this
      case measure => simp [intOf]; omega
    · obtain rfl : k = n := by omega
      have RB := HB1.out.range 0 [.slice A k c, .slice none 0 0, .int .i64 (-1), .bool false] rfl
      have TH := HB0.out.there 0 4 (by simp)
      have HB2 : Hid (Blk (wr.setCells w.heap.size 0 [.slice A k c, .slice none 0 0, .int .i64 (-1), .bool false]) w.heap.size [.slice A k c, .slice none 0 0, .int .i64 (-1), .bool false]) := Lib.hid (HB0.out.sets [.slice A k c, .slice none 0 0, .int .i64 (-1), .bool false] 0 (by simp))
      have HL2 := Lib.hid (below_sets (Nat.le_refl _) [.slice A k c, .slice none 0 0, .int .i64 (-1), .bool false] 0 HL.out)
      have HR2 := Lib.hid (row_apartD HR.out (b := w.heap.size) (fun e => by have := (row_lt HR.out _ e).1; omega) [.slice A k c, .slice none 0 0, .int .i64 (-1), .bool false] 0)
      clear k0 k1 k2 k3 HB0 HB1 HL HR
      go_wp2_with (first
        | (refine wpList_load_mid rfl 29 (.tmp 3) rfl (w.heap.size + 1) 0 rfl [.slice A k c, .slice none 0 0, .int .i64 (-1), .bool false] _ RB hu rfl info_rd ?_)
        | (refine wpList_store_mid rfl 29 (.tmp 2) (.tmp 17) rfl w.heap.size 0 #[.slice A k c, .slice none 0 0, .int .i64 (-1), .bool false] rfl rfl TH info_rd (by simp [Value.oneCell']) ?_)
        | fail)
      exact bodyPost_ret (v := .agg #[.slice A k c, .slice none 0 0, .int .i64 (-1), .bool false]) (results_blk rfl _ _ w.heap.size [.slice A k c, .slice none 0 0, .int .i64 (-1), .bool false] _ rfl HB2.out hu rfl info_rd) rfl ⟨A, c, rfl, by rw [HZS.out]; exact row_lower HR2.out (by omega), HL2.out⟩
end Go.Proofs.Ytjnfdhjnfginpaa
