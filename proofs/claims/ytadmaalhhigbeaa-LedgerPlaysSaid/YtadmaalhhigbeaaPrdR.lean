/- The order of nodes: what the program's and the document's return. -/
import Derived.Test.YtadmaalhhigbeaaPrdQ
import Derived.Test.YtadmaalhhigbeaaPrdM
namespace Go.Proofs.Ytadmaalhhigbeaa
set_option linter.unusedVariables false
set_option linter.unusedSimpArgs false
open Go Go.RowKit BitM ValM

def ncmp (a b : Nd) : Int := if cmpI a.1 b.1 ≠ 0 then cmpI a.1 b.1 else if cmpI a.2.1 b.2.1 ≠ 0 then cmpI a.2.1 b.2.1 else vcmp a.2.2 b.2.2
theorem vcmp_vals (a b : V3) : vcmp a b = -1 ∨ vcmp a b = 0 ∨ vcmp a b = 1 := by
  unfold vcmp
  split
  · exact cmpI_vals _ _
  · split
    · exact cmpI_vals _ _
    · exact cmpS_vals _ _
theorem ncmp_vals (a b : Nd) : ncmp a b = -1 ∨ ncmp a b = 0 ∨ ncmp a b = 1 := by
  unfold ncmp
  split
  · exact cmpI_vals _ _
  · split
    · exact cmpI_vals _ _
    · exact vcmp_vals _ _
theorem ncmp_neg (a b : Nd) : ncmp a b = -ncmp b a := by
  have h1 := cmpI_neg a.1 b.1
  have h2 := cmpI_neg a.2.1 b.2.1
  have h3 := vcmp_neg a.2.2 b.2.2
  unfold ncmp
  split <;> split <;> (try split) <;> (try split) <;> omega
/-- The order of filters. -/
def lcmp : List Nd → List Nd → Int
  | [], [] => 0
  | [], _ :: _ => -1
  | _ :: _, [] => 1
  | a :: l, b :: m => if ncmp a b ≠ 0 then ncmp a b else lcmp l m
theorem lcmp_vals : ∀ l m : List Nd, lcmp l m = -1 ∨ lcmp l m = 0 ∨ lcmp l m = 1
  | [], [] => by simp [lcmp]
  | [], _ :: _ => by simp [lcmp]
  | _ :: _, [] => by simp [lcmp]
  | a :: l, b :: m => by
    unfold lcmp
    split
    · exact ncmp_vals a b
    · exact lcmp_vals l m
theorem lcmp_neg : ∀ l m : List Nd, lcmp l m = -lcmp m l
  | [], [] => by simp [lcmp]
  | [], _ :: _ => by simp [lcmp]
  | _ :: _, [] => by simp [lcmp]
  | a :: l, b :: m => by
    have h1 := ncmp_neg a b
    have h2 := lcmp_neg l m
    unfold lcmp
    split <;> split <;> omega
theorem lcmp_wrap (l m : List Nd) : IntKind.i64.wrap (-lcmp l m) = -lcmp l m := by
  rcases lcmp_vals l m with h | h | h <;> rw [h] <;> decide +kernel
theorem lcmp_none (l m : List Nd) (k : Nat) (hk : k ≤ l.length) (hk2 : k ≤ m.length) (he : k = l.length ∨ k = m.length) : lcmp (l.drop k) (m.drop k) = if l.length < m.length then -1 else if m.length < l.length then 1 else 0 := by
  rcases he with rfl | rfl
  · rw [List.drop_length]
    rcases Nat.lt_or_ge l.length m.length with h | h
    · rw [List.drop_eq_getElem_cons h, if_pos h]; rfl
    · have e : m.length = l.length := by omega
      rw [if_neg (by omega), if_neg (by omega), List.drop_eq_nil_of_le h]; rfl
  · rw [List.drop_length]
    rcases Nat.lt_or_ge m.length l.length with h | h
    · rw [List.drop_eq_getElem_cons h, if_neg (by omega), if_pos h]; rfl
    · rw [if_neg (by omega), if_neg (by omega), List.drop_eq_nil_of_le h]; rfl
theorem lcmp_at (l m : List Nd) (k : Nat) (hk : k < l.length) (hk2 : k < m.length) : lcmp (l.drop k) (m.drop k) = if ncmp l[k] m[k] ≠ 0 then ncmp l[k] m[k] else lcmp (l.drop (k + 1)) (m.drop (k + 1)) := by
  rw [List.drop_eq_getElem_cons hk, List.drop_eq_getElem_cons hk2]; rfl

theorem two_nboxes (a b : Nd) (w : World) : ∃ W, W = (w.alloc (.cells (ncells a).toArray 71)).alloc (.cells (ncells b).toArray 71) ∧ Blk W w.heap.size (ncells a) ∧ Blk W (w.heap.size + 1) (ncells b) ∧ Below w.heap.size w W := by
  refine ⟨_, rfl, (Blk.new w (ncells a) 71).alloc _, ?_, ((Below.refl w.heap.size w).alloc (Nat.le_refl _) _).alloc (by simp) _⟩
  have := Blk.new (w.alloc (.cells (ncells a).toArray 71)) (ncells b) 71
  have hs1 : (w.alloc (.cells (ncells a).toArray 71)).heap.size = w.heap.size + 1 := by simp
  rw [hs1] at this
  exact this

set_option maxRecDepth 100000 in
set_option maxHeartbeats 1600000 in
theorem ncompare_any (a b : Nd) (w : World) : Calls Try.prog 76 #[.agg (ncells a).toArray, .agg (ncells b).toArray] w fun e w' => e = .returned (.int .i64 (ncmp a b)) ∧ Below w.heap.size w w' := by
  obtain ⟨k, n, s⟩ := a
  obtain ⟨k', n', s'⟩ := b
  have hu := Try.underlying69
  have HR : Hid (firstNZ [cmpI k k', cmpI n n', vcmp s s'] = ncmp (k, n, s) (k', n', s')) := Lib.hid (first3 _ _ _)
  have H1 := Lib.hid (fun wx : World => (cmpint_any k k' wx).mono fun e w' (h : e = .returned (.int .i64 (cmpI k k')) ∧ wx = w') => (show e = .returned (.int .i64 (cmpI k k')) ∧ Below wx.heap.size wx w' from ⟨h.1, h.2 ▸ Below.refl _ _⟩))
  have H2 := Lib.hid (fun wx : World => (cmpint_any n n' wx).mono fun e w' (h : e = .returned (.int .i64 (cmpI n n')) ∧ wx = w') => (show e = .returned (.int .i64 (cmpI n n')) ∧ Below wx.heap.size wx w' from ⟨h.1, h.2 ▸ Below.refl _ _⟩))
  have H3 := Lib.hid (fun wx : World => vcompare_any s s' wx)
  obtain ⟨c1, hc1⟩ : ∃ c, c = cmpI k k' := ⟨_, rfl⟩
  obtain ⟨c2, hc2⟩ : ∃ c, c = cmpI n n' := ⟨_, rfl⟩
  obtain ⟨c3, hc3⟩ : ∃ c, c = vcmp s s' := ⟨_, rfl⟩
  rw [← hc1] at H1 HR
  rw [← hc2] at H2 HR
  rw [← hc3] at H3 HR
  obtain ⟨r, hr⟩ : ∃ r, r = ncmp (k, n, s) (k', n', s') := ⟨_, rfl⟩
  rw [← hr] at HR ⊢
  clear hc1 hc2 hc3 hr
  obtain ⟨W, hW, B0, B1, hb⟩ := two_nboxes (k, n, s) (k', n', s') w
  obtain ⟨ca, hca⟩ : ∃ ca, ca = (ncells (k, n, s)).toArray := ⟨_, rfl⟩
  obtain ⟨cb, hcb⟩ : ∃ cb, cb = (ncells (k', n', s')).toArray := ⟨_, rfl⟩
  rw [← hca, ← hcb] at hW
  rw [← hca, ← hcb]
  have HW := Lib.hid hW
  clear hca hcb hW
  have p0 : ∀ kk : LW W, kk.val.cell? ⟨w.heap.size, 0, none⟩ = some (.int .i64 k) := fun kk => (B0.later kk.le).cell rfl
  have p1 : ∀ kk : LW W, kk.val.cell? ⟨w.heap.size, 1, none⟩ = some (.int .i64 n) := fun kk => (B0.later kk.le).cell rfl
  have q0 : ∀ kk : LW W, kk.val.cell? ⟨w.heap.size + 1, 0, none⟩ = some (.int .i64 k') := fun kk => (B1.later kk.le).cell rfl
  have q1 : ∀ kk : LW W, kk.val.cell? ⟨w.heap.size + 1, 1, none⟩ = some (.int .i64 n') := fun kk => (B1.later kk.le).cell rfl
  have HA := Lib.hid (fun (w1 : World) (hl : Le W w1) => (B0.later hl).range 2 (vcells s) rfl)
  have HB := Lib.hid (fun (w1 : World) (hl : Le W w1) => (B1.later hl).range 2 (vcells s') rfl)
  clear B0 B1
  rw [HW.out] at p0 p1 q0 q1 HA HB hb
  clear HW
  go_enter Try.func76, Try.ntmps76
  go_wp2_with fail
  generalize ((w.alloc (.cells ca 71)).alloc (.cells cb 71)) = W0 at *
  refine wp_region_steady [(20, relInts [c1, c2, c3])] 22 (by kernel_rfl) (by kernel_rfl) (by kernel_rfl) (by rfl) ?_
  iterate 4 (refine wpG_quiet (by rfl) (by rfl) (by rfl) (fun K hK => ?_); go_big_quiet_op; refine hK _ ?_; clear hK K)
  refine wpG_call (by rfl) (by rfl) 78 #[.int .i64 k, .int .i64 k'] (.int .i64 c1) (by intro _; simp [go_sem]) (by kernel_rfl) (fun w1 hl => (H1.out w1)) ?_
  simp only [Act.put, List.setIfInBounds_toArray, List.set_cons_zero, List.set_cons_succ]
  iterate 4 (refine wpG_quiet (by rfl) (by rfl) (by rfl) (fun K hK => ?_); go_big_quiet_op; refine hK _ ?_; clear hK K)
  refine wpG_call (by rfl) (by rfl) 78 #[.int .i64 n, .int .i64 n'] (.int .i64 c2) (by intro _; simp [go_sem]) (by kernel_rfl) (fun w1 hl => (H2.out w1)) ?_
  simp only [Act.put, List.setIfInBounds_toArray, List.set_cons_zero, List.set_cons_succ]
  iterate 1 (refine wpG_quiet (by rfl) (by rfl) (by rfl) (fun K hK => ?_); go_big_quiet_op; refine hK _ ?_; clear hK K)
  refine wpG_run (by rfl) (by rfl) (.agg (vcells s).toArray) (fun w1 hl => exec_load 69 (.tmp 15) rfl w.heap.size 2 rfl (vcells s) _ (HA.out w1 hl.1) hu rfl info_val) ?_
  simp only [Act.put, List.setIfInBounds_toArray, List.set_cons_zero, List.set_cons_succ]
  iterate 1 (refine wpG_quiet (by rfl) (by rfl) (by rfl) (fun K hK => ?_); go_big_quiet_op; refine hK _ ?_; clear hK K)
  refine wpG_run (by rfl) (by rfl) (.agg (vcells s').toArray) (fun w1 hl => exec_load 69 (.tmp 17) rfl (w.heap.size + 1) 2 rfl (vcells s') _ (HB.out w1 hl.1) hu rfl info_val) ?_
  simp only [Act.put, List.setIfInBounds_toArray, List.set_cons_zero, List.set_cons_succ]
  refine wpG_call (by rfl) (by rfl) 79 #[.agg (vcells s).toArray, .agg (vcells s').toArray] (.int .i64 c3) (by intro _; simp [go_sem]) (by kernel_rfl) (fun w1 hl => (H3.out w1)) ?_
  simp only [Act.put, List.setIfInBounds_toArray, List.set_cons_zero, List.set_cons_succ]
  refine wpG_open (relInts [c1, c2, c3]) (by rfl) (by rfl) (fun w1 hl => ints3_gives (.tmp 9) (.tmp 14) (.tmp 19) c1 c2 c3 rfl rfl rfl rfl w1) ?_
  rintro _ ⟨_, _, _, ⟨g, rfl, _⟩⟩
  simp only [Act.put, List.setIfInBounds_toArray, List.set_cons_zero, List.set_cons_succ]
  refine wpG_call (by rfl) (by rfl) 77 #[.slice (some ⟨g, 0, none⟩) 3 3] (.int .i64 r) (by intro _; simp [go_sem]) (by kernel_rfl) (fun w1 hl => ?_) ?_
  · obtain ⟨g5, h5, r5⟩ := hl.2 20 _ (by simp [Op.operands, Call.operands]) rfl (by intro h; cases h)
    cases h5
    have := or_any (some ⟨g, 0, none⟩) 3 3 [c1, c2, c3] w1 w1.heap.size rfl r5.seesInts (by omega)
    rw [HR.out] at this
    exact this.mono fun e w' h => ⟨h.1, h.2 ▸ Below.refl _ _⟩
  simp only [Act.put, List.setIfInBounds_toArray, List.set_cons_zero, List.set_cons_succ]
  iterate 1 (refine wpG_quiet (by rfl) (by rfl) (by rfl) (fun K hK => ?_); go_big_quiet_op; refine hK _ ?_; clear hK K)
  refine wpG_nil fun w1 hl _ => ?_
  have hb1 := hb.trans (hl.mono hb.size)
  clear p0 p1 q0 q1 HA HB hb
  go_wp2_with fail
  go_ret
  exact ⟨rfl, hb1⟩

end Go.Proofs.Ytadmaalhhigbeaa
