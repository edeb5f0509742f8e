/- Compare of values and numbers: what the program's and the document's return (of ValB, ValF, ValG). -/
import Derived.Test.YtnhcjadkbogioaaK3
import Derived.Test.YtnhcjadkbogioaaK20
import Derived.Test.YtnhcjadkbogioaaK2
import Derived.WalkLawsBesides
import Derived.Test.YtnhcjadkbogioaaK7
import Derived.Test.YtnhcjadkbogioaaK11
import Derived.Test.YtnhcjadkbogioaaK6
import Derived.Test.YtnhcjadkbogioaaK13
namespace Go.Proofs.Ytnhcjadkbogioaa
set_option linter.unusedVariables false
set_option linter.unusedSimpArgs false
open Go Go.RowKit BitM ValM

theorem cmpint_any (x y : Int) (w : World) : Calls Try.prog 65 #[.int .i64 x, .int .i64 y] w fun e w' => e = .returned (.int .i64 (cmpI x y)) ∧ w = w' := by
  obtain ⟨F, hF⟩ : ∃ F, F = cmpI x y := ⟨_, rfl⟩
  rw [← hF]
  unfold cmpI at hF
  have HF := Lib.hid hF
  clear hF
  rcases Int.lt_trichotomy x y with h | h | h
  · have HR : Hid (F = -1) := Lib.hid (by rw [HF.out, if_pos h])
    clear HF
    go_enter Try.func65, Try.ntmps65
    go_wp2
    go_ret
    exact ⟨by rw [HR.out]; rfl, rfl⟩
  · have HR : Hid (F = 0) := Lib.hid (by rw [HF.out, if_neg (by omega), if_neg (by omega)])
    clear HF
    subst h
    go_enter Try.func65, Try.ntmps65
    go_wp2
    go_ret
    exact ⟨by rw [HR.out]; rfl, rfl⟩
  · have HR : Hid (F = 1) := Lib.hid (by rw [HF.out, if_neg (by omega), if_pos h])
    clear HF
    go_enter Try.func65, Try.ntmps65
    go_wp2
    go_ret
    exact ⟨by rw [HR.out]; rfl, rfl⟩

theorem cmpstr_any (s t : ByteArray) (w : World) : Calls Try.prog 92 #[.string s, .string t] w fun e w' => e = .returned (.int .i64 (cmpS s.data.toList t.data.toList)) ∧ w = w' := by
  have hs := ByteArray.toList_eq s
  have ht := ByteArray.toList_eq t
  obtain ⟨F, hF⟩ : ∃ F, F = cmpS s.data.toList t.data.toList := ⟨_, rfl⟩
  rw [← hF]
  unfold cmpS at hF
  rw [← hs, ← ht] at hF
  have HF := Lib.hid hF
  clear hs ht hF
  rcases bl_tri s.toList t.toList with h | h | h
  · have HR : Hid (F = -1) := Lib.hid (by rw [HF.out, if_pos h])
    clear HF
    go_enter Try.func92, Try.ntmps92
    go_wp2
    go_ret
    exact ⟨by rw [HR.out]; rfl, rfl⟩
  · have h2 : Op.bytesLess s.toList t.toList = false := by rw [h]; exact bl_irrefl _
    have h3 : Op.bytesLess t.toList s.toList = false := by rw [h]; exact bl_irrefl _
    have h4 : (s.toList == t.toList) = true := by simp [h]
    have HR : Hid (F = 0) := Lib.hid (by rw [HF.out, h2, h3]; rfl)
    clear h h3 HF
    go_enter Try.func92, Try.ntmps92
    go_wp2
    go_ret
    exact ⟨by rw [HR.out]; rfl, rfl⟩
  · have h2 := bl_asymm h
    have h4 : (s.toList == t.toList) = false := by
      rw [beq_eq_false_iff_ne]
      intro e
      rw [e, bl_irrefl] at h
      cases h
    have HR : Hid (F = 1) := Lib.hid (by rw [HF.out, h2, h]; rfl)
    clear h HF
    go_enter Try.func92, Try.ntmps92
    go_wp2
    go_ret
    exact ⟨by rw [HR.out]; rfl, rfl⟩

/-- The first number that is not 0. -/
def firstNZ (l : List Int) : Int := (l.find? fun x => x != 0).getD 0
set_option maxHeartbeats 800000 in
theorem or_any (A : Option Addr) (n c : Nat) (l : List Int) (w : World) (B : Nat) (hn : l.length = n) (hs : Sees w B A (ivs l)) (hm : n ≤ 65536) :
    Calls Try.prog 64 #[.slice A n c] w fun e w' => e = .returned (.int .i64 (firstNZ l)) ∧ w = w' := by
  subst hn
  have HF : Hid (firstNZ l = (l.find? fun x => x != 0).getD 0) := Lib.hid rfl
  obtain ⟨F, hF⟩ : ∃ F, F = firstNZ l := ⟨_, rfl⟩
  rw [← hF] at HF ⊢
  clear hF
  go_enter Try.func64, Try.ntmps64
  go_wp2_with fail
  go_loop [8] (fun i => ∃ k : Nat, k ≤ l.length ∧ i = .int .i64 k ∧ Hid (F = ((l.drop k).find? fun x => x != 0).getD 0)) (fun i => l.length - (intOf i).toNat)
  case atStart => exact ⟨0, Nat.zero_le _, rfl, HF⟩
  case round =>
    obtain ⟨k, hk, rfl, HX⟩ := hrel
    by_cases hlt : k < l.length
    · obtain ⟨b, o, rfl, hb, hc⟩ := hs.int k hlt
      obtain ⟨y, hy⟩ : ∃ y, y = l[k] := ⟨_, rfl⟩
      rw [← hy] at hc
      have HS : Hid (F = if (y != 0) = true then y else ((l.drop (k + 1)).find? fun x => x != 0).getD 0) := Lib.hid (by
        rw [HX.out, List.drop_eq_getElem_cons hlt, ← hy, List.find?_cons]
        cases (y != 0) <;> rfl)
      clear hy
      cases h0 : (y != 0) with
      | true =>
        rw [h0] at HS
        go_wp2_with fail
        go_ret
        exact ⟨by rw [HS.out]; rfl, rfl⟩
      | false =>
        rw [h0] at HS
        go_wp2_with fail
        go_round
        case rel => exact ⟨k + 1, by omega, by go_num, Lib.hid (by rw [HS.out]; rfl)⟩
        case measure => simp [intOf]; omega
    · obtain rfl : k = l.length := by omega
      have HS : Hid (F = 0) := Lib.hid (by rw [HX.out, List.drop_length]; rfl)
      go_wp2_with fail
      go_ret
      exact ⟨by rw [HS.out]; rfl, rfl⟩

/-- A slot that holds a slice of numbers. -/
def relInts (l : List Int) : Rel where
  rel x w := ∃ g, x = .slice (some ⟨g, 0, none⟩) l.length l.length ∧ Blk w g (ivs l)
  mono := fun x w w' h ⟨g, e, hr⟩ => ⟨g, e, hr.later h⟩
  real := fun w ⟨g, e, _⟩ => by cases e
theorem Blk.seesInts {w : World} {g : Nat} {l : List Int} (h : Blk w g (ivs l)) : Sees w w.heap.size (some ⟨g, 0, none⟩) (ivs l) := fun _ => by
  refine ⟨g, 0, rfl, h.lt, fun j hj => ?_⟩
  rw [Nat.zero_add]
  exact h.cell (List.getElem?_eq_getElem hj)
theorem run_ints3 (a b c : Int) (w : World) : (Instr.buildSlice 103 3 #[(0, .int .i64 a), (1, .int .i64 b), (2, .int .i64 c)]).run Try.prog w = .ok (.slice (some ⟨w.heap.size, 0, none⟩) 3 3) (w.alloc (.cells (ivs [a, b, c]).toArray 3)) := by kernel_rfl
theorem ints3_gives {a : Act} {op : Oper} (x y z : Operand) (p q r : Int) (ho : op.op = .buildSlice 103 3 #[(0, x), (1, y), (2, z)]) (hx : a.eval x = .int .i64 p) (hy : a.eval y = .int .i64 q) (hz : a.eval z = .int .i64 r) (w : World) : gives Try.prog op a (relInts [p, q, r]).rel w := by
  unfold gives execOp
  simp only [ho, List.map_toArray, List.map_cons, List.map_nil, hx, hy, hz, Sem.run_bind, run_ints3, Result.andThen_ok, Sem.run_pure]
  exact ⟨(Below.refl _ _).alloc (Nat.le_refl _) _, _, rfl, Blk.new w _ _⟩

theorem first3 (a b c : Int) : firstNZ [a, b, c] = if a ≠ 0 then a else if b ≠ 0 then b else c := by
  unfold firstNZ
  by_cases h1 : a = 0
  · by_cases h2 : b = 0
    · by_cases h3 : c = 0 <;> simp [h1, h2, h3]
    · simp [h1, h2]
  · simp [h1]

set_option maxRecDepth 100000 in
set_option maxHeartbeats 1600000 in
theorem vcompare_any (a b : V3) (w : World) : Calls Try.prog 66 #[.agg (vcells a).toArray, .agg (vcells b).toArray] w fun e w' => e = .returned (.int .i64 (vcmp a b)) ∧ Below w.heap.size w w' := by
  obtain ⟨k, n, s⟩ := a
  obtain ⟨k', n', s'⟩ := b
  have HR : Hid (firstNZ [cmpI k k', cmpI n n', cmpS s.data.toList s'.data.toList] = vcmp (k, n, s) (k', n', s')) := Lib.hid (first3 _ _ _)
  have H1 := Lib.hid (fun wx : World => (cmpint_any k k' wx).mono fun e w' (h : e = .returned (.int .i64 (cmpI k k')) ∧ wx = w') => (show e = .returned (.int .i64 (cmpI k k')) ∧ Below wx.heap.size wx w' from ⟨h.1, h.2 ▸ Below.refl _ _⟩))
  have H2 := Lib.hid (fun wx : World => (cmpint_any n n' wx).mono fun e w' (h : e = .returned (.int .i64 (cmpI n n')) ∧ wx = w') => (show e = .returned (.int .i64 (cmpI n n')) ∧ Below wx.heap.size wx w' from ⟨h.1, h.2 ▸ Below.refl _ _⟩))
  have H3 := Lib.hid (fun wx : World => (cmpstr_any s s' wx).mono fun e w' (h : e = .returned (.int .i64 (cmpS s.data.toList s'.data.toList)) ∧ wx = w') => (show e = .returned (.int .i64 (cmpS s.data.toList s'.data.toList)) ∧ Below wx.heap.size wx w' from ⟨h.1, h.2 ▸ Below.refl _ _⟩))
  obtain ⟨c1, hc1⟩ : ∃ c, c = cmpI k k' := ⟨_, rfl⟩
  obtain ⟨c2, hc2⟩ : ∃ c, c = cmpI n n' := ⟨_, rfl⟩
  obtain ⟨c3, hc3⟩ : ∃ c, c = cmpS s.data.toList s'.data.toList := ⟨_, rfl⟩
  rw [← hc1] at H1 HR
  rw [← hc2] at H2 HR
  rw [← hc3] at H3 HR
  obtain ⟨r, hr⟩ : ∃ r, r = vcmp (k, n, s) (k', n', s') := ⟨_, rfl⟩
  rw [← hr] at HR ⊢
  clear hc1 hc2 hc3 hr
  have B0 := (Blk.new w (vcells (k, n, s)) 24).alloc (.cells (vcells (k', n', s')).toArray 24)
  have B1 := Blk.new (w.alloc (.cells (vcells (k, n, s)).toArray 24)) (vcells (k', n', s')) 24
  have hb := ((Below.refl w.heap.size w).alloc (Nat.le_refl _) (.cells (vcells (k, n, s)).toArray 24)).alloc (by simp) (.cells (vcells (k', n', s')).toArray 24)
  have hs1 : (w.alloc (.cells (vcells (k, n, s)).toArray 24)).heap.size = w.heap.size + 1 := by simp
  rw [hs1] at B1
  clear hs1
  go_enter Try.func66, Try.ntmps66
  go_wp2_with fail
  generalize ((w.alloc (.cells (vcells (k, n, s)).toArray 24)).alloc (.cells (vcells (k', n', s')).toArray 24)) = W at *
  have p0 : ∀ kk : LW W, kk.val.cell? ⟨w.heap.size, 0, none⟩ = some (.int .i64 k) := fun kk => (B0.later kk.le).cell rfl
  have p1 : ∀ kk : LW W, kk.val.cell? ⟨w.heap.size, 1, none⟩ = some (.int .i64 n) := fun kk => (B0.later kk.le).cell rfl
  have p2 : ∀ kk : LW W, kk.val.cell? ⟨w.heap.size, 2, none⟩ = some (.string s) := fun kk => (B0.later kk.le).cell rfl
  have q0 : ∀ kk : LW W, kk.val.cell? ⟨w.heap.size + 1, 0, none⟩ = some (.int .i64 k') := fun kk => (B1.later kk.le).cell rfl
  have q1 : ∀ kk : LW W, kk.val.cell? ⟨w.heap.size + 1, 1, none⟩ = some (.int .i64 n') := fun kk => (B1.later kk.le).cell rfl
  have q2 : ∀ kk : LW W, kk.val.cell? ⟨w.heap.size + 1, 2, none⟩ = some (.string s') := fun kk => (B1.later kk.le).cell rfl
  refine wp_region_steady [(20, relInts [c1, c2, c3])] 22 (by kernel_rfl) (by kernel_rfl) (by kernel_rfl) (by rfl) ?_
  iterate 4 (refine wpG_quiet (by rfl) (by rfl) (by rfl) (fun K hK => ?_); go_big_quiet_op; refine hK _ ?_; clear hK K)
  refine wpG_call (by rfl) (by rfl) 65 #[.int .i64 k, .int .i64 k'] (.int .i64 c1) (by intro _; simp [go_sem]) (by kernel_rfl) (fun w1 hl => (H1.out w1)) ?_
  simp only [Act.put, List.setIfInBounds_toArray, List.set_cons_zero, List.set_cons_succ]
  iterate 4 (refine wpG_quiet (by rfl) (by rfl) (by rfl) (fun K hK => ?_); go_big_quiet_op; refine hK _ ?_; clear hK K)
  refine wpG_call (by rfl) (by rfl) 65 #[.int .i64 n, .int .i64 n'] (.int .i64 c2) (by intro _; simp [go_sem]) (by kernel_rfl) (fun w1 hl => (H2.out w1)) ?_
  simp only [Act.put, List.setIfInBounds_toArray, List.set_cons_zero, List.set_cons_succ]
  iterate 4 (refine wpG_quiet (by rfl) (by rfl) (by rfl) (fun K hK => ?_); go_big_quiet_op; refine hK _ ?_; clear hK K)
  refine wpG_call (by rfl) (by rfl) 92 #[.string s, .string s'] (.int .i64 c3) (by intro _; simp [go_sem]) (by kernel_rfl) (fun w1 hl => (H3.out w1)) ?_
  simp only [Act.put, List.setIfInBounds_toArray, List.set_cons_zero, List.set_cons_succ]
  refine wpG_open (relInts [c1, c2, c3]) (by rfl) (by rfl) (fun w1 hl => ints3_gives (.tmp 9) (.tmp 14) (.tmp 19) c1 c2 c3 rfl rfl rfl rfl w1) ?_
  rintro _ ⟨_, _, _, ⟨g, rfl, _⟩⟩
  simp only [Act.put, List.setIfInBounds_toArray, List.set_cons_zero, List.set_cons_succ]
  refine wpG_call (by rfl) (by rfl) 64 #[.slice (some ⟨g, 0, none⟩) 3 3] (.int .i64 r) (by intro _; simp [go_sem]) (by kernel_rfl) (fun w1 hl => ?_) ?_
  · obtain ⟨g5, h5, r5⟩ := hl.2 20 _ (by simp [Op.operands, Call.operands]) rfl (by intro h; cases h)
    cases h5
    have := or_any (some ⟨g, 0, none⟩) 3 3 [c1, c2, c3] w1 w1.heap.size rfl r5.seesInts (by omega)
    rw [HR.out] at this
    exact this.mono fun e w' h => ⟨h.1, h.2 ▸ Below.refl _ _⟩
  simp only [Act.put, List.setIfInBounds_toArray, List.set_cons_zero, List.set_cons_succ]
  iterate 1 (refine wpG_quiet (by rfl) (by rfl) (by rfl) (fun K hK => ?_); go_big_quiet_op; refine hK _ ?_; clear hK K)
  refine wpG_nil fun w1 hl _ => ?_
  have hb1 := hb.trans (hl.mono hb.size)
  clear p0 p1 p2 q0 q1 q2 B0 B1 hb
  go_wp2_with fail
  go_ret
  exact ⟨rfl, hb1⟩

theorem Blk.val {w : World} {g : Nat} {k n : Int} {s : ByteArray} (h : Blk w g (vcells (k, n, s))) : w.cell? ⟨g, 0, none⟩ = some (.int .i64 k) ∧ w.cell? ⟨g, 1, none⟩ = some (.int .i64 n) ∧ w.cell? ⟨g, 2, none⟩ = some (.string s) := ⟨h.cell rfl, h.cell rfl, h.cell rfl⟩
end Go.Proofs.Ytnhcjadkbogioaa

/- The order of nodes: what the program's and the document's return. -/
namespace Go.Proofs.Ytnhcjadkbogioaa
set_option linter.unusedVariables false
set_option linter.unusedSimpArgs false
open Go Go.RowKit BitM ValM

def ncmp (a b : Nd) : Int := if cmpI a.1 b.1 ≠ 0 then cmpI a.1 b.1 else if cmpI a.2.1 b.2.1 ≠ 0 then cmpI a.2.1 b.2.1 else vcmp a.2.2 b.2.2
/-- The order of filters. -/
def lcmp : List Nd → List Nd → Int
  | [], [] => 0
  | [], _ :: _ => -1
  | _ :: _, [] => 1
  | a :: l, b :: m => if ncmp a b ≠ 0 then ncmp a b else lcmp l m
theorem lcmp_none (l m : List Nd) (k : Nat) (hk : k ≤ l.length) (hk2 : k ≤ m.length) (he : k = l.length ∨ k = m.length) : lcmp (l.drop k) (m.drop k) = if l.length < m.length then -1 else if m.length < l.length then 1 else 0 := by
  rcases he with rfl | rfl
  · rw [List.drop_length]
    rcases Nat.lt_or_ge l.length m.length with h | h
    · rw [List.drop_eq_getElem_cons h, if_pos h]; rfl
    · have e : m.length = l.length := by omega
      rw [if_neg (by omega), if_neg (by omega), List.drop_eq_nil_of_le h]; rfl
  · rw [List.drop_length]
    rcases Nat.lt_or_ge m.length l.length with h | h
    · rw [List.drop_eq_getElem_cons h, if_neg (by omega), if_pos h]; rfl
    · rw [if_neg (by omega), if_neg (by omega), List.drop_eq_nil_of_le h]; rfl
theorem lcmp_at (l m : List Nd) (k : Nat) (hk : k < l.length) (hk2 : k < m.length) : lcmp (l.drop k) (m.drop k) = if ncmp l[k] m[k] ≠ 0 then ncmp l[k] m[k] else lcmp (l.drop (k + 1)) (m.drop (k + 1)) := by
  rw [List.drop_eq_getElem_cons hk, List.drop_eq_getElem_cons hk2]; rfl

theorem two_nboxes (a b : Nd) (w : World) : ∃ W, W = (w.alloc (.cells (ncells a).toArray 76)).alloc (.cells (ncells b).toArray 76) ∧ Blk W w.heap.size (ncells a) ∧ Blk W (w.heap.size + 1) (ncells b) ∧ Below w.heap.size w W := by
  refine ⟨_, rfl, (Blk.new w (ncells a) 76).alloc _, ?_, ((Below.refl w.heap.size w).alloc (Nat.le_refl _) _).alloc (by simp) _⟩
  have := Blk.new (w.alloc (.cells (ncells a).toArray 76)) (ncells b) 76
  have hs1 : (w.alloc (.cells (ncells a).toArray 76)).heap.size = w.heap.size + 1 := by simp
  rw [hs1] at this
  exact this

set_option maxRecDepth 100000 in
set_option maxHeartbeats 1600000 in
theorem ncompare_any (a b : Nd) (w : World) : Calls Try.prog 63 #[.agg (ncells a).toArray, .agg (ncells b).toArray] w fun e w' => e = .returned (.int .i64 (ncmp a b)) ∧ Below w.heap.size w w' := by
  obtain ⟨k, n, s⟩ := a
  obtain ⟨k', n', s'⟩ := b
  have hu := Try.underlying24
  have HR : Hid (firstNZ [cmpI k k', cmpI n n', vcmp s s'] = ncmp (k, n, s) (k', n', s')) := Lib.hid (first3 _ _ _)
  have H1 := Lib.hid (fun wx : World => (cmpint_any k k' wx).mono fun e w' (h : e = .returned (.int .i64 (cmpI k k')) ∧ wx = w') => (show e = .returned (.int .i64 (cmpI k k')) ∧ Below wx.heap.size wx w' from ⟨h.1, h.2 ▸ Below.refl _ _⟩))
  have H2 := Lib.hid (fun wx : World => (cmpint_any n n' wx).mono fun e w' (h : e = .returned (.int .i64 (cmpI n n')) ∧ wx = w') => (show e = .returned (.int .i64 (cmpI n n')) ∧ Below wx.heap.size wx w' from ⟨h.1, h.2 ▸ Below.refl _ _⟩))
  have H3 := Lib.hid (fun wx : World => vcompare_any s s' wx)
  obtain ⟨c1, hc1⟩ : ∃ c, c = cmpI k k' := ⟨_, rfl⟩
  obtain ⟨c2, hc2⟩ : ∃ c, c = cmpI n n' := ⟨_, rfl⟩
  obtain ⟨c3, hc3⟩ : ∃ c, c = vcmp s s' := ⟨_, rfl⟩
  rw [← hc1] at H1 HR
  rw [← hc2] at H2 HR
  rw [← hc3] at H3 HR
  obtain ⟨r, hr⟩ : ∃ r, r = ncmp (k, n, s) (k', n', s') := ⟨_, rfl⟩
  rw [← hr] at HR ⊢
  clear hc1 hc2 hc3 hr
  obtain ⟨W, hW, B0, B1, hb⟩ := two_nboxes (k, n, s) (k', n', s') w
  obtain ⟨ca, hca⟩ : ∃ ca, ca = (ncells (k, n, s)).toArray := ⟨_, rfl⟩
  obtain ⟨cb, hcb⟩ : ∃ cb, cb = (ncells (k', n', s')).toArray := ⟨_, rfl⟩
  rw [← hca, ← hcb] at hW
  rw [← hca, ← hcb]
  have HW := Lib.hid hW
  clear hca hcb hW
  have p0 : ∀ kk : LW W, kk.val.cell? ⟨w.heap.size, 0, none⟩ = some (.int .i64 k) := fun kk => (B0.later kk.le).cell rfl
  have p1 : ∀ kk : LW W, kk.val.cell? ⟨w.heap.size, 1, none⟩ = some (.int .i64 n) := fun kk => (B0.later kk.le).cell rfl
  have q0 : ∀ kk : LW W, kk.val.cell? ⟨w.heap.size + 1, 0, none⟩ = some (.int .i64 k') := fun kk => (B1.later kk.le).cell rfl
  have q1 : ∀ kk : LW W, kk.val.cell? ⟨w.heap.size + 1, 1, none⟩ = some (.int .i64 n') := fun kk => (B1.later kk.le).cell rfl
  have HA := Lib.hid (fun (w1 : World) (hl : Le W w1) => (B0.later hl).range 2 (vcells s) rfl)
  have HB := Lib.hid (fun (w1 : World) (hl : Le W w1) => (B1.later hl).range 2 (vcells s') rfl)
  clear B0 B1
  rw [HW.out] at p0 p1 q0 q1 HA HB hb
  clear HW
  go_enter Try.func63, Try.ntmps63
  go_wp2_with fail
  generalize ((w.alloc (.cells ca 76)).alloc (.cells cb 76)) = W0 at *
  refine wp_region_steady [(20, relInts [c1, c2, c3])] 22 (by kernel_rfl) (by kernel_rfl) (by kernel_rfl) (by rfl) ?_
  iterate 4 (refine wpG_quiet (by rfl) (by rfl) (by rfl) (fun K hK => ?_); go_big_quiet_op; refine hK _ ?_; clear hK K)
  refine wpG_call (by rfl) (by rfl) 65 #[.int .i64 k, .int .i64 k'] (.int .i64 c1) (by intro _; simp [go_sem]) (by kernel_rfl) (fun w1 hl => (H1.out w1)) ?_
  simp only [Act.put, List.setIfInBounds_toArray, List.set_cons_zero, List.set_cons_succ]
  iterate 4 (refine wpG_quiet (by rfl) (by rfl) (by rfl) (fun K hK => ?_); go_big_quiet_op; refine hK _ ?_; clear hK K)
  refine wpG_call (by rfl) (by rfl) 65 #[.int .i64 n, .int .i64 n'] (.int .i64 c2) (by intro _; simp [go_sem]) (by kernel_rfl) (fun w1 hl => (H2.out w1)) ?_
  simp only [Act.put, List.setIfInBounds_toArray, List.set_cons_zero, List.set_cons_succ]
  iterate 1 (refine wpG_quiet (by rfl) (by rfl) (by rfl) (fun K hK => ?_); go_big_quiet_op; refine hK _ ?_; clear hK K)
  refine wpG_run (by rfl) (by rfl) (.agg (vcells s).toArray) (fun w1 hl => exec_load 24 (.tmp 15) rfl w.heap.size 2 rfl (vcells s) _ (HA.out w1 hl.1) hu rfl info_val) ?_
  simp only [Act.put, List.setIfInBounds_toArray, List.set_cons_zero, List.set_cons_succ]
  iterate 1 (refine wpG_quiet (by rfl) (by rfl) (by rfl) (fun K hK => ?_); go_big_quiet_op; refine hK _ ?_; clear hK K)
  refine wpG_run (by rfl) (by rfl) (.agg (vcells s').toArray) (fun w1 hl => exec_load 24 (.tmp 17) rfl (w.heap.size + 1) 2 rfl (vcells s') _ (HB.out w1 hl.1) hu rfl info_val) ?_
  simp only [Act.put, List.setIfInBounds_toArray, List.set_cons_zero, List.set_cons_succ]
  refine wpG_call (by rfl) (by rfl) 66 #[.agg (vcells s).toArray, .agg (vcells s').toArray] (.int .i64 c3) (by intro _; simp [go_sem]) (by kernel_rfl) (fun w1 hl => (H3.out w1)) ?_
  simp only [Act.put, List.setIfInBounds_toArray, List.set_cons_zero, List.set_cons_succ]
  refine wpG_open (relInts [c1, c2, c3]) (by rfl) (by rfl) (fun w1 hl => ints3_gives (.tmp 9) (.tmp 14) (.tmp 19) c1 c2 c3 rfl rfl rfl rfl w1) ?_
  rintro _ ⟨_, _, _, ⟨g, rfl, _⟩⟩
  simp only [Act.put, List.setIfInBounds_toArray, List.set_cons_zero, List.set_cons_succ]
  refine wpG_call (by rfl) (by rfl) 64 #[.slice (some ⟨g, 0, none⟩) 3 3] (.int .i64 r) (by intro _; simp [go_sem]) (by kernel_rfl) (fun w1 hl => ?_) ?_
  · obtain ⟨g5, h5, r5⟩ := hl.2 20 _ (by simp [Op.operands, Call.operands]) rfl (by intro h; cases h)
    cases h5
    have := or_any (some ⟨g, 0, none⟩) 3 3 [c1, c2, c3] w1 w1.heap.size rfl r5.seesInts (by omega)
    rw [HR.out] at this
    exact this.mono fun e w' h => ⟨h.1, h.2 ▸ Below.refl _ _⟩
  simp only [Act.put, List.setIfInBounds_toArray, List.set_cons_zero, List.set_cons_succ]
  iterate 1 (refine wpG_quiet (by rfl) (by rfl) (by rfl) (fun K hK => ?_); go_big_quiet_op; refine hK _ ?_; clear hK K)
  refine wpG_nil fun w1 hl _ => ?_
  have hb1 := hb.trans (hl.mono hb.size)
  clear p0 p1 q0 q1 HA HB hb
  go_wp2_with fail
  go_ret
  exact ⟨rfl, hb1⟩

end Go.Proofs.Ytnhcjadkbogioaa

/- The order of filters: what slices.CompareFunc, the program's Compare and the document's return. -/
namespace Go.Proofs.Ytnhcjadkbogioaa
set_option linter.unusedVariables false
set_option linter.unusedSimpArgs false
open Go Go.RowKit BitM ValM

theorem node_there (w : World) : (w.alloc (.cells #[.int .i64 0, .int .i64 0, .int .i64 0, .int .i64 0, .string ⟨#[]⟩] 76)).there w.heap.size 0 5 := (Blk.new w (ncells zn) 76).there 0 5 (by rw [ncells_len]; exact Nat.le_refl 5)
set_option maxHeartbeats 1600000 in
theorem node_put (w W : World) (n : Nd) (nc : List Value) (hnc : nc = ncells n) (hW : W = (w.alloc (.cells #[.int .i64 0, .int .i64 0, .int .i64 0, .int .i64 0, .string ⟨#[]⟩] 76)).setCells w.heap.size 0 nc) : Blk W w.heap.size nc ∧ Below w.heap.size w W ∧ W.heap.size = w.heap.size + 1 := by
  subst hnc hW
  have BN := Blk.new w (ncells zn) 76
  have FIN := BN.sets (ncells n) 0 (by rw [ncells_len, ncells_len]; exact Nat.le_refl 5)
  have e1 : (ncells zn).take 0 ++ ncells n ++ (ncells zn).drop (0 + (ncells n).length) = ncells n := by simp [ncells]
  rw [e1] at FIN
  exact ⟨FIN, below_sets (Nat.le_refl w.heap.size) (ncells n) 0 ((Below.refl w.heap.size w).alloc (Nat.le_refl _) (.cells (ncells zn).toArray 76)), by rw [size_sets]; simp⟩
theorem node_one (n : Nd) : ∀ v ∈ ncells n, v.oneCell' = true := fun v hv => ncs_one [n] v (by simpa [ncs] using hv)

set_option maxRecDepth 100000 in
set_option maxHeartbeats 3200000 in
theorem cmpfunc_any (A : Option Addr) (n c : Nat) (l : List Nd) (A' : Option Addr) (n' c' : Nat) (m : List Nd) (w : World) (hn : l.length = n) (hn' : m.length = n') (hs : Sees w w.heap.size A (ncs l)) (hs' : Sees w w.heap.size A' (ncs m)) (hm : n ≤ 65536) :
    Calls Try.prog 62 #[.slice A n c, .slice A' n' c', (.func (.func 63) #[] #[])] w fun e w' => e = .returned (.int .i64 (lcmp l m)) ∧ Below w.heap.size w w' := by
  have HN := Lib.hid hn
  have HN' := Lib.hid hn'
  have hu := Try.underlying76
  obtain ⟨R, hR⟩ : ∃ R, R = lcmp l m := ⟨_, rfl⟩
  have HR := Lib.hid hR
  rw [← hR]
  clear hn hn' hR
  go_enter Try.func62, Try.ntmps62
  go_wp2_with fail
  go_loopw [13] (fun i wr => ∃ k : Nat, k ≤ n ∧ k ≤ n' ∧ i = .int .i64 k ∧ Hid (R = lcmp (l.drop k) (m.drop k)) ∧ Below w.heap.size w wr) (fun i _ => n - (intOf i).toNat)
  case atStart => exact ⟨0, Nat.zero_le _, Nat.zero_le _, rfl, Lib.hid (by rw [HR.out]; rfl), Below.refl _ _⟩
  case round =>
    obtain ⟨k, hk, hk', rfl, HP, hbr⟩ := hrel
    by_cases hlt : k < n
    · have d1 : decide ((k : Int) < (n : Int)) = true := by simp; omega
      have hkl : k < l.length := by rw [HN.out]; exact hlt
      obtain ⟨b, o, rfl, hb, hcc, hc2, hrg⟩ := sees_node ((hs.below hbr).more hbr.size) k hkl
      clear hcc hc2
      obtain ⟨nc, hnc⟩ : ∃ nc, nc = ncells l[k] := ⟨_, rfl⟩
      obtain ⟨W1, hW1⟩ : ∃ W1, W1 = (wr.alloc (.cells #[.int .i64 0, .int .i64 0, .int .i64 0, .int .i64 0, .string ⟨#[]⟩] 76)).setCells wr.heap.size 0 nc := ⟨_, rfl⟩
      obtain ⟨F1, B1, z1⟩ := node_put wr W1 l[k] nc hnc hW1
      have TH1 := node_there wr
      have HW1 := Lib.hid hW1
      have HSZ := Lib.hid (show nc.length = 5 by rw [hnc]; rfl)
      have HONE := Lib.hid (hnc ▸ node_one l[k])
      rw [← hnc] at hrg
      by_cases hlt' : k < n'
      · have d2 : decide ((k : Int) ≥ (n' : Int)) = false := by simp; omega
        have d3 : decide ((n' : Int) ≤ (k : Int)) = false := by simp; omega
        have hkm : k < m.length := by rw [HN'.out]; exact hlt'
        have hbr1 := hbr.trans (B1.mono hbr.size)
        obtain ⟨b', o', rfl, hb', hcc', hc2', hrg'⟩ := sees_node ((hs'.below hbr1).more hbr1.size) k hkm
        clear hcc' hc2'
        obtain ⟨mc, hmc⟩ : ∃ mc, mc = ncells m[k] := ⟨_, rfl⟩
        obtain ⟨W2, hW2⟩ : ∃ W2, W2 = (W1.alloc (.cells #[.int .i64 0, .int .i64 0, .int .i64 0, .int .i64 0, .string ⟨#[]⟩] 76)).setCells W1.heap.size 0 mc := ⟨_, rfl⟩
        obtain ⟨F2, B2, z2⟩ := node_put W1 W2 m[k] mc hmc hW2
        have TH2 := node_there W1
        have HW2 := Lib.hid hW2
        have HSZ2 := Lib.hid (show mc.length = 5 by rw [hmc]; rfl)
        have HONE2 := Lib.hid (hmc ▸ node_one m[k])
        rw [← hmc] at hrg'
        have RG1 := Lib.hid ((F1.later B2).range 0 nc (by simp))
        have RG2 := Lib.hid (F2.range 0 mc (by simp))
        have hbr2 := Lib.hid (hbr1.trans (B2.mono hbr1.size))
        have HC := Lib.hid (fun wx : World => ncompare_any l[k] m[k] wx)
        rw [← hnc, ← hmc] at HC
        have HX := Lib.hid (lcmp_at l m k hkl hkm)
        obtain ⟨q, hq⟩ : ∃ q, q = ncmp l[k] m[k] := ⟨_, rfl⟩
        rw [← hq] at HC HX
        clear hnc hmc hW1 hW2 F1 F2 hbr hbr1 B1 B2 z1 z2 hq
        have HARMS : True := trivial
        by_cases hq0 : q = 0
        · subst hq0
          have HX2 : Hid (R = lcmp (l.drop (k + 1)) (m.drop (k + 1))) := Lib.hid (by rw [HP.out, HX.out]; simp)
          clear HX HP
          go_wp2_with (first
            | (refine wpList_load_mid rfl 76 (.tmp 16) rfl b (o + k * 5) rfl nc _ hrg hu rfl (by rw [HSZ.out]; exact info_node) ?_)
            | (refine wpList_store_mid rfl 76 (.tmp 8) (.tmp 17) rfl wr.heap.size 0 nc.toArray rfl rfl (by simpa [HSZ.out] using TH1) (by simpa [HSZ.out] using info_node) (all_oneCell_toArray HONE.out) ?_
               rw [show (wr.alloc (.cells #[.int .i64 0, .int .i64 0, .int .i64 0, .int .i64 0, .string ⟨#[]⟩] 76)).setCells wr.heap.size 0 nc.toArray.toList = W1 from HW1.out.symm])
            | (refine wpList_load_mid rfl 76 (.tmp 24) rfl b' (o' + k * 5) rfl mc _ hrg' hu rfl (by rw [HSZ2.out]; exact info_node) ?_)
            | (refine wpList_store_mid rfl 76 (.tmp 9) (.tmp 25) rfl W1.heap.size 0 mc.toArray rfl rfl (by simpa [HSZ2.out] using TH2) (by simpa [HSZ2.out] using info_node) (all_oneCell_toArray HONE2.out) ?_
               rw [show (W1.alloc (.cells #[.int .i64 0, .int .i64 0, .int .i64 0, .int .i64 0, .string ⟨#[]⟩] 76)).setCells W1.heap.size 0 mc.toArray.toList = W2 from HW2.out.symm])
            | (refine wpList_load_mid rfl 76 (.tmp 8) rfl wr.heap.size 0 rfl nc _ RG1.out hu rfl (by rw [HSZ.out]; exact info_node) ?_)
            | (refine wpList_load_mid rfl 76 (.tmp 9) rfl W1.heap.size 0 rfl mc _ RG2.out hu rfl (by rw [HSZ2.out]; exact info_node) ?_)
            | fail)
          refine (HC.out _).mono ?_
          rintro e w3 ⟨rfl, hb3⟩
          have hb4 := hbr2.out.trans (hb3.mono hbr2.out.size)
          clear TH1 TH2 hrg hrg' RG1 RG2 HC hb3 hbr2
          go_wp2_with fail
          go_roundw
          case rel => exact ⟨k + 1, by omega, by omega, by go_num, HX2, hb4⟩
          case measure => simp [intOf]; omega
        · have n1 : (q != 0) = true := by simpa using hq0
          have HX2 : Hid (R = q) := Lib.hid (by rw [HP.out, HX.out, if_pos hq0])
          clear HX HP hq0
          go_wp2_with (first
            | (refine wpList_load_mid rfl 76 (.tmp 16) rfl b (o + k * 5) rfl nc _ hrg hu rfl (by rw [HSZ.out]; exact info_node) ?_)
            | (refine wpList_store_mid rfl 76 (.tmp 8) (.tmp 17) rfl wr.heap.size 0 nc.toArray rfl rfl (by simpa [HSZ.out] using TH1) (by simpa [HSZ.out] using info_node) (all_oneCell_toArray HONE.out) ?_
               rw [show (wr.alloc (.cells #[.int .i64 0, .int .i64 0, .int .i64 0, .int .i64 0, .string ⟨#[]⟩] 76)).setCells wr.heap.size 0 nc.toArray.toList = W1 from HW1.out.symm])
            | (refine wpList_load_mid rfl 76 (.tmp 24) rfl b' (o' + k * 5) rfl mc _ hrg' hu rfl (by rw [HSZ2.out]; exact info_node) ?_)
            | (refine wpList_store_mid rfl 76 (.tmp 9) (.tmp 25) rfl W1.heap.size 0 mc.toArray rfl rfl (by simpa [HSZ2.out] using TH2) (by simpa [HSZ2.out] using info_node) (all_oneCell_toArray HONE2.out) ?_
               rw [show (W1.alloc (.cells #[.int .i64 0, .int .i64 0, .int .i64 0, .int .i64 0, .string ⟨#[]⟩] 76)).setCells W1.heap.size 0 mc.toArray.toList = W2 from HW2.out.symm])
            | (refine wpList_load_mid rfl 76 (.tmp 8) rfl wr.heap.size 0 rfl nc _ RG1.out hu rfl (by rw [HSZ.out]; exact info_node) ?_)
            | (refine wpList_load_mid rfl 76 (.tmp 9) rfl W1.heap.size 0 rfl mc _ RG2.out hu rfl (by rw [HSZ2.out]; exact info_node) ?_)
            | fail)
          refine (HC.out _).mono ?_
          rintro e w3 ⟨rfl, hb3⟩
          have hb4 := hbr2.out.trans (hb3.mono hbr2.out.size)
          clear TH1 TH2 hrg hrg' RG1 RG2 HC hb3 hbr2
          go_wp2_with fail
          go_ret
          exact ⟨by rw [HX2.out]; rfl, hb4⟩
      · obtain rfl : k = n' := by omega
        have HX2 : Hid (R = 1) := Lib.hid (by rw [HP.out, lcmp_none l m k (by omega) (by rw [HN'.out]; exact Nat.le_refl _) (.inr HN'.out.symm), HN.out, HN'.out, if_neg (by omega), if_pos hlt])
        have hbr1 := Lib.hid (hbr.trans (B1.mono hbr.size))
        clear hnc hW1 F1 hbr B1 z1 HP
        go_wp2_with (first
          | (refine wpList_load_mid rfl 76 (.tmp 16) rfl b (o + k * 5) rfl nc _ hrg hu rfl (by rw [HSZ.out]; exact info_node) ?_)
          | (refine wpList_store_mid rfl 76 (.tmp 8) (.tmp 17) rfl wr.heap.size 0 nc.toArray rfl rfl (by simpa [HSZ.out] using TH1) (by simpa [HSZ.out] using info_node) (all_oneCell_toArray HONE.out) ?_
             rw [show (wr.alloc (.cells #[.int .i64 0, .int .i64 0, .int .i64 0, .int .i64 0, .string ⟨#[]⟩] 76)).setCells wr.heap.size 0 nc.toArray.toList = W1 from HW1.out.symm])
          | fail)
        go_ret
        exact ⟨by rw [HX2.out]; rfl, hbr1.out⟩
    · obtain rfl : k = n := by omega
      have HX : Hid (R = if k < n' then -1 else 0) := Lib.hid (by
        rw [HP.out, lcmp_none l m k (by rw [HN.out]; exact Nat.le_refl _) (by rw [HN'.out]; exact hk') (.inl HN.out.symm), HN.out, HN'.out]
        rw [if_neg (show ¬ n' < k by omega)])
      by_cases hlt' : k < n'
      · have d2 : decide ((k : Int) < (n' : Int)) = true := by simp; omega
        have HX2 : Hid (R = -1) := Lib.hid (by rw [HX.out, if_pos hlt'])
        clear HX HP
        go_wp2_with fail
        go_ret
        exact ⟨by rw [HX2.out]; rfl, hbr⟩
      · obtain rfl : k = n' := by omega
        have HX2 : Hid (R = 0) := Lib.hid (by rw [HX.out, if_neg hlt'])
        clear HX HP
        go_wp2_with fail
        go_ret
        exact ⟨by rw [HX2.out]; rfl, hbr⟩

set_option maxHeartbeats 1600000 in
theorem lcompare_any (A : Option Addr) (n c : Nat) (l : List Nd) (A' : Option Addr) (n' c' : Nat) (m : List Nd) (w : World) (hn : l.length = n) (hn' : m.length = n') (hs : Sees w w.heap.size A (ncs l)) (hs' : Sees w w.heap.size A' (ncs m)) (hm : n ≤ 65536) :
    Calls Try.prog 30 #[.slice A n c, .slice A' n' c'] w fun e w' => e = .returned (.int .i64 (lcmp l m)) ∧ Below w.heap.size w w' := by
  have H := Lib.hid (cmpfunc_any A n c l A' n' c' m w hn hn' hs hs' hm)
  clear hn hn' hs hs' hm
  go_enter Try.func30, Try.ntmps30
  go_wp2_with fail
  refine H.out.mono ?_
  rintro e w1 ⟨rfl, hb⟩
  go_wp2_with fail
  go_ret
  exact ⟨rfl, hb⟩

end Go.Proofs.Ytnhcjadkbogioaa

/- Commands: are two the same? What is asked. -/
namespace Go.Proofs.Ytnhcjadkbogioaa
set_option linter.unusedVariables false
set_option linter.unusedSimpArgs false
open Go Go.RowKit OctM
section
open ValM
theorem cncmp_zero (a b : Nd) : ncmp a b = 0 ↔ a = b := by
  unfold ncmp
  by_cases h1 : cmpI a.1 b.1 = 0
  · rw [if_neg (fun h => h h1)]
    by_cases h2 : cmpI a.2.1 b.2.1 = 0
    · rw [if_neg (fun h => h h2), vcmp_zero]
      rw [cmpI_zero] at h1 h2
      constructor
      · intro h; exact Prod.ext h1 (Prod.ext h2 h)
      · intro h; rw [h]
    · rw [if_pos h2]
      constructor
      · intro h; exact absurd h h2
      · intro h; rw [h] at h2; exact absurd ((cmpI_zero _ _).2 rfl) h2
  · rw [if_pos h1]
    constructor
    · intro h; exact absurd h h1
    · intro h; rw [h] at h1; exact absurd ((cmpI_zero _ _).2 rfl) h1
theorem clcmp_zero : ∀ (l m : List Nd), lcmp l m = 0 ↔ l = m
  | [], [] => by simp [lcmp]
  | [], _ :: _ => by simp [lcmp]
  | _ :: _, [] => by simp [lcmp]
  | a :: l, b :: m => by
    unfold lcmp
    by_cases h : ncmp a b = 0
    · rw [if_neg (fun x => x h), clcmp_zero l m]
      rw [cncmp_zero] at h
      subst h
      simp
    · rw [if_pos h]
      constructor
      · intro x; exact absurd x h
      · intro x; injection x with x1 _; exact absurd ((cncmp_zero a b).2 x1) h
end

def ee (x y : Cm) : Prop := x.ek = y.ek ∧ x.eid = y.eid ∧ x.eg = y.eg ∧ ((x.em.toNat : Int) = (y.em.toNat : Int) ∧ (x.el.toNat : Int) = (y.el.toNat : Int) ∧ x.ef = y.ef)
def pp2 (x y : Cm) : Prop := (x.pm.toNat : Int) = (y.pm.toNat : Int) ∧ (x.pl.toNat : Int) = (y.pl.toNat : Int) ∧ x.pf = y.pf
/-- Are two commands the same? -/
def csm (x y : Cm) : Prop := x.kd = y.kd ∧ ee x y ∧ x.dv = y.dv ∧ x.rq = y.rq ∧ x.id = y.id ∧ x.bs = y.bs ∧ x.kp = y.kp ∧ pp2 x y ∧ x.f = y.f ∧ (x.ms.toNat : Int) = (y.ms.toNat : Int)
noncomputable instance (x y : Cm) : Decidable (ee x y) := Classical.propDecidable _
noncomputable instance (x y : Cm) : Decidable (pp2 x y) := Classical.propDecidable _
noncomputable instance (x y : Cm) : Decidable (csm x y) := Classical.propDecidable _
theorem csm_self (x : Cm) : csm x x := ⟨rfl, ⟨rfl, rfl, rfl, rfl, rfl, rfl⟩, rfl, rfl, rfl, rfl, rfl, ⟨rfl, rfl, rfl⟩, rfl, rfl⟩
end Go.Proofs.Ytnhcjadkbogioaa

/- Commands: which are too long to look at. -/
namespace Go.Proofs.Ytnhcjadkbogioaa
set_option linter.unusedVariables false
set_option linter.unusedSimpArgs false
open Go Go.RowKit OctM

theorem info_fldC : (Try.prog.info? 25).map (·.size) = some 24 := by kernel_rfl
section
variable {x : Cm} (h1 : x.ef.length = 8) (h2 : x.pf.length = 8)
include h1 h2
theorem cm_fields : (fcells x.ef).length = 24 ∧ (fcells x.pf).length = 24 ∧ ((cmc x).drop 6).take (fcells x.ef).length = fcells x.ef ∧ ((cmc x).drop 37).take (fcells x.pf).length = fcells x.pf := by
  obtain ⟨kd, ek, eid, eg, em, el, ef, dv, rq, id, bs, kp, pm, pl, pf, A, n, c, f, ms⟩ := x
  obtain ⟨a1, a2, a3, a4, a5, a6, a7, a8, rfl⟩ := eight8 h1
  obtain ⟨b1, b2, b3, b4, b5, b6, b7, b8, rfl⟩ := eight8 h2
  exact ⟨rfl, rfl, rfl, rfl⟩
end
/-- Which commands are too long to look at. -/
def cbig (x : Cm) : Bool := tooLong x.ef || tooLong x.pf || lbig x.f
set_option maxRecDepth 100000 in
set_option maxHeartbeats 3200000 in
theorem clarge_any (x : Cm) (w : World) (h : okCm w x) :
    Calls Try.prog 5 #[.agg (cmc x).toArray] w fun e w' => e = .returned (.bool (cbig x)) ∧ Below w.heap.size w w' := by
  have hu8 := Try.underlying25
  have HE : Hid (∀ wx : World, Calls Try.prog 17 #[.agg (fcells x.ef).toArray] wx fun e w' => e = .returned (.bool (tooLong x.ef)) ∧ Below wx.heap.size wx w') := Lib.hid (fun wx => large_any x.ef wx h.e8)
  have HP : Hid (∀ wx : World, Calls Try.prog 17 #[.agg (fcells x.pf).toArray] wx fun e w' => e = .returned (.bool (tooLong x.pf)) ∧ Below wx.heap.size wx w') := Lib.hid (fun wx => large_any x.pf wx h.p8)
  have HL : Hid (∀ wx : World, Below w.heap.size w wx → Calls Try.prog 18 #[.slice x.A x.n x.c] wx fun e w' => e = .returned (.bool (lbig x.f)) ∧ wx = w') := Lib.hid (fun wx hb => nlarge_any x.A x.n x.c x.f wx _ h.len (h.see.below hb))
  have B0 := Blk.new w (cmc x) 32
  have hb0 := below_a1C w (.cells (cmc x).toArray 32)
  obtain ⟨f1, f2, f3, f4⟩ := cm_fields h.e8 h.p8
  have RE := B0.range 6 (fcells x.ef) f3
  have HF4 := Lib.hid f4
  have HA61 := Lib.hid (cm_at h.e8 h.p8).2.2.2.2.2.2.1
  have HL1 := Lib.hid f1
  have HL2 := Lib.hid f2
  have HB0 := Lib.hid B0
  have HBE := Lib.hid hb0
  obtain ⟨xc, hxc⟩ : ∃ c, c = cmc x := ⟨_, rfl⟩
  obtain ⟨xe, hxe⟩ : ∃ c, c = fcells x.ef := ⟨_, rfl⟩
  obtain ⟨xp, hxp⟩ : ∃ c, c = fcells x.pf := ⟨_, rfl⟩
  obtain ⟨te, hte⟩ : ∃ c, c = tooLong x.ef := ⟨_, rfl⟩
  obtain ⟨tp, htp⟩ : ∃ c, c = tooLong x.pf := ⟨_, rfl⟩
  obtain ⟨lb, hlb⟩ : ∃ c, c = lbig x.f := ⟨_, rfl⟩
  have hR : cbig x = (te || tp || lb) := by rw [hte, htp, hlb]; rfl
  rw [hR]
  rw [← hte] at HE
  rw [← htp] at HP
  rw [← hlb] at HL
  rw [← hxe] at HE HL1 RE
  rw [← hxp] at HP HL2 HF4
  rw [← hxc] at RE HF4 HA61 HB0 HBE ⊢
  clear hxc hxe hxp hte htp hlb hR B0 hb0 f1 f2 f3 f4 h
  go_enter Try.func5, Try.ntmps5
  go_wp2_with (first
    | (refine wpList_load_g (by rfl) 25 (.tmp 5) rfl w.heap.size 6 rfl xe _ RE hu8 rfl (by rw [HL1.out]; exact info_fldC) ?_; simp only [Act.put, List.setIfInBounds_toArray, List.set_cons_zero, List.set_cons_succ])
    | fail)
  refine (HE.out _).mono ?_
  rintro e w1 ⟨rfl, hb1⟩
  have HB1 := Lib.hid (HB0.out.later hb1)
  have HBE1 := Lib.hid (HBE.out.trans (hb1.mono HBE.out.size))
  have RP := HB1.out.range 37 xp HF4.out
  clear hb1 RE
  cases te with
  | true =>
    go_wp2_with fail
    go_ret
    exact ⟨rfl, HBE1.out⟩
  | false =>
    go_wp2_with (first
      | (refine wpList_load_g (by rfl) 25 (.tmp 10) rfl w.heap.size 37 rfl xp _ RP hu8 rfl (by rw [HL2.out]; exact info_fldC) ?_; simp only [Act.put, List.setIfInBounds_toArray, List.set_cons_zero, List.set_cons_succ])
      | fail)
    refine (HP.out _).mono ?_
    rintro e w2 ⟨rfl, hb2⟩
    have HB2 := Lib.hid (HB1.out.later hb2)
    have HBE2 := Lib.hid (HBE1.out.trans (hb2.mono HBE1.out.size))
    have q61 := HB2.out.cell HA61.out
    clear hb2 RP
    cases tp with
    | true =>
      go_wp2_with fail
      go_ret
      exact ⟨rfl, HBE2.out⟩
    | false =>
      go_wp2_with fail
      refine (HL.out _ HBE2.out).mono ?_
      rintro e w3 ⟨rfl, rfl⟩
      go_wp2_with fail
      go_ret
      exact ⟨rfl, HBE2.out⟩
end Go.Proofs.Ytnhcjadkbogioaa

/- Commands: what Put gives, by the program: one that may not be. -/
namespace Go.Proofs.Ytnhcjadkbogioaa
set_option linter.unusedVariables false
set_option linter.unusedSimpArgs false
open Go Go.RowKit OctM

set_option maxRecDepth 100000 in
set_option maxHeartbeats 6400000 in
theorem cput_0 (AB : Option Addr) (nb cb : Nat) (lb : List UInt8) (x : Cm) (w : World) (hnb : lb.length = nb) (hsb : Sees w w.heap.size AB (bvs lb)) (hmb : nb ≤ 10000) (h : okCm w x) (hk : ¬ cok x) :
    Calls Try.prog 7 #[.slice AB nb cb, .agg (cmc x).toArray] w (GivesBytes w (lb ++ putC x)) := by
  have huc := Try.underlying32
  have B0 := Blk.new w (cmc x) 32
  have hb0 := below_a1C w (.cells (cmc x).toArray 32)
  have hck := ccheck_any x (w.alloc (.cells (cmc x).toArray 32)) (h.later hb0)
  have RG0 := B0.range 0 (cmc x) (by rw [List.drop_zero, List.take_length])
  have HLC := Lib.hid (cmc_len h.e8 h.p8)
  have HPX := Lib.hid (cm_at h.e8 h.p8)
  have HSB := Lib.hid hsb
  have HNB := Lib.hid hnb
  obtain ⟨xc, hxc⟩ : ∃ c, c = cmc x := ⟨_, rfl⟩
  rw [← hxc] at B0 hb0 hck RG0 HLC HPX ⊢
  have HB0 := Lib.hid B0
  have HBE := Lib.hid hb0
  rw [decide_eq_false hk] at hck
  have HCK := Lib.hid hck
  obtain ⟨R, hR⟩ : ∃ R, R = lb := ⟨_, rfl⟩
  rw [show lb ++ putC x = R by rw [hR]; unfold putC; rw [if_neg hk, List.append_nil]]
  subst hR
  clear hck hxc B0 hb0 hsb hnb hk
  go_enter Try.func7, Try.ntmps7
  go_wp2_with (first
    | (refine wpList_load_mid rfl 32 (.tmp 3) rfl w.heap.size 0 rfl xc _ RG0 huc rfl (by rw [HLC.out]; exact info_cm) ?_; simp only [Act.put, List.setIfInBounds_toArray, List.set_cons_zero, List.set_cons_succ])
    | fail)
  refine HCK.out.mono ?_
  rintro e w1 ⟨rfl, hb1⟩
  have HB1 := Lib.hid (HB0.out.later hb1)
  have HBE1 := Lib.hid (HBE.out.trans (hb1.mono HBE.out.size))
  clear hb1 RG0
  have HCL := Lib.hid (clone_any AB nb cb R w1 HNB.out ((HSB.out.below HBE1.out).more HBE1.out.size) (by omega))
  go_wp2_with fail
  refine HCL.out.mono ?_
  rintro e w9 ⟨A9, c9, rfl, o9, b9⟩
  have HF : Hid (GivesBytes w R (.returned (.slice A9 R.length c9)) w9) := Lib.hid ⟨A9, c9, rfl, o9.lower HBE1.out.size, HBE1.out.trans (b9.mono HBE1.out.size)⟩
  clear o9 b9
  go_wp2_with fail
  go_ret
  exact HF.out
end Go.Proofs.Ytnhcjadkbogioaa

/- Edits as bytes: what Put returns. -/
namespace Go.Proofs.Ytnhcjadkbogioaa
set_option linter.unusedVariables false
set_option linter.unusedSimpArgs false
open Go Go.RowKit OctM BitM

set_option maxRecDepth 100000 in
set_option maxHeartbeats 3200000 in
theorem eput_001 (k id gr lab : Int) (x : BitVec 32) (f : List V3) (A : Option Addr) (n c : Nat) (l : List UInt8) (w : World) (hf : f.length = 8) (hlb : 0 ≤ lab) (hn : l.length = n) (hs : Sees w w.heap.size A (bvs l)) (hm : n ≤ 5000) (h0 : echk k id gr x lab f = 0) (hg : grp k = false) (hi : idk k = false) (hp : ptk k = true) :
    Calls Try.prog 22 #[.slice A n c, .agg (ecells k id gr (x.toNat : Int) lab f).toArray] w (GivesBytes w (l ++ ebs k id gr x lab f)) := by
  have HCK := Lib.hid (fun wx : World => echeck_any k id gr lab x f wx hf)
  have B0 := Blk.new w (ecells k id gr (x.toNat : Int) lab f) 29
  have HEL := Lib.hid (ecells_len k id gr (x.toNat : Int) lab hf)
  have HPL := Lib.hid (pcells_len (x.toNat : Int) lab hf)
  have hb := (Below.refl w.heap.size w).alloc (Nat.le_refl _) (.cells (ecells k id gr (x.toNat : Int) lab f).toArray 29)
  have HQ : Hid (∀ wx : World, Blk wx w.heap.size (ecells k id gr (x.toNat : Int) lab f) → (wx.cell? ⟨w.heap.size, 0, none⟩ = some (.int .i64 k) ∧ wx.cell? ⟨w.heap.size, 1, none⟩ = some (.int .i64 id) ∧ wx.cell? ⟨w.heap.size, 2, none⟩ = some (.int .i64 gr)) ∧ wx.rangeAt w.heap.size 3 (pcells (x.toNat : Int) lab f)) := Lib.hid (fun wx h => ⟨h.edit, h.patchE⟩)
  have hue := Try.underlying29
  have hup := Try.underlying27
  rw [h0] at HCK
  have HG := Lib.hid (fun wx : World => has_grp k wx)
  have HI := Lib.hid (fun wx : World => has_idk k wx)
  have HP := Lib.hid (fun wx : World => has_ptk k wx)
  have hbs := ebs_of h0 hg hi hp
  rw [hg] at HG
  rw [hi] at HI
  rw [hp] at HP
  obtain ⟨r1, hr1⟩ : ∃ r, r = l ++ enc (held k) := ⟨_, rfl⟩
  obtain ⟨n1, hn1⟩ : ∃ n, n = r1.length := ⟨_, rfl⟩
  have b1 : n1 ≤ 5000 + 6 := by rw [hn1, hr1, List.length_append]; have := held_len k; omega
  have H1 : Hid (∀ (A' : Option Addr) (c' : Nat) (wx : World), Sees wx wx.heap.size A' (bvs l) → Calls Try.prog 21 #[.slice A' n c', .int .i64 k] wx (GivesBytes wx r1)) := Lib.hid (fun A' c' wx h => by rw [hr1]; exact oct_num A' n c' l k wx hn h (by omega))
  have M1 := Lib.hid hn1
  obtain ⟨r4, hr4⟩ : ∃ r, r = r1 ++ pbs x lab f := ⟨_, rfl⟩
  obtain ⟨n4, hn4⟩ : ∃ n, n = r4.length := ⟨_, rfl⟩
  have H4 : Hid (∀ (A' : Option Addr) (c' : Nat) (wx : World), Sees wx wx.heap.size A' (bvs r1) → Calls Try.prog 23 #[.slice A' n1 c', .agg (pcells (x.toNat : Int) lab f).toArray] wx (GivesBytes wx r4)) := Lib.hid (fun A' c' wx h => by rw [hr4]; exact putpatch_any x lab f A' n1 c' r1 wx hf hlb hn1.symm h (by omega))
  have M4 := Lib.hid hn4
  have hR : l ++ ebs k id gr x lab f = r4 := by
    rw [hbs, hr4, hr1]
    simp
  rw [hR]
  obtain ⟨pc, hpc⟩ : ∃ pc, pc = pcells (x.toNat : Int) lab f := ⟨_, rfl⟩
  obtain ⟨ec, hec⟩ : ∃ ec, ec = ecells k id gr (x.toNat : Int) lab f := ⟨_, rfl⟩
  rw [← hpc] at HQ HPL H4
  rw [← hec] at B0 HEL hb HQ HCK ⊢
  have RG := B0.wholeC
  clear hpc hec hbs hR hf hlb hn h0 hg hi hp hr1 hn1 hr4 hn4 b1
  go_enter Try.func22, Try.ntmps22
  go_wp2_with (first
    | (refine wpList_load_mid rfl 29 (.tmp 3) rfl w.heap.size 0 rfl ec _ RG hue rfl (by rw [HEL.out]; exact info_edit) ?_)
    | fail)
  refine (HCK.out _).mono ?_
  rintro e w2 ⟨rfl, hb2⟩
  replace B0 := B0.later hb2
  replace hb := hb.trans (hb2.mono hb.size)
  have s0 : Sees w2 w2.heap.size A (bvs l) := (hs.below hb).more hb.size
  clear hb2 RG
  obtain ⟨⟨q0, q1, q2⟩, RP⟩ := HQ.out _ B0
  go_wp2_with fail
  refine (H1.out _ _ _ s0).mono ?_
  rintro e w2 ⟨A1, c1, rfl, o1, hb2⟩
  have s1 := o1.sees
  have hz1 := hb.size
  rw [← M1.out] at o1 ⊢
  replace B0 := B0.later hb2
  replace hb := hb.trans (hb2.mono hb.size)
  clear hb2 q0 q1 q2 RP
  obtain ⟨⟨q0, q1, q2⟩, RP⟩ := HQ.out _ B0
  go_wp2_with fail
  refine (HG.out _).mono ?_
  rintro e w' ⟨rfl, rfl⟩
  go_wp2_with fail
  refine (HI.out _).mono ?_
  rintro e w' ⟨rfl, rfl⟩
  go_wp2_with fail
  refine (HP.out _).mono ?_
  rintro e w' ⟨rfl, rfl⟩
  go_wp2_with (first
    | (refine wpList_load_mid rfl 27 (.tmp 33) rfl w.heap.size 3 rfl pc _ RP hup rfl (by rw [HPL.out]; exact info_patch) ?_)
    | fail)
  refine (H4.out _ _ _ s1).mono ?_
  rintro e w4x ⟨A4, c4, rfl, o4, hb2⟩
  rw [← M4.out] at o4 ⊢
  have hsz := hb.size
  replace hb := hb.trans (hb2.mono hb.size)
  go_wp2_with fail
  go_ret
  exact ⟨A4, c4, by rw [← M4.out]; rfl, by rw [← M4.out]; exact o4.lower hsz, hb⟩
set_option maxRecDepth 100000 in
set_option maxHeartbeats 3200000 in
theorem eput_011 (k id gr lab : Int) (x : BitVec 32) (f : List V3) (A : Option Addr) (n c : Nat) (l : List UInt8) (w : World) (hf : f.length = 8) (hlb : 0 ≤ lab) (hn : l.length = n) (hs : Sees w w.heap.size A (bvs l)) (hm : n ≤ 5000) (h0 : echk k id gr x lab f = 0) (hg : grp k = false) (hi : idk k = true) (hp : ptk k = true) :
    Calls Try.prog 22 #[.slice A n c, .agg (ecells k id gr (x.toNat : Int) lab f).toArray] w (GivesBytes w (l ++ ebs k id gr x lab f)) := by
  have HCK := Lib.hid (fun wx : World => echeck_any k id gr lab x f wx hf)
  have B0 := Blk.new w (ecells k id gr (x.toNat : Int) lab f) 29
  have HEL := Lib.hid (ecells_len k id gr (x.toNat : Int) lab hf)
  have HPL := Lib.hid (pcells_len (x.toNat : Int) lab hf)
  have hb := (Below.refl w.heap.size w).alloc (Nat.le_refl _) (.cells (ecells k id gr (x.toNat : Int) lab f).toArray 29)
  have HQ : Hid (∀ wx : World, Blk wx w.heap.size (ecells k id gr (x.toNat : Int) lab f) → (wx.cell? ⟨w.heap.size, 0, none⟩ = some (.int .i64 k) ∧ wx.cell? ⟨w.heap.size, 1, none⟩ = some (.int .i64 id) ∧ wx.cell? ⟨w.heap.size, 2, none⟩ = some (.int .i64 gr)) ∧ wx.rangeAt w.heap.size 3 (pcells (x.toNat : Int) lab f)) := Lib.hid (fun wx h => ⟨h.edit, h.patchE⟩)
  have hue := Try.underlying29
  have hup := Try.underlying27
  rw [h0] at HCK
  have HG := Lib.hid (fun wx : World => has_grp k wx)
  have HI := Lib.hid (fun wx : World => has_idk k wx)
  have HP := Lib.hid (fun wx : World => has_ptk k wx)
  have hbs := ebs_of h0 hg hi hp
  rw [hg] at HG
  rw [hi] at HI
  rw [hp] at HP
  obtain ⟨r1, hr1⟩ : ∃ r, r = l ++ enc (held k) := ⟨_, rfl⟩
  obtain ⟨n1, hn1⟩ : ∃ n, n = r1.length := ⟨_, rfl⟩
  have b1 : n1 ≤ 5000 + 6 := by rw [hn1, hr1, List.length_append]; have := held_len k; omega
  have H1 : Hid (∀ (A' : Option Addr) (c' : Nat) (wx : World), Sees wx wx.heap.size A' (bvs l) → Calls Try.prog 21 #[.slice A' n c', .int .i64 k] wx (GivesBytes wx r1)) := Lib.hid (fun A' c' wx h => by rw [hr1]; exact oct_num A' n c' l k wx hn h (by omega))
  have M1 := Lib.hid hn1
  obtain ⟨r3, hr3⟩ : ∃ r, r = r1 ++ enc (held id) := ⟨_, rfl⟩
  obtain ⟨n3, hn3⟩ : ∃ n, n = r3.length := ⟨_, rfl⟩
  have b3 : n3 ≤ 5000 + 12 := by rw [hn3, hr3, List.length_append]; have := held_len id; omega
  have H3 : Hid (∀ (A' : Option Addr) (c' : Nat) (wx : World), Sees wx wx.heap.size A' (bvs r1) → Calls Try.prog 21 #[.slice A' n1 c', .int .i64 id] wx (GivesBytes wx r3)) := Lib.hid (fun A' c' wx h => by rw [hr3]; exact oct_num A' n1 c' r1 id wx hn1.symm h (by omega))
  have M3 := Lib.hid hn3
  obtain ⟨r4, hr4⟩ : ∃ r, r = r3 ++ pbs x lab f := ⟨_, rfl⟩
  obtain ⟨n4, hn4⟩ : ∃ n, n = r4.length := ⟨_, rfl⟩
  have H4 : Hid (∀ (A' : Option Addr) (c' : Nat) (wx : World), Sees wx wx.heap.size A' (bvs r3) → Calls Try.prog 23 #[.slice A' n3 c', .agg (pcells (x.toNat : Int) lab f).toArray] wx (GivesBytes wx r4)) := Lib.hid (fun A' c' wx h => by rw [hr4]; exact putpatch_any x lab f A' n3 c' r3 wx hf hlb hn3.symm h (by omega))
  have M4 := Lib.hid hn4
  have hR : l ++ ebs k id gr x lab f = r4 := by
    rw [hbs, hr4, hr3, hr1]
    simp
  rw [hR]
  obtain ⟨pc, hpc⟩ : ∃ pc, pc = pcells (x.toNat : Int) lab f := ⟨_, rfl⟩
  obtain ⟨ec, hec⟩ : ∃ ec, ec = ecells k id gr (x.toNat : Int) lab f := ⟨_, rfl⟩
  rw [← hpc] at HQ HPL H4
  rw [← hec] at B0 HEL hb HQ HCK ⊢
  have RG := B0.wholeC
  clear hpc hec hbs hR hf hlb hn h0 hg hi hp hr1 hn1 hr3 hn3 hr4 hn4 b1 b3
  go_enter Try.func22, Try.ntmps22
  go_wp2_with (first
    | (refine wpList_load_mid rfl 29 (.tmp 3) rfl w.heap.size 0 rfl ec _ RG hue rfl (by rw [HEL.out]; exact info_edit) ?_)
    | fail)
  refine (HCK.out _).mono ?_
  rintro e w2 ⟨rfl, hb2⟩
  replace B0 := B0.later hb2
  replace hb := hb.trans (hb2.mono hb.size)
  have s0 : Sees w2 w2.heap.size A (bvs l) := (hs.below hb).more hb.size
  clear hb2 RG
  obtain ⟨⟨q0, q1, q2⟩, RP⟩ := HQ.out _ B0
  go_wp2_with fail
  refine (H1.out _ _ _ s0).mono ?_
  rintro e w2 ⟨A1, c1, rfl, o1, hb2⟩
  have s1 := o1.sees
  have hz1 := hb.size
  rw [← M1.out] at o1 ⊢
  replace B0 := B0.later hb2
  replace hb := hb.trans (hb2.mono hb.size)
  clear hb2 q0 q1 q2 RP
  obtain ⟨⟨q0, q1, q2⟩, RP⟩ := HQ.out _ B0
  go_wp2_with fail
  refine (HG.out _).mono ?_
  rintro e w' ⟨rfl, rfl⟩
  go_wp2_with fail
  refine (HI.out _).mono ?_
  rintro e w' ⟨rfl, rfl⟩
  go_wp2_with fail
  refine (H3.out _ _ _ s1).mono ?_
  rintro e w3x ⟨A3, c3, rfl, o3, hb2⟩
  have s3 := o3.sees
  have hz3 := hb.size
  rw [← M3.out] at o3 ⊢
  replace B0 := B0.later hb2
  replace hb := hb.trans (hb2.mono hb.size)
  clear hb2 q0 q1 q2 RP
  obtain ⟨⟨q0, q1, q2⟩, RP⟩ := HQ.out _ B0
  go_wp2_with fail
  refine (HP.out _).mono ?_
  rintro e w' ⟨rfl, rfl⟩
  go_wp2_with (first
    | (refine wpList_load_mid rfl 27 (.tmp 33) rfl w.heap.size 3 rfl pc _ RP hup rfl (by rw [HPL.out]; exact info_patch) ?_)
    | fail)
  refine (H4.out _ _ _ s3).mono ?_
  rintro e w4x ⟨A4, c4, rfl, o4, hb2⟩
  rw [← M4.out] at o4 ⊢
  have hsz := hb.size
  replace hb := hb.trans (hb2.mono hb.size)
  go_wp2_with fail
  go_ret
  exact ⟨A4, c4, by rw [← M4.out]; rfl, by rw [← M4.out]; exact o4.lower hsz, hb⟩
set_option maxRecDepth 100000 in
set_option maxHeartbeats 3200000 in
theorem eput_010 (k id gr lab : Int) (x : BitVec 32) (f : List V3) (A : Option Addr) (n c : Nat) (l : List UInt8) (w : World) (hf : f.length = 8) (hlb : 0 ≤ lab) (hn : l.length = n) (hs : Sees w w.heap.size A (bvs l)) (hm : n ≤ 5000) (h0 : echk k id gr x lab f = 0) (hg : grp k = false) (hi : idk k = true) (hp : ptk k = false) :
    Calls Try.prog 22 #[.slice A n c, .agg (ecells k id gr (x.toNat : Int) lab f).toArray] w (GivesBytes w (l ++ ebs k id gr x lab f)) := by
  have HCK := Lib.hid (fun wx : World => echeck_any k id gr lab x f wx hf)
  have B0 := Blk.new w (ecells k id gr (x.toNat : Int) lab f) 29
  have HEL := Lib.hid (ecells_len k id gr (x.toNat : Int) lab hf)
  have HPL := Lib.hid (pcells_len (x.toNat : Int) lab hf)
  have hb := (Below.refl w.heap.size w).alloc (Nat.le_refl _) (.cells (ecells k id gr (x.toNat : Int) lab f).toArray 29)
  have HQ : Hid (∀ wx : World, Blk wx w.heap.size (ecells k id gr (x.toNat : Int) lab f) → (wx.cell? ⟨w.heap.size, 0, none⟩ = some (.int .i64 k) ∧ wx.cell? ⟨w.heap.size, 1, none⟩ = some (.int .i64 id) ∧ wx.cell? ⟨w.heap.size, 2, none⟩ = some (.int .i64 gr)) ∧ wx.rangeAt w.heap.size 3 (pcells (x.toNat : Int) lab f)) := Lib.hid (fun wx h => ⟨h.edit, h.patchE⟩)
  have hue := Try.underlying29
  have hup := Try.underlying27
  rw [h0] at HCK
  have HG := Lib.hid (fun wx : World => has_grp k wx)
  have HI := Lib.hid (fun wx : World => has_idk k wx)
  have HP := Lib.hid (fun wx : World => has_ptk k wx)
  have hbs := ebs_of h0 hg hi hp
  rw [hg] at HG
  rw [hi] at HI
  rw [hp] at HP
  obtain ⟨r1, hr1⟩ : ∃ r, r = l ++ enc (held k) := ⟨_, rfl⟩
  obtain ⟨n1, hn1⟩ : ∃ n, n = r1.length := ⟨_, rfl⟩
  have b1 : n1 ≤ 5000 + 6 := by rw [hn1, hr1, List.length_append]; have := held_len k; omega
  have H1 : Hid (∀ (A' : Option Addr) (c' : Nat) (wx : World), Sees wx wx.heap.size A' (bvs l) → Calls Try.prog 21 #[.slice A' n c', .int .i64 k] wx (GivesBytes wx r1)) := Lib.hid (fun A' c' wx h => by rw [hr1]; exact oct_num A' n c' l k wx hn h (by omega))
  have M1 := Lib.hid hn1
  obtain ⟨r3, hr3⟩ : ∃ r, r = r1 ++ enc (held id) := ⟨_, rfl⟩
  obtain ⟨n3, hn3⟩ : ∃ n, n = r3.length := ⟨_, rfl⟩
  have b3 : n3 ≤ 5000 + 12 := by rw [hn3, hr3, List.length_append]; have := held_len id; omega
  have H3 : Hid (∀ (A' : Option Addr) (c' : Nat) (wx : World), Sees wx wx.heap.size A' (bvs r1) → Calls Try.prog 21 #[.slice A' n1 c', .int .i64 id] wx (GivesBytes wx r3)) := Lib.hid (fun A' c' wx h => by rw [hr3]; exact oct_num A' n1 c' r1 id wx hn1.symm h (by omega))
  have M3 := Lib.hid hn3
  have hR : l ++ ebs k id gr x lab f = r3 := by
    rw [hbs, hr3, hr1]
    simp
  rw [hR]
  obtain ⟨pc, hpc⟩ : ∃ pc, pc = pcells (x.toNat : Int) lab f := ⟨_, rfl⟩
  obtain ⟨ec, hec⟩ : ∃ ec, ec = ecells k id gr (x.toNat : Int) lab f := ⟨_, rfl⟩
  rw [← hpc] at HQ HPL
  rw [← hec] at B0 HEL hb HQ HCK ⊢
  have RG := B0.wholeC
  clear hpc hec hbs hR hf hlb hn h0 hg hi hp hr1 hn1 hr3 hn3 b1 b3
  go_enter Try.func22, Try.ntmps22
  go_wp2_with (first
    | (refine wpList_load_mid rfl 29 (.tmp 3) rfl w.heap.size 0 rfl ec _ RG hue rfl (by rw [HEL.out]; exact info_edit) ?_)
    | fail)
  refine (HCK.out _).mono ?_
  rintro e w2 ⟨rfl, hb2⟩
  replace B0 := B0.later hb2
  replace hb := hb.trans (hb2.mono hb.size)
  have s0 : Sees w2 w2.heap.size A (bvs l) := (hs.below hb).more hb.size
  clear hb2 RG
  obtain ⟨⟨q0, q1, q2⟩, RP⟩ := HQ.out _ B0
  go_wp2_with fail
  refine (H1.out _ _ _ s0).mono ?_
  rintro e w2 ⟨A1, c1, rfl, o1, hb2⟩
  have s1 := o1.sees
  have hz1 := hb.size
  rw [← M1.out] at o1 ⊢
  replace B0 := B0.later hb2
  replace hb := hb.trans (hb2.mono hb.size)
  clear hb2 q0 q1 q2 RP
  obtain ⟨⟨q0, q1, q2⟩, RP⟩ := HQ.out _ B0
  go_wp2_with fail
  refine (HG.out _).mono ?_
  rintro e w' ⟨rfl, rfl⟩
  go_wp2_with fail
  refine (HI.out _).mono ?_
  rintro e w' ⟨rfl, rfl⟩
  go_wp2_with fail
  refine (H3.out _ _ _ s1).mono ?_
  rintro e w3x ⟨A3, c3, rfl, o3, hb2⟩
  have s3 := o3.sees
  have hz3 := hb.size
  rw [← M3.out] at o3 ⊢
  replace B0 := B0.later hb2
  replace hb := hb.trans (hb2.mono hb.size)
  clear hb2 q0 q1 q2 RP
  obtain ⟨⟨q0, q1, q2⟩, RP⟩ := HQ.out _ B0
  go_wp2_with fail
  refine (HP.out _).mono ?_
  rintro e w' ⟨rfl, rfl⟩
  go_wp2_with fail
  go_ret
  exact ⟨A3, c3, by rw [← M3.out]; rfl, by rw [← M3.out]; exact o3.lower hz3, hb⟩
set_option maxRecDepth 100000 in
set_option maxHeartbeats 3200000 in
theorem eput_100 (k id gr lab : Int) (x : BitVec 32) (f : List V3) (A : Option Addr) (n c : Nat) (l : List UInt8) (w : World) (hf : f.length = 8) (hlb : 0 ≤ lab) (hn : l.length = n) (hs : Sees w w.heap.size A (bvs l)) (hm : n ≤ 5000) (h0 : echk k id gr x lab f = 0) (hg : grp k = true) (hi : idk k = false) (hp : ptk k = false) :
    Calls Try.prog 22 #[.slice A n c, .agg (ecells k id gr (x.toNat : Int) lab f).toArray] w (GivesBytes w (l ++ ebs k id gr x lab f)) := by
  have HCK := Lib.hid (fun wx : World => echeck_any k id gr lab x f wx hf)
  have B0 := Blk.new w (ecells k id gr (x.toNat : Int) lab f) 29
  have HEL := Lib.hid (ecells_len k id gr (x.toNat : Int) lab hf)
  have HPL := Lib.hid (pcells_len (x.toNat : Int) lab hf)
  have hb := (Below.refl w.heap.size w).alloc (Nat.le_refl _) (.cells (ecells k id gr (x.toNat : Int) lab f).toArray 29)
  have HQ : Hid (∀ wx : World, Blk wx w.heap.size (ecells k id gr (x.toNat : Int) lab f) → (wx.cell? ⟨w.heap.size, 0, none⟩ = some (.int .i64 k) ∧ wx.cell? ⟨w.heap.size, 1, none⟩ = some (.int .i64 id) ∧ wx.cell? ⟨w.heap.size, 2, none⟩ = some (.int .i64 gr)) ∧ wx.rangeAt w.heap.size 3 (pcells (x.toNat : Int) lab f)) := Lib.hid (fun wx h => ⟨h.edit, h.patchE⟩)
  have hue := Try.underlying29
  have hup := Try.underlying27
  rw [h0] at HCK
  have HG := Lib.hid (fun wx : World => has_grp k wx)
  have HI := Lib.hid (fun wx : World => has_idk k wx)
  have HP := Lib.hid (fun wx : World => has_ptk k wx)
  have hbs := ebs_of h0 hg hi hp
  rw [hg] at HG
  rw [hi] at HI
  rw [hp] at HP
  obtain ⟨r1, hr1⟩ : ∃ r, r = l ++ enc (held k) := ⟨_, rfl⟩
  obtain ⟨n1, hn1⟩ : ∃ n, n = r1.length := ⟨_, rfl⟩
  have b1 : n1 ≤ 5000 + 6 := by rw [hn1, hr1, List.length_append]; have := held_len k; omega
  have H1 : Hid (∀ (A' : Option Addr) (c' : Nat) (wx : World), Sees wx wx.heap.size A' (bvs l) → Calls Try.prog 21 #[.slice A' n c', .int .i64 k] wx (GivesBytes wx r1)) := Lib.hid (fun A' c' wx h => by rw [hr1]; exact oct_num A' n c' l k wx hn h (by omega))
  have M1 := Lib.hid hn1
  obtain ⟨r2, hr2⟩ : ∃ r, r = r1 ++ enc (held gr) := ⟨_, rfl⟩
  obtain ⟨n2, hn2⟩ : ∃ n, n = r2.length := ⟨_, rfl⟩
  have b2 : n2 ≤ 5000 + 12 := by rw [hn2, hr2, List.length_append]; have := held_len gr; omega
  have H2 : Hid (∀ (A' : Option Addr) (c' : Nat) (wx : World), Sees wx wx.heap.size A' (bvs r1) → Calls Try.prog 21 #[.slice A' n1 c', .int .i64 gr] wx (GivesBytes wx r2)) := Lib.hid (fun A' c' wx h => by rw [hr2]; exact oct_num A' n1 c' r1 gr wx hn1.symm h (by omega))
  have M2 := Lib.hid hn2
  have hR : l ++ ebs k id gr x lab f = r2 := by
    rw [hbs, hr2, hr1]
    simp
  rw [hR]
  obtain ⟨pc, hpc⟩ : ∃ pc, pc = pcells (x.toNat : Int) lab f := ⟨_, rfl⟩
  obtain ⟨ec, hec⟩ : ∃ ec, ec = ecells k id gr (x.toNat : Int) lab f := ⟨_, rfl⟩
  rw [← hpc] at HQ HPL
  rw [← hec] at B0 HEL hb HQ HCK ⊢
  have RG := B0.wholeC
  clear hpc hec hbs hR hf hlb hn h0 hg hi hp hr1 hn1 hr2 hn2 b1 b2
  go_enter Try.func22, Try.ntmps22
  go_wp2_with (first
    | (refine wpList_load_mid rfl 29 (.tmp 3) rfl w.heap.size 0 rfl ec _ RG hue rfl (by rw [HEL.out]; exact info_edit) ?_)
    | fail)
  refine (HCK.out _).mono ?_
  rintro e w2 ⟨rfl, hb2⟩
  replace B0 := B0.later hb2
  replace hb := hb.trans (hb2.mono hb.size)
  have s0 : Sees w2 w2.heap.size A (bvs l) := (hs.below hb).more hb.size
  clear hb2 RG
  obtain ⟨⟨q0, q1, q2⟩, RP⟩ := HQ.out _ B0
  go_wp2_with fail
  refine (H1.out _ _ _ s0).mono ?_
  rintro e w2 ⟨A1, c1, rfl, o1, hb2⟩
  have s1 := o1.sees
  have hz1 := hb.size
  rw [← M1.out] at o1 ⊢
  replace B0 := B0.later hb2
  replace hb := hb.trans (hb2.mono hb.size)
  clear hb2 q0 q1 q2 RP
  obtain ⟨⟨q0, q1, q2⟩, RP⟩ := HQ.out _ B0
  go_wp2_with fail
  refine (HG.out _).mono ?_
  rintro e w' ⟨rfl, rfl⟩
  go_wp2_with fail
  refine (H2.out _ _ _ s1).mono ?_
  rintro e w2x ⟨A2, c2, rfl, o2, hb2⟩
  have s2 := o2.sees
  have hz2 := hb.size
  rw [← M2.out] at o2 ⊢
  replace B0 := B0.later hb2
  replace hb := hb.trans (hb2.mono hb.size)
  clear hb2 q0 q1 q2 RP
  obtain ⟨⟨q0, q1, q2⟩, RP⟩ := HQ.out _ B0
  go_wp2_with fail
  refine (HI.out _).mono ?_
  rintro e w' ⟨rfl, rfl⟩
  go_wp2_with fail
  refine (HP.out _).mono ?_
  rintro e w' ⟨rfl, rfl⟩
  go_wp2_with fail
  go_ret
  exact ⟨A2, c2, by rw [← M2.out]; rfl, by rw [← M2.out]; exact o2.lower hz2, hb⟩
set_option maxRecDepth 100000 in
set_option maxHeartbeats 3200000 in
theorem eput_110 (k id gr lab : Int) (x : BitVec 32) (f : List V3) (A : Option Addr) (n c : Nat) (l : List UInt8) (w : World) (hf : f.length = 8) (hlb : 0 ≤ lab) (hn : l.length = n) (hs : Sees w w.heap.size A (bvs l)) (hm : n ≤ 5000) (h0 : echk k id gr x lab f = 0) (hg : grp k = true) (hi : idk k = true) (hp : ptk k = false) :
    Calls Try.prog 22 #[.slice A n c, .agg (ecells k id gr (x.toNat : Int) lab f).toArray] w (GivesBytes w (l ++ ebs k id gr x lab f)) := by
  have HCK := Lib.hid (fun wx : World => echeck_any k id gr lab x f wx hf)
  have B0 := Blk.new w (ecells k id gr (x.toNat : Int) lab f) 29
  have HEL := Lib.hid (ecells_len k id gr (x.toNat : Int) lab hf)
  have HPL := Lib.hid (pcells_len (x.toNat : Int) lab hf)
  have hb := (Below.refl w.heap.size w).alloc (Nat.le_refl _) (.cells (ecells k id gr (x.toNat : Int) lab f).toArray 29)
  have HQ : Hid (∀ wx : World, Blk wx w.heap.size (ecells k id gr (x.toNat : Int) lab f) → (wx.cell? ⟨w.heap.size, 0, none⟩ = some (.int .i64 k) ∧ wx.cell? ⟨w.heap.size, 1, none⟩ = some (.int .i64 id) ∧ wx.cell? ⟨w.heap.size, 2, none⟩ = some (.int .i64 gr)) ∧ wx.rangeAt w.heap.size 3 (pcells (x.toNat : Int) lab f)) := Lib.hid (fun wx h => ⟨h.edit, h.patchE⟩)
  have hue := Try.underlying29
  have hup := Try.underlying27
  rw [h0] at HCK
  have HG := Lib.hid (fun wx : World => has_grp k wx)
  have HI := Lib.hid (fun wx : World => has_idk k wx)
  have HP := Lib.hid (fun wx : World => has_ptk k wx)
  have hbs := ebs_of h0 hg hi hp
  rw [hg] at HG
  rw [hi] at HI
  rw [hp] at HP
  obtain ⟨r1, hr1⟩ : ∃ r, r = l ++ enc (held k) := ⟨_, rfl⟩
  obtain ⟨n1, hn1⟩ : ∃ n, n = r1.length := ⟨_, rfl⟩
  have b1 : n1 ≤ 5000 + 6 := by rw [hn1, hr1, List.length_append]; have := held_len k; omega
  have H1 : Hid (∀ (A' : Option Addr) (c' : Nat) (wx : World), Sees wx wx.heap.size A' (bvs l) → Calls Try.prog 21 #[.slice A' n c', .int .i64 k] wx (GivesBytes wx r1)) := Lib.hid (fun A' c' wx h => by rw [hr1]; exact oct_num A' n c' l k wx hn h (by omega))
  have M1 := Lib.hid hn1
  obtain ⟨r2, hr2⟩ : ∃ r, r = r1 ++ enc (held gr) := ⟨_, rfl⟩
  obtain ⟨n2, hn2⟩ : ∃ n, n = r2.length := ⟨_, rfl⟩
  have b2 : n2 ≤ 5000 + 12 := by rw [hn2, hr2, List.length_append]; have := held_len gr; omega
  have H2 : Hid (∀ (A' : Option Addr) (c' : Nat) (wx : World), Sees wx wx.heap.size A' (bvs r1) → Calls Try.prog 21 #[.slice A' n1 c', .int .i64 gr] wx (GivesBytes wx r2)) := Lib.hid (fun A' c' wx h => by rw [hr2]; exact oct_num A' n1 c' r1 gr wx hn1.symm h (by omega))
  have M2 := Lib.hid hn2
  obtain ⟨r3, hr3⟩ : ∃ r, r = r2 ++ enc (held id) := ⟨_, rfl⟩
  obtain ⟨n3, hn3⟩ : ∃ n, n = r3.length := ⟨_, rfl⟩
  have b3 : n3 ≤ 5000 + 18 := by rw [hn3, hr3, List.length_append]; have := held_len id; omega
  have H3 : Hid (∀ (A' : Option Addr) (c' : Nat) (wx : World), Sees wx wx.heap.size A' (bvs r2) → Calls Try.prog 21 #[.slice A' n2 c', .int .i64 id] wx (GivesBytes wx r3)) := Lib.hid (fun A' c' wx h => by rw [hr3]; exact oct_num A' n2 c' r2 id wx hn2.symm h (by omega))
  have M3 := Lib.hid hn3
  have hR : l ++ ebs k id gr x lab f = r3 := by
    rw [hbs, hr3, hr2, hr1]
    simp
  rw [hR]
  obtain ⟨pc, hpc⟩ : ∃ pc, pc = pcells (x.toNat : Int) lab f := ⟨_, rfl⟩
  obtain ⟨ec, hec⟩ : ∃ ec, ec = ecells k id gr (x.toNat : Int) lab f := ⟨_, rfl⟩
  rw [← hpc] at HQ HPL
  rw [← hec] at B0 HEL hb HQ HCK ⊢
  have RG := B0.wholeC
  clear hpc hec hbs hR hf hlb hn h0 hg hi hp hr1 hn1 hr2 hn2 hr3 hn3 b1 b2 b3
  go_enter Try.func22, Try.ntmps22
  go_wp2_with (first
    | (refine wpList_load_mid rfl 29 (.tmp 3) rfl w.heap.size 0 rfl ec _ RG hue rfl (by rw [HEL.out]; exact info_edit) ?_)
    | fail)
  refine (HCK.out _).mono ?_
  rintro e w2 ⟨rfl, hb2⟩
  replace B0 := B0.later hb2
  replace hb := hb.trans (hb2.mono hb.size)
  have s0 : Sees w2 w2.heap.size A (bvs l) := (hs.below hb).more hb.size
  clear hb2 RG
  obtain ⟨⟨q0, q1, q2⟩, RP⟩ := HQ.out _ B0
  go_wp2_with fail
  refine (H1.out _ _ _ s0).mono ?_
  rintro e w2 ⟨A1, c1, rfl, o1, hb2⟩
  have s1 := o1.sees
  have hz1 := hb.size
  rw [← M1.out] at o1 ⊢
  replace B0 := B0.later hb2
  replace hb := hb.trans (hb2.mono hb.size)
  clear hb2 q0 q1 q2 RP
  obtain ⟨⟨q0, q1, q2⟩, RP⟩ := HQ.out _ B0
  go_wp2_with fail
  refine (HG.out _).mono ?_
  rintro e w' ⟨rfl, rfl⟩
  go_wp2_with fail
  refine (H2.out _ _ _ s1).mono ?_
  rintro e w2x ⟨A2, c2, rfl, o2, hb2⟩
  have s2 := o2.sees
  have hz2 := hb.size
  rw [← M2.out] at o2 ⊢
  replace B0 := B0.later hb2
  replace hb := hb.trans (hb2.mono hb.size)
  clear hb2 q0 q1 q2 RP
  obtain ⟨⟨q0, q1, q2⟩, RP⟩ := HQ.out _ B0
  go_wp2_with fail
  refine (HI.out _).mono ?_
  rintro e w' ⟨rfl, rfl⟩
  go_wp2_with fail
  refine (H3.out _ _ _ s2).mono ?_
  rintro e w3x ⟨A3, c3, rfl, o3, hb2⟩
  have s3 := o3.sees
  have hz3 := hb.size
  rw [← M3.out] at o3 ⊢
  replace B0 := B0.later hb2
  replace hb := hb.trans (hb2.mono hb.size)
  clear hb2 q0 q1 q2 RP
  obtain ⟨⟨q0, q1, q2⟩, RP⟩ := HQ.out _ B0
  go_wp2_with fail
  refine (HP.out _).mono ?_
  rintro e w' ⟨rfl, rfl⟩
  go_wp2_with fail
  go_ret
  exact ⟨A3, c3, by rw [← M3.out]; rfl, by rw [← M3.out]; exact o3.lower hz3, hb⟩
set_option maxRecDepth 100000 in
set_option maxHeartbeats 1600000 in
theorem eput_any (k id gr lab : Int) (x : BitVec 32) (f : List V3) (A : Option Addr) (n c : Nat) (l : List UInt8) (w : World) (hf : f.length = 8) (hlb : 0 ≤ lab) (hn : l.length = n) (hs : Sees w w.heap.size A (bvs l)) (hm : n ≤ 5000) :
    Calls Try.prog 22 #[.slice A n c, .agg (ecells k id gr (x.toNat : Int) lab f).toArray] w (GivesBytes w (l ++ ebs k id gr x lab f)) := by
  by_cases h0 : echk k id gr x lab f = 0
  · obtain ⟨h1, h2, _⟩ := echk_ok h0
    have hc : k = 1 ∨ k = 2 ∨ k = 3 ∨ k = 4 ∨ k = 5 ∨ k = 6 ∨ k = 7 := by omega
    rcases hc with rfl | rfl | rfl | rfl | rfl | rfl | rfl
    · exact eput_001 _ id gr lab x f A n c l w hf hlb hn hs hm h0 rfl rfl rfl
    · exact eput_011 _ id gr lab x f A n c l w hf hlb hn hs hm h0 rfl rfl rfl
    · exact eput_010 _ id gr lab x f A n c l w hf hlb hn hs hm h0 rfl rfl rfl
    · exact eput_100 _ id gr lab x f A n c l w hf hlb hn hs hm h0 rfl rfl rfl
    · exact eput_100 _ id gr lab x f A n c l w hf hlb hn hs hm h0 rfl rfl rfl
    · exact eput_110 _ id gr lab x f A n c l w hf hlb hn hs hm h0 rfl rfl rfl
    · exact eput_110 _ id gr lab x f A n c l w hf hlb hn hs hm h0 rfl rfl rfl
  · have hR : l ++ ebs k id gr x lab f = l := by unfold ebs; rw [if_pos h0, List.append_nil]
    rw [hR]
    have HCK := Lib.hid (fun wx : World => echeck_any k id gr lab x f wx hf)
    have B0 := Blk.new w (ecells k id gr (x.toNat : Int) lab f) 29
    have HEL := Lib.hid (ecells_len k id gr (x.toNat : Int) lab hf)
    have HPL := Lib.hid (pcells_len (x.toNat : Int) lab hf)
    have hb := (Below.refl w.heap.size w).alloc (Nat.le_refl _) (.cells (ecells k id gr (x.toNat : Int) lab f).toArray 29)
    have HQ : Hid (∀ wx : World, Blk wx w.heap.size (ecells k id gr (x.toNat : Int) lab f) → (wx.cell? ⟨w.heap.size, 0, none⟩ = some (.int .i64 k) ∧ wx.cell? ⟨w.heap.size, 1, none⟩ = some (.int .i64 id) ∧ wx.cell? ⟨w.heap.size, 2, none⟩ = some (.int .i64 gr)) ∧ wx.rangeAt w.heap.size 3 (pcells (x.toNat : Int) lab f)) := Lib.hid (fun wx h => ⟨h.edit, h.patchE⟩)
    have hue := Try.underlying29
    have hup := Try.underlying27
    obtain ⟨er, her⟩ : ∃ z, z = echk k id gr x lab f := ⟨_, rfl⟩
    rw [← her] at HCK h0
    have be : (er != 0) = true := by simpa using h0
    have HCL := Lib.hid (fun (wx : World) (hb : Below w.heap.size w wx) => clone_any A n c l wx hn ((hs.below hb).more hb.size) (by omega))
    obtain ⟨ec, hec⟩ : ∃ ec, ec = ecells k id gr (x.toNat : Int) lab f := ⟨_, rfl⟩
    rw [← hec] at B0 HEL hb HCK ⊢
    have RG := B0.wholeC
    clear hec her h0 hR hs hn B0 HQ HPL hup
    go_enter Try.func22, Try.ntmps22
    go_wp2_with (first
      | (refine wpList_load_mid rfl 29 (.tmp 3) rfl w.heap.size 0 rfl ec _ RG hue rfl (by rw [HEL.out]; exact info_edit) ?_)
      | fail)
    refine (HCK.out _).mono ?_
    rintro e w2 ⟨rfl, hb2⟩
    have hbw := hb.trans (hb2.mono hb.size)
    clear RG hb2 hb
    go_wp2_with fail
    refine (HCL.out _ hbw).mono ?_
    rintro e w2 ⟨A2, c2, rfl, ho, hb2⟩
    go_wp2_with fail
    go_ret
    exact ⟨A2, c2, rfl, ho.lower hbw.size, hbw.trans (hb2.mono hbw.size)⟩
end Go.Proofs.Ytnhcjadkbogioaa
