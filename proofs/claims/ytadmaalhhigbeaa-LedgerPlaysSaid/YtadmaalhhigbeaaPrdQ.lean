/- Compare of values and numbers: what the program's and the document's return (of ValB, ValF, ValG). -/
import Derived.Test.YtadmaalhhigbeaaCardB
import Derived.Test.YtadmaalhhigbeaaValM
import Derived.Test.YtadmaalhhigbeaaLoadG
import Derived.Test.YtadmaalhhigbeaaTail
import Derived.WalkLawsBesides
namespace Go.Proofs.Ytadmaalhhigbeaa
set_option linter.unusedVariables false
set_option linter.unusedSimpArgs false
open Go Go.RowKit BitM ValM

theorem cmpint_any (x y : Int) (w : World) : Calls Try.prog 78 #[.int .i64 x, .int .i64 y] w fun e w' => e = .returned (.int .i64 (cmpI x y)) ∧ w = w' := by
  obtain ⟨F, hF⟩ : ∃ F, F = cmpI x y := ⟨_, rfl⟩
  rw [← hF]
  unfold cmpI at hF
  have HF := Lib.hid hF
  clear hF
  rcases Int.lt_trichotomy x y with h | h | h
  · have HR : Hid (F = -1) := Lib.hid (by rw [HF.out, if_pos h])
    clear HF
    go_enter Try.func78, Try.ntmps78
    go_wp2
    go_ret
    exact ⟨by rw [HR.out]; rfl, rfl⟩
  · have HR : Hid (F = 0) := Lib.hid (by rw [HF.out, if_neg (by omega), if_neg (by omega)])
    clear HF
    subst h
    go_enter Try.func78, Try.ntmps78
    go_wp2
    go_ret
    exact ⟨by rw [HR.out]; rfl, rfl⟩
  · have HR : Hid (F = 1) := Lib.hid (by rw [HF.out, if_neg (by omega), if_pos h])
    clear HF
    go_enter Try.func78, Try.ntmps78
    go_wp2
    go_ret
    exact ⟨by rw [HR.out]; rfl, rfl⟩

theorem cmpstr_any (s t : ByteArray) (w : World) : Calls Try.prog 98 #[.string s, .string t] w fun e w' => e = .returned (.int .i64 (cmpS s.data.toList t.data.toList)) ∧ w = w' := by
  have hs := ByteArray.toList_eq s
  have ht := ByteArray.toList_eq t
  obtain ⟨F, hF⟩ : ∃ F, F = cmpS s.data.toList t.data.toList := ⟨_, rfl⟩
  rw [← hF]
  unfold cmpS at hF
  rw [← hs, ← ht] at hF
  have HF := Lib.hid hF
  clear hs ht hF
  rcases bl_tri s.toList t.toList with h | h | h
  · have HR : Hid (F = -1) := Lib.hid (by rw [HF.out, if_pos h])
    clear HF
    go_enter Try.func98, Try.ntmps98
    go_wp2
    go_ret
    exact ⟨by rw [HR.out]; rfl, rfl⟩
  · have h2 : Op.bytesLess s.toList t.toList = false := by rw [h]; exact bl_irrefl _
    have h3 : Op.bytesLess t.toList s.toList = false := by rw [h]; exact bl_irrefl _
    have h4 : (s.toList == t.toList) = true := by simp [h]
    have HR : Hid (F = 0) := Lib.hid (by rw [HF.out, h2, h3]; rfl)
    clear h h3 HF
    go_enter Try.func98, Try.ntmps98
    go_wp2
    go_ret
    exact ⟨by rw [HR.out]; rfl, rfl⟩
  · have h2 := bl_asymm h
    have h4 : (s.toList == t.toList) = false := by
      rw [beq_eq_false_iff_ne]
      intro e
      rw [e, bl_irrefl] at h
      cases h
    have HR : Hid (F = 1) := Lib.hid (by rw [HF.out, h2, h]; rfl)
    clear h HF
    go_enter Try.func98, Try.ntmps98
    go_wp2
    go_ret
    exact ⟨by rw [HR.out]; rfl, rfl⟩

/-- The first number that is not 0. -/
def firstNZ (l : List Int) : Int := (l.find? fun x => x != 0).getD 0
set_option maxHeartbeats 800000 in
theorem or_any (A : Option Addr) (n c : Nat) (l : List Int) (w : World) (B : Nat) (hn : l.length = n) (hs : Sees w B A (ivs l)) (hm : n ≤ 65536) :
    Calls Try.prog 77 #[.slice A n c] w fun e w' => e = .returned (.int .i64 (firstNZ l)) ∧ w = w' := by
  subst hn
  have HF : Hid (firstNZ l = (l.find? fun x => x != 0).getD 0) := Lib.hid rfl
  obtain ⟨F, hF⟩ : ∃ F, F = firstNZ l := ⟨_, rfl⟩
  rw [← hF] at HF ⊢
  clear hF
  go_enter Try.func77, Try.ntmps77
  go_wp2_with fail
  go_loop [8] (fun i => ∃ k : Nat, k ≤ l.length ∧ i = .int .i64 k ∧ Hid (F = ((l.drop k).find? fun x => x != 0).getD 0)) (fun i => l.length - (intOf i).toNat)
  case atStart => exact ⟨0, Nat.zero_le _, rfl, HF⟩
  case round =>
    obtain ⟨k, hk, rfl, HX⟩ := hrel
    by_cases hlt : k < l.length
    · obtain ⟨b, o, rfl, hb, hc⟩ := hs.int k hlt
      obtain ⟨y, hy⟩ : ∃ y, y = l[k] := ⟨_, rfl⟩
      rw [← hy] at hc
      have HS : Hid (F = if (y != 0) = true then y else ((l.drop (k + 1)).find? fun x => x != 0).getD 0) := Lib.hid (by
        rw [HX.out, List.drop_eq_getElem_cons hlt, ← hy, List.find?_cons]
        cases (y != 0) <;> rfl)
      clear hy
      cases h0 : (y != 0) with
      | true =>
        rw [h0] at HS
        go_wp2_with fail
        go_ret
        exact ⟨by rw [HS.out]; rfl, rfl⟩
      | false =>
        rw [h0] at HS
        go_wp2_with fail
        go_round
        case rel => exact ⟨k + 1, by omega, by go_num, Lib.hid (by rw [HS.out]; rfl)⟩
        case measure => simp [intOf]; omega
    · obtain rfl : k = l.length := by omega
      have HS : Hid (F = 0) := Lib.hid (by rw [HX.out, List.drop_length]; rfl)
      go_wp2_with fail
      go_ret
      exact ⟨by rw [HS.out]; rfl, rfl⟩

/-- A slot that holds a slice of numbers. -/
def relInts (l : List Int) : Rel where
  rel x w := ∃ g, x = .slice (some ⟨g, 0, none⟩) l.length l.length ∧ Blk w g (ivs l)
  mono := fun x w w' h ⟨g, e, hr⟩ => ⟨g, e, hr.later h⟩
  real := fun w ⟨g, e, _⟩ => by cases e
theorem Blk.seesInts {w : World} {g : Nat} {l : List Int} (h : Blk w g (ivs l)) : Sees w w.heap.size (some ⟨g, 0, none⟩) (ivs l) := fun _ => by
  refine ⟨g, 0, rfl, h.lt, fun j hj => ?_⟩
  rw [Nat.zero_add]
  exact h.cell (List.getElem?_eq_getElem hj)
theorem run_ints3 (a b c : Int) (w : World) : (Instr.buildSlice 76 3 #[(0, .int .i64 a), (1, .int .i64 b), (2, .int .i64 c)]).run Try.prog w = .ok (.slice (some ⟨w.heap.size, 0, none⟩) 3 3) (w.alloc (.cells (ivs [a, b, c]).toArray 3)) := by kernel_rfl
theorem ints3_gives {a : Act} {op : Oper} (x y z : Operand) (p q r : Int) (ho : op.op = .buildSlice 76 3 #[(0, x), (1, y), (2, z)]) (hx : a.eval x = .int .i64 p) (hy : a.eval y = .int .i64 q) (hz : a.eval z = .int .i64 r) (w : World) : gives Try.prog op a (relInts [p, q, r]).rel w := by
  unfold gives execOp
  simp only [ho, List.map_toArray, List.map_cons, List.map_nil, hx, hy, hz, Sem.run_bind, run_ints3, Result.andThen_ok, Sem.run_pure]
  exact ⟨(Below.refl _ _).alloc (Nat.le_refl _) _, _, rfl, Blk.new w _ _⟩

theorem first3 (a b c : Int) : firstNZ [a, b, c] = if a ≠ 0 then a else if b ≠ 0 then b else c := by
  unfold firstNZ
  by_cases h1 : a = 0
  · by_cases h2 : b = 0
    · by_cases h3 : c = 0 <;> simp [h1, h2, h3]
    · simp [h1, h2]
  · simp [h1]

set_option maxRecDepth 100000 in
set_option maxHeartbeats 1600000 in
theorem vcompare_any (a b : V3) (w : World) : Calls Try.prog 79 #[.agg (vcells a).toArray, .agg (vcells b).toArray] w fun e w' => e = .returned (.int .i64 (vcmp a b)) ∧ Below w.heap.size w w' := by
  obtain ⟨k, n, s⟩ := a
  obtain ⟨k', n', s'⟩ := b
  have HR : Hid (firstNZ [cmpI k k', cmpI n n', cmpS s.data.toList s'.data.toList] = vcmp (k, n, s) (k', n', s')) := Lib.hid (first3 _ _ _)
  have H1 := Lib.hid (fun wx : World => (cmpint_any k k' wx).mono fun e w' (h : e = .returned (.int .i64 (cmpI k k')) ∧ wx = w') => (show e = .returned (.int .i64 (cmpI k k')) ∧ Below wx.heap.size wx w' from ⟨h.1, h.2 ▸ Below.refl _ _⟩))
  have H2 := Lib.hid (fun wx : World => (cmpint_any n n' wx).mono fun e w' (h : e = .returned (.int .i64 (cmpI n n')) ∧ wx = w') => (show e = .returned (.int .i64 (cmpI n n')) ∧ Below wx.heap.size wx w' from ⟨h.1, h.2 ▸ Below.refl _ _⟩))
  have H3 := Lib.hid (fun wx : World => (cmpstr_any s s' wx).mono fun e w' (h : e = .returned (.int .i64 (cmpS s.data.toList s'.data.toList)) ∧ wx = w') => (show e = .returned (.int .i64 (cmpS s.data.toList s'.data.toList)) ∧ Below wx.heap.size wx w' from ⟨h.1, h.2 ▸ Below.refl _ _⟩))
  obtain ⟨c1, hc1⟩ : ∃ c, c = cmpI k k' := ⟨_, rfl⟩
  obtain ⟨c2, hc2⟩ : ∃ c, c = cmpI n n' := ⟨_, rfl⟩
  obtain ⟨c3, hc3⟩ : ∃ c, c = cmpS s.data.toList s'.data.toList := ⟨_, rfl⟩
  rw [← hc1] at H1 HR
  rw [← hc2] at H2 HR
  rw [← hc3] at H3 HR
  obtain ⟨r, hr⟩ : ∃ r, r = vcmp (k, n, s) (k', n', s') := ⟨_, rfl⟩
  rw [← hr] at HR ⊢
  clear hc1 hc2 hc3 hr
  have B0 := (Blk.new w (vcells (k, n, s)) 69).alloc (.cells (vcells (k', n', s')).toArray 69)
  have B1 := Blk.new (w.alloc (.cells (vcells (k, n, s)).toArray 69)) (vcells (k', n', s')) 69
  have hb := ((Below.refl w.heap.size w).alloc (Nat.le_refl _) (.cells (vcells (k, n, s)).toArray 69)).alloc (by simp) (.cells (vcells (k', n', s')).toArray 69)
  have hs1 : (w.alloc (.cells (vcells (k, n, s)).toArray 69)).heap.size = w.heap.size + 1 := by simp
  rw [hs1] at B1
  clear hs1
  go_enter Try.func79, Try.ntmps79
  go_wp2_with fail
  generalize ((w.alloc (.cells (vcells (k, n, s)).toArray 69)).alloc (.cells (vcells (k', n', s')).toArray 69)) = W at *
  have p0 : ∀ kk : LW W, kk.val.cell? ⟨w.heap.size, 0, none⟩ = some (.int .i64 k) := fun kk => (B0.later kk.le).cell rfl
  have p1 : ∀ kk : LW W, kk.val.cell? ⟨w.heap.size, 1, none⟩ = some (.int .i64 n) := fun kk => (B0.later kk.le).cell rfl
  have p2 : ∀ kk : LW W, kk.val.cell? ⟨w.heap.size, 2, none⟩ = some (.string s) := fun kk => (B0.later kk.le).cell rfl
  have q0 : ∀ kk : LW W, kk.val.cell? ⟨w.heap.size + 1, 0, none⟩ = some (.int .i64 k') := fun kk => (B1.later kk.le).cell rfl
  have q1 : ∀ kk : LW W, kk.val.cell? ⟨w.heap.size + 1, 1, none⟩ = some (.int .i64 n') := fun kk => (B1.later kk.le).cell rfl
  have q2 : ∀ kk : LW W, kk.val.cell? ⟨w.heap.size + 1, 2, none⟩ = some (.string s') := fun kk => (B1.later kk.le).cell rfl
  refine wp_region_steady [(20, relInts [c1, c2, c3])] 22 (by kernel_rfl) (by kernel_rfl) (by kernel_rfl) (by rfl) ?_
  iterate 4 (refine wpG_quiet (by rfl) (by rfl) (by rfl) (fun K hK => ?_); go_big_quiet_op; refine hK _ ?_; clear hK K)
  refine wpG_call (by rfl) (by rfl) 78 #[.int .i64 k, .int .i64 k'] (.int .i64 c1) (by intro _; simp [go_sem]) (by kernel_rfl) (fun w1 hl => (H1.out w1)) ?_
  simp only [Act.put, List.setIfInBounds_toArray, List.set_cons_zero, List.set_cons_succ]
  iterate 4 (refine wpG_quiet (by rfl) (by rfl) (by rfl) (fun K hK => ?_); go_big_quiet_op; refine hK _ ?_; clear hK K)
  refine wpG_call (by rfl) (by rfl) 78 #[.int .i64 n, .int .i64 n'] (.int .i64 c2) (by intro _; simp [go_sem]) (by kernel_rfl) (fun w1 hl => (H2.out w1)) ?_
  simp only [Act.put, List.setIfInBounds_toArray, List.set_cons_zero, List.set_cons_succ]
  iterate 4 (refine wpG_quiet (by rfl) (by rfl) (by rfl) (fun K hK => ?_); go_big_quiet_op; refine hK _ ?_; clear hK K)
  refine wpG_call (by rfl) (by rfl) 98 #[.string s, .string s'] (.int .i64 c3) (by intro _; simp [go_sem]) (by kernel_rfl) (fun w1 hl => (H3.out w1)) ?_
  simp only [Act.put, List.setIfInBounds_toArray, List.set_cons_zero, List.set_cons_succ]
  refine wpG_open (relInts [c1, c2, c3]) (by rfl) (by rfl) (fun w1 hl => ints3_gives (.tmp 9) (.tmp 14) (.tmp 19) c1 c2 c3 rfl rfl rfl rfl w1) ?_
  rintro _ ⟨_, _, _, ⟨g, rfl, _⟩⟩
  simp only [Act.put, List.setIfInBounds_toArray, List.set_cons_zero, List.set_cons_succ]
  refine wpG_call (by rfl) (by rfl) 77 #[.slice (some ⟨g, 0, none⟩) 3 3] (.int .i64 r) (by intro _; simp [go_sem]) (by kernel_rfl) (fun w1 hl => ?_) ?_
  · obtain ⟨g5, h5, r5⟩ := hl.2 20 _ (by simp [Op.operands, Call.operands]) rfl (by intro h; cases h)
    cases h5
    have := or_any (some ⟨g, 0, none⟩) 3 3 [c1, c2, c3] w1 w1.heap.size rfl r5.seesInts (by omega)
    rw [HR.out] at this
    exact this.mono fun e w' h => ⟨h.1, h.2 ▸ Below.refl _ _⟩
  simp only [Act.put, List.setIfInBounds_toArray, List.set_cons_zero, List.set_cons_succ]
  iterate 1 (refine wpG_quiet (by rfl) (by rfl) (by rfl) (fun K hK => ?_); go_big_quiet_op; refine hK _ ?_; clear hK K)
  refine wpG_nil fun w1 hl _ => ?_
  have hb1 := hb.trans (hl.mono hb.size)
  clear p0 p1 p2 q0 q1 q2 B0 B1 hb
  go_wp2_with fail
  go_ret
  exact ⟨rfl, hb1⟩

theorem info_val : (Try.prog.info? 69).map (·.size) = some 3 := by kernel_rfl
/-- The world behind two boxes. -/
theorem two_boxes (a b : V3) (w : World) : ∃ W, W = (w.alloc (.cells (vcells a).toArray 69)).alloc (.cells (vcells b).toArray 69) ∧ Blk W w.heap.size (vcells a) ∧ Blk W (w.heap.size + 1) (vcells b) ∧ Below w.heap.size w W := by
  refine ⟨_, rfl, (Blk.new w (vcells a) 69).alloc _, ?_, ((Below.refl w.heap.size w).alloc (Nat.le_refl _) _).alloc (by simp) _⟩
  have := Blk.new (w.alloc (.cells (vcells a).toArray 69)) (vcells b) 69
  have hs1 : (w.alloc (.cells (vcells a).toArray 69)).heap.size = w.heap.size + 1 := by simp
  rw [hs1] at this
  exact this
theorem Blk.val {w : World} {g : Nat} {k n : Int} {s : ByteArray} (h : Blk w g (vcells (k, n, s))) : w.cell? ⟨g, 0, none⟩ = some (.int .i64 k) ∧ w.cell? ⟨g, 1, none⟩ = some (.int .i64 n) ∧ w.cell? ⟨g, 2, none⟩ = some (.string s) := ⟨h.cell rfl, h.cell rfl, h.cell rfl⟩
theorem Blk.valR {w : World} {g : Nat} {a : V3} (h : Blk w g (vcells a)) : w.rangeAt g 0 (vcells a) := h.range 0 _ rfl
theorem take_byte (s : ByteArray) (k : Nat) (h : k < s.size) : s.data.toList.take (k + 1) = s.data.toList.take k ++ [s[k]] := by
  rw [List.take_succ_eq_append_getElem (by simpa using h)]; rfl

theorem cmpS_prefix : ∀ (p x y : List UInt8), cmpS (p ++ x) (p ++ y) = cmpS x y
  | [], x, y => rfl
  | c :: p, x, y => by
    rw [← cmpS_prefix p x y]
    unfold cmpS
    simp [Op.bytesLess, UInt8.lt_irrefl]
theorem cmpS_heads (c d : UInt8) (x y : List UInt8) (h : c ≠ d) : cmpS (c :: x) (d :: y) = cmpI (c.toNat : Int) (d.toNat : Int) := by
  have hn : c.toNat ≠ d.toNat := fun e => h (UInt8.toNat_inj.1 e)
  unfold cmpS cmpI
  have hdc : (d == c) = false := by rw [beq_eq_false_iff_ne]; exact fun e => h e.symm
  have hcd : (c == d) = false := by rw [beq_eq_false_iff_ne]; exact h
  simp only [Op.bytesLess, hcd, hdc, Bool.false_and, Bool.or_false, decide_eq_true_eq, UInt8.lt_iff_toNat_lt, Int.ofNat_lt]
theorem cmpS_diff {l m : List UInt8} {k : Nat} (h1 : k < l.length) (h2 : k < m.length) (h : l.take k = m.take k) (hne : l[k] ≠ m[k]) : cmpS l m = cmpI (l[k].toNat : Int) (m[k].toNat : Int) := by
  rw [← cmpS_heads l[k] m[k] (l.drop (k + 1)) (m.drop (k + 1)) hne, ← List.drop_eq_getElem_cons h1, ← List.drop_eq_getElem_cons h2]
  conv => lhs; rw [← List.take_append_drop k l, ← List.take_append_drop k m, h]
  exact cmpS_prefix _ _ _
theorem cmpS_end {l m : List UInt8} {k : Nat} (hk1 : k ≤ l.length) (hk2 : k ≤ m.length) (h : l.take k = m.take k) (he : k = l.length ∨ k = m.length) : cmpS l m = cmpI (l.length : Int) (m.length : Int) := by
  conv => lhs; rw [← List.take_append_drop k l, ← List.take_append_drop k m, h]
  rw [cmpS_prefix]
  rcases he with rfl | rfl
  · rw [List.drop_length]
    rcases Nat.lt_or_ge l.length m.length with hl | hl
    · rw [List.drop_eq_getElem_cons hl]
      have : cmpI (l.length : Int) (m.length : Int) = -1 := by unfold cmpI; rw [if_pos (by omega)]
      rw [this]; rfl
    · have : m.length = l.length := by omega
      rw [List.drop_eq_nil_of_le hl, this]
      rw [(cmpI_zero _ _).2 rfl]; rfl
  · rw [List.drop_length]
    rcases Nat.lt_or_ge m.length l.length with hl | hl
    · rw [List.drop_eq_getElem_cons hl]
      have : cmpI (l.length : Int) (m.length : Int) = 1 := by unfold cmpI; rw [if_neg (by omega), if_pos (by omega)]
      rw [this]; rfl
    · have : l.length = m.length := by omega
      rw [List.drop_eq_nil_of_le hl, this]
      rw [(cmpI_zero _ _).2 rfl]; rfl

end Go.Proofs.Ytadmaalhhigbeaa
