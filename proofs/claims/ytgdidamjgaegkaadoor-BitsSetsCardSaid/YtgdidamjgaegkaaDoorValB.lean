/- Compare and Less of values: what each returns. -/
import Derived.Test.YtgdidamjgaegkaaDoorValA
import Derived.Test.YtgdidamjgaegkaaDoorValM
import Derived.Test.YtgdidamjgaegkaaDoorShelf
import Derived.Test.YtgdidamjgaegkaaDoorTail
import Derived.WalkLawsBesides
namespace Go.Proofs.YtgdidamjgaegkaaDoor
set_option linter.unusedVariables false
open Go Go.RowKit BitM ValM

theorem cmpint_any (x y : Int) (w : World) : Calls Tryd.prog 78 #[.int .i64 x, .int .i64 y] w fun e w' => e = .returned (.int .i64 (cmpI x y)) ∧ w = w' :=
  (Tryd.cmp_Compare_int x y w).mono fun e w' ⟨h1, h2⟩ => ⟨h1, h2.symm⟩

theorem cmpstr_any (s t : ByteArray) (w : World) : Calls Tryd.prog 79 #[.string s, .string t] w fun e w' => e = .returned (.int .i64 (cmpS s.data.toList t.data.toList)) ∧ w = w' := by
  have hs := ByteArray.toList_eq s
  have ht := ByteArray.toList_eq t
  obtain ⟨F, hF⟩ : ∃ F, F = cmpS s.data.toList t.data.toList := ⟨_, rfl⟩
  rw [← hF]
  unfold cmpS at hF
  rw [← hs, ← ht] at hF
  have HF := Lib.hid hF
  clear hs ht hF
  rcases bl_tri s.toList t.toList with h | h | h
  · have HR : Hid (F = -1) := Lib.hid (by rw [HF.out, if_pos h])
    clear HF
    go_enter Tryd.func79, Tryd.ntmps79
    go_wp2
    go_ret
    exact ⟨by rw [HR.out]; rfl, rfl⟩
  · have h2 : Op.bytesLess s.toList t.toList = false := by rw [h]; exact bl_irrefl _
    have h3 : Op.bytesLess t.toList s.toList = false := by rw [h]; exact bl_irrefl _
    have h4 : (s.toList == t.toList) = true := by simp [h]
    have HR : Hid (F = 0) := Lib.hid (by rw [HF.out, h2, h3]; rfl)
    clear h h3 HF
    go_enter Tryd.func79, Tryd.ntmps79
    go_wp2
    go_ret
    exact ⟨by rw [HR.out]; rfl, rfl⟩
  · have h2 := bl_asymm h
    have h4 : (s.toList == t.toList) = false := by
      rw [beq_eq_false_iff_ne]
      intro e
      rw [e, bl_irrefl] at h
      cases h
    have HR : Hid (F = 1) := Lib.hid (by rw [HF.out, h2, h]; rfl)
    clear h HF
    go_enter Tryd.func79, Tryd.ntmps79
    go_wp2
    go_ret
    exact ⟨by rw [HR.out]; rfl, rfl⟩

/-- The first number that is not 0. -/
def firstNZ (l : List Int) : Int := (l.find? fun x => x != 0).getD 0
set_option maxHeartbeats 800000 in
theorem or_any (A : Option Addr) (n c : Nat) (l : List Int) (w : World) (B : Nat) (hn : l.length = n) (hs : Sees w B A (ivs l)) (hm : n ≤ 65536) :
    Calls Tryd.prog 77 #[.slice A n c] w fun e w' => e = .returned (.int .i64 (firstNZ l)) ∧ w = w' := by
  subst hn
  have HF : Hid (firstNZ l = (l.find? fun x => x != 0).getD 0) := Lib.hid rfl
  obtain ⟨F, hF⟩ : ∃ F, F = firstNZ l := ⟨_, rfl⟩
  rw [← hF] at HF ⊢
  clear hF
  go_enter Tryd.func77, Tryd.ntmps77
  go_wp2_with fail
  go_loop [8] (fun i => ∃ k : Nat, k ≤ l.length ∧ i = .int .i64 k ∧ Hid (F = ((l.drop k).find? fun x => x != 0).getD 0)) (fun i => l.length - (intOf i).toNat)
  case atStart => exact ⟨0, Nat.zero_le _, rfl, HF⟩
  case round =>
    obtain ⟨k, hk, rfl, HX⟩ := hrel
    by_cases hlt : k < l.length
    · obtain ⟨b, o, rfl, hb, hc⟩ := hs.int k hlt
      obtain ⟨y, hy⟩ : ∃ y, y = l[k] := ⟨_, rfl⟩
      rw [← hy] at hc
      have HS : Hid (F = if (y != 0) = true then y else ((l.drop (k + 1)).find? fun x => x != 0).getD 0) := Lib.hid (by
        rw [HX.out, List.drop_eq_getElem_cons hlt, ← hy, List.find?_cons]
        cases (y != 0) <;> rfl)
      clear hy
      cases h0 : (y != 0) with
      | true =>
        rw [h0] at HS
        go_wp2_with fail
        go_ret
        exact ⟨by rw [HS.out]; rfl, rfl⟩
      | false =>
        rw [h0] at HS
        go_wp2_with fail
        go_round
        case rel => exact ⟨k + 1, by omega, by go_num, Lib.hid (by rw [HS.out]; rfl)⟩
        case measure => simp [intOf]; omega
    · obtain rfl : k = l.length := by omega
      have HS : Hid (F = 0) := Lib.hid (by rw [HX.out, List.drop_length]; rfl)
      go_wp2_with fail
      go_ret
      exact ⟨by rw [HS.out]; rfl, rfl⟩

/-- A slot that holds a slice of numbers. -/
def relInts (l : List Int) : Rel where
  rel x w := ∃ g, x = .slice (some ⟨g, 0, none⟩) l.length l.length ∧ Blk w g (ivs l)
  mono := fun x w w' h ⟨g, e, hr⟩ => ⟨g, e, hr.later h⟩
  real := fun w ⟨g, e, _⟩ => by cases e
theorem Blk.seesInts {w : World} {g : Nat} {l : List Int} (h : Blk w g (ivs l)) : Sees w w.heap.size (some ⟨g, 0, none⟩) (ivs l) := fun _ => by
  refine ⟨g, 0, rfl, h.lt, fun j hj => ?_⟩
  rw [Nat.zero_add]
  exact h.cell (List.getElem?_eq_getElem hj)
theorem run_ints3 (a b c : Int) (w : World) : (Instr.buildSlice 23 3 #[(0, .int .i64 a), (1, .int .i64 b), (2, .int .i64 c)]).run Tryd.prog w = .ok (.slice (some ⟨w.heap.size, 0, none⟩) 3 3) (w.alloc (.cells (ivs [a, b, c]).toArray 3)) := by kernel_rfl
theorem ints3_gives {a : Act} {op : Oper} (x y z : Operand) (p q r : Int) (ho : op.op = .buildSlice 23 3 #[(0, x), (1, y), (2, z)]) (hx : a.eval x = .int .i64 p) (hy : a.eval y = .int .i64 q) (hz : a.eval z = .int .i64 r) (w : World) : gives Tryd.prog op a (relInts [p, q, r]).rel w := by
  unfold gives execOp
  simp only [ho, List.map_toArray, List.map_cons, List.map_nil, hx, hy, hz, Sem.run_bind, run_ints3, Result.andThen_ok, Sem.run_pure]
  exact ⟨(Below.refl _ _).alloc (Nat.le_refl _) _, _, rfl, Blk.new w _ _⟩

theorem first3 (a b c : Int) : firstNZ [a, b, c] = if a ≠ 0 then a else if b ≠ 0 then b else c := by
  unfold firstNZ
  by_cases h1 : a = 0
  · by_cases h2 : b = 0
    · by_cases h3 : c = 0 <;> simp [h1, h2, h3]
    · simp [h1, h2]
  · simp [h1]

set_option maxRecDepth 100000 in
set_option maxHeartbeats 1600000 in
theorem vcompare_any (a b : V3) (w : World) : Calls Tryd.prog 37 #[.agg (vcells a).toArray, .agg (vcells b).toArray] w fun e w' => e = .returned (.int .i64 (vcmp a b)) ∧ Below w.heap.size w w' := by
  obtain ⟨k, n, s⟩ := a
  obtain ⟨k', n', s'⟩ := b
  have HR : Hid (firstNZ [cmpI k k', cmpI n n', cmpS s.data.toList s'.data.toList] = vcmp (k, n, s) (k', n', s')) := Lib.hid (first3 _ _ _)
  have H1 := Lib.hid (fun wx : World => (cmpint_any k k' wx).mono fun e w' (h : e = .returned (.int .i64 (cmpI k k')) ∧ wx = w') => (show e = .returned (.int .i64 (cmpI k k')) ∧ Below wx.heap.size wx w' from ⟨h.1, h.2 ▸ Below.refl _ _⟩))
  have H2 := Lib.hid (fun wx : World => (cmpint_any n n' wx).mono fun e w' (h : e = .returned (.int .i64 (cmpI n n')) ∧ wx = w') => (show e = .returned (.int .i64 (cmpI n n')) ∧ Below wx.heap.size wx w' from ⟨h.1, h.2 ▸ Below.refl _ _⟩))
  have H3 := Lib.hid (fun wx : World => (cmpstr_any s s' wx).mono fun e w' (h : e = .returned (.int .i64 (cmpS s.data.toList s'.data.toList)) ∧ wx = w') => (show e = .returned (.int .i64 (cmpS s.data.toList s'.data.toList)) ∧ Below wx.heap.size wx w' from ⟨h.1, h.2 ▸ Below.refl _ _⟩))
  obtain ⟨c1, hc1⟩ : ∃ c, c = cmpI k k' := ⟨_, rfl⟩
  obtain ⟨c2, hc2⟩ : ∃ c, c = cmpI n n' := ⟨_, rfl⟩
  obtain ⟨c3, hc3⟩ : ∃ c, c = cmpS s.data.toList s'.data.toList := ⟨_, rfl⟩
  rw [← hc1] at H1 HR
  rw [← hc2] at H2 HR
  rw [← hc3] at H3 HR
  obtain ⟨r, hr⟩ : ∃ r, r = vcmp (k, n, s) (k', n', s') := ⟨_, rfl⟩
  rw [← hr] at HR ⊢
  clear hc1 hc2 hc3 hr
  have B0 := (Blk.new w (vcells (k, n, s)) 43).alloc (.cells (vcells (k', n', s')).toArray 43)
  have B1 := Blk.new (w.alloc (.cells (vcells (k, n, s)).toArray 43)) (vcells (k', n', s')) 43
  have hb := ((Below.refl w.heap.size w).alloc (Nat.le_refl _) (.cells (vcells (k, n, s)).toArray 43)).alloc (by simp) (.cells (vcells (k', n', s')).toArray 43)
  have hs1 : (w.alloc (.cells (vcells (k, n, s)).toArray 43)).heap.size = w.heap.size + 1 := by simp
  rw [hs1] at B1
  clear hs1
  go_enter Tryd.func37, Tryd.ntmps37
  go_wp2_with fail
  generalize ((w.alloc (.cells (vcells (k, n, s)).toArray 43)).alloc (.cells (vcells (k', n', s')).toArray 43)) = W at *
  have p0 : ∀ kk : LW W, kk.val.cell? ⟨w.heap.size, 0, none⟩ = some (.int .i64 k) := fun kk => (B0.later kk.le).cell rfl
  have p1 : ∀ kk : LW W, kk.val.cell? ⟨w.heap.size, 1, none⟩ = some (.int .i64 n) := fun kk => (B0.later kk.le).cell rfl
  have p2 : ∀ kk : LW W, kk.val.cell? ⟨w.heap.size, 2, none⟩ = some (.string s) := fun kk => (B0.later kk.le).cell rfl
  have q0 : ∀ kk : LW W, kk.val.cell? ⟨w.heap.size + 1, 0, none⟩ = some (.int .i64 k') := fun kk => (B1.later kk.le).cell rfl
  have q1 : ∀ kk : LW W, kk.val.cell? ⟨w.heap.size + 1, 1, none⟩ = some (.int .i64 n') := fun kk => (B1.later kk.le).cell rfl
  have q2 : ∀ kk : LW W, kk.val.cell? ⟨w.heap.size + 1, 2, none⟩ = some (.string s') := fun kk => (B1.later kk.le).cell rfl
  refine wp_region_steady [(20, relInts [c1, c2, c3])] 22 (by kernel_rfl) (by kernel_rfl) (by kernel_rfl) (by rfl) ?_
  iterate 4 (refine wpG_quiet (by rfl) (by rfl) (by rfl) (fun K hK => ?_); go_big_quiet_op; refine hK _ ?_; clear hK K)
  refine wpG_call (by rfl) (by rfl) 78 #[.int .i64 k, .int .i64 k'] (.int .i64 c1) (by intro _; simp [go_sem]) (by kernel_rfl) (fun w1 hl => (H1.out w1)) ?_
  simp only [Act.put, List.setIfInBounds_toArray, List.set_cons_zero, List.set_cons_succ]
  iterate 4 (refine wpG_quiet (by rfl) (by rfl) (by rfl) (fun K hK => ?_); go_big_quiet_op; refine hK _ ?_; clear hK K)
  refine wpG_call (by rfl) (by rfl) 78 #[.int .i64 n, .int .i64 n'] (.int .i64 c2) (by intro _; simp [go_sem]) (by kernel_rfl) (fun w1 hl => (H2.out w1)) ?_
  simp only [Act.put, List.setIfInBounds_toArray, List.set_cons_zero, List.set_cons_succ]
  iterate 4 (refine wpG_quiet (by rfl) (by rfl) (by rfl) (fun K hK => ?_); go_big_quiet_op; refine hK _ ?_; clear hK K)
  refine wpG_call (by rfl) (by rfl) 79 #[.string s, .string s'] (.int .i64 c3) (by intro _; simp [go_sem]) (by kernel_rfl) (fun w1 hl => (H3.out w1)) ?_
  simp only [Act.put, List.setIfInBounds_toArray, List.set_cons_zero, List.set_cons_succ]
  refine wpG_open (relInts [c1, c2, c3]) (by rfl) (by rfl) (fun w1 hl => ints3_gives (.tmp 9) (.tmp 14) (.tmp 19) c1 c2 c3 rfl rfl rfl rfl w1) ?_
  rintro _ ⟨_, _, _, ⟨g, rfl, _⟩⟩
  simp only [Act.put, List.setIfInBounds_toArray, List.set_cons_zero, List.set_cons_succ]
  refine wpG_call (by rfl) (by rfl) 77 #[.slice (some ⟨g, 0, none⟩) 3 3] (.int .i64 r) (by intro _; simp [go_sem]) (by kernel_rfl) (fun w1 hl => ?_) ?_
  · obtain ⟨g5, h5, r5⟩ := hl.2 20 _ (by simp [Op.operands, Call.operands]) rfl (by intro h; cases h)
    cases h5
    have := or_any (some ⟨g, 0, none⟩) 3 3 [c1, c2, c3] w1 w1.heap.size rfl r5.seesInts (by omega)
    rw [HR.out] at this
    exact this.mono fun e w' h => ⟨h.1, h.2 ▸ Below.refl _ _⟩
  simp only [Act.put, List.setIfInBounds_toArray, List.set_cons_zero, List.set_cons_succ]
  iterate 1 (refine wpG_quiet (by rfl) (by rfl) (by rfl) (fun K hK => ?_); go_big_quiet_op; refine hK _ ?_; clear hK K)
  refine wpG_nil fun w1 hl _ => ?_
  have hb1 := hb.trans (hl.mono hb.size)
  clear p0 p1 p2 q0 q1 q2 B0 B1 hb
  go_wp2_with fail
  go_ret
  exact ⟨rfl, hb1⟩

theorem info_val : (Tryd.prog.info? 43).map (·.size) = some 3 := by kernel_rfl
/-- The world behind two boxes. -/
theorem two_boxes (a b : V3) (w : World) : ∃ W, W = (w.alloc (.cells (vcells a).toArray 43)).alloc (.cells (vcells b).toArray 43) ∧ Blk W w.heap.size (vcells a) ∧ Blk W (w.heap.size + 1) (vcells b) ∧ Below w.heap.size w W := by
  refine ⟨_, rfl, (Blk.new w (vcells a) 43).alloc _, ?_, ((Below.refl w.heap.size w).alloc (Nat.le_refl _) _).alloc (by simp) _⟩
  have := Blk.new (w.alloc (.cells (vcells a).toArray 43)) (vcells b) 43
  have hs1 : (w.alloc (.cells (vcells a).toArray 43)).heap.size = w.heap.size + 1 := by simp
  rw [hs1] at this
  exact this
theorem Blk.val {w : World} {g : Nat} {k n : Int} {s : ByteArray} (h : Blk w g (vcells (k, n, s))) : w.cell? ⟨g, 0, none⟩ = some (.int .i64 k) ∧ w.cell? ⟨g, 1, none⟩ = some (.int .i64 n) ∧ w.cell? ⟨g, 2, none⟩ = some (.string s) := ⟨h.cell rfl, h.cell rfl, h.cell rfl⟩
theorem Blk.valR {w : World} {g : Nat} {a : V3} (h : Blk w g (vcells a)) : w.rangeAt g 0 (vcells a) := h.range 0 _ rfl
set_option maxRecDepth 100000 in
set_option maxHeartbeats 1600000 in
theorem vless_any (a b : V3) (w : World) : Calls Tryd.prog 39 #[.agg (vcells a).toArray, .agg (vcells b).toArray] w fun e w' => e = .returned (.bool (vless a b)) ∧ Below w.heap.size w w' := by
  have HC := Lib.hid (fun wx : World => vcompare_any a b wx)
  have hu := Tryd.underlying43
  obtain ⟨W, hW, B0, B1, hb⟩ := two_boxes a b w
  have R0 := B0.valR
  have R1 := B1.valR
  have p0 : W.cell? ⟨w.heap.size, 0, none⟩ = some (.int .i64 a.1) := B0.val.1
  have q0 : W.cell? ⟨w.heap.size + 1, 0, none⟩ = some (.int .i64 b.1) := B1.val.1
  clear B0 B1
  obtain ⟨ca, hca⟩ : ∃ ca, ca = (vcells a).toArray := ⟨_, rfl⟩
  obtain ⟨cb, hcb⟩ : ∃ cb, cb = (vcells b).toArray := ⟨_, rfl⟩
  rw [← hca, ← hcb] at hW
  rw [← hca, ← hcb]
  have HW := Lib.hid hW
  clear hca hcb hW
  rw [HW.out] at R0 R1 p0 q0 hb
  have HV : Hid (vless a b = if a.1 = b.1 ∧ (a.1 = 1 ∨ a.1 = 2) then decide (vcmp a b < 0) else false) := Lib.hid rfl
  obtain ⟨v, hv⟩ : ∃ v, v = vless a b := ⟨_, rfl⟩
  rw [← hv] at HV ⊢
  obtain ⟨r, hr⟩ : ∃ r, r = vcmp a b := ⟨_, rfl⟩
  rw [← hr] at HC HV
  obtain ⟨k, hk⟩ : ∃ k, k = a.1 := ⟨_, rfl⟩
  obtain ⟨k', hk'⟩ : ∃ k', k' = b.1 := ⟨_, rfl⟩
  rw [← hk] at p0 HV
  rw [← hk'] at q0 HV
  clear hv hr hk hk' HW
  have hb2 := Lib.hid hb
  clear hb
  by_cases h1 : k = k'
  · subst h1
    by_cases h2 : k = 1 ∨ k = 2
    · have HL : Hid (v = decide (r < 0)) := Lib.hid (by rw [HV.out, if_pos ⟨rfl, h2⟩])
      clear HV
      rcases h2 with rfl | rfl
      all_goals
        go_enter Tryd.func39, Tryd.ntmps39
        go_wp2_with (first
          | (refine wpList_load_mid rfl 43 (.tmp 2) rfl w.heap.size 0 rfl (vcells a) _ R0 hu rfl info_val ?_)
          | (refine wpList_load_mid rfl 43 (.tmp 3) rfl (w.heap.size + 1) 0 rfl (vcells b) _ R1 hu rfl info_val ?_))
        refine (HC.out _).mono ?_
        rintro e w1 ⟨rfl, hb3⟩
        have hb4 := hb2.out.trans (hb3.mono hb2.out.size)
        clear R0 R1 p0 q0
        go_wp2_with fail
        go_ret
        exact ⟨by rw [HL.out]; rfl, hb4⟩
    · have HL : Hid (v = false) := Lib.hid (by rw [HV.out, if_neg (fun h => h2 h.2)])
      have b1 : (k != 1) = true := by simp; intro e; exact h2 (.inl e)
      have b2 : (k != 2) = true := by simp; intro e; exact h2 (.inr e)
      clear h2 HV
      go_enter Tryd.func39, Tryd.ntmps39
      go_wp2_with fail
      go_ret
      exact ⟨by rw [HL.out]; rfl, hb2.out⟩
  · have HL : Hid (v = false) := Lib.hid (by rw [HV.out, if_neg (fun h => h1 h.1)])
    have b1 : (k != k') = true := by simpa using h1
    clear h1 HV
    go_enter Tryd.func39, Tryd.ntmps39
    go_wp2_with fail
    go_ret
    exact ⟨by rw [HL.out]; rfl, hb2.out⟩
end Go.Proofs.YtgdidamjgaegkaaDoor
