/- Pieces: Put, of both: what it returns. -/
import Derived.Test.YtgoebblcggdlgaaPieC
namespace Go.Proofs.Ytgoebblcggdlgaa
set_option linter.unusedVariables false
set_option linter.unusedSimpArgs false
open Go Go.RowKit OctM SumM

/-- A slot that holds a slice of four texts. -/
def relStr4 (a b c d : ByteArray) : Rel where
  rel x w := ∃ g, x = .slice (some ⟨g, 0, none⟩) 4 4 ∧ Blk w g [.string a, .string b, .string c, .string d]
  mono := fun x w w' h ⟨g, e, hr⟩ => ⟨g, e, hr.later h⟩
  real := fun w ⟨g, e, _⟩ => by cases e
theorem run_str4 (a b c d : ByteArray) (w : World) : (Instr.buildSlice 69 4 #[(0, .string a), (1, .string b), (2, .string c), (3, .string d)]).run Try.prog w = .ok (.slice (some ⟨w.heap.size, 0, none⟩) 4 4) (w.alloc (.cells [.string a, .string b, .string c, .string d].toArray 9)) := by kernel_rfl
theorem str4_gives {a : Act} {op : Oper} (x y z u : Operand) (p q r s : ByteArray) (ho : op.op = .buildSlice 69 4 #[(0, x), (1, y), (2, z), (3, u)]) (hx : a.eval x = .string p) (hy : a.eval y = .string q) (hz : a.eval z = .string r) (hu : a.eval u = .string s) (w : World) : gives Try.prog op a (relStr4 p q r s).rel w := by
  unfold gives execOp
  simp only [ho, List.map_toArray, List.map_cons, List.map_nil, hx, hy, hz, hu, Sem.run_bind, run_str4, Result.andThen_ok, Sem.run_pure]
  exact ⟨(Below.refl _ _).alloc (Nat.le_refl _) _, _, rfl, Blk.new w _ _⟩
section
variable {P : Program} {w : World} {a : Act} {op : Oper}
theorem exec_conv (x : Operand) (t u : TypeId) (ho : op.op = .convert t u x) (v : Value) (hx : a.eval x = v) (r : Value) (h : (convert t u v).run P w = .ok r w) : (execOp a.eval op).run P w = .ok (.value r) w := by
  unfold execOp
  simp only [ho, hx, Sem.run_bind, Sem.run_pure, Result.andThen_ok, h]
end
theorem lo_mod (n : Nat) : lo 2 (n % 65536) = lo 2 n := by
  unfold lo lo lo
  rw [show n % 65536 % 256 = n % 256 by omega, show n % 65536 / 256 % 256 = n / 256 % 256 by omega]
theorem pok_hea {p : Pc} (h : pok p = true) : pbs p = sec (hea p) ++ lo 2 (sumOf (sec (hea p))).toNat := by unfold pbs; rw [if_pos h]
theorem pok_no {p : Pc} (h : pok p = false) : pbs p = [] := by unfold pbs; rw [if_neg (by rw [h]; simp)]
set_option maxRecDepth 100000 in
set_option maxHeartbeats 3200000 in
theorem put_any (p : Pc) (w : World) (hl : p.2.2.2.2.length ≤ 4096) : Calls Try.prog 12 #[.agg (pcel p).toArray] w fun e w' => e = .returned (.string (str (pbs p))) ∧ Below w.heap.size w w' := by
  have HCH := Lib.hid (fun wx => check_any p wx hl)
  have HB := Lib.hid (Blk.new w (pcel p) 25)
  have hb0 := (Below.refl w.heap.size w).alloc (Nat.le_refl _) (.cells (pcel p).toArray 25)
  cases hok : pok p
  · rw [pok_no hok]
    rw [hok] at HCH
    obtain ⟨a, b, f, g, l⟩ := p
    obtain ⟨sl, hsl⟩ : ∃ sl, sl = str l := ⟨_, rfl⟩
    show Calls _ _ #[.agg #[.int .i64 a, .int .i64 b, .bool f, .bool g, .string (str l)]] w _
    replace HCH : Hid (∀ wx, Calls Try.prog 9 #[.agg #[.int .i64 a, .int .i64 b, .bool f, .bool g, .string (str l)]] wx fun e w' => e = .returned (.bool false) ∧ Below wx.heap.size wx w') := HCH
    replace hb0 : Below w.heap.size w (w.alloc (.cells #[.int .i64 a, .int .i64 b, .bool f, .bool g, .string (str l)] 25)) := hb0
    rw [← hsl] at HCH hb0 ⊢
    clear HB hok hl hsl
    go_enter Try.func12, Try.ntmps12
    go_wp2_with fail
    refine (HCH.out _).mono ?_
    rintro e w1 ⟨rfl, h1⟩
    go_wp2_with fail
    go_ret
    exact ⟨rfl, hb0.trans (h1.mono hb0.size)⟩
  · have hk := of_decide_eq_true hok
    rw [hok] at HCH
    have HSE : Hid (∀ (g : Nat) (wx : World), Blk wx g [.string (str (lo 4 p.1.toNat)), .string (str (lo 5 p.2.1.toNat)), .string (str (lo 1 (kin p))), .string (str p.2.2.2.2)] → Calls Try.prog 27 #[.slice (some ⟨g, 0, none⟩) 4 4] wx fun e w' => e = .returned (.string (str (pbs p))) ∧ Below wx.heap.size wx w') := Lib.hid fun g wx h => by
      have h2 := sector_any g _ _ _ _ wx h (by have := hea_len p; unfold hea at this; omega)
      rw [pok_hea hok]
      exact h2
    have HKI := Lib.hid (kin_lt (p := p) (by omega))
    obtain ⟨R, hR⟩ : ∃ R, R = str (pbs p) := ⟨_, rfl⟩
    rw [← hR] at HSE ⊢
    clear hR hok
    obtain ⟨a, b, f, g, l⟩ := p
    dsimp only at hk hl HSE
    obtain ⟨k1, k2, k3, k4, k5⟩ := hk
    obtain ⟨x, rfl⟩ := Int.eq_ofNat_of_zero_le (show 0 ≤ a by omega)
    obtain ⟨y, rfl⟩ := Int.eq_ofNat_of_zero_le k3
    simp only [Int.toNat_natCast] at HSE
    have H4 : Hid (∀ wx, Calls Try.prog 28 #[.int .i64 (x : Int), .int .i64 4] wx fun e w' => e = .returned (.string (str (lo 4 x))) ∧ Below wx.heap.size wx w') := Lib.hid fun wx => low_any x 4 (by omega) (by omega) wx
    have H5 : Hid (∀ wx, Calls Try.prog 28 #[.int .i64 (y : Int), .int .i64 5] wx fun e w' => e = .returned (.string (str (lo 5 y))) ∧ Below wx.heap.size wx w') := Lib.hid fun wx => low_any y 5 (by omega) (by omega) wx
    have H1 : Hid (∀ wx, Calls Try.prog 28 #[.int .i64 ((kin ((x : Int), (y : Int), f, g, l) : Nat) : Int), .int .i64 1] wx fun e w' => e = .returned (.string (str (lo 1 (kin ((x : Int), (y : Int), f, g, l))))) ∧ Below wx.heap.size wx w') := Lib.hid fun wx => low_any _ 1 (by omega) (by have := HKI.out; omega) wx
    have z4 : (str (lo 4 x)).size = 4 := by rw [str_size, lo_len]
    have z5 : (str (lo 5 y)).size = 5 := by rw [str_size, lo_len]
    have z1 : (str (lo 1 (kin ((x : Int), (y : Int), f, g, l)))).size = 1 := by rw [str_size, lo_len]
    have HKN : Hid (((kin ((x : Int), (y : Int), f, g, l) : Nat) : Int) = (l.length : Int) + (if f then 64 else 0) + (if g then 128 else 0)) := Lib.hid (by unfold kin; cases f <;> cases g <;> simp)
    obtain ⟨s4, hs4⟩ : ∃ z, z = str (lo 4 x) := ⟨_, rfl⟩
    obtain ⟨s5, hs5⟩ : ∃ z, z = str (lo 5 y) := ⟨_, rfl⟩
    obtain ⟨s1, hs1⟩ : ∃ z, z = str (lo 1 (kin ((x : Int), (y : Int), f, g, l))) := ⟨_, rfl⟩
    rw [← hs4] at H4 z4 HSE
    rw [← hs5] at H5 z5 HSE
    rw [← hs1] at H1 z1 HSE
    obtain ⟨kk, hkk⟩ : ∃ kk, kk = kin ((x : Int), (y : Int), f, g, l) := ⟨_, rfl⟩
    rw [← hkk] at H1 HKN HKI
    clear hs4 hs5 hs1 hkk
    show Calls _ _ #[.agg #[.int .i64 (x : Int), .int .i64 (y : Int), .bool f, .bool g, .string (str l)]] w _
    replace HCH : Hid (∀ wx, Calls Try.prog 9 #[.agg #[.int .i64 (x : Int), .int .i64 (y : Int), .bool f, .bool g, .string (str l)]] wx fun e w' => e = .returned (.bool true) ∧ Below wx.heap.size wx w') := HCH
    replace hb0 : Below w.heap.size w (w.alloc (.cells #[.int .i64 (x : Int), .int .i64 (y : Int), .bool f, .bool g, .string (str l)] 25)) := hb0
    replace HB : Hid (Blk (w.alloc (.cells #[.int .i64 (x : Int), .int .i64 (y : Int), .bool f, .bool g, .string (str l)] 25)) w.heap.size [.int .i64 (x : Int), .int .i64 (y : Int), .bool f, .bool g, .string (str l)]) := HB
    have hz := str_size l
    obtain ⟨sl, hsl⟩ : ∃ sl, sl = str l := ⟨_, rfl⟩
    rw [← hsl] at HCH hb0 HB hz HSE ⊢
    clear hsl
    obtain ⟨n, hn⟩ : ∃ n, n = l.length := ⟨_, rfl⟩
    rw [← hn] at hz k5 HKN hl
    clear hn
    go_enter Try.func12, Try.ntmps12
    go_wp2_with fail
    refine (HCH.out _).mono ?_
    rintro e w1 ⟨rfl, h1⟩
    have B1 := HB.out.later h1
    replace hb0 := hb0.trans (h1.mono hb0.size)
    clear h1 HB HCH
    have c2 := B1.cell (j := 2) rfl
    have c3 := B1.cell (j := 3) rfl
    have c4 := B1.cell (j := 4) rfl
    have k0 : ∀ q : LW w1, q.val.cell? ⟨w.heap.size, 0, none⟩ = some (.int .i64 (x : Int)) := fun q => (B1.later q.le).cell rfl
    have k1 : ∀ q : LW w1, q.val.cell? ⟨w.heap.size, 1, none⟩ = some (.int .i64 (y : Int)) := fun q => (B1.later q.le).cell rfl
    have k4 : ∀ q : LW w1, q.val.cell? ⟨w.heap.size, 4, none⟩ = some (.string sl) := fun q => (B1.later q.le).cell rfl
    clear B1
    cases f <;> cases g
    · have HK2 : (kk : Int) = (n : Int) := by have := HKN.out; simpa using this
      rw [HK2] at H1
      clear HK2 HKN
      go_wp2_with fail
      refine wp_region_steady [(28, relStr4 s4 s5 s1 sl)] 30 (by kernel_rfl) (by kernel_rfl) (by kernel_rfl) (by rfl) ?_
      iterate 2 (refine wpG_quiet (by rfl) (by rfl) (by rfl) (fun K hK => ?_); go_big_quiet_op; refine hK _ ?_; clear hK K)
      refine wpG_call (by rfl) (by rfl) 28 #[.int .i64 ((x : Int)), .int .i64 4] (.string s4) (by intro _; simp [go_sem]) (by kernel_rfl) (fun wx hl => H4.out wx) ?_
      simp only [Act.put, List.setIfInBounds_toArray, List.set_cons_zero, List.set_cons_succ]
      iterate 2 (refine wpG_quiet (by rfl) (by rfl) (by rfl) (fun K hK => ?_); go_big_quiet_op; refine hK _ ?_; clear hK K)
      refine wpG_call (by rfl) (by rfl) 28 #[.int .i64 ((y : Int)), .int .i64 5] (.string s5) (by intro _; simp [go_sem]) (by kernel_rfl) (fun wx hl => H5.out wx) ?_
      simp only [Act.put, List.setIfInBounds_toArray, List.set_cons_zero, List.set_cons_succ]
      iterate 1 (refine wpG_quiet (by rfl) (by rfl) (by rfl) (fun K hK => ?_); go_big_quiet_op; refine hK _ ?_; clear hK K)
      refine wpG_call (by rfl) (by rfl) 28 #[.int .i64 ((n : Int)), .int .i64 1] (.string s1) (by intro _; simp [go_sem]) (by kernel_rfl) (fun wx hl => H1.out wx) ?_
      simp only [Act.put, List.setIfInBounds_toArray, List.set_cons_zero, List.set_cons_succ]
      iterate 2 (refine wpG_quiet (by rfl) (by rfl) (by rfl) (fun K hK => ?_); go_big_quiet_op; refine hK _ ?_; clear hK K)
      refine wpG_open (relStr4 s4 s5 s1 sl) (by rfl) (by rfl) (fun w1 hl => str4_gives (.tmp 20) (.tmp 23) (.tmp 25) (.tmp 27) _ _ _ _ rfl rfl rfl rfl rfl w1) ?_
      rintro _ ⟨_, _, _, ⟨g2, rfl, _⟩⟩
      simp only [Act.put, List.setIfInBounds_toArray, List.set_cons_zero, List.set_cons_succ]
      refine wpG_call (by rfl) (by rfl) 27 #[.slice (some ⟨g2, 0, none⟩) 4 4] (.string R) (by intro _; simp [go_sem]) (by kernel_rfl) (fun w1 hl => ?_) ?_
      · obtain ⟨g5, h5, r5⟩ := hl.2 28 _ (by simp [Op.operands, Call.operands]) rfl (by intro h; cases h)
        cases h5
        exact HSE.out g2 w1 r5
      simp only [Act.put, List.setIfInBounds_toArray, List.set_cons_zero, List.set_cons_succ]
      iterate 1 (refine wpG_quiet (by rfl) (by rfl) (by rfl) (fun K hK => ?_); go_big_quiet_op; refine hK _ ?_; clear hK K)
      refine wpG_nil fun w4 hl _ => ?_
      go_wp2_with fail
      go_ret
      exact ⟨rfl, hb0.trans (hl.mono hb0.size)⟩
    · have HK2 : (kk : Int) = (n : Int) + 128 := by have := HKN.out; simpa using this
      rw [HK2] at H1
      clear HK2 HKN
      go_wp2_with fail
      refine wp_region_steady [(28, relStr4 s4 s5 s1 sl)] 30 (by kernel_rfl) (by kernel_rfl) (by kernel_rfl) (by rfl) ?_
      iterate 2 (refine wpG_quiet (by rfl) (by rfl) (by rfl) (fun K hK => ?_); go_big_quiet_op; refine hK _ ?_; clear hK K)
      refine wpG_call (by rfl) (by rfl) 28 #[.int .i64 ((x : Int)), .int .i64 4] (.string s4) (by intro _; simp [go_sem]) (by kernel_rfl) (fun wx hl => H4.out wx) ?_
      simp only [Act.put, List.setIfInBounds_toArray, List.set_cons_zero, List.set_cons_succ]
      iterate 2 (refine wpG_quiet (by rfl) (by rfl) (by rfl) (fun K hK => ?_); go_big_quiet_op; refine hK _ ?_; clear hK K)
      refine wpG_call (by rfl) (by rfl) 28 #[.int .i64 ((y : Int)), .int .i64 5] (.string s5) (by intro _; simp [go_sem]) (by kernel_rfl) (fun wx hl => H5.out wx) ?_
      simp only [Act.put, List.setIfInBounds_toArray, List.set_cons_zero, List.set_cons_succ]
      iterate 1 (refine wpG_quiet (by rfl) (by rfl) (by rfl) (fun K hK => ?_); go_big_quiet_op; refine hK _ ?_; clear hK K)
      refine wpG_call (by rfl) (by rfl) 28 #[.int .i64 ((n : Int) + 128), .int .i64 1] (.string s1) (by intro _; simp [go_sem]) (by kernel_rfl) (fun wx hl => H1.out wx) ?_
      simp only [Act.put, List.setIfInBounds_toArray, List.set_cons_zero, List.set_cons_succ]
      iterate 2 (refine wpG_quiet (by rfl) (by rfl) (by rfl) (fun K hK => ?_); go_big_quiet_op; refine hK _ ?_; clear hK K)
      refine wpG_open (relStr4 s4 s5 s1 sl) (by rfl) (by rfl) (fun w1 hl => str4_gives (.tmp 20) (.tmp 23) (.tmp 25) (.tmp 27) _ _ _ _ rfl rfl rfl rfl rfl w1) ?_
      rintro _ ⟨_, _, _, ⟨g2, rfl, _⟩⟩
      simp only [Act.put, List.setIfInBounds_toArray, List.set_cons_zero, List.set_cons_succ]
      refine wpG_call (by rfl) (by rfl) 27 #[.slice (some ⟨g2, 0, none⟩) 4 4] (.string R) (by intro _; simp [go_sem]) (by kernel_rfl) (fun w1 hl => ?_) ?_
      · obtain ⟨g5, h5, r5⟩ := hl.2 28 _ (by simp [Op.operands, Call.operands]) rfl (by intro h; cases h)
        cases h5
        exact HSE.out g2 w1 r5
      simp only [Act.put, List.setIfInBounds_toArray, List.set_cons_zero, List.set_cons_succ]
      iterate 1 (refine wpG_quiet (by rfl) (by rfl) (by rfl) (fun K hK => ?_); go_big_quiet_op; refine hK _ ?_; clear hK K)
      refine wpG_nil fun w4 hl _ => ?_
      go_wp2_with fail
      go_ret
      exact ⟨rfl, hb0.trans (hl.mono hb0.size)⟩
    · have HK2 : (kk : Int) = (n : Int) + 64 := by have := HKN.out; simpa using this
      rw [HK2] at H1
      clear HK2 HKN
      go_wp2_with fail
      refine wp_region_steady [(28, relStr4 s4 s5 s1 sl)] 30 (by kernel_rfl) (by kernel_rfl) (by kernel_rfl) (by rfl) ?_
      iterate 2 (refine wpG_quiet (by rfl) (by rfl) (by rfl) (fun K hK => ?_); go_big_quiet_op; refine hK _ ?_; clear hK K)
      refine wpG_call (by rfl) (by rfl) 28 #[.int .i64 ((x : Int)), .int .i64 4] (.string s4) (by intro _; simp [go_sem]) (by kernel_rfl) (fun wx hl => H4.out wx) ?_
      simp only [Act.put, List.setIfInBounds_toArray, List.set_cons_zero, List.set_cons_succ]
      iterate 2 (refine wpG_quiet (by rfl) (by rfl) (by rfl) (fun K hK => ?_); go_big_quiet_op; refine hK _ ?_; clear hK K)
      refine wpG_call (by rfl) (by rfl) 28 #[.int .i64 ((y : Int)), .int .i64 5] (.string s5) (by intro _; simp [go_sem]) (by kernel_rfl) (fun wx hl => H5.out wx) ?_
      simp only [Act.put, List.setIfInBounds_toArray, List.set_cons_zero, List.set_cons_succ]
      iterate 1 (refine wpG_quiet (by rfl) (by rfl) (by rfl) (fun K hK => ?_); go_big_quiet_op; refine hK _ ?_; clear hK K)
      refine wpG_call (by rfl) (by rfl) 28 #[.int .i64 ((n : Int) + 64), .int .i64 1] (.string s1) (by intro _; simp [go_sem]) (by kernel_rfl) (fun wx hl => H1.out wx) ?_
      simp only [Act.put, List.setIfInBounds_toArray, List.set_cons_zero, List.set_cons_succ]
      iterate 2 (refine wpG_quiet (by rfl) (by rfl) (by rfl) (fun K hK => ?_); go_big_quiet_op; refine hK _ ?_; clear hK K)
      refine wpG_open (relStr4 s4 s5 s1 sl) (by rfl) (by rfl) (fun w1 hl => str4_gives (.tmp 20) (.tmp 23) (.tmp 25) (.tmp 27) _ _ _ _ rfl rfl rfl rfl rfl w1) ?_
      rintro _ ⟨_, _, _, ⟨g2, rfl, _⟩⟩
      simp only [Act.put, List.setIfInBounds_toArray, List.set_cons_zero, List.set_cons_succ]
      refine wpG_call (by rfl) (by rfl) 27 #[.slice (some ⟨g2, 0, none⟩) 4 4] (.string R) (by intro _; simp [go_sem]) (by kernel_rfl) (fun w1 hl => ?_) ?_
      · obtain ⟨g5, h5, r5⟩ := hl.2 28 _ (by simp [Op.operands, Call.operands]) rfl (by intro h; cases h)
        cases h5
        exact HSE.out g2 w1 r5
      simp only [Act.put, List.setIfInBounds_toArray, List.set_cons_zero, List.set_cons_succ]
      iterate 1 (refine wpG_quiet (by rfl) (by rfl) (by rfl) (fun K hK => ?_); go_big_quiet_op; refine hK _ ?_; clear hK K)
      refine wpG_nil fun w4 hl _ => ?_
      go_wp2_with fail
      go_ret
      exact ⟨rfl, hb0.trans (hl.mono hb0.size)⟩
    · have HK2 : (kk : Int) = (n : Int) + 64 + 128 := by have := HKN.out; simpa using this
      rw [HK2] at H1
      clear HK2 HKN
      go_wp2_with fail
      refine wp_region_steady [(28, relStr4 s4 s5 s1 sl)] 30 (by kernel_rfl) (by kernel_rfl) (by kernel_rfl) (by rfl) ?_
      iterate 2 (refine wpG_quiet (by rfl) (by rfl) (by rfl) (fun K hK => ?_); go_big_quiet_op; refine hK _ ?_; clear hK K)
      refine wpG_call (by rfl) (by rfl) 28 #[.int .i64 ((x : Int)), .int .i64 4] (.string s4) (by intro _; simp [go_sem]) (by kernel_rfl) (fun wx hl => H4.out wx) ?_
      simp only [Act.put, List.setIfInBounds_toArray, List.set_cons_zero, List.set_cons_succ]
      iterate 2 (refine wpG_quiet (by rfl) (by rfl) (by rfl) (fun K hK => ?_); go_big_quiet_op; refine hK _ ?_; clear hK K)
      refine wpG_call (by rfl) (by rfl) 28 #[.int .i64 ((y : Int)), .int .i64 5] (.string s5) (by intro _; simp [go_sem]) (by kernel_rfl) (fun wx hl => H5.out wx) ?_
      simp only [Act.put, List.setIfInBounds_toArray, List.set_cons_zero, List.set_cons_succ]
      iterate 1 (refine wpG_quiet (by rfl) (by rfl) (by rfl) (fun K hK => ?_); go_big_quiet_op; refine hK _ ?_; clear hK K)
      refine wpG_call (by rfl) (by rfl) 28 #[.int .i64 ((n : Int) + 64 + 128), .int .i64 1] (.string s1) (by intro _; simp [go_sem]) (by kernel_rfl) (fun wx hl => H1.out wx) ?_
      simp only [Act.put, List.setIfInBounds_toArray, List.set_cons_zero, List.set_cons_succ]
      iterate 2 (refine wpG_quiet (by rfl) (by rfl) (by rfl) (fun K hK => ?_); go_big_quiet_op; refine hK _ ?_; clear hK K)
      refine wpG_open (relStr4 s4 s5 s1 sl) (by rfl) (by rfl) (fun w1 hl => str4_gives (.tmp 20) (.tmp 23) (.tmp 25) (.tmp 27) _ _ _ _ rfl rfl rfl rfl rfl w1) ?_
      rintro _ ⟨_, _, _, ⟨g2, rfl, _⟩⟩
      simp only [Act.put, List.setIfInBounds_toArray, List.set_cons_zero, List.set_cons_succ]
      refine wpG_call (by rfl) (by rfl) 27 #[.slice (some ⟨g2, 0, none⟩) 4 4] (.string R) (by intro _; simp [go_sem]) (by kernel_rfl) (fun w1 hl => ?_) ?_
      · obtain ⟨g5, h5, r5⟩ := hl.2 28 _ (by simp [Op.operands, Call.operands]) rfl (by intro h; cases h)
        cases h5
        exact HSE.out g2 w1 r5
      simp only [Act.put, List.setIfInBounds_toArray, List.set_cons_zero, List.set_cons_succ]
      iterate 1 (refine wpG_quiet (by rfl) (by rfl) (by rfl) (fun K hK => ?_); go_big_quiet_op; refine hK _ ?_; clear hK K)
      refine wpG_nil fun w4 hl _ => ?_
      go_wp2_with fail
      go_ret
      exact ⟨rfl, hb0.trans (hl.mono hb0.size)⟩
set_option maxRecDepth 100000 in
set_option maxHeartbeats 3200000 in
theorem rput_any (p : Pc) (w : World) (hl : p.2.2.2.2.length ≤ 4096) : Calls Try.prog 13 #[.agg (pcel p).toArray] w fun e w' => e = .returned (.string (str (pbs p))) ∧ Below w.heap.size w w' := by
  have HCH := Lib.hid (fun wx => rcheck_any p wx hl)
  have HB := Lib.hid (Blk.new w (pcel p) 23)
  have hb0 := (Below.refl w.heap.size w).alloc (Nat.le_refl _) (.cells (pcel p).toArray 23)
  cases hok : pok p
  · rw [pok_no hok]
    rw [hok] at HCH
    obtain ⟨a, b, f, g, l⟩ := p
    obtain ⟨sl, hsl⟩ : ∃ sl, sl = str l := ⟨_, rfl⟩
    show Calls _ _ #[.agg #[.int .i64 a, .int .i64 b, .bool f, .bool g, .string (str l)]] w _
    replace HCH : Hid (∀ wx, Calls Try.prog 11 #[.agg #[.int .i64 a, .int .i64 b, .bool f, .bool g, .string (str l)]] wx fun e w' => e = .returned (.bool false) ∧ Below wx.heap.size wx w') := HCH
    replace hb0 : Below w.heap.size w (w.alloc (.cells #[.int .i64 a, .int .i64 b, .bool f, .bool g, .string (str l)] 23)) := hb0
    rw [← hsl] at HCH hb0 ⊢
    clear HB hok hl hsl
    go_enter Try.func13, Try.ntmps13
    go_wp2_with fail
    refine (HCH.out _).mono ?_
    rintro e w1 ⟨rfl, h1⟩
    go_wp2_with fail
    go_ret
    exact ⟨rfl, hb0.trans (h1.mono hb0.size)⟩
  · have hk := of_decide_eq_true hok
    rw [hok] at HCH
    have hhl := hea_len p
    have HSU : Hid (∀ wx, Calls Try.prog 30 #[.string (str (sec (hea p)))] wx fun e w' => e = .returned (.int .u32 ((sumOf (sec (hea p))).toNat : Int)) ∧ wx = w') := Lib.hid fun wx => ref_of _ (by rw [sec_len (by omega)]; simp [maxLen]) wx
    have HZ : Hid (str (hea p) ++ str (List.replicate (62 - (10 + p.2.2.2.2.length)) 0) = str (sec (hea p))) := Lib.hid (by rw [str_append, ← hhl]; rfl)
    have HP : Hid (str (sec (hea p)) ++ str (lo 2 ((sumOf (sec (hea p))).toNat)) = str (pbs p)) := Lib.hid (by rw [str_append, pok_hea hok])
    have HA : Hid (str (lo 4 p.1.toNat) ++ str (lo 5 p.2.1.toNat) ++ str (lo 1 (kin p)) ++ str p.2.2.2.2 = str (hea p)) := Lib.hid (by rw [str_append, str_append, str_append]; rfl)
    have hsz62 : (str (sec (hea p))).size = 62 := by rw [str_size, sec_len (by omega)]
    have hszh : (str (hea p)).size = 10 + p.2.2.2.2.length := by rw [str_size, hhl]
    obtain ⟨S, hS⟩ : ∃ S, S = (sumOf (sec (hea p))).toNat := ⟨_, rfl⟩
    have hS2 : S < 4294967296 := by rw [hS]; exact (sumOf _).isLt
    rw [← hS] at HSU HP
    clear hS hhl
    obtain ⟨sT, hsT⟩ : ∃ z, z = str (sec (hea p)) := ⟨_, rfl⟩
    rw [← hsT] at HSU HZ HP hsz62
    clear hsT
    obtain ⟨sH, hsH⟩ : ∃ z, z = str (hea p) := ⟨_, rfl⟩
    rw [← hsH] at HZ HA hszh
    clear hsH
    have HL2 : Hid (∀ wx, Calls Try.prog 29 #[.int .i64 ((S : Int) % 65536), .int .i64 2] wx fun e w' => e = .returned (.string (str (lo 2 S))) ∧ Below wx.heap.size wx w') := Lib.hid fun wx => by
      have h := rlow_any (S % 65536) 2 (by omega) (by omega) wx
      rw [lo_mod] at h
      exact h
    have hzL : (str (lo 2 S)).size = 2 := by rw [str_size, lo_len]
    obtain ⟨sL, hsL⟩ : ∃ z, z = str (lo 2 S) := ⟨_, rfl⟩
    rw [← hsL] at HL2 HP hzL
    clear hsL
    have hm52 : p.2.2.2.2.length ≤ 52 := by omega
    have HCV : Hid (∀ (wx : World) (A : Option Addr) (c : Nat), Sees wx wx.heap.size A (List.replicate (62 - (10 + p.2.2.2.2.length)) (Value.int .u8 0)) → (convert 58 9 (.slice A (62 - (10 + p.2.2.2.2.length)) c)).run Try.prog wx = .ok (.string (str (List.replicate (62 - (10 + p.2.2.2.2.length)) 0))) wx) := Lib.hid fun wx A c h => run_str (P := Try.prog) wx wx.heap.size 58 5 9 Try.underlying58 Try.underlying5 Try.underlying9 A _ c _ (by rw [List.length_replicate]) (by rw [show bvs (List.replicate (62 - (10 + p.2.2.2.2.length)) 0) = List.replicate (62 - (10 + p.2.2.2.2.length)) (Value.int .u8 0) by simp [bvs, bv]]; exact h)
    have hzZ : (str (List.replicate (62 - (10 + p.2.2.2.2.length)) 0)).size = 62 - (10 + p.2.2.2.2.length) := by rw [str_size, List.length_replicate]
    obtain ⟨sZ, hsZ⟩ : ∃ z, z = str (List.replicate (62 - (10 + p.2.2.2.2.length)) 0) := ⟨_, rfl⟩
    rw [← hsZ] at HCV HZ hzZ
    clear hsZ hm52
    have HKI := Lib.hid (kin_lt (p := p) (by omega))
    obtain ⟨R, hR⟩ : ∃ R, R = str (pbs p) := ⟨_, rfl⟩
    rw [← hR] at HP ⊢
    clear hR hok
    obtain ⟨a, b, f, g, l⟩ := p
    dsimp only at hk hl HA HCV hszh hzZ
    obtain ⟨k1, k2, k3, k4, k5⟩ := hk
    obtain ⟨x, rfl⟩ := Int.eq_ofNat_of_zero_le (show 0 ≤ a by omega)
    obtain ⟨y, rfl⟩ := Int.eq_ofNat_of_zero_le k3
    simp only [Int.toNat_natCast] at HA
    have H4 : Hid (∀ wx, Calls Try.prog 29 #[.int .i64 (x : Int), .int .i64 4] wx fun e w' => e = .returned (.string (str (lo 4 x))) ∧ Below wx.heap.size wx w') := Lib.hid fun wx => rlow_any x 4 (by omega) (by omega) wx
    have H5 : Hid (∀ wx, Calls Try.prog 29 #[.int .i64 (y : Int), .int .i64 5] wx fun e w' => e = .returned (.string (str (lo 5 y))) ∧ Below wx.heap.size wx w') := Lib.hid fun wx => rlow_any y 5 (by omega) (by omega) wx
    have H1 : Hid (∀ wx, Calls Try.prog 29 #[.int .i64 ((kin ((x : Int), (y : Int), f, g, l) : Nat) : Int), .int .i64 1] wx fun e w' => e = .returned (.string (str (lo 1 (kin ((x : Int), (y : Int), f, g, l))))) ∧ Below wx.heap.size wx w') := Lib.hid fun wx => rlow_any _ 1 (by omega) (by have := HKI.out; omega) wx
    have z4 : (str (lo 4 x)).size = 4 := by rw [str_size, lo_len]
    have z5 : (str (lo 5 y)).size = 5 := by rw [str_size, lo_len]
    have z1 : (str (lo 1 (kin ((x : Int), (y : Int), f, g, l)))).size = 1 := by rw [str_size, lo_len]
    have HKN : Hid (((kin ((x : Int), (y : Int), f, g, l) : Nat) : Int) = (l.length : Int) + (if f then 64 else 0) + (if g then 128 else 0)) := Lib.hid (by unfold kin; cases f <;> cases g <;> simp)
    obtain ⟨s4, hs4⟩ : ∃ z, z = str (lo 4 x) := ⟨_, rfl⟩
    obtain ⟨s5, hs5⟩ : ∃ z, z = str (lo 5 y) := ⟨_, rfl⟩
    obtain ⟨s1, hs1⟩ : ∃ z, z = str (lo 1 (kin ((x : Int), (y : Int), f, g, l))) := ⟨_, rfl⟩
    rw [← hs4] at H4 z4 HA
    rw [← hs5] at H5 z5 HA
    rw [← hs1] at H1 z1 HA
    obtain ⟨kk, hkk⟩ : ∃ kk, kk = kin ((x : Int), (y : Int), f, g, l) := ⟨_, rfl⟩
    rw [← hkk] at H1 HKN HKI
    clear hs4 hs5 hs1 hkk
    show Calls _ _ #[.agg #[.int .i64 (x : Int), .int .i64 (y : Int), .bool f, .bool g, .string (str l)]] w _
    replace HCH : Hid (∀ wx, Calls Try.prog 11 #[.agg #[.int .i64 (x : Int), .int .i64 (y : Int), .bool f, .bool g, .string (str l)]] wx fun e w' => e = .returned (.bool true) ∧ Below wx.heap.size wx w') := HCH
    replace hb0 : Below w.heap.size w (w.alloc (.cells #[.int .i64 (x : Int), .int .i64 (y : Int), .bool f, .bool g, .string (str l)] 23)) := hb0
    replace HB : Hid (Blk (w.alloc (.cells #[.int .i64 (x : Int), .int .i64 (y : Int), .bool f, .bool g, .string (str l)] 23)) w.heap.size [.int .i64 (x : Int), .int .i64 (y : Int), .bool f, .bool g, .string (str l)]) := HB
    have hz := str_size l
    obtain ⟨sl, hsl⟩ : ∃ sl, sl = str l := ⟨_, rfl⟩
    rw [← hsl] at HCH hb0 HB hz HA ⊢
    clear hsl
    obtain ⟨n, hn⟩ : ∃ n, n = l.length := ⟨_, rfl⟩
    rw [← hn] at hz k5 HKN hl HCV hszh hzZ
    clear hn
    obtain ⟨q, hq⟩ : ∃ q, q = 10 + n := ⟨_, rfl⟩
    rw [← hq] at hszh hzZ HCV
    obtain ⟨m, hm⟩ : ∃ m, m = 62 - q := ⟨_, rfl⟩
    rw [← hm] at hzZ HCV
    have hqm : q + m = 62 := by omega
    clear hm hq
    go_enter Try.func13, Try.ntmps13
    go_wp2_with fail
    refine (HCH.out _).mono ?_
    rintro e w1 ⟨rfl, h1⟩
    have B1 := HB.out.later h1
    replace hb0 := hb0.trans (h1.mono hb0.size)
    clear h1 HB HCH
    have c2 := B1.cell (j := 2) rfl
    have c3 := B1.cell (j := 3) rfl
    have c4 := B1.cell (j := 4) rfl
    have k0 : ∀ q : LW w1, q.val.cell? ⟨w.heap.size, 0, none⟩ = some (.int .i64 (x : Int)) := fun q => (B1.later q.le).cell rfl
    have k1 : ∀ q : LW w1, q.val.cell? ⟨w.heap.size, 1, none⟩ = some (.int .i64 (y : Int)) := fun q => (B1.later q.le).cell rfl
    have k4 : ∀ q : LW w1, q.val.cell? ⟨w.heap.size, 4, none⟩ = some (.string sl) := fun q => (B1.later q.le).cell rfl
    clear B1
    cases f <;> cases g
    · have HK2 : (kk : Int) = (n : Int) := by have := HKN.out; simpa using this
      rw [HK2] at H1
      clear HK2 HKN
      go_wp2_with fail
      refine wp_region_steady [] 46 (by kernel_rfl) (by kernel_rfl) (by kernel_rfl) (by rfl) ?_
      iterate 2 (refine wpG_quiet (by rfl) (by rfl) (by rfl) (fun K hK => ?_); go_big_quiet_op; refine hK _ ?_; clear hK K)
      refine wpG_call (by rfl) (by rfl) 29 #[.int .i64 ((x : Int)), .int .i64 4] (.string s4) (by intro _; simp [go_sem]) (by kernel_rfl) (fun wx hl => H4.out wx) ?_
      simp only [Act.put, List.setIfInBounds_toArray, List.set_cons_zero, List.set_cons_succ]
      iterate 2 (refine wpG_quiet (by rfl) (by rfl) (by rfl) (fun K hK => ?_); go_big_quiet_op; refine hK _ ?_; clear hK K)
      refine wpG_call (by rfl) (by rfl) 29 #[.int .i64 ((y : Int)), .int .i64 5] (.string s5) (by intro _; simp [go_sem]) (by kernel_rfl) (fun wx hl => H5.out wx) ?_
      simp only [Act.put, List.setIfInBounds_toArray, List.set_cons_zero, List.set_cons_succ]
      iterate 2 (refine wpG_quiet (by rfl) (by rfl) (by rfl) (fun K hK => ?_); go_big_quiet_op; refine hK _ ?_; clear hK K)
      refine wpG_call (by rfl) (by rfl) 29 #[.int .i64 ((n : Int)), .int .i64 1] (.string s1) (by intro _; simp [go_sem]) (by kernel_rfl) (fun wx hl => H1.out wx) ?_
      simp only [Act.put, List.setIfInBounds_toArray, List.set_cons_zero, List.set_cons_succ]
      iterate 5 (refine wpG_quiet (by rfl) (by rfl) (by rfl) (fun K hK => ?_); go_big_quiet_op; refine hK _ ?_; clear hK K)
      refine wpG_nil fun w4 hl _ => ?_
      rw [HA.out]
      replace hb0 := hb0.trans (hl.mono hb0.size)
      clear hl k0 k1 k4
      obtain ⟨i0, hi, hz0, hz1, hz2⟩ := oct_parts
      go_wp2_with (first
        | (refine wpList_mk _ rfl (.tmp 35) (.tmp 35) _ rfl w4.heap.size 5 i0 _ Try.underlying58 hi hz0 hz1 rfl .i64 .i64 _ _ m m rfl rfl (by omega) (by omega) (Nat.le_refl _) (by rw [hz2]; omega) (by unfold maxLen; omega) (Nat.le_refl _) ?_
           intro w5 hown5 hb5 hg5 hsz5
           refine wpList_exec (by rfl) (.string sZ) (exec_conv (.tmp 36) 58 9 rfl _ rfl _ (HCV.out w5 _ _ hown5.sees)) ?_)
        | fail)
      rw [HZ.out]
      refine (HSU.out _).mono ?_
      rintro e w6 ⟨rfl, rfl⟩
      clear hown5
      go_wp2_with fail
      refine (HL2.out _).mono ?_
      rintro e w7 ⟨rfl, hb7⟩
      replace hb0 := (hb0.trans (hb5.mono hb0.size)).trans (hb7.mono (Nat.le_trans hb0.size hb5.size))
      go_wp2_with fail
      go_ret
      exact ⟨by rw [← HP.out]; rfl, hb0⟩
    · have HK2 : (kk : Int) = (n : Int) + 128 := by have := HKN.out; simpa using this
      rw [HK2] at H1
      clear HK2 HKN
      go_wp2_with fail
      refine wp_region_steady [] 46 (by kernel_rfl) (by kernel_rfl) (by kernel_rfl) (by rfl) ?_
      iterate 2 (refine wpG_quiet (by rfl) (by rfl) (by rfl) (fun K hK => ?_); go_big_quiet_op; refine hK _ ?_; clear hK K)
      refine wpG_call (by rfl) (by rfl) 29 #[.int .i64 ((x : Int)), .int .i64 4] (.string s4) (by intro _; simp [go_sem]) (by kernel_rfl) (fun wx hl => H4.out wx) ?_
      simp only [Act.put, List.setIfInBounds_toArray, List.set_cons_zero, List.set_cons_succ]
      iterate 2 (refine wpG_quiet (by rfl) (by rfl) (by rfl) (fun K hK => ?_); go_big_quiet_op; refine hK _ ?_; clear hK K)
      refine wpG_call (by rfl) (by rfl) 29 #[.int .i64 ((y : Int)), .int .i64 5] (.string s5) (by intro _; simp [go_sem]) (by kernel_rfl) (fun wx hl => H5.out wx) ?_
      simp only [Act.put, List.setIfInBounds_toArray, List.set_cons_zero, List.set_cons_succ]
      iterate 2 (refine wpG_quiet (by rfl) (by rfl) (by rfl) (fun K hK => ?_); go_big_quiet_op; refine hK _ ?_; clear hK K)
      refine wpG_call (by rfl) (by rfl) 29 #[.int .i64 ((n : Int) + 128), .int .i64 1] (.string s1) (by intro _; simp [go_sem]) (by kernel_rfl) (fun wx hl => H1.out wx) ?_
      simp only [Act.put, List.setIfInBounds_toArray, List.set_cons_zero, List.set_cons_succ]
      iterate 5 (refine wpG_quiet (by rfl) (by rfl) (by rfl) (fun K hK => ?_); go_big_quiet_op; refine hK _ ?_; clear hK K)
      refine wpG_nil fun w4 hl _ => ?_
      rw [HA.out]
      replace hb0 := hb0.trans (hl.mono hb0.size)
      clear hl k0 k1 k4
      obtain ⟨i0, hi, hz0, hz1, hz2⟩ := oct_parts
      go_wp2_with (first
        | (refine wpList_mk _ rfl (.tmp 35) (.tmp 35) _ rfl w4.heap.size 5 i0 _ Try.underlying58 hi hz0 hz1 rfl .i64 .i64 _ _ m m rfl rfl (by omega) (by omega) (Nat.le_refl _) (by rw [hz2]; omega) (by unfold maxLen; omega) (Nat.le_refl _) ?_
           intro w5 hown5 hb5 hg5 hsz5
           refine wpList_exec (by rfl) (.string sZ) (exec_conv (.tmp 36) 58 9 rfl _ rfl _ (HCV.out w5 _ _ hown5.sees)) ?_)
        | fail)
      rw [HZ.out]
      refine (HSU.out _).mono ?_
      rintro e w6 ⟨rfl, rfl⟩
      clear hown5
      go_wp2_with fail
      refine (HL2.out _).mono ?_
      rintro e w7 ⟨rfl, hb7⟩
      replace hb0 := (hb0.trans (hb5.mono hb0.size)).trans (hb7.mono (Nat.le_trans hb0.size hb5.size))
      go_wp2_with fail
      go_ret
      exact ⟨by rw [← HP.out]; rfl, hb0⟩
    · have HK2 : (kk : Int) = (n : Int) + 64 := by have := HKN.out; simpa using this
      rw [HK2] at H1
      clear HK2 HKN
      go_wp2_with fail
      refine wp_region_steady [] 46 (by kernel_rfl) (by kernel_rfl) (by kernel_rfl) (by rfl) ?_
      iterate 2 (refine wpG_quiet (by rfl) (by rfl) (by rfl) (fun K hK => ?_); go_big_quiet_op; refine hK _ ?_; clear hK K)
      refine wpG_call (by rfl) (by rfl) 29 #[.int .i64 ((x : Int)), .int .i64 4] (.string s4) (by intro _; simp [go_sem]) (by kernel_rfl) (fun wx hl => H4.out wx) ?_
      simp only [Act.put, List.setIfInBounds_toArray, List.set_cons_zero, List.set_cons_succ]
      iterate 2 (refine wpG_quiet (by rfl) (by rfl) (by rfl) (fun K hK => ?_); go_big_quiet_op; refine hK _ ?_; clear hK K)
      refine wpG_call (by rfl) (by rfl) 29 #[.int .i64 ((y : Int)), .int .i64 5] (.string s5) (by intro _; simp [go_sem]) (by kernel_rfl) (fun wx hl => H5.out wx) ?_
      simp only [Act.put, List.setIfInBounds_toArray, List.set_cons_zero, List.set_cons_succ]
      iterate 2 (refine wpG_quiet (by rfl) (by rfl) (by rfl) (fun K hK => ?_); go_big_quiet_op; refine hK _ ?_; clear hK K)
      refine wpG_call (by rfl) (by rfl) 29 #[.int .i64 ((n : Int) + 64), .int .i64 1] (.string s1) (by intro _; simp [go_sem]) (by kernel_rfl) (fun wx hl => H1.out wx) ?_
      simp only [Act.put, List.setIfInBounds_toArray, List.set_cons_zero, List.set_cons_succ]
      iterate 5 (refine wpG_quiet (by rfl) (by rfl) (by rfl) (fun K hK => ?_); go_big_quiet_op; refine hK _ ?_; clear hK K)
      refine wpG_nil fun w4 hl _ => ?_
      rw [HA.out]
      replace hb0 := hb0.trans (hl.mono hb0.size)
      clear hl k0 k1 k4
      obtain ⟨i0, hi, hz0, hz1, hz2⟩ := oct_parts
      go_wp2_with (first
        | (refine wpList_mk _ rfl (.tmp 35) (.tmp 35) _ rfl w4.heap.size 5 i0 _ Try.underlying58 hi hz0 hz1 rfl .i64 .i64 _ _ m m rfl rfl (by omega) (by omega) (Nat.le_refl _) (by rw [hz2]; omega) (by unfold maxLen; omega) (Nat.le_refl _) ?_
           intro w5 hown5 hb5 hg5 hsz5
           refine wpList_exec (by rfl) (.string sZ) (exec_conv (.tmp 36) 58 9 rfl _ rfl _ (HCV.out w5 _ _ hown5.sees)) ?_)
        | fail)
      rw [HZ.out]
      refine (HSU.out _).mono ?_
      rintro e w6 ⟨rfl, rfl⟩
      clear hown5
      go_wp2_with fail
      refine (HL2.out _).mono ?_
      rintro e w7 ⟨rfl, hb7⟩
      replace hb0 := (hb0.trans (hb5.mono hb0.size)).trans (hb7.mono (Nat.le_trans hb0.size hb5.size))
      go_wp2_with fail
      go_ret
      exact ⟨by rw [← HP.out]; rfl, hb0⟩
    · have HK2 : (kk : Int) = (n : Int) + 64 + 128 := by have := HKN.out; simpa using this
      rw [HK2] at H1
      clear HK2 HKN
      go_wp2_with fail
      refine wp_region_steady [] 46 (by kernel_rfl) (by kernel_rfl) (by kernel_rfl) (by rfl) ?_
      iterate 2 (refine wpG_quiet (by rfl) (by rfl) (by rfl) (fun K hK => ?_); go_big_quiet_op; refine hK _ ?_; clear hK K)
      refine wpG_call (by rfl) (by rfl) 29 #[.int .i64 ((x : Int)), .int .i64 4] (.string s4) (by intro _; simp [go_sem]) (by kernel_rfl) (fun wx hl => H4.out wx) ?_
      simp only [Act.put, List.setIfInBounds_toArray, List.set_cons_zero, List.set_cons_succ]
      iterate 2 (refine wpG_quiet (by rfl) (by rfl) (by rfl) (fun K hK => ?_); go_big_quiet_op; refine hK _ ?_; clear hK K)
      refine wpG_call (by rfl) (by rfl) 29 #[.int .i64 ((y : Int)), .int .i64 5] (.string s5) (by intro _; simp [go_sem]) (by kernel_rfl) (fun wx hl => H5.out wx) ?_
      simp only [Act.put, List.setIfInBounds_toArray, List.set_cons_zero, List.set_cons_succ]
      iterate 2 (refine wpG_quiet (by rfl) (by rfl) (by rfl) (fun K hK => ?_); go_big_quiet_op; refine hK _ ?_; clear hK K)
      refine wpG_call (by rfl) (by rfl) 29 #[.int .i64 ((n : Int) + 64 + 128), .int .i64 1] (.string s1) (by intro _; simp [go_sem]) (by kernel_rfl) (fun wx hl => H1.out wx) ?_
      simp only [Act.put, List.setIfInBounds_toArray, List.set_cons_zero, List.set_cons_succ]
      iterate 5 (refine wpG_quiet (by rfl) (by rfl) (by rfl) (fun K hK => ?_); go_big_quiet_op; refine hK _ ?_; clear hK K)
      refine wpG_nil fun w4 hl _ => ?_
      rw [HA.out]
      replace hb0 := hb0.trans (hl.mono hb0.size)
      clear hl k0 k1 k4
      obtain ⟨i0, hi, hz0, hz1, hz2⟩ := oct_parts
      go_wp2_with (first
        | (refine wpList_mk _ rfl (.tmp 35) (.tmp 35) _ rfl w4.heap.size 5 i0 _ Try.underlying58 hi hz0 hz1 rfl .i64 .i64 _ _ m m rfl rfl (by omega) (by omega) (Nat.le_refl _) (by rw [hz2]; omega) (by unfold maxLen; omega) (Nat.le_refl _) ?_
           intro w5 hown5 hb5 hg5 hsz5
           refine wpList_exec (by rfl) (.string sZ) (exec_conv (.tmp 36) 58 9 rfl _ rfl _ (HCV.out w5 _ _ hown5.sees)) ?_)
        | fail)
      rw [HZ.out]
      refine (HSU.out _).mono ?_
      rintro e w6 ⟨rfl, rfl⟩
      clear hown5
      go_wp2_with fail
      refine (HL2.out _).mono ?_
      rintro e w7 ⟨rfl, hb7⟩
      replace hb0 := (hb0.trans (hb5.mono hb0.size)).trans (hb7.mono (Nat.le_trans hb0.size hb5.size))
      go_wp2_with fail
      go_ret
      exact ⟨by rw [← HP.out]; rfl, hb0⟩
end Go.Proofs.Ytgoebblcggdlgaa
