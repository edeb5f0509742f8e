/- The document's open: what it returns of any text; of a text in quotes. -/
import Derived.Test.YtgdidamjgaegkaaDoorQuoH
namespace Go.Proofs.YtgdidamjgaegkaaDoor
set_option linter.unusedVariables false
open Go Go.RowKit BitM MskM ValM

/-- How far a text in quotes is read. -/
def At (t : ByteArray) (i : Nat) (p : ByteArray) : Prop := ∀ xs, t.data.toList = quo xs → ∃ j, j ≤ xs.length ∧ p = str (xs.take j) ∧ i = 1 + (qug (xs.take j)).length
theorem quo_size {t : ByteArray} {xs : List UInt8} (h : t.data.toList = quo xs) : t.size = (qug xs).length + 2 := by
  have : t.data.toList.length = t.size := by simp
  rw [← this, h]
  unfold quo
  rw [List.length_append, List.length_append]
  simp; omega
theorem At.open_ {t p : ByteArray} {i : Nat} (h : At t i p) (hi : i + 1 < t.size) {xs : List UInt8} (hx : t.data.toList = quo xs) :
    ∃ j, ∃ hj : j < xs.length, p = str (xs.take j) ∧ i = 1 + (qug (xs.take j)).length ∧ t.data.toList.drop i = escg xs[j] ++ (qug (xs.drop (j + 1)) ++ [34]) ∧ xs.take (j + 1) = xs.take j ++ [xs[j]] := by
  obtain ⟨j, hj, hp, hI⟩ := h xs hx
  have hsz := quo_size hx
  have hlt : j < xs.length := by
    rcases Nat.lt_or_ge j xs.length with h' | h'
    · exact h'
    · rw [List.take_of_length_le h'] at hI; omega
  refine ⟨j, hlt, hp, hI, ?_, List.take_succ_eq_append_getElem hlt⟩
  have hsplit : qug xs = qug (xs.take j) ++ (escg xs[j] ++ qug (xs.drop (j + 1))) := by
    rw [← qug_cons, ← List.drop_eq_getElem_cons hlt, ← qug_append, List.take_append_drop]
  rw [hx, hI]
  unfold quo
  rw [hsplit, List.append_assoc, List.append_assoc, ← List.drop_drop]
  simp [List.drop_left']
theorem At.start (t : ByteArray) : At t 1 ⟨#[]⟩ := fun xs _ => ⟨0, Nat.zero_le _, rfl, rfl⟩
theorem At.plain {t p : ByteArray} {i : Nat} (h : At t i p) (hi : i + 1 < t.size) (h0 : t[i]'(by omega) ≠ 92) : At t (i + 1) (p ++ str [t[i]'(by omega)]) := fun xs hx => by
  obtain ⟨j, hj, hp, hI, hd, ht⟩ := h.open_ hi hx
  rcases escg_kinds xs[j] with ⟨he, hn⟩ | ⟨he, hn⟩ | ⟨he, hn⟩ <;> rw [he] at hd <;> obtain ⟨l0, e0, hd1⟩ := byte_of hd
  · refine ⟨j + 1, hj, by rw [hp, e0, ht, str_append], ?_⟩
    rw [ht, qug_snoc, List.length_append, he, hI]; simp; omega
  · exact absurd e0 h0
  · exact absurd e0 h0
theorem At.esc {t p : ByteArray} {i : Nat} (h : At t i p) (hi : i + 1 < t.size) (h0 : t[i]'(by omega) = 92) (h1 : ¬ (t[i + 1]'hi = 120 ∧ ∃ h3 : i + 3 < t.size, 0 ≤ hexv (t[i + 2]'(by omega)) ∧ 0 ≤ hexv (t[i + 3]'h3))) : At t (i + 2) (p ++ str [t[i + 1]'hi]) := fun xs hx => by
  obtain ⟨j, hj, hp, hI, hd, ht⟩ := h.open_ hi hx
  rcases escg_kinds xs[j] with ⟨he, hn⟩ | ⟨he, hn⟩ | ⟨he, hn⟩ <;> rw [he] at hd <;> obtain ⟨l0, e0, hd1⟩ := byte_of hd
  · rw [h0] at e0; exact absurd e0.symm hn.1
  · obtain ⟨l1, e1, hd2⟩ := byte_of hd1
    refine ⟨j + 1, hj, by rw [hp, e1, ht, str_append], ?_⟩
    rw [ht, qug_snoc, List.length_append, he, hI]; simp; omega
  · obtain ⟨l1, e1, hd2⟩ := byte_of hd1
    obtain ⟨l2, e2, hd3⟩ := byte_of hd2
    obtain ⟨l3, e3, hd4⟩ := byte_of hd3
    have hc := UInt8.toNat_lt xs[j]
    have e2' : t[i + 2] = hexd (xs[j].toNat / 16) := e2
    have e3' : t[i + 3] = hexd (xs[j].toNat % 16) := e3
    exact absurd ⟨e1, l3, by rw [e2', hexv_hexd _ (by omega)]; omega, by rw [e3', hexv_hexd _ (by omega)]; omega⟩ h1
theorem At.hex {t p : ByteArray} {i : Nat} (h : At t i p) (h3 : i + 3 < t.size) (h0 : t[i]'(by omega) = 92) (h1 : t[i + 1]'(by omega) = 120) (c : UInt8) (hc : (c.toNat : Int) = 16 * hexv (t[i + 2]'(by omega)) + hexv (t[i + 3]'h3)) : At t (i + 4) (p ++ str [c]) := fun xs hx => by
  obtain ⟨j, hj, hp, hI, hd, ht⟩ := h.open_ (by omega) hx
  rcases escg_kinds xs[j] with ⟨he, hn⟩ | ⟨he, hn⟩ | ⟨he, hn⟩ <;> rw [he] at hd <;> obtain ⟨l0, e0, hd1⟩ := byte_of hd
  · rw [h0] at e0; exact absurd e0.symm hn.1
  · obtain ⟨l1, e1, hd2⟩ := byte_of hd1
    rw [h1] at e1
    rcases hn with hn | hn <;> rw [hn] at e1 <;> exact absurd e1 (by decide)
  · obtain ⟨l1, e1, hd2⟩ := byte_of hd1
    obtain ⟨l2, e2, hd3⟩ := byte_of hd2
    obtain ⟨l3, e3, hd4⟩ := byte_of hd3
    have h256 := UInt8.toNat_lt xs[j]
    have e2' : t[i + 2] = hexd (xs[j].toNat / 16) := e2
    have e3' : t[i + 3] = hexd (xs[j].toNat % 16) := e3
    rw [e2', e3', hexv_hexd _ (by omega), hexv_hexd _ (by omega)] at hc
    have hcx : c = xs[j] := UInt8.toNat_inj.1 (by omega)
    refine ⟨j + 1, hj, by rw [hp, hcx, ht, str_append], ?_⟩
    rw [ht, qug_snoc, List.length_append, he, hI]; simp; omega
theorem At.end_ {t p : ByteArray} {i : Nat} (h : At t i p) (hi : t.size ≤ i + 1) {xs : List UInt8} (hx : t.data.toList = quo xs) : p = str xs := by
  obtain ⟨j, hj, hp, hI⟩ := h xs hx
  have hsz := quo_size hx
  rcases Nat.lt_or_ge j xs.length with hlt | hge
  · exfalso
    have hsplit : qug xs = qug (xs.take j) ++ (escg xs[j] ++ qug (xs.drop (j + 1))) := by
      rw [← qug_cons, ← List.drop_eq_getElem_cons hlt, ← qug_append, List.take_append_drop]
    have h1 := (escg_len xs[j]).1
    have h2 : (qug xs).length = (qug (xs.take j)).length + ((escg xs[j]).length + (qug (xs.drop (j + 1))).length) := by rw [hsplit, List.length_append, List.length_append]
    omega
  · rw [hp, List.take_of_length_le hge]

theorem run_bts1 (p : Int) (w : World) : (Instr.buildSlice 68 1 #[(0, .int .u8 p)]).run Tryd.prog w = .ok (.slice (some ⟨w.heap.size, 0, none⟩) 1 1) (w.alloc (.cells #[.int .u8 p] 5)) := by kernel_rfl
theorem bts1_gives {a : Act} {op : Oper} (y : Operand) (p : UInt8) (ho : op.op = .buildSlice 68 1 #[(0, y)]) (hy : a.eval y = .int .u8 (p.toNat : Int)) (w : World) : gives Tryd.prog op a (relBts [p]).rel w := by
  unfold gives execOp
  simp only [ho, List.map_toArray, List.map_cons, List.map_nil, hy, Sem.run_bind, run_bts1, Result.andThen_ok, Sem.run_pure]
  exact ⟨(Below.refl _ _).alloc (Nat.le_refl _) _, _, rfl, Blk.new w (bvs [p]) _⟩

set_option maxRecDepth 100000 in
set_option maxHeartbeats 3200000 in
theorem ropen_any (t : ByteArray) (w : World) (hx : t.size ≤ 1000) : Calls Tryd.prog 84 #[.string t] w fun e w' => (∃ p, e = .returned (.string p) ∧ (∀ xs, t.data.toList = quo xs → p = str xs)) ∧ Below w.heap.size w w' := by
  have HH := Lib.hid (fun (c : UInt8) (wx : World) => rhex_any c wx)
  go_enter Tryd.func84, Tryd.ntmps84
  go_wp2_with fail
  go_loopw [4, 3] (fun ii v wr => ∃ (i : Nat) (p : ByteArray), i ≤ 1003 ∧ ii = .int .i64 i ∧ v = .string p ∧ p.size ≤ i ∧ Hid (At t i p) ∧ Below w.heap.size w wr) (fun ii _ _ => 1004 - (intOf ii).toNat)
  case atStart => exact ⟨1, _, by omega, rfl, rfl, by decide, Lib.hid (At.start t), Below.refl _ _⟩
  case round =>
    obtain ⟨i, p, hi4, rfl, rfl, hps, HAT, hbr⟩ := hrel
    by_cases hlt : i + 1 < t.size
    · have hg : (i : Int) < (t.size : Int) - 1 := by omega
      have l0 : i < t.size := by omega
      have hb1 : (i : Int) + 1 ≤ (t.size : Int) := by omega
      have hb2 : (i : Int) ≤ (i : Int) + 1 := by omega
      have hb3 : (i : Int) + 2 ≤ (t.size : Int) := by omega
      have hb4 : (i : Int) + 1 ≤ (i : Int) + 2 := by omega
      by_cases h92 : t[i] = 92
      · have n0 : ((t[i].toNat : Int) != 92) = false := by rw [h92]; rfl
        have hpc := piece1 t (i + 1) hlt
        rw [show i + 1 + 1 = i + 2 by omega] at hpc
        have hpc2 : t.extract (i + 1) ((i : Int) + 2).toNat = str [t[i + 1]] := by
          rw [show ((i : Int) + 2).toNat = i + 2 by omega]; exact hpc
        have hpc3 : t.extract ((i : Int) + 1).toNat ((i : Int) + 2).toNat = str [t[i + 1]] := by
          rw [show ((i : Int) + 1).toNat = i + 1 by omega]; exact hpc2
        have hq1 : (str [t[i + 1]]).size = 1 := str_size _
        by_cases h120 : t[i + 1] = 120
        · have n1 : ((t[i + 1].toNat : Int) == 120) = true := by rw [h120]; rfl
          by_cases h3 : i + 3 < t.size
          · have hg3 : (i : Int) + 3 < (t.size : Int) := by omega
            have hy1 : (0 : Int) ≤ (i : Int) + 2 := by omega
            have hy2 : (i : Int) + 2 < (t.size : Int) := by omega
            have hy3 : (0 : Int) ≤ (i : Int) + 3 := by omega
            have HX2 : Hid (∀ wx : World, Calls Tryd.prog 98 #[.int .u8 (t[i + 2].toNat : Int)] wx fun e w' => e = .returned (.int .i64 (hexv t[i + 2])) ∧ wx = w') := Lib.hid (HH.out t[i + 2])
            have HX3 : Hid (∀ wx : World, Calls Tryd.prog 98 #[.int .u8 (t[i + 3].toNat : Int)] wx fun e w' => e = .returned (.int .i64 (hexv t[i + 3])) ∧ wx = w') := Lib.hid (HH.out t[i + 3])
            by_cases hx2 : 0 ≤ hexv t[i + 2]
            · by_cases hx3 : 0 ≤ hexv t[i + 3]
              · have r2 := hexv_range t[i + 2]
                have r3 := hexv_range t[i + 3]
                obtain ⟨c, hc⟩ : ∃ c : UInt8, (c.toNat : Int) = 16 * hexv t[i + 2] + hexv t[i + 3] := ⟨UInt8.ofNat (16 * hexv t[i + 2] + hexv t[i + 3]).toNat, by
                  rw [UInt8.toNat_ofNat']; omega⟩
                have HA3 := Lib.hid (HAT.out.hex h3 h92 h120 c hc)
                have hq1 : (str [c]).size = 1 := str_size _
                obtain ⟨x, hxv⟩ : ∃ z, z = hexv t[i + 2] := ⟨_, rfl⟩
                obtain ⟨y, hyv⟩ : ∃ z, z = hexv t[i + 3] := ⟨_, rfl⟩
                rw [← hxv] at HX2 hx2 r2 hc
                rw [← hyv] at HX3 hx3 r3 hc
                have HCW : Hid (IntKind.u8.wrap (16 * x + y) = (c.toNat : Int)) := Lib.hid (by rw [← hc]; exact wrapB _ (UInt8.toNat_lt c))
                have GX2 := Lib.hid (fun wx : World => (HX2.out wx).mono fun e w' (h : e = .returned (.int .i64 x) ∧ wx = w') => (show e = .returned (.int .i64 x) ∧ Below wx.heap.size wx w' from ⟨h.1, h.2 ▸ Below.refl _ _⟩))
                have GX3 := Lib.hid (fun wx : World => (HX3.out wx).mono fun e w' (h : e = .returned (.int .i64 y) ∧ wx = w') => (show e = .returned (.int .i64 y) ∧ Below wx.heap.size wx w' from ⟨h.1, h.2 ▸ Below.refl _ _⟩))
                clear h92 h120 hxv hyv hc HAT hpc hpc2 hpc3
                go_wp2_with fail
                refine (HX2.out _).mono ?_
                rintro e w9 ⟨rfl, rfl⟩
                go_wp2_with fail
                refine (HX3.out _).mono ?_
                rintro e w9 ⟨rfl, rfl⟩
                go_wp2_with fail
                refine wp_region_steady [(65, relBts [c])] 81 (by kernel_rfl) (by kernel_rfl) (by kernel_rfl) (by rfl) ?_
                iterate 5 (refine wpG_quiet (by rfl) (by rfl) (by rfl) (fun K hK => ?_); go_big_quiet_op; refine hK _ ?_; clear hK K)
                refine wpG_call (by rfl) (by rfl) 98 #[.int .u8 (t[i + 2].toNat : Int)] (.int .i64 x) (by intro _; simp [go_sem]) (by kernel_rfl) (fun w1 hl => (GX2.out w1)) ?_
                simp only [Act.put, List.setIfInBounds_toArray, List.set_cons_zero, List.set_cons_succ]
                iterate 5 (refine wpG_quiet (by rfl) (by rfl) (by rfl) (fun K hK => ?_); go_big_quiet_op; refine hK _ ?_; clear hK K)
                refine wpG_call (by rfl) (by rfl) 98 #[.int .u8 (t[i + 3].toNat : Int)] (.int .i64 y) (by intro _; simp [go_sem]) (by kernel_rfl) (fun w1 hl => (GX3.out w1)) ?_
                simp only [Act.put, List.setIfInBounds_toArray, List.set_cons_zero, List.set_cons_succ]
                iterate 1 (refine wpG_quiet (by rfl) (by rfl) (by rfl) (fun K hK => ?_); go_big_quiet_op; refine hK _ ?_; clear hK K)
                refine wpG_run (by rfl) (by rfl) (.int .u8 (c.toNat : Int)) (fun w1 hl => by simp [go_sem]; exact HCW.out) ?_
                simp only [Act.put, List.setIfInBounds_toArray, List.set_cons_zero, List.set_cons_succ]
                refine wpG_open (relBts [c]) (by rfl) (by rfl) (fun w1 hl => bts1_gives (.tmp 64) c rfl rfl w1) ?_
                rintro _ ⟨_, _, _, ⟨g, rfl, _⟩⟩
                simp only [Act.put, List.setIfInBounds_toArray, List.set_cons_zero, List.set_cons_succ]
                refine wpG_run (by rfl) (by rfl) (.string (str [c])) (fun w1 hl => ?_) ?_
                · obtain ⟨g5, h5, r5⟩ := hl.2 65 _ (by simp [Op.operands]) rfl (by intro h; cases h)
                  cases h5
                  have hr := run_str (P := Tryd.prog) w1 w1.heap.size 68 5 9 Tryd.underlying68 Tryd.underlying5 Tryd.underlying9 _ 1 1 [c] rfl r5.seesBts
                  simp [go_sem, hr]
                simp only [Act.put, List.setIfInBounds_toArray, List.set_cons_zero, List.set_cons_succ]
                iterate 2 (refine wpG_quiet (by rfl) (by rfl) (by rfl) (fun K hK => ?_); go_big_quiet_op; refine hK _ ?_; clear hK K)
                refine wpG_nil fun w1 hl _ => ?_
                replace hbr := hbr.trans (hl.mono hbr.size)
                clear hl
                go_wp2_with fail
                go_roundw
                case rel => exact ⟨i + 4, _, by omega, by go_num, rfl, by rw [ByteArray.size_append, hq1]; omega, Lib.hid HA3.out, hbr⟩
                case measure => simp [intOf]; omega
              · have HA2 := HAT.out.esc hlt h92 (fun h => by obtain ⟨_, _, h5⟩ := h.2; exact hx3 h5)
                obtain ⟨x, hxv⟩ : ∃ z, z = hexv t[i + 2] := ⟨_, rfl⟩
                obtain ⟨y, hyv⟩ : ∃ z, z = hexv t[i + 3] := ⟨_, rfl⟩
                rw [← hxv] at HX2 hx2
                rw [← hyv] at HX3 hx3
                obtain ⟨q, hq⟩ : ∃ q, q = str [t[i + 1]] := ⟨_, rfl⟩
                rw [← hq] at hpc hpc2 hpc3 hq1 HA2
                have HA3 := Lib.hid HA2
                clear HA2 h92 h120 hq HAT hxv hyv
                go_wp2_with fail
                refine (HX2.out _).mono ?_
                rintro e w9 ⟨rfl, rfl⟩
                go_wp2_with fail
                refine (HX3.out _).mono ?_
                rintro e w9 ⟨rfl, rfl⟩
                go_wp2_with fail
                go_roundw
                case rel => exact ⟨i + 2, _, by omega, by go_num, rfl, by rw [ByteArray.size_append, hq1]; omega, Lib.hid HA3.out, hbr⟩
                case measure => simp [intOf]; omega
            · have HA2 := HAT.out.esc hlt h92 (fun h => by obtain ⟨_, h5, _⟩ := h.2; exact hx2 h5)
              obtain ⟨x, hxv⟩ : ∃ z, z = hexv t[i + 2] := ⟨_, rfl⟩
              rw [← hxv] at HX2 hx2
              obtain ⟨q, hq⟩ : ∃ q, q = str [t[i + 1]] := ⟨_, rfl⟩
              rw [← hq] at hpc hpc2 hpc3 hq1 HA2
              have HA3 := Lib.hid HA2
              clear HA2 h92 h120 hq HAT hxv
              go_wp2_with fail
              refine (HX2.out _).mono ?_
              rintro e w9 ⟨rfl, rfl⟩
              go_wp2_with fail
              go_roundw
              case rel => exact ⟨i + 2, _, by omega, by go_num, rfl, by rw [ByteArray.size_append, hq1]; omega, Lib.hid HA3.out, hbr⟩
              case measure => simp [intOf]; omega
          · have hg3 : ¬ (i : Int) + 3 < (t.size : Int) := by omega
            have HA2 := HAT.out.esc hlt h92 (fun h => by obtain ⟨h5, _⟩ := h.2; exact h3 h5)
            obtain ⟨q, hq⟩ : ∃ q, q = str [t[i + 1]] := ⟨_, rfl⟩
            rw [← hq] at hpc hpc2 hpc3 hq1 HA2
            have HA3 := Lib.hid HA2
            clear HA2 h92 h120 hq HAT
            go_wp2_with fail
            go_roundw
            case rel => exact ⟨i + 2, _, by omega, by go_num, rfl, by rw [ByteArray.size_append, hq1]; omega, Lib.hid HA3.out, hbr⟩
            case measure => simp [intOf]; omega

        · have n1 : ((t[i + 1].toNat : Int) == 120) = false := by
            rw [beq_eq_false_iff_ne]; intro e; exact h120 (UInt8.toNat_inj.1 (Int.ofNat_inj.1 e))
          have HA2 := HAT.out.esc hlt h92 (fun h => h120 h.1)
          obtain ⟨q, hq⟩ : ∃ q, q = str [t[i + 1]] := ⟨_, rfl⟩
          rw [← hq] at hpc hpc2 hpc3 hq1 HA2
          have HA3 := Lib.hid HA2
          clear HA2 h92 h120 hq HAT
          go_wp2_with fail
          go_roundw
          case rel => exact ⟨i + 2, _, by omega, by go_num, rfl, by rw [ByteArray.size_append, hq1]; omega, Lib.hid HA3.out, hbr⟩
          case measure => simp [intOf]; omega
      · have n0 : ((t[i].toNat : Int) != 92) = true := by
          rw [bne_iff_ne]; intro e; exact h92 (UInt8.toNat_inj.1 (Int.ofNat_inj.1 e))
        have hpc := piece1 t i l0
        have hpc2 : t.extract i ((i : Int) + 1).toNat = str [t[i]] := by
          rw [show ((i : Int) + 1).toNat = i + 1 by omega]; exact hpc
        have hq1 : (str [t[i]]).size = 1 := str_size _
        have HA2 := HAT.out.plain hlt h92
        obtain ⟨q, hq⟩ : ∃ q, q = str [t[i]] := ⟨_, rfl⟩
        rw [← hq] at hpc hpc2 hq1 HA2
        have HA3 := Lib.hid HA2
        clear HA2 h92 hq HAT
        go_wp2_with fail
        go_roundw
        case rel => exact ⟨i + 1, _, by omega, by go_num, rfl, by rw [ByteArray.size_append, hq1]; omega, Lib.hid HA3.out, hbr⟩
        case measure => simp [intOf]; omega
    · have hg : ¬ (i : Int) < (t.size : Int) - 1 := by omega
      go_wp2_with fail
      go_ret
      exact ⟨⟨p, rfl, fun xs h => HAT.out.end_ (by omega) h⟩, hbr⟩
end Go.Proofs.YtgdidamjgaegkaaDoor
