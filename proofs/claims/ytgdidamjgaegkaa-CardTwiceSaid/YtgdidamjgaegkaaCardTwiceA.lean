/- CardTwice: the walk. -/
import Derived.Test.YtgdidamjgaegkaaTail
import Derived.Test.YtgdidamjgaegkaaCardL
import Derived.Test.YtgdidamjgaegkaaCardM
import Derived.Test.YtgdidamjgaegkaaCardK
import Derived.Test.YtgdidamjgaegkaaCardX
namespace Go.Proofs.Ytgdidamjgaegkaa
set_option linter.unusedVariables false
open Go Go.RowKit BitM

/-- A slot that holds a pointer to a new card. -/
def relBox (B : Nat) : Rel where
  rel x w := ∃ g, x = .pointer (some ⟨g, 0, none⟩) ∧ B ≤ g ∧ Blk w g (ccells 0 0 0 zeros)
  mono := fun x w w' h ⟨g, e, hg, hr⟩ => ⟨g, e, hg, hr.later h⟩
  real := fun w ⟨g, e, _⟩ => by cases e
theorem run_new (w : World) : (Instr.alloc 27 true (.tuple #[])).run Try.prog w = .ok (.pointer (some ⟨w.heap.size, 0, none⟩)) (w.alloc (.cells (ccells 0 0 0 zeros).toArray 27)) := by kernel_rfl
theorem box_gives {a : Act} {op : Oper} (ho : op.op = .alloc 27) (B : Nat) (w : World) (hB : B ≤ w.heap.size) : gives Try.prog op a (relBox B).rel w := by
  unfold gives execOp
  simp only [ho, Sem.run_bind, run_new, Result.andThen_ok, Sem.run_pure]
  exact ⟨(Below.refl _ _).alloc (Nat.le_refl _) _, _, rfl, hB, Blk.new w _ _⟩
theorem same_c (id ver lab : Int) (f : List V3) (hf : f.length = 8) (w : World) : (Op.equalIn 10000 27 (.agg (ccells id ver lab f).toArray) (.agg (ccells id ver lab f).toArray)).run Try.prog w = .ok true w := by
  rw [eq_card 9996 id ver lab id ver lab f f hf hf w, decide_eq_true (show id = id ∧ ver = ver ∧ lab = lab ∧ f = f from ⟨rfl, rfl, rfl, rfl⟩)]
theorem same_f (f : List V3) (hf : f.length = 8) (w : World) : (Op.equalIn 10000 25 (.agg (fcells f).toArray) (.agg (fcells f).toArray)).run Try.prog w = .ok true w := by
  rw [eq_fields 9997 f f hf hf w, decide_eq_true rfl]
theorem has511 (i : Nat) (h : i < 9) : has 511#32 (i : Int) = true := by
  rw [has_in _ (by omega), bit_511]
  simpa using h
theorem mix_511 (f g : List V3) (hf : f.length = 8) : mix (fun i => has 511#32 (i : Int)) f g = f := by
  rw [mix_congr f g (q := fun _ => true) (fun i hi => has511 i (by omega)), mix_all f g hf]
theorem mix_twice (x y : BitVec 32) (f : List V3) : mix (fun i => has y (i : Int)) (mix (fun i => has x (i : Int)) f zeros) zeros = mix (fun i => has (both x y 9) (i : Int)) f zeros := by
  apply List.ext_getElem
  · rw [mix_len, mix_len]
  · intro i h1 h2
    rw [mix_len] at h1
    rw [mix_get, mix_get, mix_getD _ _ _ i h1, has_both x y 9 i (by omega), decide_eq_true (show i < 9 by omega), Bool.true_and]
    cases has x (i : Int) <;> cases has y (i : Int) <;> rfl

set_option maxRecDepth 100000 in
set_option maxHeartbeats 6400000 in
theorem walk_twice (id ver lab jd jver jlab : Int) (x y : BitVec 32) (C D : List V3) (w : World) (hC : C.length = 8) (hD : D.length = 8) :
    Calls Try.prog 6 #[.agg (ccells id ver lab C).toArray, .agg (ccells jd jver jlab D).toArray, .agg #[.int .u32 (x.toNat : Int), .int .u32 (y.toNat : Int)]] w fun e w' => e = .returned (.bool true) ∧ Below w.heap.size w w' := by
  have HL0 := Lib.hid (ccells_len id ver lab hC)
  have HL1 := Lib.hid (ccells_len jd jver jlab hD)
  have HL5 := Lib.hid (ccells_len jd (nextVer jver) lab hC)
  have HLC : Hid ((fcells C).length = 24) := Lib.hid (by rw [fcells_len, hC])
  have HLD : Hid ((fcells D).length = 24) := Lib.hid (by rw [fcells_len, hD])
  have HA := Lib.hid (fun wx : World => large_any C wx hC)
  have HB := Lib.hid (fun wx : World => large_any D wx hD)
  have HKX := Lib.hid (fun wx : World => rmcheck_any x wx)
  have HKY := Lib.hid (fun wx : World => rmcheck_any y wx)
  have HBO := Lib.hid (fun wx : World => (rboth_any x y wx).mono (fun e w' (h : e = .returned (.int .u32 ((both x y 9).toNat : Int)) ∧ wx = w') => (show e = .returned (.int .u32 ((both x y 9).toNat : Int)) ∧ Below wx.heap.size wx w' from by obtain ⟨h1, h2⟩ := h; subst h2; exact ⟨h1, Below.refl _ _⟩)))
  have HOF := Lib.hid (fun wx : World => of_card id ver lab C 511#32 wx hC)
  have e511 : (((511#32 : BitVec 32).toNat : Nat) : Int) = 511 := rfl
  have h8 : has 511#32 8 = true := has511 8 (by omega)
  rw [mix_511 C zeros hC, h8, e511] at HOF
  simp only [if_true] at HOF
  have HME := Lib.hid (fun (wx : World) (hv : -9223372036854775808 ≤ jver) => merge_any jd jver jlab lab 511#32 D C wx hD hC hv)
  rw [mix_511 C D hC, h8, e511] at HME
  simp only [if_true] at HME
  have HDI := Lib.hid (fun wx : World => diff_any jd (nextVer jver) lab id ver lab C C wx hC hC)
  rw [dmask_same] at HDI
  have e0 : (((0#32 : BitVec 32).toNat : Nat) : Int) = 0 := rfl
  rw [e0] at HDI
  have HP1 := Lib.hid (fun wx : World => project_any id ver lab C x wx hC)
  have HP2 := Lib.hid (fun wx : World => project_any id ver (if has x 8 then lab else 0) (mix (fun i => has x (i : Int)) C zeros) y wx (mix_len _ _ _))
  have HP3 := Lib.hid (fun wx : World => project_any id ver lab C (both x y 9) wx hC)
  have hl8 : (if has (both x y 9) 8 then lab else 0) = (if has y 8 then (if has x 8 then lab else 0) else 0) := by
    have := has_both x y 9 8 (by omega)
    rw [show ((8 : Nat) : Int) = 8 from rfl] at this
    rw [this]
    cases has x 8 <;> cases has y 8 <;> rfl
  rw [hl8, ← mix_twice] at HP3
  have HE1 := Lib.hid (fun wx : World => same_c id ver (if has y 8 then (if has x 8 then lab else 0) else 0) (mix (fun i => has y (i : Int)) (mix (fun i => has x (i : Int)) C zeros) zeros) (mix_len _ _ _) wx)
  have HE2 := Lib.hid (fun wx : World => same_f C hC wx)
  obtain ⟨p2, hp2⟩ : ∃ p2, p2 = ccells id ver (if has y 8 then (if has x 8 then lab else 0) else 0) (mix (fun i => has y (i : Int)) (mix (fun i => has x (i : Int)) C zeros) zeros) := ⟨_, rfl⟩
  rw [← hp2] at HP2 HP3 HE1
  obtain ⟨p1, hp1⟩ : ∃ p1, p1 = ccells id ver (if has x 8 then lab else 0) (mix (fun i => has x (i : Int)) C zeros) := ⟨_, rfl⟩
  rw [← hp1] at HP1 HP2
  obtain ⟨r, hr⟩ : ∃ r, r = both x y 9 := ⟨_, rfl⟩
  rw [← hr] at HP3 HBO
  clear hp1 hp2 hr hl8 h8 e511 e0
  have B0 := Blk.new w (ccells id ver lab C) 27
  have B1 := Blk.new (w.alloc (.cells (ccells id ver lab C).toArray 27)) (ccells jd jver jlab D) 27
  have B2 := Blk.new ((w.alloc (.cells (ccells id ver lab C).toArray 27)).alloc (.cells (ccells jd jver jlab D).toArray 27)) [.int .u32 (x.toNat : Int), .int .u32 (y.toNat : Int)] 48
  have hw0 := (((Below.refl w.heap.size w).alloc (Nat.le_refl _) (.cells (ccells id ver lab C).toArray 27)).alloc (by simp) (.cells (ccells jd jver jlab D).toArray 27)).alloc (by simp; omega) (.cells #[.int .u32 (x.toNat : Int), .int .u32 (y.toNat : Int)] 48)
  replace B0 := (B0.alloc (.cells (ccells jd jver jlab D).toArray 27)).alloc (.cells #[.int .u32 (x.toNat : Int), .int .u32 (y.toNat : Int)] 48)
  replace B1 := B1.alloc (.cells #[.int .u32 (x.toNat : Int), .int .u32 (y.toNat : Int)] 48)
  have hs1 : (w.alloc (.cells (ccells id ver lab C).toArray 27)).heap.size = w.heap.size + 1 := by simp
  have hs2 : ((w.alloc (.cells (ccells id ver lab C).toArray 27)).alloc (.cells (ccells jd jver jlab D).toArray 27)).heap.size = w.heap.size + 2 := by simp
  rw [hs1] at B1
  rw [hs2] at B2
  obtain ⟨ca, hca⟩ : ∃ ca, ca = (ccells id ver lab C).toArray := ⟨_, rfl⟩
  obtain ⟨cb, hcb⟩ : ∃ cb, cb = (ccells jd jver jlab D).toArray := ⟨_, rfl⟩
  rw [← hca, ← hcb]
  rw [← hca, ← hcb] at B0 B1 B2 hw0
  generalize hW : ((w.alloc (.cells ca 27)).alloc (.cells cb 27)).alloc (.cells #[.int .u32 (x.toNat : Int), .int .u32 (y.toNat : Int)] 48) = W at *
  have HW := Lib.hid hW
  have HBW := Lib.hid hw0
  clear hca hcb hs1 hs2 hW hw0 hC hD
  have RF := B0.fieldsC
  have hu8 := Try.underlying25
  have hu := Try.underlying27
  rw [← HW.out] at RF
  cases ht : tooLong C with
  | true =>
    rw [ht] at HA
    clear ht
    go_enter Try.func6, Try.ntmps6
    go_wp2_with (first
      | (refine wpList_load_mid rfl 25 (.tmp 8) rfl (w.heap.size) 3 rfl (fcells C) _ RF hu8 rfl (by rw [HLC.out]; exact info_fields) ?_))
    rw [HW.out]
    refine (HA.out W).mono ?_
    rintro e w1 ⟨rfl, hb⟩
    have hb1 := HBW.out.trans (hb.mono HBW.out.size)
    clear RF
    go_wp2_with fail
    refine (aw_any _).mono ?_
    rintro e w9 ⟨rfl, b9⟩
    go_wp2_with fail
    go_ret
    exact ⟨rfl, hb1.trans (b9.mono hb1.size)⟩
  | false =>
    rw [ht] at HA
    clear ht
    go_enter Try.func6, Try.ntmps6
    go_wp2_with (first
      | (refine wpList_load_mid rfl 25 (.tmp 8) rfl (w.heap.size) 3 rfl (fcells C) _ RF hu8 rfl (by rw [HLC.out]; exact info_fields) ?_))
    rw [HW.out]
    refine (HA.out W).mono ?_
    rintro e w1 ⟨rfl, hb⟩
    have hb1 := HBW.out.trans (hb.mono HBW.out.size)
    have D0 := B0.later hb
    have D1 := B1.later hb
    have D2 := B2.later hb
    clear RF B0 B1 B2 HA hb HBW HW
    have RF := Blk.fieldsC (id := jd) (ver := jver) (lab := jlab) (f := D) D1
    cases ht : tooLong D with
    | true =>
      rw [ht] at HB
      clear ht
      go_wp2_with (first
        | (refine wpList_load_g (by rfl) 25 (.tmp 12) rfl (w.heap.size + 1) 3 rfl (fcells D) _ RF hu8 rfl (by rw [HLD.out]; exact info_fields) ?_))
      refine (HB.out _).mono ?_
      rintro e w2 ⟨rfl, hb⟩
      have hb2 := hb1.trans (hb.mono hb1.size)
      clear RF
      go_wp2_with fail
      refine (aw_any _).mono ?_
      rintro e w9 ⟨rfl, b9⟩
      go_wp2_with fail
      go_ret
      exact ⟨rfl, hb2.trans (b9.mono hb2.size)⟩
    | false =>
      rw [ht] at HB
      clear ht
      go_wp2_with (first
        | (refine wpList_load_g (by rfl) 25 (.tmp 12) rfl (w.heap.size + 1) 3 rfl (fcells D) _ RF hu8 rfl (by rw [HLD.out]; exact info_fields) ?_))
      refine (HB.out _).mono ?_
      rintro e w2 ⟨rfl, hb⟩
      have hb2 := hb1.trans (hb.mono hb1.size)
      have C0 := D0.later hb
      have C1 := D1.later hb
      have C2 := D2.later hb
      clear RF D0 D1 D2 HB hb hb1
      have r0 : w2.cell? ⟨w.heap.size + 2, 0, none⟩ = some (.int .u32 (x.toNat : Int)) := C2.cell rfl
      have r1 : w2.cell? ⟨w.heap.size + 2, 1, none⟩ = some (.int .u32 (y.toNat : Int)) := C2.cell rfl
      obtain ⟨c0, cv, clb⟩ := C1.card
      cases hx : decide (x.toNat ≤ 511) with
      | false =>
        rw [hx] at HKX
        clear hx
        go_wp2_with fail
        refine (HKX.out _).mono ?_
        rintro e w3 ⟨rfl, rfl⟩
        go_wp2_with fail
        refine (aw_any _).mono ?_
        rintro e w9 ⟨rfl, b9⟩
        go_wp2_with fail
        go_ret
        exact ⟨rfl, hb2.trans (b9.mono hb2.size)⟩
      | true =>
        rw [hx] at HKX
        clear hx
        go_wp2_with fail
        refine (HKX.out _).mono ?_
        rintro e w3 ⟨rfl, rfl⟩
        cases hy : decide (y.toNat ≤ 511) with
        | false =>
          rw [hy] at HKY
          clear hy
          go_wp2_with fail
          refine (HKY.out _).mono ?_
          rintro e w3 ⟨rfl, rfl⟩
          go_wp2_with fail
          refine (aw_any _).mono ?_
          rintro e w9 ⟨rfl, b9⟩
          go_wp2_with fail
          go_ret
          exact ⟨rfl, hb2.trans (b9.mono hb2.size)⟩
        | true =>
          rw [hy] at HKY
          clear hy
          go_wp2_with fail
          refine (HKY.out _).mono ?_
          rintro e w3 ⟨rfl, rfl⟩
          by_cases hv1 : jver < 0
          · have d1 : decide (jver < 0) = true := by simpa using hv1
            go_wp2_with fail
            refine (aw_any _).mono ?_
            rintro e w9 ⟨rfl, b9⟩
            go_wp2_with fail
            go_ret
            exact ⟨rfl, hb2.trans (b9.mono hb2.size)⟩
          · have d1 : decide (jver < 0) = false := by simpa using hv1
            by_cases hv2 : 1099511627776 < jver
            · have d2 : decide (1099511627776 < jver) = true := by simpa using hv2
              go_wp2_with fail
              refine (aw_any _).mono ?_
              rintro e w9 ⟨rfl, b9⟩
              go_wp2_with fail
              go_ret
              exact ⟨rfl, hb2.trans (b9.mono hb2.size)⟩
            · have d2 : decide (1099511627776 < jver) = false := by simpa using hv2
              replace HME := Lib.hid (fun wx : World => HME.out wx (by omega))
              go_wp2_with fail
              clear r0 r1 c0 cv clb d1 d2 hv1 hv2
              refine wp_region_tail [(7, relBox w2.heap.size)] 81 5 (by kernel_rfl) (by kernel_rfl) (by kernel_rfl) (by rfl) ?_
              simp only [List.take_succ_cons, List.take_zero, List.drop_succ_cons, List.drop_zero]
              refine wpG_run (by rfl) (by rfl) (.agg (ccells jd jver jlab D).toArray) (fun w1 hl => exec_load 27 (.tmp 4) rfl (w.heap.size + 1) 0 rfl (ccells jd jver jlab D) _ ((C1.later hl.1).wholeC) hu rfl (by rw [HL1.out]; exact info_card)) ?_
              simp only [Act.put, List.setIfInBounds_toArray, List.set_cons_zero, List.set_cons_succ]
              refine wpG_run (by rfl) (by rfl) (.agg (ccells id ver lab C).toArray) (fun w1 hl => exec_load 27 (.tmp 3) rfl (w.heap.size) 0 rfl (ccells id ver lab C) _ ((C0.later hl.1).wholeC) hu rfl (by rw [HL0.out]; exact info_card)) ?_
              simp only [Act.put, List.setIfInBounds_toArray, List.set_cons_zero, List.set_cons_succ]
              refine wpG_call (by rfl) (by rfl) 22 #[.agg (ccells id ver lab C).toArray, .int .u32 511] (.agg (pcells 511 lab C).toArray) (by intro _; simp [go_sem]) (by kernel_rfl) (fun w1 hl => (HOF.out w1)) ?_
              simp only [Act.put, List.setIfInBounds_toArray, List.set_cons_zero, List.set_cons_succ]
              refine wpG_call (by rfl) (by rfl) 24 #[.agg (ccells jd jver jlab D).toArray, .agg (pcells 511 lab C).toArray] (.agg (ccells jd (nextVer jver) lab C).toArray) (by intro _; simp [go_sem]) (by kernel_rfl) (fun w1 hl => (HME.out w1)) ?_
              simp only [Act.put, List.setIfInBounds_toArray, List.set_cons_zero, List.set_cons_succ]
              refine wpG_open (relBox w2.heap.size) (by rfl) (by rfl) (fun w1 hl => box_gives rfl w2.heap.size w1 hl.1.size) ?_
              rintro _ ⟨_, _, _, ⟨g, rfl, hg, _⟩⟩
              simp only [Act.put, List.setIfInBounds_toArray, List.set_cons_zero, List.set_cons_succ]
              refine wpG_nil fun w1 hl hs => ?_
              obtain ⟨_, g', eg, hg', hB5⟩ := hs
              obtain rfl : g = g' := by injection eg with eg; injection eg with eg; injection eg
              have A0 := C0.later hl
              have A2 := C2.later hl
              have hb3 := hb2.trans (hl.mono hb2.size)
              have TH := hB5.there 0 27 (by rw [ccells_len 0 0 0 zeros_len]; omega)
              have E5 := hB5.whole (ds := (ccells jd (nextVer jver) lab C)) (by rw [HL5.out, ccells_len 0 0 0 zeros_len])
              have hg0 : w.heap.size + 2 < g := by have := C2.lt; omega
              have E0 := Blk.setsOther (b := g) (g := w.heap.size) (by omega) (ccells jd (nextVer jver) lab C) 0 A0
              have E2 := Blk.setsOther (b := g) (g := w.heap.size + 2) (by omega) (ccells jd (nextVer jver) lab C) 0 A2
              have EB := below_sets (B := w.heap.size) (b := g) (by omega) (ccells jd (nextVer jver) lab C) 0 hb3
              have hone : ∀ v ∈ (ccells jd (nextVer jver) lab C), v.oneCell' = true := ccells_one _ _ _ _
              refine wpList_store_mid rfl 27 (.tmp 7) (.tmp 42) rfl g 0 (ccells jd (nextVer jver) lab C).toArray rfl rfl (by simpa [HL5.out] using TH) (by simpa [HL5.out] using info_card) (all_oneCell_toArray hone) ?_
              clear TH hone hB5 A0 A2 hb3 hb2 hl C0 C1 C2 hg hg' eg
              simp only [Act.put]
              generalize hw4 : World.setCells w1 g 0 (ccells jd (nextVer jver) lab C).toArray.toList = w4
              have e4 : World.setCells w1 g 0 (ccells jd (nextVer jver) lab C) = w4 := hw4
              rw [e4] at E0 E2 E5 EB
              clear hw4 e4
              have r0 : ∀ kk : LW w4, kk.val.cell? ⟨w.heap.size + 2, 0, none⟩ = some (.int .u32 (x.toNat : Int)) := fun kk => (E2.later kk.le).cell rfl
              have r1 : ∀ kk : LW w4, kk.val.cell? ⟨w.heap.size + 2, 1, none⟩ = some (.int .u32 (y.toNat : Int)) := fun kk => (E2.later kk.le).cell rfl
              have x2 : ∀ kk : LW w4, kk.val.cell? ⟨g, 2, none⟩ = some (.int .u32 lab) := fun kk => (E5.later kk.le).card.2.2
              have c2 : ∀ kk : LW w4, kk.val.cell? ⟨w.heap.size, 2, none⟩ = some (.int .u32 lab) := fun kk => (E0.later kk.le).card.2.2
              go_wp2_with fail
              refine wp_region_steady [] 81 (by kernel_rfl) (by kernel_rfl) (by kernel_rfl) (by rfl) ?_
              refine wpG_run (by rfl) (by rfl) (.agg (ccells id ver lab C).toArray) (fun w1 hl => exec_load 27 (.tmp 3) rfl (w.heap.size) 0 rfl (ccells id ver lab C) _ ((E0.later hl.1).wholeC) hu rfl (by rw [HL0.out]; exact info_card)) ?_
              simp only [Act.put, List.setIfInBounds_toArray, List.set_cons_zero, List.set_cons_succ]
              iterate 2 (refine wpG_quiet (by rfl) (by rfl) (by rfl) (fun K hK => ?_); go_big_quiet_op; refine hK _ ?_; clear hK K)
              refine wpG_call (by rfl) (by rfl) 20 #[.agg (ccells id ver lab C).toArray, .int .u32 (x.toNat : Int)] (.agg p1.toArray) (by intro _; simp [go_sem]) (by kernel_rfl) (fun w1 hl => (HP1.out w1)) ?_
              simp only [Act.put, List.setIfInBounds_toArray, List.set_cons_zero, List.set_cons_succ]
              iterate 2 (refine wpG_quiet (by rfl) (by rfl) (by rfl) (fun K hK => ?_); go_big_quiet_op; refine hK _ ?_; clear hK K)
              refine wpG_call (by rfl) (by rfl) 20 #[.agg p1.toArray, .int .u32 (y.toNat : Int)] (.agg p2.toArray) (by intro _; simp [go_sem]) (by kernel_rfl) (fun w1 hl => (HP2.out w1)) ?_
              simp only [Act.put, List.setIfInBounds_toArray, List.set_cons_zero, List.set_cons_succ]
              refine wpG_run (by rfl) (by rfl) (.agg (ccells id ver lab C).toArray) (fun w1 hl => exec_load 27 (.tmp 3) rfl (w.heap.size) 0 rfl (ccells id ver lab C) _ ((E0.later hl.1).wholeC) hu rfl (by rw [HL0.out]; exact info_card)) ?_
              simp only [Act.put, List.setIfInBounds_toArray, List.set_cons_zero, List.set_cons_succ]
              iterate 4 (refine wpG_quiet (by rfl) (by rfl) (by rfl) (fun K hK => ?_); go_big_quiet_op; refine hK _ ?_; clear hK K)
              refine wpG_call (by rfl) (by rfl) 31 #[.int .u32 (x.toNat : Int), .int .u32 (y.toNat : Int)] (.int .u32 (r.toNat : Int)) (by intro _; simp [go_sem]) (by kernel_rfl) (fun w1 hl => (HBO.out w1)) ?_
              simp only [Act.put, List.setIfInBounds_toArray, List.set_cons_zero, List.set_cons_succ]
              refine wpG_call (by rfl) (by rfl) 20 #[.agg (ccells id ver lab C).toArray, .int .u32 (r.toNat : Int)] (.agg p2.toArray) (by intro _; simp [go_sem]) (by kernel_rfl) (fun w1 hl => (HP3.out w1)) ?_
              simp only [Act.put, List.setIfInBounds_toArray, List.set_cons_zero, List.set_cons_succ]
              refine wpG_run (by rfl) (by rfl) (.bool true) (fun w1 hl => exec_eql 27 _ (.tmp 49) (.tmp 56) rfl _ _ rfl rfl guard_card true (HE1.out w1)) ?_
              simp only [Act.put, List.setIfInBounds_toArray, List.set_cons_zero, List.set_cons_succ]
              iterate 2 (refine wpG_quiet (by rfl) (by rfl) (by rfl) (fun K hK => ?_); go_big_quiet_op; refine hK _ ?_; clear hK K)
              refine wpG_run (by rfl) (by rfl) (.agg (fcells C).toArray) (fun w1 hl => exec_load 25 (.tmp 59) rfl (g) 3 rfl (fcells C) _ ((E5.later hl.1).fieldsC) hu8 rfl (by rw [HLC.out]; exact info_fields)) ?_
              simp only [Act.put, List.setIfInBounds_toArray, List.set_cons_zero, List.set_cons_succ]
              iterate 1 (refine wpG_quiet (by rfl) (by rfl) (by rfl) (fun K hK => ?_); go_big_quiet_op; refine hK _ ?_; clear hK K)
              refine wpG_run (by rfl) (by rfl) (.agg (fcells C).toArray) (fun w1 hl => exec_load 25 (.tmp 61) rfl (w.heap.size) 3 rfl (fcells C) _ ((E0.later hl.1).fieldsC) hu8 rfl (by rw [HLC.out]; exact info_fields)) ?_
              simp only [Act.put, List.setIfInBounds_toArray, List.set_cons_zero, List.set_cons_succ]
              refine wpG_run (by rfl) (by rfl) (.bool true) (fun w1 hl => exec_eql 25 _ (.tmp 60) (.tmp 62) rfl _ _ rfl rfl guard_arr true (HE2.out w1)) ?_
              simp only [Act.put, List.setIfInBounds_toArray, List.set_cons_zero, List.set_cons_succ]
              iterate 2 (refine wpG_quiet (by rfl) (by rfl) (by rfl) (fun K hK => ?_); go_big_quiet_op; refine hK _ ?_; clear hK K)
              iterate 4 (refine wpG_quiet (by rfl) (by rfl) (by rfl) (fun K hK => ?_); go_big_quiet_op; refine hK _ ?_; clear hK K)
              refine wpG_run (by rfl) (by rfl) (.bool true) (fun w1 hl => by simp [go_sem]) ?_
              simp only [Act.put, List.setIfInBounds_toArray, List.set_cons_zero, List.set_cons_succ]
              iterate 2 (refine wpG_quiet (by rfl) (by rfl) (by rfl) (fun K hK => ?_); go_big_quiet_op; refine hK _ ?_; clear hK K)
              refine wpG_run (by rfl) (by rfl) (.agg (ccells jd (nextVer jver) lab C).toArray) (fun w1 hl => exec_load 27 (.tmp 7) rfl (g) 0 rfl (ccells jd (nextVer jver) lab C) _ ((E5.later hl.1).wholeC) hu rfl (by rw [HL5.out]; exact info_card)) ?_
              simp only [Act.put, List.setIfInBounds_toArray, List.set_cons_zero, List.set_cons_succ]
              refine wpG_run (by rfl) (by rfl) (.agg (ccells id ver lab C).toArray) (fun w1 hl => exec_load 27 (.tmp 3) rfl (w.heap.size) 0 rfl (ccells id ver lab C) _ ((E0.later hl.1).wholeC) hu rfl (by rw [HL0.out]; exact info_card)) ?_
              simp only [Act.put, List.setIfInBounds_toArray, List.set_cons_zero, List.set_cons_succ]
              refine wpG_call (by rfl) (by rfl) 16 #[.agg (ccells jd (nextVer jver) lab C).toArray, .agg (ccells id ver lab C).toArray] (.int .u32 0) (by intro _; simp [go_sem]) (by kernel_rfl) (fun w1 hl => (HDI.out w1)) ?_
              simp only [Act.put, List.setIfInBounds_toArray, List.set_cons_zero, List.set_cons_succ]
              iterate 3 (refine wpG_quiet (by rfl) (by rfl) (by rfl) (fun K hK => ?_); go_big_quiet_op; refine hK _ ?_; clear hK K)
              refine wpG_call (by rfl) (by rfl) 11 #[] (.bool true) (by intro _; simp [go_sem]) (by kernel_rfl) (fun w1 hl => (aw_any w1)) ?_
              simp only [Act.put, List.setIfInBounds_toArray, List.set_cons_zero, List.set_cons_succ]
              iterate 2 (refine wpG_quiet (by rfl) (by rfl) (by rfl) (fun K hK => ?_); go_big_quiet_op; refine hK _ ?_; clear hK K)
              refine wpG_nil fun w1 hl _ => ?_
              have hb5 := EB.trans (hl.mono EB.size)
              clear E0 E2 E5 r0 r1 x2 c2 EB
              go_wp2_with fail
              go_ret
              exact ⟨rfl, hb5⟩
end Go.Proofs.Ytgdidamjgaegkaa
