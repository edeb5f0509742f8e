/- SumBurst: bits that are turned among four bytes in a row are told: for every input. No condition. -/
import Derived.Test.YtgnkkbgphghioaaSumD
import Derived.ChangeKeysEq
import Derived.RegionTactic
namespace Go.Proofs.Ytgnkkbgphghioaa
set_option linter.unusedVariables false
open Go.ChangeShapes Go.WideShapes Go.ChangeAt Go.RowKit SumM

theorem arr4_info : ∃ i, Try.prog.info? 5 = some i := by
  obtain ⟨i0, hi, _⟩ := info_parts u8_info
  exact ⟨i0, hi⟩
theorem u8_cells : Try.prog.cellsOf 5 = 1 := by kernel_rfl
theorem arr4_eq (w : World) (a b c d a' b' c' d' : Int) : (binOp .eql 57 (.agg #[.int .u8 a, .int .u8 b, .int .u8 c, .int .u8 d]) (.agg #[.int .u8 a', .int .u8 b', .int .u8 c', .int .u8 d'])).run Try.prog w =
    .ok (.bool (a == a' && b == b' && c == c' && d == d')) w := by
  obtain ⟨i, hi⟩ := arr4_info
  rw [run_eql_struct, run_equalIn_array (w := w) 9999 _ _ Try.underlying57 hi, u8_cells]
  simp [List.range, List.range.loop, Op.eqItems, part, go_sem, Try.underlying5]
  by_cases h1 : a = a' <;> by_cases h2 : b = b' <;> by_cases h3 : c = c' <;> by_cases h4 : d = d' <;> simp [h1, h2, h3, h4]


theorem zero_eq (t : UInt8) : ((t.toNat : Int) == 0) = decide (t = 0) := by
  rw [Bool.eq_iff_iff]
  simp
  constructor
  · intro h; exact UInt8.toNat_inj.1 (by simpa using h)
  · rintro rfl; rfl
theorem xor_u8 (a b : UInt8) : bits .xor .u8 (a.toNat : Int) (b.toNat : Int) = ((a ^^^ b).toNat : Int) := by
  rw [u8_xor_nat _ _ a.toNat_lt b.toNat_lt, UInt8.toNat_xor]

/-- Four in a row, of which the first k are turned. -/
def mx (p x y q : List UInt8) (k : Nat) : List UInt8 := p ++ ((List.zipWith (· ^^^ ·) x y).take k ++ x.drop k ++ q)
theorem mx_at (p q : List UInt8) (x y : List UInt8) (hx : x.length = 4) (hy : y.length = 4) (k : Nat) (hk : k < 4) : (mx p x y q k)[p.length + k]? = some (x.getD k 0) := by
  obtain ⟨a, b, c, d, rfl⟩ := four hx
  obtain ⟨a', b', c', d', rfl⟩ := four hy
  unfold mx
  rw [List.getElem?_append_right (by omega), Nat.add_sub_cancel_left]
  match k, hk with
  | 0, _ => rfl
  | 1, _ => rfl
  | 2, _ => rfl
  | 3, _ => rfl
theorem mx_set (p q : List UInt8) (x y : List UInt8) (hx : x.length = 4) (hy : y.length = 4) (k : Nat) (hk : k < 4) :
    (bvs (mx p x y q k)).set (p.length + k) (bv (x.getD k 0 ^^^ y.getD k 0)) = bvs (mx p x y q (k + 1)) := by
  obtain ⟨a, b, c, d, rfl⟩ := four hx
  obtain ⟨a', b', c', d', rfl⟩ := four hy
  unfold mx
  simp only [bvs_append]
  rw [List.set_append_right _ _ (by rw [bvs_length]; omega), bvs_length, Nat.add_sub_cancel_left]
  congr 1
  match k, hk with
  | 0, _ => simp [bvs]
  | 1, _ => simp [bvs]
  | 2, _ => simp [bvs]
  | 3, _ => simp [bvs]
theorem mx_length (p q : List UInt8) (x y : List UInt8) (hx : x.length = 4) (hy : y.length = 4) (k : Nat) (hk : k ≤ 4) : (mx p x y q k).length = p.length + 4 + q.length := by
  simp [mx, hx, hy]; omega

theorem mx_open (l pre q x : List UInt8) (t0 t1 t2 t3 : UInt8) (hx : x.length = 4) (hne : ¬ (t0 = 0 ∧ t1 = 0 ∧ t2 = 0 ∧ t3 = 0)) (hs : sealOf l = pre ++ (x ++ q)) : openOf (mx pre x [t0, t1, t2, t3] q 4) = none := by
  obtain ⟨a, b, c, d, rfl⟩ := four hx
  exact openOf_burst l pre q a b c d t0 t1 t2 t3 hne hs

set_option maxHeartbeats 800000 in
theorem walk_burst_main (A : Option Addr) (c : Nat) (l : List UInt8) (p : Nat) (t0 t1 t2 t3 : UInt8) (w : World) (hs : Sees w w.heap.size A (bvs l)) (h1 : l.length ≤ 2000) (hp : p ≤ l.length)
    (hne : ¬ (t0 = 0 ∧ t1 = 0 ∧ t2 = 0 ∧ t3 = 0)) :
    Calls Try.prog 9 #[.slice A l.length c, .int .i64 (p : Int), .agg #[.int .u8 (t0.toNat : Int), .int .u8 (t1.toNat : Int), .int .u8 (t2.toNat : Int), .int .u8 (t3.toNat : Int)]] w
      fun e w' => e = .returned (.bool true) ∧ Below w.heap.size w w' := by
  have heq : ∀ w : World, (binOp .eql 57 (.agg #[.int .u8 (t0.toNat : Int), .int .u8 (t1.toNat : Int), .int .u8 (t2.toNat : Int), .int .u8 (t3.toNat : Int)]) (.agg #[.int .u8 0, .int .u8 0, .int .u8 0, .int .u8 0])).run Try.prog w = .ok (.bool false) w := by
    intro w
    rw [arr4_eq, zero_eq, zero_eq, zero_eq, zero_eq, ← Bool.decide_and, ← Bool.decide_and, ← Bool.decide_and, decide_eq_false (by simpa [and_assoc] using hne)]
  -- the four bytes among those that are sealed
  obtain ⟨pre, x, q, hseal, hpre, hx⟩ : ∃ pre x q, sealOf l = pre ++ (x ++ q) ∧ pre.length = p ∧ x.length = 4 := by
    refine ⟨(sealOf l).take p, ((sealOf l).drop p).take 4, ((sealOf l).drop p).drop 4, by rw [List.take_append_drop, List.take_append_drop], ?_, ?_⟩
    · simp [sealOf, le4_length]; omega
    · simp [sealOf, le4_length]; omega
  have hlen : (sealOf l).length = l.length + 4 := by simp [sealOf, le4_length]
  have HX := Lib.hid hx
  have HS := Lib.hid hseal
  have HPRE := Lib.hid hpre
  have hql : p + 4 + q.length = l.length + 4 := by rw [← hlen, hseal, ← hpre]; simp [hx]; omega
  have HLEN := Lib.hid hlen
  clear hx hseal hpre hlen
  go_enter Try.func9, Try.ntmps9
  go_wp2_with fail
  refine (seal_any _ _ _ l _ w.heap.size rfl (hs.alloc (Nat.le_refl _) _) (by simp) (by omega)).mono ?_
  rintro e w1 ⟨A1, c1, rfl, hown1, hb1⟩
  obtain ⟨g, rfl, hg0, hg1⟩ := hown1.block (by omega)
  simp only [World.size_alloc] at hown1 hb1 hg0
  have hbox : ∀ k, k < 4 → (w.alloc (.cells #[.int .u8 (t0.toNat : Int), .int .u8 (t1.toNat : Int), .int .u8 (t2.toNat : Int), .int .u8 (t3.toNat : Int)] 57)).cell? ⟨w.heap.size, k, none⟩ = some (bv ([t0, t1, t2, t3].getD k 0)) := by
    intro k hk
    rw [World.cell?_alloc_at _ _ _ _ rfl]
    match k, hk with
    | 0, _ => rfl
    | 1, _ => rfl
    | 2, _ => rfl
    | 3, _ => rfl
  have HBOX := Lib.hid hbox
  have HNE := Lib.hid hne
  clear hbox hne heq
  go_wp2
  go_loopw [8] (fun i wr => ∃ k : Nat, k ≤ 4 ∧ i = .int .i64 k ∧ Own wr (w.heap.size + 1) 5 (.slice (some ⟨g, 0, none⟩) (l.length + 4) c1) (bvs (mx pre x [t0, t1, t2, t3] q k)) ∧
      Below (w.heap.size + 1) (w.alloc (.cells #[.int .u8 (t0.toNat : Int), .int .u8 (t1.toNat : Int), .int .u8 (t2.toNat : Int), .int .u8 (t3.toNat : Int)] 57)) wr) (fun i _ => 4 - (intOf i).toNat)
  case atStart => exact ⟨0, by omega, rfl, by rw [show mx pre x [t0, t1, t2, t3] q 0 = sealOf l from HS.out.symm]; exact hown1, hb1⟩
  case round =>
    obtain ⟨k, hk, rfl, hown, hbr⟩ := hrel
    by_cases hlt : k < 4
    · have hml : (mx pre x [t0, t1, t2, t3] q k).length = l.length + 4 := by rw [mx_length _ _ _ _ HX.out rfl _ hk, HPRE.out]; exact hql
      have hat := mx_at pre q x [t0, t1, t2, t3] HX.out rfl k hlt
      have hset := mx_set pre q x [t0, t1, t2, t3] HX.out rfl k hlt
      rw [HPRE.out] at hat hset
      have hcx : wr.cell? ⟨g, p + k, none⟩ = some (.int .u8 ((x.getD k 0).toNat : Int)) := by
        have hj : p + k < (bvs (mx pre x [t0, t1, t2, t3] q k)).length := by rw [bvs_length, hml]; omega
        have := hown.cell (p + k) hj
        rw [this, ← List.getElem?_eq_getElem hj, bvs, List.getElem?_map, hat]; rfl
      have hct : wr.cell? ⟨w.heap.size, k, none⟩ = some (.int .u8 (([t0, t1, t2, t3].getD k 0).toNat : Int)) := (hbr.cell (p := ⟨w.heap.size, k, none⟩) (by simp)).trans (HBOX.out k hlt)
      have hfz := hown.frozen (p + k)
      obtain ⟨xs, hxs⟩ : ∃ z, z = x.getD k 0 := ⟨_, rfl⟩
      obtain ⟨ts, hts⟩ : ∃ z, z = [t0, t1, t2, t3].getD k 0 := ⟨_, rfl⟩
      rw [← hxs, ← hts] at hset
      rw [← hxs] at hcx
      rw [← hts] at hct
      have HSET := Lib.hid hset
      have hx2 := xor_u8 xs ts
      clear hset hat hml hxs hts
      have hgne : g ≠ w.heap.size := by omega
      go_wp2
      go_region
      all_goals go_wp2
      have hxn : ((xs.toNat ^^^ ts.toNat : Nat) : Int) = ((xs ^^^ ts).toNat : Int) := by rw [UInt8.toNat_xor]
      rw [hxn]
      go_roundw
      case rel =>
        obtain ⟨ho, hb⟩ := hown.stored (p + k) (bv (xs ^^^ ts))
        rw [HSET.out] at ho
        exact ⟨k + 1, by omega, by go_num, ho, (hbr.trans hb).drew⟩
      case measure => simp [intOf]; omega
    · obtain rfl : k = 4 := by omega
      have hml : (mx pre x [t0, t1, t2, t3] q 4).length = l.length + 4 := by rw [mx_length _ _ _ _ HX.out rfl _ hk, HPRE.out]; exact hql
      have HML := Lib.hid hml
      clear hml
      have hn := mx_open l pre q x t0 t1 t2 t3 HX.out HNE.out HS.out
      have HN := Lib.hid hn
      clear hn
      have hcap : l.length + 4 ≤ c1 ∧ c1 ≤ maxLen := hown.cap
      go_wp2_with fail
      refine (open_no _ _ _ (mx pre x [t0, t1, t2, t3] q 4) _ _ HML.out hcap.1 hcap.2 hown.sees HN.out).mono ?_
      rintro e w2 ⟨rfl, hb2⟩
      go_wp2_with fail
      refine (sum_awake _).mono ?_
      rintro e w3 ⟨rfl, hb3⟩
      go_wp2
      go_ret
      have hz := hbr.size
      simp only [World.size_alloc] at hz
      exact ⟨rfl, ((((Below.refl _ _).alloc (Nat.le_refl _) _).trans (hbr.mono (by omega))).trans (hb2.mono (by omega))).trans (hb3.mono (by have := hb2.size; omega))⟩

theorem walk_burst (A : Option Addr) (c : Nat) (l : List UInt8) (at_ : Int) (t0 t1 t2 t3 : UInt8) (w : World) (hs : Sees w w.heap.size A (bvs l)) (hm : l.length ≤ maxLen) (h64 : -9223372036854775808 ≤ at_ ∧ at_ ≤ 9223372036854775807) :
    Calls Try.prog 9 #[.slice A l.length c, .int .i64 at_, .agg #[.int .u8 (t0.toNat : Int), .int .u8 (t1.toNat : Int), .int .u8 (t2.toNat : Int), .int .u8 (t3.toNat : Int)]] w
      fun e w' => e = .returned (.bool true) ∧ Below w.heap.size w w' := by
  unfold maxLen at hm
  have heq : ∀ w : World, (binOp .eql 57 (.agg #[.int .u8 (t0.toNat : Int), .int .u8 (t1.toNat : Int), .int .u8 (t2.toNat : Int), .int .u8 (t3.toNat : Int)]) (.agg #[.int .u8 0, .int .u8 0, .int .u8 0, .int .u8 0])).run Try.prog w =
      .ok (.bool (decide (t0 = 0 ∧ t1 = 0 ∧ t2 = 0 ∧ t3 = 0))) w := by
    intro w
    rw [arr4_eq, zero_eq, zero_eq, zero_eq, zero_eq, ← Bool.decide_and, ← Bool.decide_and, ← Bool.decide_and]
    simp [and_assoc]
  by_cases h1 : l.length ≤ 2000
  · by_cases ht : t0 = 0 ∧ t1 = 0 ∧ t2 = 0 ∧ t3 = 0
    · have heq' := fun w => (heq w).trans (by rw [decide_eq_true ht])
      clear heq
      have HT := Lib.hid ht
      clear ht
      go_enter Try.func9, Try.ntmps9
      go_wp2_with fail
      refine (sum_awake _).mono ?_
      rintro e w3 ⟨rfl, hb3⟩
      go_wp2
      go_ret
      exact ⟨rfl, ((Below.refl _ _).alloc (Nat.le_refl _) _).trans (hb3.mono (by simp))⟩
    · by_cases h2 : at_ < 0
      · have heq' := fun w => (heq w).trans (by rw [decide_eq_false ht])
        clear heq
        have HT := Lib.hid ht
        clear ht
        go_enter Try.func9, Try.ntmps9
        go_wp2_with fail
        refine (sum_awake _).mono ?_
        rintro e w3 ⟨rfl, hb3⟩
        go_wp2
        go_ret
        exact ⟨rfl, ((Below.refl _ _).alloc (Nat.le_refl _) _).trans (hb3.mono (by simp))⟩
      · by_cases h3 : (l.length : Int) < at_
        · have heq' := fun w => (heq w).trans (by rw [decide_eq_false ht])
          clear heq
          have HT := Lib.hid ht
          clear ht
          go_enter Try.func9, Try.ntmps9
          go_wp2_with fail
          refine (sum_awake _).mono ?_
          rintro e w3 ⟨rfl, hb3⟩
          go_wp2
          go_ret
          exact ⟨rfl, ((Below.refl _ _).alloc (Nat.le_refl _) _).trans (hb3.mono (by simp))⟩
        · obtain ⟨p, rfl⟩ : ∃ p : Nat, at_ = p := ⟨at_.toNat, by omega⟩
          exact walk_burst_main A c l p t0 t1 t2 t3 w hs h1 (by omega) ht
  · have h1' : (2000 : Int) < l.length := by omega
    clear heq
    go_enter Try.func9, Try.ntmps9
    go_wp2_with fail
    refine (sum_awake _).mono ?_
    rintro e w3 ⟨rfl, hb3⟩
    go_wp2
    go_ret
    exact ⟨rfl, ((Below.refl _ _).alloc (Nat.le_refl _) _).trans (hb3.mono (by simp))⟩

/-- What the frame gives of an array of four bytes. -/
theorem open_arr4 {H : Type} {enc : TypeId × Value → H} {W : World} {r : Reach} {base : Nat} {v : Value} {d : DataW H} {ps : List MemPlace}
    (hv : Value.okWide Try.prog W r base 57 v) (h : DataW.Trod enc Try.prog W 0 (fun _ => true) true 57 v d ps) :
    ∃ t0 t1 t2 t3 : UInt8, v = .agg #[.int .u8 (t0.toNat : Int), .int .u8 (t1.toNat : Int), .int .u8 (t2.toNat : Int), .int .u8 (t3.toNat : Int)] := by
  have hv' := hv
  simp only [Value.okWide, Try.underlying57] at hv'
  obtain ⟨cs, rfl, hsz, hrow⟩ := hv'
  obtain ⟨fuel, hf⟩ := h
  obtain ⟨xs, m, rfl, hx, hl, hxl, heach⟩ := DataW.trod_array Try.underlying57 hf
  have hc4 : Try.prog.cellsOf 57 = 4 := by kernel_rfl
  rw [hc4] at hl
  simp only [u8_cells, Nat.mul_one] at heach
  have one : ∀ i, i < 4 → ∃ t : UInt8, cs.toList[i]? = some (.int .u8 (t.toNat : Int)) := by
    intro i hi
    have hi' : i < cs.toList.length := by simpa [Value.cells, hi] using (show i < (Value.agg cs).cells.toList.length by rw [hl]; exact hi)
    have h1 := heach i hi
    have e1 : ((Value.agg cs).cells.toList.drop i).take 1 = [cs.toList[i]] := by
      simp only [Value.cells]
      rw [List.drop_eq_getElem_cons hi']; rfl
    rw [e1, List.getElem?_eq_getElem (by rw [hxl]; exact hi)] at h1
    obtain ⟨n, e2, _, hw⟩ := DataW.trod_int Try.underlying5 h1
    simp only [List.cons.injEq, and_true] at e2
    simp only [Lit.wf, IntKind.min, IntKind.max, IntKind.signed, IntKind.bits] at hw
    simp at hw
    refine ⟨UInt8.ofNat n.toNat, ?_⟩
    rw [List.getElem?_eq_getElem hi', e2]
    simp
    omega
  obtain ⟨t0, h0⟩ := one 0 (by omega)
  obtain ⟨t1, h1⟩ := one 1 (by omega)
  obtain ⟨t2, h2⟩ := one 2 (by omega)
  obtain ⟨t3, h3⟩ := one 3 (by omega)
  refine ⟨t0, t1, t2, t3, ?_⟩
  congr 1
  apply Array.toList_inj.1
  apply List.ext_getElem?
  intro i
  match i with
  | 0 => rw [h0]; rfl
  | 1 => rw [h1]; rfl
  | 2 => rw [h2]; rfl
  | 3 => rw [h3]; rfl
  | i + 4 =>
    have hl' : cs.toList.length = 4 := by simpa [Value.cells] using hl
    rw [List.getElem?_eq_none (by rw [hl']; omega), List.getElem?_eq_none (by simp)]

set_option maxRecDepth 100000 in
theorem burst_lifted (os : Os) (started : os.Started) (H : Type) (enc : TypeId × Value → H) :
    ReturnsInHanded {} Try.checked os 9 .any (Rows.sumBurstSpec.pre6 enc Try.prog Try.f9 Rows.sumBurstRow.domain false)
      (Rows.sumBurstSpec.post enc Try.prog Try.f9 false true false false) := by
  refine returnsInHanded_of_change (C := Try.checked) own started (by kernel_rfl) Try.func9
    (ChangeSpec.witness6 (enc := enc) (C := Try.checked) false ⟨#[], #[.slice none 0 0, .int .i64 0, .agg #[.int .u8 0, .int .u8 0, .int .u8 0, .int .u8 0]], []⟩ 8 (by kernel_rfl) (by kernel_rfl) (by kernel_rfl) (by kernel_rfl)) ?_
  intro W base args ds gs before hval hW _ _
  have hW' := hW
  obtain ⟨p, q, hA, hV, rfl, hfz, hnd⟩ := hW
  rw [Try.params9] at hA hval
  obtain ⟨v0, vs0, d0, ds0, p0, q0, hargs, rfl, rfl, h0, r0⟩ := trodAll_cons hA
  obtain ⟨v1, vs1, d1, ds1, p1, q1, rfl, rfl, rfl, h1, r1⟩ := trodAll_cons r0
  obtain ⟨v2, vs2, d2, ds2, p2, q2, rfl, rfl, rfl, h2, r2⟩ := trodAll_cons r1
  obtain ⟨rfl, rfl, rfl⟩ := trodAll_nil r2
  obtain rfl : args = #[v0, v1, v2] := by cases args; simp_all
  obtain ⟨A, n, c, l, rfl, hnc, hcm, rfl, hs⟩ := open_bytes Try.underlying22 Try.underlying5 (by kernel_rfl) (hval 0 22 v0 rfl rfl) h0
  obtain ⟨a1, rfl, rfl, rfl, w1⟩ := open_int Try.underlying3 (hval 1 3 v1 rfl rfl) h1
  obtain ⟨t0, t1, t2, t3, rfl⟩ := open_arr4 (hval 2 57 v2 rfl rfl) h2
  have hb64 : -9223372036854775808 ≤ a1 ∧ a1 ≤ 9223372036854775807 := by simpa [Lit.wf, IntKind.min, IntKind.max, IntKind.signed, IntKind.bits] using w1
  refine (walk_burst A c l a1 t0 t1 t2 t3 W hs (by omega) hb64).mono fun e W' ⟨he, hb⟩ => ?_
  subst he
  exact ⟨_, rfl, law_post laidOut (by intro t ht; revert t ht; decide +kernel) rfl rfl boolT rfl hW' hb⟩

theorem SumBurst_holds : Rows.SumBurstSaid :=
  OpenClaim.holds_of_wide 9 Try.f9 rfl rfl rfl rfl rfl rfl rfl ⟨rfl, rfl, rfl, rfl, rfl⟩ rfl rfl rfl rfl rfl (by kernel_rfl) Try.func9 (by kernel_rfl)
    (of_decide_eq_true (by kernel_rfl)) (by unfold Func.isWrapper; first | (rw [if_pos (by decide +kernel)]; kernel_rfl) | (rw [if_neg (by decide +kernel)]; exact ⟨rfl, rfl⟩))
    (fun os started H enc _ => burst_lifted os started H enc)
end Go.Proofs.Ytgnkkbgphghioaa
