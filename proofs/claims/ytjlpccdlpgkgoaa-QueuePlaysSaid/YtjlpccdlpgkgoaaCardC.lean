/- Cards: a patch is written to a card: what each returns. -/
import Derived.Test.YtjlpccdlpgkgoaaCardB
namespace Go.Proofs.Ytjlpccdlpgkgoaa
set_option linter.unusedVariables false
open Go Go.RowKit BitM

/-- The cells of a card, of a patch. -/
def ccells (id ver lab : Int) (f : List V3) : List Value := [.int .i64 id, .int .i64 ver, .int .u32 lab] ++ fcells f
def pcells (m lab : Int) (f : List V3) : List Value := [.int .u32 m, .int .u32 lab] ++ fcells f
theorem ccells_len (id ver lab : Int) {f : List V3} (h : f.length = 8) : (ccells id ver lab f).length = 27 := by
  unfold ccells; rw [List.length_append, fcells_len, h]; rfl
theorem pcells_len (m lab : Int) {f : List V3} (h : f.length = 8) : (pcells m lab f).length = 26 := by
  unfold pcells; rw [List.length_append, fcells_len, h]; rfl
theorem ccells_one (id ver lab : Int) (f : List V3) : ∀ u ∈ ccells id ver lab f, u.oneCell' = true := by
  intro u hu
  rcases List.mem_append.1 hu with h | h
  · simp at h; rcases h with rfl | rfl | rfl <;> rfl
  · exact fcells_one f u h
theorem pcells_one (m lab : Int) (f : List V3) : ∀ u ∈ pcells m lab f, u.oneCell' = true := by
  intro u hu
  rcases List.mem_append.1 hu with h | h
  · simp at h; rcases h with rfl | rfl <;> rfl
  · exact fcells_one f u h
theorem Blk.card {w : World} {g : Nat} {id ver lab : Int} {f : List V3} (h : Blk w g (ccells id ver lab f)) :
    w.cell? ⟨g, 0, none⟩ = some (.int .i64 id) ∧ w.cell? ⟨g, 1, none⟩ = some (.int .i64 ver) ∧ w.cell? ⟨g, 2, none⟩ = some (.int .u32 lab) := ⟨h.cell rfl, h.cell rfl, h.cell rfl⟩
theorem Blk.patch {w : World} {g : Nat} {m lab : Int} {f : List V3} (h : Blk w g (pcells m lab f)) :
    w.cell? ⟨g, 0, none⟩ = some (.int .u32 m) ∧ w.cell? ⟨g, 1, none⟩ = some (.int .u32 lab) := ⟨h.cell rfl, h.cell rfl⟩
theorem Blk.putLab {w : World} {g : Nat} {id ver lab : Int} {f : List V3} (h : Blk w g (ccells id ver lab f)) (l : Int) : Blk (w.setCell ⟨g, 2, none⟩ (.int .u32 l)) g (ccells id ver l f) := h.set 2 _
theorem Blk.putVer {w : World} {g : Nat} {id ver lab : Int} {f : List V3} (h : Blk w g (ccells id ver lab f)) (v : Int) : Blk (w.setCell ⟨g, 1, none⟩ (.int .i64 v)) g (ccells id v lab f) := h.set 1 _
theorem below_set {B b : Nat} (hb : B ≤ b) {a w : World} (h : Below B a w) (j : Nat) (v : Value) : Below B a (w.setCell ⟨b, j, none⟩ v) := h.setCell hb v
theorem Own.setOther {w : World} {base : Nat} {e : TypeId} {v : Value} {xs : List Value} (h : Own w base e v xs) {b : Nat} (hb : b < base) (j : Nat) (u : Value) : Own (w.setCell ⟨b, j, none⟩ u) base e v xs :=
  h.setsOther hb [u] j
/-- A whole block is laid into another one. -/
theorem Blk.whole {w : World} {g : Nat} {cs ds : List Value} (h : Blk w g cs) (hl : ds.length = cs.length) : Blk (w.setCells g 0 ds) g ds := by
  have h2 := h.sets ds 0 (by omega)
  rw [List.take_zero, List.nil_append, List.drop_eq_nil_of_le (by omega), List.append_nil] at h2
  exact h2
theorem zc27 : (ccells 0 0 0 zeros).toArray = #[Value.int .i64 0, .int .i64 0, .int .u32 0, .int .i64 0, .int .i64 0, .string { data := #[] }, .int .i64 0, .int .i64 0, .string { data := #[] }, .int .i64 0, .int .i64 0, .string { data := #[] }, .int .i64 0, .int .i64 0, .string { data := #[] }, .int .i64 0, .int .i64 0, .string { data := #[] }, .int .i64 0, .int .i64 0, .string { data := #[] }, .int .i64 0, .int .i64 0, .string { data := #[] }, .int .i64 0, .int .i64 0, .string { data := #[] }] := rfl
theorem info_card : (Try.prog.info? 32).map (·.size) = some 27 := by kernel_rfl
theorem info_patch : (Try.prog.info? 34).map (·.size) = some 26 := by kernel_rfl

/-- A card's version behind a write. -/
def nextVer (v : Int) : Int := if v < 1099511627776 then v + 1 else v

set_option maxRecDepth 100000 in
set_option maxHeartbeats 6400000 in
theorem merge_any (id ver lab pl : Int) (x : BitVec 32) (C P : List V3) (w : World) (hC : C.length = 8) (hP : P.length = 8) (hv : -9223372036854775808 ≤ ver) :
    Calls Try.prog 24 #[.agg (ccells id ver lab C).toArray, .agg (pcells (x.toNat : Int) pl P).toArray] w fun e w' =>
      e = .returned (.agg (ccells id (nextVer ver) (if has x 8 then pl else lab) (mix (fun i => has x (i : Int)) P C)).toArray) ∧ Below w.heap.size w w' := by
  obtain ⟨R, hR⟩ : ∃ R, R = ccells id (nextVer ver) (if has x 8 then pl else lab) (mix (fun i => has x (i : Int)) P C) := ⟨_, rfl⟩
  rw [← hR]
  have HR := Lib.hid hR
  clear hR
  have B0 := Blk.new w (ccells id ver lab C) 32
  obtain ⟨ca, hca⟩ : ∃ ca, ca = (ccells id ver lab C).toArray := ⟨_, rfl⟩
  obtain ⟨pa, hpa⟩ : ∃ pa, pa = (pcells (x.toNat : Int) pl P).toArray := ⟨_, rfl⟩
  rw [← hca] at B0 ⊢
  have B1 := Blk.new (w.alloc (.cells ca 32)) (pcells (x.toNat : Int) pl P) 34
  rw [← hpa] at B1 ⊢
  have B2 := Blk.new ((w.alloc (.cells ca 32)).alloc (.cells pa 34)) (ccells 0 0 0 zeros) 32
  have hw0 := (((Below.refl w.heap.size w).alloc (Nat.le_refl _) (.cells ca 32)).alloc (by simp) (.cells pa 34)).alloc (by simp; omega) (.cells (ccells 0 0 0 zeros).toArray 32)
  replace B1 := B1.alloc (.cells (ccells 0 0 0 zeros).toArray 32)
  replace B0 := (B0.alloc (.cells pa 34)).alloc (.cells (ccells 0 0 0 zeros).toArray 32)
  have hsz : (((w.alloc (.cells ca 32)).alloc (.cells pa 34)).alloc (.cells (ccells 0 0 0 zeros).toArray 32)).heap.size = w.heap.size + 3 := by simp
  have hs2 : ((w.alloc (.cells ca 32)).alloc (.cells pa 34)).heap.size = w.heap.size + 2 := by simp
  have hs1 : (w.alloc (.cells ca 32)).heap.size = w.heap.size + 1 := by simp
  rw [hs1] at B1
  rw [hs2] at B2
  generalize hW : ((w.alloc (.cells ca 32)).alloc (.cells pa 34)).alloc (.cells (ccells 0 0 0 zeros).toArray 32) = W at *
  have HW := Lib.hid hW
  have HB := Lib.hid hw0
  have HSZ := Lib.hid hsz
  have HCL := Lib.hid hC
  have HPL := Lib.hid hP
  have HZ := Lib.hid zc27
  have HL := Lib.hid (labels_any x W)
  clear hC hP hca hpa hsz hs1 hs2 hW hw0
  have hm0 := B1.patch.1
  rw [← HW.out, zc27] at hm0
  go_enter Try.func24, Try.ntmps24
  go_wp2_with fail
  rw [← zc27, HW.out]
  clear hm0
  refine HL.out.mono ?_
  rintro e w' ⟨rfl, rfl⟩
  cases hb8 : has x 8 with
  | true =>
    have HIF : Hid ((if has x 8 = true then pl else lab) = pl) := Lib.hid (by rw [hb8]; rfl)
    clear hb8
    obtain ⟨p0, p1⟩ := B1.patch
    obtain ⟨q0, q1, q2⟩ := B0.card
    have fl := B0.frozen 2
    have A0 := B0.putLab pl
    have A1 := B1.setOther (b := w.heap.size) 2 (.int .u32 pl) (by omega)
    have A2 := B2.setOther (b := w.heap.size) 2 (.int .u32 pl) (by omega)
    have HB2 : Hid (Below w.heap.size w (W.setCell ⟨w.heap.size, 2, none⟩ (.int .u32 pl))) := Lib.hid (below_set (Nat.le_refl _) HB.out _ _)
    have HSZ2 : Hid ((W.setCell ⟨w.heap.size, 2, none⟩ (.int .u32 pl)).heap.size = w.heap.size + 3) := Lib.hid (by rw [size_setCell']; exact HSZ.out)
    clear HB HSZ HW HL B0 B1 B2
    generalize hW2 : W.setCell ⟨w.heap.size, 2, none⟩ (.int .u32 pl) = W2 at *
    have HW2 := Lib.hid hW2
    clear hW2
    have B0 := A0
    have B1 := A1
    have B2 := A2
    have HB := HB2
    have HSZ := HSZ2
    clear A0 A1 A2 HB2 HSZ2
    go_wp2_with fail
    rw [HW2.out]
    clear p0 p1 q0 q1 q2 fl HW2
    have HFL := Lib.hid (fields_any x W2)
    refine HFL.out.mono ?_
    rintro e w1 ⟨A, c, rfl, ho, hb⟩
    have C0 := B0.later hb
    have C1 := B1.later hb
    have C2 := B2.later hb
    have hbw : Below w.heap.size w w1 := HB.out.trans (hb.mono (by rw [HSZ.out]; omega))
    replace ho : Own w1 (w.heap.size + 3) 3 (.slice A (flds x).length c) (ivs (flds x)) := by rw [HSZ.out] at ho; exact ho
    have hfl := flds_len x
    clear B0 B1 B2 HFL HB HSZ hb
    go_wp2_with fail
    obtain ⟨n, hn⟩ : ∃ n, n = (flds x).length := ⟨_, rfl⟩
    rw [← hn] at ho hfl ⊢
    have HN := Lib.hid hn
    clear hn
    go_loopw [17] (fun i wr => ∃ k : Nat, k ≤ n ∧ i = .int .i64 k ∧ Blk wr w.heap.size (ccells id ver pl (mix (inl (flds x) k) P C)) ∧ Blk wr (w.heap.size + 1) (pcells (x.toNat : Int) pl P) ∧ Blk wr (w.heap.size + 2) (ccells 0 0 0 zeros) ∧ Own wr (w.heap.size + 3) 3 (.slice A n c) (ivs (flds x)) ∧ Below w.heap.size w wr)
      (fun i _ => n - (intOf i).toNat)
    case atStart => exact ⟨0, Nat.zero_le _, rfl, by rw [inl_zero, mix_none _ _ HCL.out]; exact C0, C1, C2, ho, hbw⟩
    case round =>
      obtain ⟨k, hk, rfl, D0, D1, D2, hown, hbr⟩ := hrel
      clear C0 C1 C2 ho hbw
      by_cases hlt : k < n
      · have hkl : k < (flds x).length := by rw [← HN.out]; exact hlt
        obtain ⟨i, hi8, hik⟩ := flds_in x k hkl
        obtain ⟨b, o, rfl, hb, hc⟩ := hown.sees.int k hkl
        rw [hik] at hc
        have hif : i < P.length := by rw [HPL.out]; exact hi8
        obtain ⟨l0, l1, l2⟩ := Blk.field (o := 2) D1 i rfl hif
        obtain ⟨s0, s1, s2⟩ := Blk.field (o := 3) D0 i rfl (by rw [mix_len]; exact hi8)
        have f0 := D0.frozen (3 + i * 3)
        have f1 := D0.frozen (3 + i * 3 + 1)
        have f2 := D0.frozen (3 + i * 3 + 2)
        have d8 : (i : Int) < 8 := by omega
        have E0 := blk_field (w := wr) (g := w.heap.size) (inl (flds x) k) P C [.int .i64 id, .int .i64 ver, .int .u32 pl] i hi8 hif D0
        rw [← inl_succ (flds x) k i hkl hik] at E0
        have E1 := Blk.setsOther (b := w.heap.size) (g := w.heap.size + 1) (by omega) (vcells P[i]) (3 + i * 3) D1
        have E2 := Blk.setsOther (b := w.heap.size) (g := w.heap.size + 2) (by omega) (vcells P[i]) (3 + i * 3) D2
        have EO := hown.setsOther (b := w.heap.size) (by omega) (vcells P[i]) (3 + i * 3)
        have EB := below_sets (B := w.heap.size) (b := w.heap.size) (by omega) (vcells P[i]) (3 + i * 3) hbr
        obtain ⟨v, hv⟩ : ∃ v, v = P[i] := ⟨_, rfl⟩
        rw [← hv] at l0 l1 l2 E0 E1 E2 EO EB
        obtain ⟨v0, v1, v2⟩ := v
        simp only at l0 l1 l2
        have R : Hid (Blk (wr.setCells w.heap.size (3 + i * 3) (vcells (v0, v1, v2))) w.heap.size (ccells id ver pl (mix (inl (flds x) (k + 1)) P C)) ∧ Blk (wr.setCells w.heap.size (3 + i * 3) (vcells (v0, v1, v2))) (w.heap.size + 1) (pcells (x.toNat : Int) pl P) ∧ Blk (wr.setCells w.heap.size (3 + i * 3) (vcells (v0, v1, v2))) (w.heap.size + 2) (ccells 0 0 0 zeros) ∧ Own (wr.setCells w.heap.size (3 + i * 3) (vcells (v0, v1, v2))) (w.heap.size + 3) 3 (.slice (some ⟨b, o, none⟩) n c) (ivs (flds x)) ∧ Below w.heap.size w (wr.setCells w.heap.size (3 + i * 3) (vcells (v0, v1, v2)))) := ⟨E0, E1, E2, EO, EB⟩
        clear hv E0 E1 E2 EO EB hik D0 D1 D2
        go_wp2_with fail
        go_roundw
        case rel => exact ⟨k + 1, by omega, by go_num, R.out⟩
        case measure => simp [intOf]; omega
      · obtain rfl : k = n := by omega
        have hz : mix (inl (flds x) k) P C = mix (fun i => has x (i : Int)) P C := by rw [HN.out]; exact inl_flds x P C
        rw [hz] at D0
        clear hz hown
        obtain ⟨c0, c1, c2⟩ := D0.card
        have fv := D0.frozen 1
        by_cases hlv : ver < 1099511627776
        · have d1 : decide (ver < 1099511627776) = true := by simpa using hlv
          have hnv : nextVer ver = ver + 1 := if_pos hlv
          have G0 := D0.putVer (ver + 1)
          have G2 := D2.setOther (b := w.heap.size) 1 (.int .i64 (ver + 1)) (by omega)
          have GB := below_set (b := w.heap.size) (Nat.le_refl _) hbr 1 (.int .i64 (ver + 1))
          have hRl : R.length = 27 := by rw [HR.out]; exact ccells_len _ _ _ (mix_len _ _ _)
          rw [show ccells id (ver + 1) pl (mix (fun i => has x (i : Int)) P C) = R from by rw [HR.out, hnv, HIF.out]] at G0
          have RG := G0.range 0 R (by rw [List.drop_zero, List.take_length])
          have TH := G2.there 0 27 (by rw [ccells_len 0 0 0 zeros_len]; omega)
          have FIN := G2.whole (ds := R) (by rw [hRl, ccells_len 0 0 0 zeros_len])
          have FB := below_sets (B := w.heap.size) (b := w.heap.size + 2) (by omega) R 0 GB
          have HRL := Lib.hid hRl
          have hu := Try.underlying32
          have hone : ∀ v ∈ R, v.oneCell' = true := by rw [HR.out]; exact ccells_one _ _ _ _
          clear hnv hRl
          go_wp2_with (first
            | (refine wpList_load_mid rfl 32 (.tmp 2) rfl w.heap.size 0 rfl R _ RG hu rfl (by rw [HRL.out]; exact info_card) ?_)
            | (refine wpList_store_mid rfl 32 (.tmp 4) (.tmp 36) rfl (w.heap.size + 2) 0 R.toArray rfl rfl (by simpa [HRL.out] using TH) (by simpa [HRL.out] using info_card) (all_oneCell_toArray hone) ?_))
          exact bodyPost_ret (v := .agg R.toArray) (results_blk (q := 4) rfl _ _ (w.heap.size + 2) R _ rfl FIN hu rfl (by rw [HRL.out]; exact info_card)) rfl ⟨rfl, FB⟩
        · have d1 : decide (ver < 1099511627776) = false := by simpa using hlv
          have hnv : nextVer ver = ver := if_neg hlv
          have hRl : R.length = 27 := by rw [HR.out]; exact ccells_len _ _ _ (mix_len _ _ _)
          rw [show ccells id ver pl (mix (fun i => has x (i : Int)) P C) = R from by rw [HR.out, hnv, HIF.out]] at D0
          have RG := D0.range 0 R (by rw [List.drop_zero, List.take_length])
          have TH := D2.there 0 27 (by rw [ccells_len 0 0 0 zeros_len]; omega)
          have FIN := D2.whole (ds := R) (by rw [hRl, ccells_len 0 0 0 zeros_len])
          have FB := below_sets (B := w.heap.size) (b := w.heap.size + 2) (by omega) R 0 hbr
          have HRL := Lib.hid hRl
          have hu := Try.underlying32
          have hone : ∀ v ∈ R, v.oneCell' = true := by rw [HR.out]; exact ccells_one _ _ _ _
          clear hnv hlv hRl
          go_wp2_with (first
            | (refine wpList_load_mid rfl 32 (.tmp 2) rfl w.heap.size 0 rfl R _ RG hu rfl (by rw [HRL.out]; exact info_card) ?_)
            | (refine wpList_store_mid rfl 32 (.tmp 4) (.tmp 36) rfl (w.heap.size + 2) 0 R.toArray rfl rfl (by simpa [HRL.out] using TH) (by simpa [HRL.out] using info_card) (all_oneCell_toArray hone) ?_))
          exact bodyPost_ret (v := .agg R.toArray) (results_blk (q := 4) rfl _ _ (w.heap.size + 2) R _ rfl FIN hu rfl (by rw [HRL.out]; exact info_card)) rfl ⟨rfl, FB⟩
  | false =>
    have HIF : Hid ((if has x 8 = true then pl else lab) = lab) := Lib.hid (by rw [hb8]; rfl)
    clear hb8
    obtain ⟨p0, p1⟩ := B1.patch
    clear HW HL
    go_wp2_with fail
    clear p0 p1
    have HFL := Lib.hid (fields_any x W)
    refine HFL.out.mono ?_
    rintro e w1 ⟨A, c, rfl, ho, hb⟩
    have C0 := B0.later hb
    have C1 := B1.later hb
    have C2 := B2.later hb
    have hbw : Below w.heap.size w w1 := HB.out.trans (hb.mono (by rw [HSZ.out]; omega))
    replace ho : Own w1 (w.heap.size + 3) 3 (.slice A (flds x).length c) (ivs (flds x)) := by rw [HSZ.out] at ho; exact ho
    have hfl := flds_len x
    clear B0 B1 B2 HFL HB HSZ hb
    go_wp2_with fail
    obtain ⟨n, hn⟩ : ∃ n, n = (flds x).length := ⟨_, rfl⟩
    rw [← hn] at ho hfl ⊢
    have HN := Lib.hid hn
    clear hn
    go_loopw [17] (fun i wr => ∃ k : Nat, k ≤ n ∧ i = .int .i64 k ∧ Blk wr w.heap.size (ccells id ver lab (mix (inl (flds x) k) P C)) ∧ Blk wr (w.heap.size + 1) (pcells (x.toNat : Int) pl P) ∧ Blk wr (w.heap.size + 2) (ccells 0 0 0 zeros) ∧ Own wr (w.heap.size + 3) 3 (.slice A n c) (ivs (flds x)) ∧ Below w.heap.size w wr)
      (fun i _ => n - (intOf i).toNat)
    case atStart => exact ⟨0, Nat.zero_le _, rfl, by rw [inl_zero, mix_none _ _ HCL.out]; exact C0, C1, C2, ho, hbw⟩
    case round =>
      obtain ⟨k, hk, rfl, D0, D1, D2, hown, hbr⟩ := hrel
      clear C0 C1 C2 ho hbw
      by_cases hlt : k < n
      · have hkl : k < (flds x).length := by rw [← HN.out]; exact hlt
        obtain ⟨i, hi8, hik⟩ := flds_in x k hkl
        obtain ⟨b, o, rfl, hb, hc⟩ := hown.sees.int k hkl
        rw [hik] at hc
        have hif : i < P.length := by rw [HPL.out]; exact hi8
        obtain ⟨l0, l1, l2⟩ := Blk.field (o := 2) D1 i rfl hif
        obtain ⟨s0, s1, s2⟩ := Blk.field (o := 3) D0 i rfl (by rw [mix_len]; exact hi8)
        have f0 := D0.frozen (3 + i * 3)
        have f1 := D0.frozen (3 + i * 3 + 1)
        have f2 := D0.frozen (3 + i * 3 + 2)
        have d8 : (i : Int) < 8 := by omega
        have E0 := blk_field (w := wr) (g := w.heap.size) (inl (flds x) k) P C [.int .i64 id, .int .i64 ver, .int .u32 lab] i hi8 hif D0
        rw [← inl_succ (flds x) k i hkl hik] at E0
        have E1 := Blk.setsOther (b := w.heap.size) (g := w.heap.size + 1) (by omega) (vcells P[i]) (3 + i * 3) D1
        have E2 := Blk.setsOther (b := w.heap.size) (g := w.heap.size + 2) (by omega) (vcells P[i]) (3 + i * 3) D2
        have EO := hown.setsOther (b := w.heap.size) (by omega) (vcells P[i]) (3 + i * 3)
        have EB := below_sets (B := w.heap.size) (b := w.heap.size) (by omega) (vcells P[i]) (3 + i * 3) hbr
        obtain ⟨v, hv⟩ : ∃ v, v = P[i] := ⟨_, rfl⟩
        rw [← hv] at l0 l1 l2 E0 E1 E2 EO EB
        obtain ⟨v0, v1, v2⟩ := v
        simp only at l0 l1 l2
        have R : Hid (Blk (wr.setCells w.heap.size (3 + i * 3) (vcells (v0, v1, v2))) w.heap.size (ccells id ver lab (mix (inl (flds x) (k + 1)) P C)) ∧ Blk (wr.setCells w.heap.size (3 + i * 3) (vcells (v0, v1, v2))) (w.heap.size + 1) (pcells (x.toNat : Int) pl P) ∧ Blk (wr.setCells w.heap.size (3 + i * 3) (vcells (v0, v1, v2))) (w.heap.size + 2) (ccells 0 0 0 zeros) ∧ Own (wr.setCells w.heap.size (3 + i * 3) (vcells (v0, v1, v2))) (w.heap.size + 3) 3 (.slice (some ⟨b, o, none⟩) n c) (ivs (flds x)) ∧ Below w.heap.size w (wr.setCells w.heap.size (3 + i * 3) (vcells (v0, v1, v2)))) := ⟨E0, E1, E2, EO, EB⟩
        clear hv E0 E1 E2 EO EB hik D0 D1 D2
        go_wp2_with fail
        go_roundw
        case rel => exact ⟨k + 1, by omega, by go_num, R.out⟩
        case measure => simp [intOf]; omega
      · obtain rfl : k = n := by omega
        have hz : mix (inl (flds x) k) P C = mix (fun i => has x (i : Int)) P C := by rw [HN.out]; exact inl_flds x P C
        rw [hz] at D0
        clear hz hown
        obtain ⟨c0, c1, c2⟩ := D0.card
        have fv := D0.frozen 1
        by_cases hlv : ver < 1099511627776
        · have d1 : decide (ver < 1099511627776) = true := by simpa using hlv
          have hnv : nextVer ver = ver + 1 := if_pos hlv
          have G0 := D0.putVer (ver + 1)
          have G2 := D2.setOther (b := w.heap.size) 1 (.int .i64 (ver + 1)) (by omega)
          have GB := below_set (b := w.heap.size) (Nat.le_refl _) hbr 1 (.int .i64 (ver + 1))
          have hRl : R.length = 27 := by rw [HR.out]; exact ccells_len _ _ _ (mix_len _ _ _)
          rw [show ccells id (ver + 1) lab (mix (fun i => has x (i : Int)) P C) = R from by rw [HR.out, hnv, HIF.out]] at G0
          have RG := G0.range 0 R (by rw [List.drop_zero, List.take_length])
          have TH := G2.there 0 27 (by rw [ccells_len 0 0 0 zeros_len]; omega)
          have FIN := G2.whole (ds := R) (by rw [hRl, ccells_len 0 0 0 zeros_len])
          have FB := below_sets (B := w.heap.size) (b := w.heap.size + 2) (by omega) R 0 GB
          have HRL := Lib.hid hRl
          have hu := Try.underlying32
          have hone : ∀ v ∈ R, v.oneCell' = true := by rw [HR.out]; exact ccells_one _ _ _ _
          clear hnv hRl
          go_wp2_with (first
            | (refine wpList_load_mid rfl 32 (.tmp 2) rfl w.heap.size 0 rfl R _ RG hu rfl (by rw [HRL.out]; exact info_card) ?_)
            | (refine wpList_store_mid rfl 32 (.tmp 4) (.tmp 36) rfl (w.heap.size + 2) 0 R.toArray rfl rfl (by simpa [HRL.out] using TH) (by simpa [HRL.out] using info_card) (all_oneCell_toArray hone) ?_))
          exact bodyPost_ret (v := .agg R.toArray) (results_blk (q := 4) rfl _ _ (w.heap.size + 2) R _ rfl FIN hu rfl (by rw [HRL.out]; exact info_card)) rfl ⟨rfl, FB⟩
        · have d1 : decide (ver < 1099511627776) = false := by simpa using hlv
          have hnv : nextVer ver = ver := if_neg hlv
          have hRl : R.length = 27 := by rw [HR.out]; exact ccells_len _ _ _ (mix_len _ _ _)
          rw [show ccells id ver lab (mix (fun i => has x (i : Int)) P C) = R from by rw [HR.out, hnv, HIF.out]] at D0
          have RG := D0.range 0 R (by rw [List.drop_zero, List.take_length])
          have TH := D2.there 0 27 (by rw [ccells_len 0 0 0 zeros_len]; omega)
          have FIN := D2.whole (ds := R) (by rw [hRl, ccells_len 0 0 0 zeros_len])
          have FB := below_sets (B := w.heap.size) (b := w.heap.size + 2) (by omega) R 0 hbr
          have HRL := Lib.hid hRl
          have hu := Try.underlying32
          have hone : ∀ v ∈ R, v.oneCell' = true := by rw [HR.out]; exact ccells_one _ _ _ _
          clear hnv hlv hRl
          go_wp2_with (first
            | (refine wpList_load_mid rfl 32 (.tmp 2) rfl w.heap.size 0 rfl R _ RG hu rfl (by rw [HRL.out]; exact info_card) ?_)
            | (refine wpList_store_mid rfl 32 (.tmp 4) (.tmp 36) rfl (w.heap.size + 2) 0 R.toArray rfl rfl (by simpa [HRL.out] using TH) (by simpa [HRL.out] using info_card) (all_oneCell_toArray hone) ?_))
          exact bodyPost_ret (v := .agg R.toArray) (results_blk (q := 4) rfl _ _ (w.heap.size + 2) R _ rfl FIN hu rfl (by rw [HRL.out]; exact info_card)) rfl ⟨rfl, FB⟩
end Go.Proofs.Ytjlpccdlpgkgoaa
