/- Ledger: Note. -/
import Derived.Test.YtadmaalhhigbeaaW29
import Derived.Test.YtadmaalhhigbeaaW3
namespace Go.Proofs.Ytadmaalhhigbeaa
set_option linter.unusedVariables false
set_option linter.unusedSimpArgs false
open Go Go.RowKit ValM

theorem rws_put {α : Type} (f : α → List Value) (sz : Nat) (l : List α) (hf : ∀ x ∈ l, (f x).length = sz) (k : Nat) (hk : k < l.length) (x : α) : (rws f l).take (k * sz) ++ f x ++ (rws f l).drop (k * sz + sz) = rws f (l.set k x) := by
  rw [show k * sz + sz = (k + 1) * sz by rw [Nat.add_mul, Nat.one_mul], rws_take l k hf, rws_drop l (k + 1) hf, List.set_eq_take_append_cons_drop, if_pos hk, rws_append, rws_cons, List.append_assoc]
theorem LgAt.put {w : World} {g : Nat} {es : List Int} {rs : List Rp} (h : LgAt w g es rs) (k : Nat) (hk : k < rs.length) (r : Rp) (ho : okRp w r) (hf : farRp g r) (hn : r.n ≤ 65536) : LgAt (w.setCells g (6 + k * 10) (rpc r)) g es (rs.set k r) := by
  have h6 := h.lr
  have hl : (rws rpc rs).length = rs.length * 10 := rws_len _ (fun x _ => rpc_len x)
  refine ⟨?_, h.le, by rw [List.length_set]; exact h.lr, h.er, fun x hx => ?_⟩
  · have := h.blk.sets (rpc r) (6 + k * 10) (by rw [List.length_append, List.length_map, hl, h.le, rpc_len]; omega)
    have e : (es.map (Value.int .i64) ++ rws rpc rs).take (6 + k * 10) ++ rpc r ++ (es.map (Value.int .i64) ++ rws rpc rs).drop (6 + k * 10 + (rpc r).length) = es.map (Value.int .i64) ++ rws rpc (rs.set k r) := by
      rw [← rws_put rpc 10 rs (fun x _ => rpc_len x) k hk r, rpc_len]
      have l6 : (es.map (Value.int .i64)).length = 6 := by rw [List.length_map, h.le]
      rw [List.take_append, List.drop_append, l6, List.take_of_length_le (by omega), List.drop_of_length_le (by omega), List.nil_append]
      rw [show 6 + k * 10 - 6 = k * 10 by omega, show 6 + k * 10 + 10 - 6 = k * 10 + 10 by omega]
      simp only [List.append_assoc]
    rw [e] at this
    exact this
  · rcases List.mem_or_eq_of_mem_set hx with hx | rfl
    · obtain ⟨a, b, c⟩ := h.ok x hx
      exact ⟨a.store b, b, c⟩
    · exact ⟨ho.store hf, hf, hn⟩
theorem LgAt.other {w : World} {g b o : Nat} {vs : List Value} {es : List Int} {rs : List Rp} (h : LgAt w g es rs) (w0 : World) (hw : LgAt w0 g es rs) (hb : Below w0.heap.size w0 w) (hle : w0.heap.size ≤ b) : LgAt (w.setCells b o vs) g es rs :=
  hw.later (below_sets hle _ _ hb)
def relRp (B : Nat) (q : Rq) : Rel where
  rel v w := ∃ r, v = .agg (rpc r).toArray ∧ okRp w r ∧ rab r = q ∧ (∀ ad, r.A = some ad → B ≤ ad.block) ∧ r.n ≤ 65536
  mono := fun v w w' h ⟨r, e, ho, hq, hf, hn⟩ => ⟨r, e, ho.later h, hq, hf, hn⟩
  real := fun w ⟨_, e, _⟩ => by cases e
/-- A store of a whole struct into a new block: what comes of it. -/
theorem new_rp (B : Nat) (w0 w : World) (cr : List Value) (hc : cr.length = 10) (hb : Below B w0 w) (hB : B ≤ w.heap.size) :
    (w.alloc (.cells #[.int .i64 0, .int .i64 0, .int .i64 0, .int .i64 0, .int .i64 0, .int .i64 0, .int .i64 0, .int .i64 0, .slice none 0 0, .int .u32 0] 26)).there w.heap.size 0 10 ∧ Blk ((w.alloc (.cells #[.int .i64 0, .int .i64 0, .int .i64 0, .int .i64 0, .int .i64 0, .int .i64 0, .int .i64 0, .int .i64 0, .slice none 0 0, .int .u32 0] 26)).setCells w.heap.size 0 cr) w.heap.size cr ∧ Below w.heap.size w ((w.alloc (.cells #[.int .i64 0, .int .i64 0, .int .i64 0, .int .i64 0, .int .i64 0, .int .i64 0, .int .i64 0, .int .i64 0, .slice none 0 0, .int .u32 0] 26)).setCells w.heap.size 0 cr) := by
  have h1 := Blk.new w [.int .i64 0, .int .i64 0, .int .i64 0, .int .i64 0, .int .i64 0, .int .i64 0, .int .i64 0, .int .i64 0, .slice none 0 0, .int .u32 0] 26
  have h2 := h1.sets cr 0 (by rw [hc]; simp)
  rw [List.take_zero, List.nil_append, List.drop_eq_nil_of_le (by rw [hc]; simp), List.append_nil] at h2
  exact ⟨h1.there 0 10 (by simp), h2, below_sets (Nat.le_refl _) _ _ (below_a1 _ _)⟩

set_option maxRecDepth 100000 in
set_option maxHeartbeats 3200000 in
theorem lgnote_no (g : Nat) (es : List Int) (rs : List Rp) (r : Rp) (w : World) (h : LgAt w g es rs) (hr : okRp w r) (hn : r.n ≤ 65536) (hne : ¬ (acod rs r.dv r.rq = 0 ∧ rok r)) :
    Calls Try.prog 25 #[.pointer (some ⟨g, 0, none⟩), .agg (rpc r).toArray] w fun e w' => e = .returned (.bool false) ∧ Below w.heap.size w w' := by
  have hu := Try.underlying26
  have HA := Lib.hid (lask_any g es rs r.dv r.rq _ (h.later (below_a1 w (.cells (rpc r).toArray 26))))
  have HB0 := Lib.hid (below_a1 w (.cells (rpc r).toArray 26))
  have HCK := Lib.hid (fun W (hW : Below w.heap.size w W) => lcheck30_any r W (hr.later hW) hn)
  have HLG := Lib.hid (fun W (hW : Below w.heap.size w W) => h.later hW)
  by_cases h0 : acod rs r.dv r.rq = 0
  · have hrk : ¬ rok r := fun x => hne ⟨h0, x⟩
    rw [decide_eq_false hrk] at HCK
    rw [h0] at HA
    clear h0 hrk hne h
    generalize ares rs r.dv r.rq = qq at HA
    obtain ⟨kd, dv, rq, cd, id, vr, sq, ep, A, n, c, f, ms⟩ := r
    dsimp only [rpc] at *
    go_enter Try.func25, Try.ntmps25
    go_wp2_with fail
    refine HA.out.mono ?_
    rintro e w2 ⟨rr, rfl, hok, hab, hfar, hn2, hb2⟩
    have hb2' := HB0.out.trans (hb2.mono HB0.out.size)
    obtain ⟨TH, HN, HBN⟩ := new_rp w.heap.size w w2 (rpc rr) (rpc_len rr) hb2' hb2'.size
    have HB3 := Lib.hid (hb2'.trans (HBN.mono hb2'.size))
    have KB : Blk ((w2.alloc (.cells #[.int .i64 0, .int .i64 0, .int .i64 0, .int .i64 0, .int .i64 0, .int .i64 0, .int .i64 0, .int .i64 0, .slice none 0 0, .int .u32 0] 26)).setCells w2.heap.size 0 (rpc rr)) w.heap.size [.int .i64 kd, .int .i64 dv, .int .i64 rq, .int .i64 cd, .int .i64 id, .int .i64 vr, .int .i64 sq, .int .i64 ep, .slice A n c, .int .u32 (ms.toNat : Int)] := ((Blk.new w [.int .i64 kd, .int .i64 dv, .int .i64 rq, .int .i64 cd, .int .i64 id, .int .i64 vr, .int .i64 sq, .int .i64 ep, .slice A n c, .int .u32 (ms.toNat : Int)] 26).later hb2).later HBN
    have hone := all_oneCell_toArray (rpc_one rr)
    have HL := Lib.hid (rpc_len rr)
    generalize rpc rr = cr at *
    obtain ⟨W3, hW3⟩ : ∃ W3, W3 = (w2.alloc (.cells #[.int .i64 0, .int .i64 0, .int .i64 0, .int .i64 0, .int .i64 0, .int .i64 0, .int .i64 0, .int .i64 0, .slice none 0 0, .int .u32 0] 26)).setCells w2.heap.size 0 cr := ⟨_, rfl⟩
    rw [← hW3] at HB3 KB
    have HW3 := Lib.hid hW3
    have HKB := Lib.hid KB
    clear hok hab hfar hn2 hb2 hb2' HN HBN hW3
    go_wp2_with (first
      | (refine wpList_store_mid rfl 26 (.tmp 5) (.tmp 14) rfl w2.heap.size 0 cr.toArray rfl rfl (by simpa [HL.out] using TH) (by simpa [HL.out] using info_rp) hone ?_
         rw [← HW3.out]
         have RG := HKB.out.range 0 [.int .i64 kd, .int .i64 dv, .int .i64 rq, .int .i64 cd, .int .i64 id, .int .i64 vr, .int .i64 sq, .int .i64 ep, .slice A n c, .int .u32 (ms.toNat : Int)] rfl)
      | (refine wpList_load_g (by rfl) 26 (.tmp 3) rfl w.heap.size 0 rfl [.int .i64 kd, .int .i64 dv, .int .i64 rq, .int .i64 cd, .int .i64 id, .int .i64 vr, .int .i64 sq, .int .i64 ep, .slice A n c, .int .u32 (ms.toNat : Int)] _ RG hu rfl info_rp ?_
         simp only [Act.put, List.setIfInBounds_toArray, List.set_cons_zero, List.set_cons_succ])
      | fail)
    refine (HCK.out _ HB3.out).mono ?_
    rintro e w4 ⟨rfl, hb4⟩
    have HB4 := Lib.hid (HB3.out.trans (hb4.mono HB3.out.size))
    clear hb4
    go_wp2_with fail
    go_ret
    exact ⟨rfl, HB4.out⟩
  · have b0 : (acod rs r.dv r.rq != 0) = true := by simpa using h0
    clear hne h0 h
    generalize acod rs r.dv r.rq = ac at HA b0
    generalize ares rs r.dv r.rq = qq at HA
    obtain ⟨kd, dv, rq, cd, id, vr, sq, ep, A, n, c, f, ms⟩ := r
    dsimp only [rpc] at *
    go_enter Try.func25, Try.ntmps25
    go_wp2_with fail
    refine HA.out.mono ?_
    rintro e w2 ⟨rr, rfl, hok, hab, hfar, hn2, hb2⟩
    have hb2' := HB0.out.trans (hb2.mono HB0.out.size)
    obtain ⟨TH, HN, HBN⟩ := new_rp w.heap.size w w2 (rpc rr) (rpc_len rr) hb2' hb2'.size
    have HB3 := Lib.hid (hb2'.trans (HBN.mono hb2'.size))
    have KB : Blk ((w2.alloc (.cells #[.int .i64 0, .int .i64 0, .int .i64 0, .int .i64 0, .int .i64 0, .int .i64 0, .int .i64 0, .int .i64 0, .slice none 0 0, .int .u32 0] 26)).setCells w2.heap.size 0 (rpc rr)) w.heap.size [.int .i64 kd, .int .i64 dv, .int .i64 rq, .int .i64 cd, .int .i64 id, .int .i64 vr, .int .i64 sq, .int .i64 ep, .slice A n c, .int .u32 (ms.toNat : Int)] := ((Blk.new w [.int .i64 kd, .int .i64 dv, .int .i64 rq, .int .i64 cd, .int .i64 id, .int .i64 vr, .int .i64 sq, .int .i64 ep, .slice A n c, .int .u32 (ms.toNat : Int)] 26).later hb2).later HBN
    have hone := all_oneCell_toArray (rpc_one rr)
    have HL := Lib.hid (rpc_len rr)
    generalize rpc rr = cr at *
    obtain ⟨W3, hW3⟩ : ∃ W3, W3 = (w2.alloc (.cells #[.int .i64 0, .int .i64 0, .int .i64 0, .int .i64 0, .int .i64 0, .int .i64 0, .int .i64 0, .int .i64 0, .slice none 0 0, .int .u32 0] 26)).setCells w2.heap.size 0 cr := ⟨_, rfl⟩
    rw [← hW3] at HB3 KB
    have HW3 := Lib.hid hW3
    have HKB := Lib.hid KB
    clear hok hab hfar hn2 hb2 hb2' HN HBN hW3
    go_wp2_with (first
      | (refine wpList_store_mid rfl 26 (.tmp 5) (.tmp 14) rfl w2.heap.size 0 cr.toArray rfl rfl (by simpa [HL.out] using TH) (by simpa [HL.out] using info_rp) hone ?_
         rw [← HW3.out]
         have RG := HKB.out.range 0 [.int .i64 kd, .int .i64 dv, .int .i64 rq, .int .i64 cd, .int .i64 id, .int .i64 vr, .int .i64 sq, .int .i64 ep, .slice A n c, .int .u32 (ms.toNat : Int)] rfl)
      | (refine wpList_load_g (by rfl) 26 (.tmp 3) rfl w.heap.size 0 rfl [.int .i64 kd, .int .i64 dv, .int .i64 rq, .int .i64 cd, .int .i64 id, .int .i64 vr, .int .i64 sq, .int .i64 ep, .slice A n c, .int .u32 (ms.toNat : Int)] _ RG hu rfl info_rp ?_
         simp only [Act.put, List.setIfInBounds_toArray, List.set_cons_zero, List.set_cons_succ])
      | fail)
    go_ret
    exact ⟨rfl, HB3.out⟩

set_option maxRecDepth 100000 in
set_option maxHeartbeats 3200000 in
theorem lgnote_yes (g : Nat) (es : List Int) (rs : List Rp) (r : Rp) (w : World) (h : LgAt w g es rs) (hr : okRp w r) (hn : r.n ≤ 65536) (h0 : acod rs r.dv r.rq = 0) (hrk : rok r) :
    Calls Try.prog 25 #[.pointer (some ⟨g, 0, none⟩), .agg (rpc r).toArray] w fun e w' => e = .returned (.bool true) ∧ (∃ r', rab r' = rab r ∧ LgAt w' g es (rs.set r.dv.toNat r') ∧ ∀ ad, r'.A = some ad → w.heap.size ≤ ad.block) ∧ w.grownBy w' (some g) := by
  have hu := Try.underlying26
  have HA := Lib.hid (lask_any g es rs r.dv r.rq _ (h.later (below_a1 w (.cells (rpc r).toArray 26))))
  have HB0 := Lib.hid (below_a1 w (.cells (rpc r).toArray 26))
  have HCK := Lib.hid (fun W (hW : Below w.heap.size w W) => lcheck30_any r W (hr.later hW) hn)
  have HLG := Lib.hid (fun W (hW : Below w.heap.size w W) => h.later hW)
  rw [decide_eq_true hrk] at HCK
  rw [h0] at HA
  have hd := hrk.2.1
  have hgl := h.lt
  obtain ⟨k, hk⟩ : ∃ k : Nat, r.dv = (k : Int) := ⟨r.dv.toNat, by omega⟩
  have hk6 : k < 6 := by omega
  have hkl : k < rs.length := by rw [h.lr]; exact hk6
  have HCP := Lib.hid (fun W (hW : Below w.heap.size w W) => copied_any r W (hr.later hW) hn)
  have HPUT : Hid (∀ W, Below w.heap.size w W → ∀ r', okRp W r' → farRp g r' → r'.n ≤ 65536 → LgAt (W.setCells g (6 + k * 10) (rpc r')) g es (rs.set k r')) := Lib.hid (fun W hW r' a b c => (h.later hW).put k hkl r' a b c)
  have HTH : Hid (∀ W, Below w.heap.size w W → W.there g (6 + k * 10) 10) := Lib.hid (fun W hW => (h.later hW).there k hkl)
  rw [hk] at HA ⊢
  rw [show ((k : Int)).toNat = k by simp]
  clear h0 hrk hd h
  generalize ares rs k r.rq = qq at HA
  obtain ⟨q0, hq0⟩ : ∃ q0, q0 = rab r := ⟨_, rfl⟩
  rw [← hq0] at HCP ⊢
  obtain ⟨kd, dv, rq, cd, id, vr, sq, ep, A, n, c, f, ms⟩ := r
  dsimp only [rpc] at HA HB0 HCK HCP hr hn ⊢
  subst hk
  have hnk : ¬ (6 : Int) ≤ (k : Int) := by omega
  have hnk2 : ¬ 6 ≤ k := by omega
  clear hq0
  go_enter Try.func25, Try.ntmps25
  go_wp2_with fail
  refine HA.out.mono ?_
  rintro e w2 ⟨rr, rfl, hok, hab, hfar, hn2, hb2⟩
  have hb2' := HB0.out.trans (hb2.mono HB0.out.size)
  obtain ⟨TH, HN, HBN⟩ := new_rp w.heap.size w w2 (rpc rr) (rpc_len rr) hb2' hb2'.size
  have HB3 := Lib.hid (hb2'.trans (HBN.mono hb2'.size))
  have KB : Blk ((w2.alloc (.cells #[.int .i64 0, .int .i64 0, .int .i64 0, .int .i64 0, .int .i64 0, .int .i64 0, .int .i64 0, .int .i64 0, .slice none 0 0, .int .u32 0] 26)).setCells w2.heap.size 0 (rpc rr)) w.heap.size [.int .i64 kd, .int .i64 (k : Int), .int .i64 rq, .int .i64 cd, .int .i64 id, .int .i64 vr, .int .i64 sq, .int .i64 ep, .slice A n c, .int .u32 (ms.toNat : Int)] := ((Blk.new w [.int .i64 kd, .int .i64 (k : Int), .int .i64 rq, .int .i64 cd, .int .i64 id, .int .i64 vr, .int .i64 sq, .int .i64 ep, .slice A n c, .int .u32 (ms.toNat : Int)] 26).later hb2).later HBN
  have hone := all_oneCell_toArray (rpc_one rr)
  have HL := Lib.hid (rpc_len rr)
  generalize rpc rr = cr at *
  obtain ⟨W3, hW3⟩ : ∃ W3, W3 = (w2.alloc (.cells #[.int .i64 0, .int .i64 0, .int .i64 0, .int .i64 0, .int .i64 0, .int .i64 0, .int .i64 0, .int .i64 0, .slice none 0 0, .int .u32 0] 26)).setCells w2.heap.size 0 cr := ⟨_, rfl⟩
  rw [← hW3] at HB3 KB
  have HW3 := Lib.hid hW3
  have HKB := Lib.hid KB
  clear hok hab hfar hn2 hb2 hb2' HN HBN hW3
  go_wp2_with (first
    | (refine wpList_store_mid rfl 26 (.tmp 5) (.tmp 14) rfl w2.heap.size 0 cr.toArray rfl rfl (by simpa [HL.out] using TH) (by simpa [HL.out] using info_rp) hone ?_
       rw [← HW3.out]
       have RG := HKB.out.range 0 [.int .i64 kd, .int .i64 (k : Int), .int .i64 rq, .int .i64 cd, .int .i64 id, .int .i64 vr, .int .i64 sq, .int .i64 ep, .slice A n c, .int .u32 (ms.toNat : Int)] rfl)
    | (refine wpList_load_g (by rfl) 26 (.tmp 3) rfl w.heap.size 0 rfl [.int .i64 kd, .int .i64 (k : Int), .int .i64 rq, .int .i64 cd, .int .i64 id, .int .i64 vr, .int .i64 sq, .int .i64 ep, .slice A n c, .int .u32 (ms.toNat : Int)] _ RG hu rfl info_rp ?_
       simp only [Act.put, List.setIfInBounds_toArray, List.set_cons_zero, List.set_cons_succ])
    | fail)
  refine (HCK.out _ HB3.out).mono ?_
  rintro e w4 ⟨rfl, hb4⟩
  have HB4 := Lib.hid (HB3.out.trans (hb4.mono HB3.out.size))
  have HK4 := Lib.hid (HKB.out.later hb4)
  have ca : ∀ kk : LW w4, kk.val.cell? ⟨w.heap.size, 1, none⟩ = some (.int .i64 (k : Int)) := fun kk => (HK4.out.later kk.le).cell (j := 1) rfl
  have HBW : Hid (∀ W, Le w4 W → Below w.heap.size w W) := Lib.hid (fun W hl => HB4.out.trans (Below.mono hl HB4.out.size))
  clear hb4 HKB HCK HLG HA HB3
  go_wp2_with fail
  refine wp_region_tail [(27, relRp w4.heap.size q0)] 31 8 (by kernel_rfl) (by kernel_rfl) (by kernel_rfl) (by rfl) ?_
  simp only [List.take_succ_cons, List.take_zero, List.drop_succ_cons, List.drop_zero]
  iterate 3 (refine wpG_quiet (by rfl) (by rfl) (by rfl) (fun K hK => ?_); go_big_quiet_op; refine hK _ ?_; clear hK K)
  refine wpG_run (by rfl) (by rfl) (.agg #[.int .i64 kd, .int .i64 (k : Int), .int .i64 rq, .int .i64 cd, .int .i64 id, .int .i64 vr, .int .i64 sq, .int .i64 ep, .slice A n c, .int .u32 (ms.toNat : Int)]) (fun wx hl => exec_load 26 (.tmp 3) rfl w.heap.size 0 rfl [.int .i64 kd, .int .i64 (k : Int), .int .i64 rq, .int .i64 cd, .int .i64 id, .int .i64 vr, .int .i64 sq, .int .i64 ep, .slice A n c, .int .u32 (ms.toNat : Int)] _ ((HK4.out.later hl.1).range 0 _ rfl) hu rfl info_rp) ?_
  simp only [Act.put, List.setIfInBounds_toArray, List.set_cons_zero, List.set_cons_succ]
  refine wpG_calls (relRp w4.heap.size q0) (by rfl) (by rfl) 57 #[.agg #[.int .i64 kd, .int .i64 (k : Int), .int .i64 rq, .int .i64 cd, .int .i64 id, .int .i64 vr, .int .i64 sq, .int .i64 ep, .slice A n c, .int .u32 (ms.toNat : Int)]] (by intro _; simp [go_sem]) (fun wx hl => (HCP.out wx (HBW.out wx hl.1)).mono ?_) ?_
  · rintro e w5 ⟨r5, rfl, a1, a2, a3, a4, a5⟩
    exact ⟨_, rfl, a5, r5, rfl, a1, a2, (fun ad e => Nat.le_trans hl.1.size (a3 ad e)), a4⟩
  rintro _ ⟨_, _, _, ⟨r5, rfl, _⟩⟩
  simp only [Act.put, List.setIfInBounds_toArray, List.set_cons_zero, List.set_cons_succ]
  iterate 3 (refine wpG_quiet (by rfl) (by rfl) (by rfl) (fun K hK => ?_); go_big_quiet_op; refine hK _ ?_; clear hK K)
  refine wpG_nil fun wx hl hS => ?_
  obtain ⟨_, r6, e6, ho, hab, hfar, hn6⟩ := hS
  have e7 : rpc r5 = rpc r6 := by
    have := e6
    simpa using this
  have hbx := HBW.out wx hl
  have hgf : farRp g r6 := fun ad e _ => by
    have h1 := hfar ad e
    have h2 := HB4.out.size
    omega
  have HF := Lib.hid (HPUT.out wx hbx r6 ho hgf hn6)
  have HG : Hid (w.grownBy (wx.setCells g (6 + k * 10) (rpc r6)) (some g)) := Lib.hid (by
    have h2 := grown_sets g (rpc r6) (6 + k * 10) wx
    exact ⟨h2.os.trans hbx.os, h2.tape.trans hbx.tape, h2.output.trans hbx.output, Nat.le_trans hbx.size h2.size, fun j hj hne => (h2.block j (Nat.lt_of_lt_of_le hj hbx.size) hne).trans (hbx.block j hj)⟩)
  have TH5 := HTH.out wx hbx
  have hone5 := all_oneCell_toArray (rpc_one r5)
  have HL5 := Lib.hid (rpc_len r5)
  rw [← e7] at HF HG
  have HAB := Lib.hid hab
  have HFAR := Lib.hid (fun ad (e : r6.A = some ad) => Nat.le_trans HB4.out.size (hfar ad e))
  clear e6 ho hfar hn6 hbx hgf hl ca HBW HPUT HTH HK4 HCP
  generalize rpc r5 = c5 at *
  refine wpList_store_mid rfl 26 (.tmp 30) (.tmp 27) rfl g (6 + k * 10) c5.toArray (by rfl) (by rfl) (by simpa [HL5.out] using TH5) (by simpa [HL5.out] using info_rp) hone5 ?_
  clear e7 TH5 hone5 HL5
  go_wp2_with fail
  go_ret
  exact ⟨rfl, ⟨r6, HAB.out, HF.out, HFAR.out⟩, HG.out⟩
end Go.Proofs.Ytadmaalhhigbeaa
