/- Ledger: Ask. -/
import Derived.Test.YtadmaalhhigbeaaW19
import Derived.Test.YtadmaalhhigbeaaW3
import Derived.Test.YtadmaalhhigbeaaW8
import Derived.Test.YtadmaalhhigbeaaW11
import Derived.Test.YtadmaalhhigbeaaW2
import Derived.Test.YtadmaalhhigbeaaW12
import Derived.Test.YtadmaalhhigbeaaW17
import Derived.Test.YtadmaalhhigbeaaW21
import Derived.Test.YtadmaalhhigbeaaW13
import Derived.Test.YtadmaalhhigbeaaW14
import Derived.Test.YtadmaalhhigbeaaW15
namespace Go.Proofs.Ytadmaalhhigbeaa
set_option linter.unusedVariables false
set_option linter.unusedSimpArgs false
open Go Go.RowKit ValM

theorem results_blk_tmp {P : Program} {fn : Func} {p q : Tmp} {ty : TypeId} (h : fn.results = #[.cell q ty, .tmp p]) (tmps : Array Value) (w : World) (g : Nat) (cs : List Value) (d : TypeDesc) (v : Value) (hp : tmps.getD p undef = v)
    (hq : tmps.getD q undef = .pointer (some ⟨g, 0, none⟩)) (hB : Blk w g cs)
    (hu : P.underlying ty = some d) (hd : (match d with | .struct _ | .array _ _ => true | _ => false) = true) (hi : (P.info? ty).map (·.size) = some cs.length) :
    (results fn tmps).run P w = .ok (.tuple #[.agg cs.toArray, v]) w := by
  obtain ⟨t, hB⟩ := hB
  subst hp
  have hq' : tmps[q]?.getD undef = .pointer (some ⟨g, 0, none⟩) := by simpa using hq
  simp [results, h, hq', asAddr, run_loadVar_row w g t ty cs.toArray (0, 0) d hB hu hd (by simpa using hi)]
/-- The code of an answer to a request. -/
def acod (rs : List Rp) (dv rq : Int) : Int := if ¬ ((0 ≤ dv ∧ dv < 6) ∧ (1 ≤ rq ∧ rq ≤ 1099511627776)) then 1 else if rq < (rs.getD dv.toNat zrp).rq then 13 else if rq = (rs.getD dv.toNat zrp).rq then 7 else 0
def ares (rs : List Rp) (dv rq : Int) : Rq := if acod rs dv rq = 7 then rab (rs.getD dv.toNat zrp) else zrq
def GivesAns (w : World) (q : Rq) (code : Int) (e : Ending) (w' : World) : Prop := ∃ r, e = .returned (.tuple #[.agg (rpc r).toArray, .int .i64 code]) ∧ okRp w' r ∧ rab r = q ∧ (∀ ad, r.A = some ad → w.heap.size ≤ ad.block) ∧ r.n ≤ 65536 ∧ Below w.heap.size w w'
theorem acod_arg {rs : List Rp} {dv rq : Int} (h : ¬ ((0 ≤ dv ∧ dv < 6) ∧ (1 ≤ rq ∧ rq ≤ 1099511627776))) : acod rs dv rq = 1 ∧ ares rs dv rq = zrq := by
  have e : acod rs dv rq = 1 := if_pos h
  exact ⟨e, by unfold ares; rw [e]; rfl⟩
theorem acod_at {rs : List Rp} {k : Nat} {rq : Int} (hk : k < rs.length) (h6 : k < 6) (h : 1 ≤ rq ∧ rq ≤ 1099511627776) :
    (rq < rs[k].rq → acod rs k rq = 13 ∧ ares rs k rq = zrq) ∧ (rq = rs[k].rq → acod rs k rq = 7 ∧ ares rs k rq = rab rs[k]) ∧ (rs[k].rq < rq → acod rs k rq = 0 ∧ ares rs k rq = zrq) := by
  have hg : rs.getD ((k : Int)).toNat zrp = rs[k] := by simp [hk]
  have hn : ¬ ¬ ((0 ≤ (k : Int) ∧ (k : Int) < 6) ∧ (1 ≤ rq ∧ rq ≤ 1099511627776)) := fun x => x ⟨by omega, h⟩
  refine ⟨fun h1 => ?_, fun h1 => ?_, fun h1 => ?_⟩
  · have e : acod rs k rq = 13 := by unfold acod; rw [if_neg hn, hg, if_pos h1]
    exact ⟨e, by unfold ares; rw [e]; rfl⟩
  · have e : acod rs k rq = 7 := by unfold acod; rw [if_neg hn, hg, if_neg (by omega), if_pos h1]
    exact ⟨e, by unfold ares; rw [if_pos e, hg]⟩
  · have e : acod rs k rq = 0 := by unfold acod; rw [if_neg hn, hg, if_neg (by omega), if_neg (by omega)]
    exact ⟨e, by unfold ares; rw [e]; rfl⟩
theorem zero_ans {w w' : World} (hb : Below w.heap.size w w') (code : Int) : GivesAns w zrq code (.returned (.tuple #[.agg #[.int .i64 0, .int .i64 0, .int .i64 0, .int .i64 0, .int .i64 0, .int .i64 0, .int .i64 0, .int .i64 0, .slice none 0 0, .int .u32 0], .int .i64 code])) w' :=
  ⟨zrp, rfl, okRp.zero _, rfl, (fun ad e => by cases e), by simp [zrp], hb⟩

set_option maxRecDepth 100000 in
set_option maxHeartbeats 3200000 in
theorem lask_any (g : Nat) (es : List Int) (rs : List Rp) (dv rq : Int) (w : World) (h : LgAt w g es rs) :
    Calls Try.prog 22 #[.pointer (some ⟨g, 0, none⟩), .int .i64 dv, .int .i64 rq] w (GivesAns w (ares rs dv rq) (acod rs dv rq)) := by
  have hu := Try.underlying26
  have HB0 := Lib.hid (below_a1 w (.cells #[.int .i64 0, .int .i64 0, .int .i64 0, .int .i64 0, .int .i64 0, .int .i64 0, .int .i64 0, .int .i64 0, .slice none 0 0, .int .u32 0] 26))
  have HK : Hid (Blk (w.alloc (.cells #[.int .i64 0, .int .i64 0, .int .i64 0, .int .i64 0, .int .i64 0, .int .i64 0, .int .i64 0, .int .i64 0, .slice none 0 0, .int .u32 0] 26)) w.heap.size [.int .i64 0, .int .i64 0, .int .i64 0, .int .i64 0, .int .i64 0, .int .i64 0, .int .i64 0, .int .i64 0, .slice none 0 0, .int .u32 0]) := Lib.hid (Blk.new w [.int .i64 0, .int .i64 0, .int .i64 0, .int .i64 0, .int .i64 0, .int .i64 0, .int .i64 0, .int .i64 0, .slice none 0 0, .int .u32 0] 26)
  by_cases h1 : 0 ≤ dv ∧ dv < 6
  · have HD := Lib.hid (fun W => lgdev_any dv W)
    rw [decide_eq_true h1] at HD
    by_cases h2 : 1 ≤ rq ∧ rq ≤ 1099511627776
    · have HA := Lib.hid (fun W => lgabove_any rq W)
      rw [decide_eq_true h2] at HA
      obtain ⟨k, rfl⟩ : ∃ k : Nat, dv = (k : Int) := ⟨dv.toNat, by omega⟩
      have h6 : k < 6 := by omega
      have hk : k < rs.length := by rw [h.lr]; exact h6
      obtain ⟨a1, a2, a3⟩ := acod_at hk h6 h2
      have hl := h.later HB0.out
      have kq := hl.cell k hk 2 _ rfl
      have RG := hl.range k hk
      have HCP := Lib.hid (fun W (hW : Below w.heap.size w W) => copied_any rs[k] W (((h.ok _ (List.getElem_mem hk)).1).later hW) (h.ok _ (List.getElem_mem hk)).2.2)
      have hnk : ¬ (6 : Int) ≤ (k : Int) := by omega
      have hnk2 : ¬ 6 ≤ k := by omega
      by_cases hlt : rq < rs[k].rq
      · obtain ⟨e1, e2⟩ := a1 hlt
        rw [e1, e2]
        have d1 : decide (rq < rs[k].rq) = true := decide_eq_true hlt
        clear a1 a2 a3 e1 e2 hlt h2 h1 HCP RG
        generalize rs[k].rq = q at *
        clear h hl
        go_enter Try.func22, Try.ntmps22
        go_wp2_with fail
        refine (HD.out _).mono ?_
        rintro e w2 ⟨rfl, rfl⟩
        go_wp2_with fail
        refine (HA.out _).mono ?_
        rintro e w2 ⟨rfl, rfl⟩
        go_wp2_with fail
        exact bodyPost_ret (v := .tuple #[.agg #[.int .i64 0, .int .i64 0, .int .i64 0, .int .i64 0, .int .i64 0, .int .i64 0, .int .i64 0, .int .i64 0, .slice none 0 0, .int .u32 0], .int .i64 13]) (results_blk_tmp (p := 7) (q := 6) rfl _ _ w.heap.size [.int .i64 0, .int .i64 0, .int .i64 0, .int .i64 0, .int .i64 0, .int .i64 0, .int .i64 0, .int .i64 0, .slice none 0 0, .int .u32 0] _ _ rfl rfl (HK.out) hu rfl info_rp) rfl (zero_ans (HB0.out) 13)
      · have d1 : decide (rq < rs[k].rq) = false := decide_eq_false hlt
        by_cases heq : rq = rs[k].rq
        · obtain ⟨e1, e2⟩ := a2 heq
          rw [e1, e2]
          have d2 : (rq == rs[k].rq) = true := by simp [heq]
          clear a1 a2 a3 e1 e2 hlt h2 h1 heq
          have HQ : Hid (∀ W, Below w.heap.size w W → Calls Try.prog 57 #[.agg (rpc rs[k]).toArray] W (GivesRp W (rab rs[k]))) := HCP
          generalize hrk : rs[k] = rk at *
          clear h hl HCP hrk
          generalize rab rk = qq at HQ ⊢
          go_enter Try.func22, Try.ntmps22
          go_wp2_with fail
          refine (HD.out _).mono ?_
          rintro e w2 ⟨rfl, rfl⟩
          go_wp2_with fail
          refine (HA.out _).mono ?_
          rintro e w2 ⟨rfl, rfl⟩
          go_wp2_with (first
            | (refine wpList_load_mid rfl 26 (.tmp 47) rfl g (6 + k * 10) rfl (rpc rk) _ RG hu rfl info_rp ?_
               simp only [Act.put, List.setIfInBounds_toArray, List.set_cons_zero, List.set_cons_succ])
            | fail)
          refine (HQ.out _ HB0.out).mono ?_
          rintro e w5 ⟨r, rfl, hok, hab, hfar, hn, hb5⟩
          have B6 := HK.out.later hb5
          have TH := B6.there 0 10 (by simp)
          have hne : farRp w.heap.size r := fun ad e _ => by have := hfar ad e; simp at this; omega
          have FIN := B6.sets (rpc r) 0 (by simp [rpc])
          have HFIN : Hid (GivesAns w qq 7 (.returned (.tuple #[.agg (rpc r).toArray, .int .i64 7])) (w5.setCells w.heap.size 0 (rpc r))) := Lib.hid
            ⟨r, rfl, okRp.store hok hne, hab, (fun ad e => by have := hfar ad e; simp at this; omega), hn, below_sets (Nat.le_refl _) _ _ (HB0.out.trans (hb5.mono HB0.out.size))⟩
          have hone := all_oneCell_toArray (rpc_one r)
          have HL := Lib.hid (rpc_len r)
          have FIN2 : Blk (w5.setCells w.heap.size 0 (rpc r)) w.heap.size (rpc r) := by
            have h3 := FIN
            rw [List.take_zero, List.nil_append, List.drop_eq_nil_of_le (by simp [rpc]), List.append_nil] at h3
            exact h3
          clear hok hab hfar hn hb5 B6 hne FIN
          generalize rpc r = cr at *
          go_wp2_with (first
            | (refine wpList_store_mid rfl 26 (.tmp 6) (.tmp 49) rfl w.heap.size 0 cr.toArray rfl rfl (by simpa [HL.out] using TH) (by simpa [HL.out] using info_rp) hone ?_)
            | fail)
          exact bodyPost_ret (v := .tuple #[.agg cr.toArray, .int .i64 7]) (results_blk_tmp (p := 7) (q := 6) rfl _ _ w.heap.size cr _ _ rfl rfl FIN2 hu rfl (by rw [HL.out]; exact info_rp)) rfl HFIN.out
        · obtain ⟨e1, e2⟩ := a3 (by omega)
          rw [e1, e2]
          have d2 : (rq == rs[k].rq) = false := by simp [heq]
          clear a1 a2 a3 e1 e2 hlt h2 h1 heq HCP RG
          generalize rs[k].rq = q at *
          clear h hl
          go_enter Try.func22, Try.ntmps22
          go_wp2_with fail
          refine (HD.out _).mono ?_
          rintro e w2 ⟨rfl, rfl⟩
          go_wp2_with fail
          refine (HA.out _).mono ?_
          rintro e w2 ⟨rfl, rfl⟩
          go_wp2_with fail
          exact bodyPost_ret (v := .tuple #[.agg #[.int .i64 0, .int .i64 0, .int .i64 0, .int .i64 0, .int .i64 0, .int .i64 0, .int .i64 0, .int .i64 0, .slice none 0 0, .int .u32 0], .int .i64 0]) (results_blk_tmp (p := 7) (q := 6) rfl _ _ w.heap.size [.int .i64 0, .int .i64 0, .int .i64 0, .int .i64 0, .int .i64 0, .int .i64 0, .int .i64 0, .int .i64 0, .slice none 0 0, .int .u32 0] _ _ rfl rfl (HK.out) hu rfl info_rp) rfl (zero_ans (HB0.out) 0)
    · have HA := Lib.hid (fun W => lgabove_any rq W)
      rw [decide_eq_false h2] at HA
      obtain ⟨e1, e2⟩ := acod_arg (rs := rs) (dv := dv) (rq := rq) (fun x => h2 x.2)
      rw [e1, e2]
      clear h h1 h2 e1 e2
      go_enter Try.func22, Try.ntmps22
      go_wp2_with fail
      refine (HD.out _).mono ?_
      rintro e w2 ⟨rfl, rfl⟩
      go_wp2_with fail
      refine (HA.out _).mono ?_
      rintro e w2 ⟨rfl, rfl⟩
      go_wp2_with fail
      exact bodyPost_ret (v := .tuple #[.agg #[.int .i64 0, .int .i64 0, .int .i64 0, .int .i64 0, .int .i64 0, .int .i64 0, .int .i64 0, .int .i64 0, .slice none 0 0, .int .u32 0], .int .i64 1]) (results_blk_tmp (p := 7) (q := 6) rfl _ _ w.heap.size [.int .i64 0, .int .i64 0, .int .i64 0, .int .i64 0, .int .i64 0, .int .i64 0, .int .i64 0, .int .i64 0, .slice none 0 0, .int .u32 0] _ _ rfl rfl (HK.out) hu rfl info_rp) rfl (zero_ans (HB0.out) 1)
  · have HD := Lib.hid (fun W => lgdev_any dv W)
    rw [decide_eq_false h1] at HD
    obtain ⟨e1, e2⟩ := acod_arg (rs := rs) (dv := dv) (rq := rq) (fun x => h1 x.1)
    rw [e1, e2]
    clear h h1 e1 e2
    go_enter Try.func22, Try.ntmps22
    go_wp2_with fail
    refine (HD.out _).mono ?_
    rintro e w2 ⟨rfl, rfl⟩
    go_wp2_with fail
    exact bodyPost_ret (v := .tuple #[.agg #[.int .i64 0, .int .i64 0, .int .i64 0, .int .i64 0, .int .i64 0, .int .i64 0, .int .i64 0, .int .i64 0, .slice none 0 0, .int .u32 0], .int .i64 1]) (results_blk_tmp (p := 7) (q := 6) rfl _ _ w.heap.size [.int .i64 0, .int .i64 0, .int .i64 0, .int .i64 0, .int .i64 0, .int .i64 0, .int .i64 0, .int .i64 0, .slice none 0 0, .int .u32 0] _ _ rfl rfl (HK.out) hu rfl info_rp) rfl (zero_ans (HB0.out) 1)
end Go.Proofs.Ytadmaalhhigbeaa

/- Ledger: Note. -/
namespace Go.Proofs.Ytadmaalhhigbeaa
set_option linter.unusedVariables false
set_option linter.unusedSimpArgs false
open Go Go.RowKit ValM

theorem rws_put {α : Type} (f : α → List Value) (sz : Nat) (l : List α) (hf : ∀ x ∈ l, (f x).length = sz) (k : Nat) (hk : k < l.length) (x : α) : (rws f l).take (k * sz) ++ f x ++ (rws f l).drop (k * sz + sz) = rws f (l.set k x) := by
  rw [show k * sz + sz = (k + 1) * sz by rw [Nat.add_mul, Nat.one_mul], rws_take l k hf, rws_drop l (k + 1) hf, List.set_eq_take_append_cons_drop, if_pos hk, rws_append, rws_cons, List.append_assoc]
theorem LgAt.put {w : World} {g : Nat} {es : List Int} {rs : List Rp} (h : LgAt w g es rs) (k : Nat) (hk : k < rs.length) (r : Rp) (ho : okRp w r) (hf : farRp g r) (hn : r.n ≤ 65536) : LgAt (w.setCells g (6 + k * 10) (rpc r)) g es (rs.set k r) := by
  have h6 := h.lr
  have hl : (rws rpc rs).length = rs.length * 10 := rws_len _ (fun x _ => rpc_len x)
  refine ⟨?_, h.le, by rw [List.length_set]; exact h.lr, h.er, fun x hx => ?_⟩
  · have := h.blk.sets (rpc r) (6 + k * 10) (by rw [List.length_append, List.length_map, hl, h.le, rpc_len]; omega)
    have e : (es.map (Value.int .i64) ++ rws rpc rs).take (6 + k * 10) ++ rpc r ++ (es.map (Value.int .i64) ++ rws rpc rs).drop (6 + k * 10 + (rpc r).length) = es.map (Value.int .i64) ++ rws rpc (rs.set k r) := by
      rw [← rws_put rpc 10 rs (fun x _ => rpc_len x) k hk r, rpc_len]
      have l6 : (es.map (Value.int .i64)).length = 6 := by rw [List.length_map, h.le]
      rw [List.take_append, List.drop_append, l6, List.take_of_length_le (by omega), List.drop_of_length_le (by omega), List.nil_append]
      rw [show 6 + k * 10 - 6 = k * 10 by omega, show 6 + k * 10 + 10 - 6 = k * 10 + 10 by omega]
      simp only [List.append_assoc]
    rw [e] at this
    exact this
  · rcases List.mem_or_eq_of_mem_set hx with hx | rfl
    · obtain ⟨a, b, c⟩ := h.ok x hx
      exact ⟨a.store b, b, c⟩
    · exact ⟨ho.store hf, hf, hn⟩
theorem LgAt.other {w : World} {g b o : Nat} {vs : List Value} {es : List Int} {rs : List Rp} (h : LgAt w g es rs) (w0 : World) (hw : LgAt w0 g es rs) (hb : Below w0.heap.size w0 w) (hle : w0.heap.size ≤ b) : LgAt (w.setCells b o vs) g es rs :=
  hw.later (below_sets hle _ _ hb)
def relRp (B : Nat) (q : Rq) : Rel where
  rel v w := ∃ r, v = .agg (rpc r).toArray ∧ okRp w r ∧ rab r = q ∧ (∀ ad, r.A = some ad → B ≤ ad.block) ∧ r.n ≤ 65536
  mono := fun v w w' h ⟨r, e, ho, hq, hf, hn⟩ => ⟨r, e, ho.later h, hq, hf, hn⟩
  real := fun w ⟨_, e, _⟩ => by cases e
/-- A store of a whole struct into a new block: what comes of it. -/
theorem new_rp (B : Nat) (w0 w : World) (cr : List Value) (hc : cr.length = 10) (hb : Below B w0 w) (hB : B ≤ w.heap.size) :
    (w.alloc (.cells #[.int .i64 0, .int .i64 0, .int .i64 0, .int .i64 0, .int .i64 0, .int .i64 0, .int .i64 0, .int .i64 0, .slice none 0 0, .int .u32 0] 26)).there w.heap.size 0 10 ∧ Blk ((w.alloc (.cells #[.int .i64 0, .int .i64 0, .int .i64 0, .int .i64 0, .int .i64 0, .int .i64 0, .int .i64 0, .int .i64 0, .slice none 0 0, .int .u32 0] 26)).setCells w.heap.size 0 cr) w.heap.size cr ∧ Below w.heap.size w ((w.alloc (.cells #[.int .i64 0, .int .i64 0, .int .i64 0, .int .i64 0, .int .i64 0, .int .i64 0, .int .i64 0, .int .i64 0, .slice none 0 0, .int .u32 0] 26)).setCells w.heap.size 0 cr) := by
  have h1 := Blk.new w [.int .i64 0, .int .i64 0, .int .i64 0, .int .i64 0, .int .i64 0, .int .i64 0, .int .i64 0, .int .i64 0, .slice none 0 0, .int .u32 0] 26
  have h2 := h1.sets cr 0 (by rw [hc]; simp)
  rw [List.take_zero, List.nil_append, List.drop_eq_nil_of_le (by rw [hc]; simp), List.append_nil] at h2
  exact ⟨h1.there 0 10 (by simp), h2, below_sets (Nat.le_refl _) _ _ (below_a1 _ _)⟩

set_option maxRecDepth 100000 in
set_option maxHeartbeats 3200000 in
theorem lgnote_no (g : Nat) (es : List Int) (rs : List Rp) (r : Rp) (w : World) (h : LgAt w g es rs) (hr : okRp w r) (hn : r.n ≤ 65536) (hne : ¬ (acod rs r.dv r.rq = 0 ∧ rok r)) :
    Calls Try.prog 25 #[.pointer (some ⟨g, 0, none⟩), .agg (rpc r).toArray] w fun e w' => e = .returned (.bool false) ∧ Below w.heap.size w w' := by
  have hu := Try.underlying26
  have HA := Lib.hid (lask_any g es rs r.dv r.rq _ (h.later (below_a1 w (.cells (rpc r).toArray 26))))
  have HB0 := Lib.hid (below_a1 w (.cells (rpc r).toArray 26))
  have HCK := Lib.hid (fun W (hW : Below w.heap.size w W) => lcheck30_any r W (hr.later hW) hn)
  have HLG := Lib.hid (fun W (hW : Below w.heap.size w W) => h.later hW)
  by_cases h0 : acod rs r.dv r.rq = 0
  · have hrk : ¬ rok r := fun x => hne ⟨h0, x⟩
    rw [decide_eq_false hrk] at HCK
    rw [h0] at HA
    clear h0 hrk hne h
    generalize ares rs r.dv r.rq = qq at HA
    obtain ⟨kd, dv, rq, cd, id, vr, sq, ep, A, n, c, f, ms⟩ := r
    dsimp only [rpc] at *
    go_enter Try.func25, Try.ntmps25
    go_wp2_with fail
    refine HA.out.mono ?_
    rintro e w2 ⟨rr, rfl, hok, hab, hfar, hn2, hb2⟩
    have hb2' := HB0.out.trans (hb2.mono HB0.out.size)
    obtain ⟨TH, HN, HBN⟩ := new_rp w.heap.size w w2 (rpc rr) (rpc_len rr) hb2' hb2'.size
    have HB3 := Lib.hid (hb2'.trans (HBN.mono hb2'.size))
    have KB : Blk ((w2.alloc (.cells #[.int .i64 0, .int .i64 0, .int .i64 0, .int .i64 0, .int .i64 0, .int .i64 0, .int .i64 0, .int .i64 0, .slice none 0 0, .int .u32 0] 26)).setCells w2.heap.size 0 (rpc rr)) w.heap.size [.int .i64 kd, .int .i64 dv, .int .i64 rq, .int .i64 cd, .int .i64 id, .int .i64 vr, .int .i64 sq, .int .i64 ep, .slice A n c, .int .u32 (ms.toNat : Int)] := ((Blk.new w [.int .i64 kd, .int .i64 dv, .int .i64 rq, .int .i64 cd, .int .i64 id, .int .i64 vr, .int .i64 sq, .int .i64 ep, .slice A n c, .int .u32 (ms.toNat : Int)] 26).later hb2).later HBN
    have hone := all_oneCell_toArray (rpc_one rr)
    have HL := Lib.hid (rpc_len rr)
    generalize rpc rr = cr at *
    obtain ⟨W3, hW3⟩ : ∃ W3, W3 = (w2.alloc (.cells #[.int .i64 0, .int .i64 0, .int .i64 0, .int .i64 0, .int .i64 0, .int .i64 0, .int .i64 0, .int .i64 0, .slice none 0 0, .int .u32 0] 26)).setCells w2.heap.size 0 cr := ⟨_, rfl⟩
    rw [← hW3] at HB3 KB
    have HW3 := Lib.hid hW3
    have HKB := Lib.hid KB
    clear hok hab hfar hn2 hb2 hb2' HN HBN hW3
    go_wp2_with (first
      | (refine wpList_store_mid rfl 26 (.tmp 5) (.tmp 14) rfl w2.heap.size 0 cr.toArray rfl rfl (by simpa [HL.out] using TH) (by simpa [HL.out] using info_rp) hone ?_
         rw [← HW3.out]
         have RG := HKB.out.range 0 [.int .i64 kd, .int .i64 dv, .int .i64 rq, .int .i64 cd, .int .i64 id, .int .i64 vr, .int .i64 sq, .int .i64 ep, .slice A n c, .int .u32 (ms.toNat : Int)] rfl)
      | (refine wpList_load_g (by rfl) 26 (.tmp 3) rfl w.heap.size 0 rfl [.int .i64 kd, .int .i64 dv, .int .i64 rq, .int .i64 cd, .int .i64 id, .int .i64 vr, .int .i64 sq, .int .i64 ep, .slice A n c, .int .u32 (ms.toNat : Int)] _ RG hu rfl info_rp ?_
         simp only [Act.put, List.setIfInBounds_toArray, List.set_cons_zero, List.set_cons_succ])
      | fail)
    refine (HCK.out _ HB3.out).mono ?_
    rintro e w4 ⟨rfl, hb4⟩
    have HB4 := Lib.hid (HB3.out.trans (hb4.mono HB3.out.size))
    clear hb4
    go_wp2_with fail
    go_ret
    exact ⟨rfl, HB4.out⟩
  · have b0 : (acod rs r.dv r.rq != 0) = true := by simpa using h0
    clear hne h0 h
    generalize acod rs r.dv r.rq = ac at HA b0
    generalize ares rs r.dv r.rq = qq at HA
    obtain ⟨kd, dv, rq, cd, id, vr, sq, ep, A, n, c, f, ms⟩ := r
    dsimp only [rpc] at *
    go_enter Try.func25, Try.ntmps25
    go_wp2_with fail
    refine HA.out.mono ?_
    rintro e w2 ⟨rr, rfl, hok, hab, hfar, hn2, hb2⟩
    have hb2' := HB0.out.trans (hb2.mono HB0.out.size)
    obtain ⟨TH, HN, HBN⟩ := new_rp w.heap.size w w2 (rpc rr) (rpc_len rr) hb2' hb2'.size
    have HB3 := Lib.hid (hb2'.trans (HBN.mono hb2'.size))
    have KB : Blk ((w2.alloc (.cells #[.int .i64 0, .int .i64 0, .int .i64 0, .int .i64 0, .int .i64 0, .int .i64 0, .int .i64 0, .int .i64 0, .slice none 0 0, .int .u32 0] 26)).setCells w2.heap.size 0 (rpc rr)) w.heap.size [.int .i64 kd, .int .i64 dv, .int .i64 rq, .int .i64 cd, .int .i64 id, .int .i64 vr, .int .i64 sq, .int .i64 ep, .slice A n c, .int .u32 (ms.toNat : Int)] := ((Blk.new w [.int .i64 kd, .int .i64 dv, .int .i64 rq, .int .i64 cd, .int .i64 id, .int .i64 vr, .int .i64 sq, .int .i64 ep, .slice A n c, .int .u32 (ms.toNat : Int)] 26).later hb2).later HBN
    have hone := all_oneCell_toArray (rpc_one rr)
    have HL := Lib.hid (rpc_len rr)
    generalize rpc rr = cr at *
    obtain ⟨W3, hW3⟩ : ∃ W3, W3 = (w2.alloc (.cells #[.int .i64 0, .int .i64 0, .int .i64 0, .int .i64 0, .int .i64 0, .int .i64 0, .int .i64 0, .int .i64 0, .slice none 0 0, .int .u32 0] 26)).setCells w2.heap.size 0 cr := ⟨_, rfl⟩
    rw [← hW3] at HB3 KB
    have HW3 := Lib.hid hW3
    have HKB := Lib.hid KB
    clear hok hab hfar hn2 hb2 hb2' HN HBN hW3
    go_wp2_with (first
      | (refine wpList_store_mid rfl 26 (.tmp 5) (.tmp 14) rfl w2.heap.size 0 cr.toArray rfl rfl (by simpa [HL.out] using TH) (by simpa [HL.out] using info_rp) hone ?_
         rw [← HW3.out]
         have RG := HKB.out.range 0 [.int .i64 kd, .int .i64 dv, .int .i64 rq, .int .i64 cd, .int .i64 id, .int .i64 vr, .int .i64 sq, .int .i64 ep, .slice A n c, .int .u32 (ms.toNat : Int)] rfl)
      | (refine wpList_load_g (by rfl) 26 (.tmp 3) rfl w.heap.size 0 rfl [.int .i64 kd, .int .i64 dv, .int .i64 rq, .int .i64 cd, .int .i64 id, .int .i64 vr, .int .i64 sq, .int .i64 ep, .slice A n c, .int .u32 (ms.toNat : Int)] _ RG hu rfl info_rp ?_
         simp only [Act.put, List.setIfInBounds_toArray, List.set_cons_zero, List.set_cons_succ])
      | fail)
    go_ret
    exact ⟨rfl, HB3.out⟩

set_option maxRecDepth 100000 in
set_option maxHeartbeats 3200000 in
theorem lgnote_yes (g : Nat) (es : List Int) (rs : List Rp) (r : Rp) (w : World) (h : LgAt w g es rs) (hr : okRp w r) (hn : r.n ≤ 65536) (h0 : acod rs r.dv r.rq = 0) (hrk : rok r) :
    Calls Try.prog 25 #[.pointer (some ⟨g, 0, none⟩), .agg (rpc r).toArray] w fun e w' => e = .returned (.bool true) ∧ (∃ r', rab r' = rab r ∧ LgAt w' g es (rs.set r.dv.toNat r') ∧ ∀ ad, r'.A = some ad → w.heap.size ≤ ad.block) ∧ w.grownBy w' (some g) := by
  have hu := Try.underlying26
  have HA := Lib.hid (lask_any g es rs r.dv r.rq _ (h.later (below_a1 w (.cells (rpc r).toArray 26))))
  have HB0 := Lib.hid (below_a1 w (.cells (rpc r).toArray 26))
  have HCK := Lib.hid (fun W (hW : Below w.heap.size w W) => lcheck30_any r W (hr.later hW) hn)
  have HLG := Lib.hid (fun W (hW : Below w.heap.size w W) => h.later hW)
  rw [decide_eq_true hrk] at HCK
  rw [h0] at HA
  have hd := hrk.2.1
  have hgl := h.lt
  obtain ⟨k, hk⟩ : ∃ k : Nat, r.dv = (k : Int) := ⟨r.dv.toNat, by omega⟩
  have hk6 : k < 6 := by omega
  have hkl : k < rs.length := by rw [h.lr]; exact hk6
  have HCP := Lib.hid (fun W (hW : Below w.heap.size w W) => copied_any r W (hr.later hW) hn)
  have HPUT : Hid (∀ W, Below w.heap.size w W → ∀ r', okRp W r' → farRp g r' → r'.n ≤ 65536 → LgAt (W.setCells g (6 + k * 10) (rpc r')) g es (rs.set k r')) := Lib.hid (fun W hW r' a b c => (h.later hW).put k hkl r' a b c)
  have HTH : Hid (∀ W, Below w.heap.size w W → W.there g (6 + k * 10) 10) := Lib.hid (fun W hW => (h.later hW).there k hkl)
  rw [hk] at HA ⊢
  rw [show ((k : Int)).toNat = k by simp]
  clear h0 hrk hd h
  generalize ares rs k r.rq = qq at HA
  obtain ⟨q0, hq0⟩ : ∃ q0, q0 = rab r := ⟨_, rfl⟩
  rw [← hq0] at HCP ⊢
  obtain ⟨kd, dv, rq, cd, id, vr, sq, ep, A, n, c, f, ms⟩ := r
  dsimp only [rpc] at HA HB0 HCK HCP hr hn ⊢
  subst hk
  have hnk : ¬ (6 : Int) ≤ (k : Int) := by omega
  have hnk2 : ¬ 6 ≤ k := by omega
  clear hq0
  go_enter Try.func25, Try.ntmps25
  go_wp2_with fail
  refine HA.out.mono ?_
  rintro e w2 ⟨rr, rfl, hok, hab, hfar, hn2, hb2⟩
  have hb2' := HB0.out.trans (hb2.mono HB0.out.size)
  obtain ⟨TH, HN, HBN⟩ := new_rp w.heap.size w w2 (rpc rr) (rpc_len rr) hb2' hb2'.size
  have HB3 := Lib.hid (hb2'.trans (HBN.mono hb2'.size))
  have KB : Blk ((w2.alloc (.cells #[.int .i64 0, .int .i64 0, .int .i64 0, .int .i64 0, .int .i64 0, .int .i64 0, .int .i64 0, .int .i64 0, .slice none 0 0, .int .u32 0] 26)).setCells w2.heap.size 0 (rpc rr)) w.heap.size [.int .i64 kd, .int .i64 (k : Int), .int .i64 rq, .int .i64 cd, .int .i64 id, .int .i64 vr, .int .i64 sq, .int .i64 ep, .slice A n c, .int .u32 (ms.toNat : Int)] := ((Blk.new w [.int .i64 kd, .int .i64 (k : Int), .int .i64 rq, .int .i64 cd, .int .i64 id, .int .i64 vr, .int .i64 sq, .int .i64 ep, .slice A n c, .int .u32 (ms.toNat : Int)] 26).later hb2).later HBN
  have hone := all_oneCell_toArray (rpc_one rr)
  have HL := Lib.hid (rpc_len rr)
  generalize rpc rr = cr at *
  obtain ⟨W3, hW3⟩ : ∃ W3, W3 = (w2.alloc (.cells #[.int .i64 0, .int .i64 0, .int .i64 0, .int .i64 0, .int .i64 0, .int .i64 0, .int .i64 0, .int .i64 0, .slice none 0 0, .int .u32 0] 26)).setCells w2.heap.size 0 cr := ⟨_, rfl⟩
  rw [← hW3] at HB3 KB
  have HW3 := Lib.hid hW3
  have HKB := Lib.hid KB
  clear hok hab hfar hn2 hb2 hb2' HN HBN hW3
  go_wp2_with (first
    | (refine wpList_store_mid rfl 26 (.tmp 5) (.tmp 14) rfl w2.heap.size 0 cr.toArray rfl rfl (by simpa [HL.out] using TH) (by simpa [HL.out] using info_rp) hone ?_
       rw [← HW3.out]
       have RG := HKB.out.range 0 [.int .i64 kd, .int .i64 (k : Int), .int .i64 rq, .int .i64 cd, .int .i64 id, .int .i64 vr, .int .i64 sq, .int .i64 ep, .slice A n c, .int .u32 (ms.toNat : Int)] rfl)
    | (refine wpList_load_g (by rfl) 26 (.tmp 3) rfl w.heap.size 0 rfl [.int .i64 kd, .int .i64 (k : Int), .int .i64 rq, .int .i64 cd, .int .i64 id, .int .i64 vr, .int .i64 sq, .int .i64 ep, .slice A n c, .int .u32 (ms.toNat : Int)] _ RG hu rfl info_rp ?_
       simp only [Act.put, List.setIfInBounds_toArray, List.set_cons_zero, List.set_cons_succ])
    | fail)
  refine (HCK.out _ HB3.out).mono ?_
  rintro e w4 ⟨rfl, hb4⟩
  have HB4 := Lib.hid (HB3.out.trans (hb4.mono HB3.out.size))
  have HK4 := Lib.hid (HKB.out.later hb4)
  have ca : ∀ kk : LW w4, kk.val.cell? ⟨w.heap.size, 1, none⟩ = some (.int .i64 (k : Int)) := fun kk => (HK4.out.later kk.le).cell (j := 1) rfl
  have HBW : Hid (∀ W, Le w4 W → Below w.heap.size w W) := Lib.hid (fun W hl => HB4.out.trans (Below.mono hl HB4.out.size))
  clear hb4 HKB HCK HLG HA HB3
  go_wp2_with fail
  refine wp_region_tail [(27, relRp w4.heap.size q0)] 31 8 (by kernel_rfl) (by kernel_rfl) (by kernel_rfl) (by rfl) ?_
  simp only [List.take_succ_cons, List.take_zero, List.drop_succ_cons, List.drop_zero]
  iterate 3 (refine wpG_quiet (by rfl) (by rfl) (by rfl) (fun K hK => ?_); go_big_quiet_op; refine hK _ ?_; clear hK K)
  refine wpG_run (by rfl) (by rfl) (.agg #[.int .i64 kd, .int .i64 (k : Int), .int .i64 rq, .int .i64 cd, .int .i64 id, .int .i64 vr, .int .i64 sq, .int .i64 ep, .slice A n c, .int .u32 (ms.toNat : Int)]) (fun wx hl => exec_load 26 (.tmp 3) rfl w.heap.size 0 rfl [.int .i64 kd, .int .i64 (k : Int), .int .i64 rq, .int .i64 cd, .int .i64 id, .int .i64 vr, .int .i64 sq, .int .i64 ep, .slice A n c, .int .u32 (ms.toNat : Int)] _ ((HK4.out.later hl.1).range 0 _ rfl) hu rfl info_rp) ?_
  simp only [Act.put, List.setIfInBounds_toArray, List.set_cons_zero, List.set_cons_succ]
  refine wpG_calls (relRp w4.heap.size q0) (by rfl) (by rfl) 57 #[.agg #[.int .i64 kd, .int .i64 (k : Int), .int .i64 rq, .int .i64 cd, .int .i64 id, .int .i64 vr, .int .i64 sq, .int .i64 ep, .slice A n c, .int .u32 (ms.toNat : Int)]] (by intro _; simp [go_sem]) (fun wx hl => (HCP.out wx (HBW.out wx hl.1)).mono ?_) ?_
  · rintro e w5 ⟨r5, rfl, a1, a2, a3, a4, a5⟩
    exact ⟨_, rfl, a5, r5, rfl, a1, a2, (fun ad e => Nat.le_trans hl.1.size (a3 ad e)), a4⟩
  rintro _ ⟨_, _, _, ⟨r5, rfl, _⟩⟩
  simp only [Act.put, List.setIfInBounds_toArray, List.set_cons_zero, List.set_cons_succ]
  iterate 3 (refine wpG_quiet (by rfl) (by rfl) (by rfl) (fun K hK => ?_); go_big_quiet_op; refine hK _ ?_; clear hK K)
  refine wpG_nil fun wx hl hS => ?_
  obtain ⟨_, r6, e6, ho, hab, hfar, hn6⟩ := hS
  have e7 : rpc r5 = rpc r6 := by
    have := e6
    simpa using this
  have hbx := HBW.out wx hl
  have hgf : farRp g r6 := fun ad e _ => by
    have h1 := hfar ad e
    have h2 := HB4.out.size
    omega
  have HF := Lib.hid (HPUT.out wx hbx r6 ho hgf hn6)
  have HG : Hid (w.grownBy (wx.setCells g (6 + k * 10) (rpc r6)) (some g)) := Lib.hid (by
    have h2 := grown_sets g (rpc r6) (6 + k * 10) wx
    exact ⟨h2.os.trans hbx.os, h2.tape.trans hbx.tape, h2.output.trans hbx.output, Nat.le_trans hbx.size h2.size, fun j hj hne => (h2.block j (Nat.lt_of_lt_of_le hj hbx.size) hne).trans (hbx.block j hj)⟩)
  have TH5 := HTH.out wx hbx
  have hone5 := all_oneCell_toArray (rpc_one r5)
  have HL5 := Lib.hid (rpc_len r5)
  rw [← e7] at HF HG
  have HAB := Lib.hid hab
  have HFAR := Lib.hid (fun ad (e : r6.A = some ad) => Nat.le_trans HB4.out.size (hfar ad e))
  clear e6 ho hfar hn6 hbx hgf hl ca HBW HPUT HTH HK4 HCP
  generalize rpc r5 = c5 at *
  refine wpList_store_mid rfl 26 (.tmp 30) (.tmp 27) rfl g (6 + k * 10) c5.toArray (by rfl) (by rfl) (by simpa [HL5.out] using TH5) (by simpa [HL5.out] using info_rp) hone5 ?_
  clear e7 TH5 hone5 HL5
  go_wp2_with fail
  go_ret
  exact ⟨rfl, ⟨r6, HAB.out, HF.out, HFAR.out⟩, HG.out⟩
end Go.Proofs.Ytadmaalhhigbeaa

/- Ledger: Raise. -/
namespace Go.Proofs.Ytadmaalhhigbeaa
set_option linter.unusedVariables false
set_option linter.unusedSimpArgs false
open Go Go.RowKit ValM

set_option maxRecDepth 100000 in
set_option maxHeartbeats 1600000 in
theorem aload_any (a : Addr) (d : Int) (w : World) (hc : w.cell? a = some (.int .i64 d)) :
    Calls Try.prog 58 #[.pointer (some a)] w fun e w' => e = .returned (.int .i64 d) ∧ w = w' := by
  have hl := run_call_load (P := Try.prog) Try.func86 (by kernel_rfl) (by kernel_rfl) (by kernel_rfl) .i64 (by kernel_rfl) hc
  obtain ⟨b, o, sp⟩ := a
  go_enter Try.func58, Try.ntmps58
  go_wp2
  go_ret
  exact ⟨rfl, rfl⟩
set_option maxRecDepth 100000 in
set_option maxHeartbeats 1600000 in
theorem aadd_any (a : Addr) (d : Int) (w : World) (hc : w.cell? a = some (.int .i64 d)) (hz : w.frozen? a = false) (h0 : 0 ≤ d) (h1 : d < 1099511627776) :
    Calls Try.prog 59 #[.pointer (some a), .int .i64 1] w fun e w' => e = .returned (.int .i64 (d + 1)) ∧ w.setCell a (.int .i64 (d + 1)) = w' := by
  have hl := run_call_add (P := Try.prog) Try.func87 (by kernel_rfl) (by kernel_rfl) (by kernel_rfl) .i64 (by kernel_rfl) (y := 1) (s := d + 1) hc hz (by
    have : IntKind.i64.wrap (d + 1) = d + 1 := by rw [IntKind.wrap_i64]; omega
    simp [go_sem, this])
  obtain ⟨b, o, sp⟩ := a
  clear h0 h1
  go_enter Try.func59, Try.ntmps59
  go_wp2
  go_ret
  exact ⟨rfl, rfl⟩
theorem LgAt.raise {w : World} {g : Nat} {es : List Int} {rs : List Rp} (h : LgAt w g es rs) (k : Nat) (hk : k < es.length) (e : Int) (he : 0 ≤ e ∧ e ≤ 1099511627776) : LgAt (w.setCell ⟨g, k, none⟩ (.int .i64 e)) g (es.set k e) rs := by
  refine ⟨?_, by rw [List.length_set]; exact h.le, h.lr, fun x hx => ?_, fun r hr => ?_⟩
  · have := h.blk.set k (.int .i64 e)
    rw [List.set_append_left _ _ (by simpa using hk), ← List.map_set] at this
    exact this
  · rcases List.mem_or_eq_of_mem_set hx with hx | rfl
    · exact h.er x hx
    · exact he
  · obtain ⟨a, b, c⟩ := h.ok r hr
    exact ⟨okRp.store (o := k) (vs := [.int .i64 e]) a b, b, c⟩
def rcode (es : List Int) (dv : Int) : Int := if (0 ≤ dv ∧ dv < 6) ∧ es.getD dv.toNat 0 < 1099511627776 then es.getD dv.toNat 0 + 1 else 0
def res (es : List Int) (dv : Int) : List Int := if (0 ≤ dv ∧ dv < 6) ∧ es.getD dv.toNat 0 < 1099511627776 then es.set dv.toNat (es.getD dv.toNat 0 + 1) else es
set_option maxRecDepth 100000 in
set_option maxHeartbeats 3200000 in
theorem lgraise_any (g : Nat) (es : List Int) (rs : List Rp) (dv : Int) (w : World) (h : LgAt w g es rs) :
    Calls Try.prog 27 #[.pointer (some ⟨g, 0, none⟩), .int .i64 dv] w fun e w' => e = .returned (.int .i64 (rcode es dv)) ∧ LgAt w' g (res es dv) rs ∧ w.grownBy w' (some g) := by
  by_cases h1 : 0 ≤ dv ∧ dv < 6
  · have HD := Lib.hid (fun W => lgdev_any dv W)
    rw [decide_eq_true h1] at HD
    obtain ⟨k, rfl⟩ : ∃ k : Nat, dv = (k : Int) := ⟨dv.toNat, by omega⟩
    have hk : k < es.length := by rw [h.le]; omega
    have hg : es.getD ((k : Int)).toNat 0 = es[k] := by simp [hk]
    have kc := h.epoch k hk
    have HL := Lib.hid (aload_any ⟨g, k, none⟩ es[k] w kc)
    have her := h.er es[k] (List.getElem_mem hk)
    have hnk : ¬ (6 : Int) ≤ (k : Int) := by omega
    have hnk2 : ¬ 6 ≤ k := by omega
    by_cases h2 : es[k] < 1099511627776
    · have e1 : rcode es k = es[k] + 1 := by unfold rcode; rw [hg, if_pos ⟨h1, h2⟩]
      have e2 : res es k = es.set k (es[k] + 1) := by unfold res; rw [hg, if_pos ⟨h1, h2⟩]; simp
      rw [e1, e2]
      have HA := Lib.hid (aadd_any ⟨g, k, none⟩ es[k] w kc (h.blk.blk.frozen k) her.1 h2)
      have HF := Lib.hid (h.raise k hk (es[k] + 1) ⟨by omega, by omega⟩)
      have HG : Hid (w.grownBy (w.setCell ⟨g, k, none⟩ (.int .i64 (es[k] + 1))) (some g)) := Lib.hid (grown_sets g [.int .i64 (es[k] + 1)] k w)
      have d1 : decide (1099511627776 ≤ es[k]) = false := decide_eq_false (by omega)
      clear e1 e2 h h1 h2 her kc
      generalize es.set k (es[k] + 1) = es2 at HF ⊢
      generalize es[k] = x at *
      clear hg
      go_enter Try.func27, Try.ntmps27
      go_wp2_with fail
      refine (HD.out _).mono ?_
      rintro e w2 ⟨rfl, rfl⟩
      go_wp2_with fail
      refine HL.out.mono ?_
      rintro e w2 ⟨rfl, rfl⟩
      go_wp2_with fail
      refine HA.out.mono ?_
      rintro e w2 ⟨rfl, rfl⟩
      go_wp2_with fail
      go_ret
      exact ⟨rfl, HF.out, HG.out⟩
    · have e1 : rcode es k = 0 := by unfold rcode; rw [hg, if_neg (fun x => h2 x.2)]
      have e2 : res es k = es := by unfold res; rw [hg, if_neg (fun x => h2 x.2)]
      rw [e1, e2]
      have HF := Lib.hid h
      have d1 : decide (1099511627776 ≤ es[k]) = true := decide_eq_true (by omega)
      clear e1 e2 h h1 h2 her kc
      generalize es[k] = x at *
      clear hg
      go_enter Try.func27, Try.ntmps27
      go_wp2_with fail
      refine (HD.out _).mono ?_
      rintro e w2 ⟨rfl, rfl⟩
      go_wp2_with fail
      refine HL.out.mono ?_
      rintro e w2 ⟨rfl, rfl⟩
      go_wp2_with fail
      go_ret
      exact ⟨rfl, HF.out, World.grownBy.refl _ _⟩
  · have HD := Lib.hid (fun W => lgdev_any dv W)
    rw [decide_eq_false h1] at HD
    have e1 : rcode es dv = 0 := by unfold rcode; rw [if_neg (fun x => h1 x.1)]
    have e2 : res es dv = es := by unfold res; rw [if_neg (fun x => h1 x.1)]
    rw [e1, e2]
    have HF := Lib.hid h
    clear h1 e1 e2 h
    go_enter Try.func27, Try.ntmps27
    go_wp2_with fail
    refine (HD.out _).mono ?_
    rintro e w2 ⟨rfl, rfl⟩
    go_wp2_with fail
    go_ret
    exact ⟨rfl, HF.out, World.grownBy.refl _ _⟩
end Go.Proofs.Ytadmaalhhigbeaa

/- Ledger: when two answers are the same. -/
namespace Go.Proofs.Ytadmaalhhigbeaa
set_option linter.unusedVariables false
set_option linter.unusedSimpArgs false
open Go Go.RowKit ValM

set_option maxRecDepth 100000 in
set_option maxHeartbeats 3200000 in
theorem rlsame_any (r r' : Rp) (w : World) (h : okRp w r) (h' : okRp w r') (hz : r.n ≤ 65536) :
    Calls Try.prog 14 #[.agg (rpc r).toArray, .agg (rpc r').toArray] w fun e w' => e = .returned (.bool (decide (rab r = rab r'))) ∧ Below w.heap.size w w' := by
  have hc8 := fun W (hW : Below w.heap.size w W) => rsame_any r.A r.n r.c r.f r'.A r'.n r'.c r'.f W h.len h'.len (h.later hW).see (h'.later hW).see hz
  obtain ⟨R, hR⟩ : ∃ R, R = decide (rab r = rab r') := ⟨_, rfl⟩
  rw [← hR]
  clear h h'
  obtain ⟨a0, a1, a2, a3, a4, a5, a6, a7, A, n, c, f, ms⟩ := r
  obtain ⟨b0, b1, b2, b3, b4, b5, b6, b7, B, n', c', f', ms'⟩ := r'
  dsimp only [rpc] at *
  obtain ⟨z8, hz8⟩ : ∃ z8 : Int, f = f' ↔ z8 = 0 := by
    by_cases e : f = f'
    · exact ⟨0, by simp [e]⟩
    · exact ⟨1, by simp [e]⟩
  have hd8 : decide (f = f') = decide (z8 = 0) := decide_eq_decide.2 hz8
  rw [hd8] at hc8
  clear hd8
  have hR : R = decide (a0 = b0 ∧ a1 = b1 ∧ a2 = b2 ∧ a3 = b3 ∧ a4 = b4 ∧ a5 = b5 ∧ a6 = b6 ∧ a7 = b7 ∧ z8 = 0 ∧ ms.toNat = ms'.toNat) := by
    rw [hR]
    refine decide_eq_decide.2 ((rab_iff _ _).trans ?_)
    dsimp only
    rw [hz8]
  have HR := Lib.hid hR
  have HCMP := Lib.hid hc8
  clear hR hz8 hc8 
  go_enter Try.func14, Try.ntmps14
  go_wp2_with fail
  all_goals (try (
    refine (HCMP.out _ (below_a2 _ _ _)).mono ?_
    rintro e w3 ⟨rfl, hb3⟩
    have kx := (two_cells hb3).1 9 _ rfl
    have ky := (two_cells hb3).2 9 _ rfl
    have HB3 := Lib.hid ((below_a2 _ _ _).trans (hb3.mono (below_a2 _ _ _).size))
    clear hb3
    go_wp2_with fail))
  all_goals
    go_ret
    refine ⟨?_, by first | exact HB3.out | exact below_a2 _ _ _⟩
    show Ending.returned (Value.bool _) = _
    rw [HR.out]
    refine congrArg (fun b => Ending.returned (Value.bool b)) (Bool.eq_iff_iff.2 ?_)
    simp only [decide_eq_true_eq, Bool.and_eq_true, Bool.or_eq_true, Bool.not_eq_true', decide_eq_false_iff_not, Bool.false_eq_true, beq_iff_eq, false_iff, true_iff]
    omega
end Go.Proofs.Ytadmaalhhigbeaa

/- Ledger: the chapter's example. -/
namespace Go.Proofs.Ytadmaalhhigbeaa
set_option linter.unusedVariables false
set_option linter.unusedSimpArgs false
open Go Go.RowKit ValM

theorem below_grown {w w' : World} {r : Option Nat} {B : Nat} (h : w.grownBy w' r) (hB : B ≤ w.heap.size) (hr : ∀ k, r = some k → B ≤ k) : Below B w w' :=
  ⟨h.os, h.tape, h.output, h.size, fun k hk => h.block k (by omega) (fun e => by have := hr k e.symm; omega)⟩
def lgEx : Rp := ⟨4, 0, 3, 0, 0, 0, 9, 0, none, 0, 0, [], 0#32⟩
theorem lgEx_ok (w : World) : okRp w lgEx := ⟨rfl, Nat.le_refl _, by simp [lgEx, maxLen], Sees.nil_⟩
theorem lgEx_may : rok lgEx := by unfold rok lgEx; simp
theorem lgEx_new : acod zrs lgEx.dv lgEx.rq = 0 := by simp [acod, zrs, lgEx, zrp]
theorem lgEx_asks (r : Rp) (h : rab r = rab lgEx) : (acod (zrs.set (lgEx.dv.toNat) r) 0 2 = 13) ∧ (acod (zrs.set (lgEx.dv.toNat) r) 0 3 = 7 ∧ ares (zrs.set (lgEx.dv.toNat) r) 0 3 = rab lgEx) ∧ acod (zrs.set (lgEx.dv.toNat) r) 0 4 = 0 := by
  have h3 : r.rq = 3 := rab_rq h
  have e : (zrs.set (lgEx.dv.toNat) r).getD (0 : Int).toNat zrp = r := rfl
  have a3 : acod (zrs.set (lgEx.dv.toNat) r) 0 3 = 7 := by unfold acod; rw [e, h3]; simp
  refine ⟨by unfold acod; rw [e, h3]; simp, ⟨a3, by unfold ares; rw [if_pos a3, e, h]⟩, by unfold acod; rw [e, h3]; simp⟩

set_option maxRecDepth 100000 in
set_option maxHeartbeats 3200000 in
theorem lg_awake (w : World) : Calls Try.prog 8 #[] w fun e w' => e = .returned (.bool true) ∧ Below w.heap.size w w' := by
  have hu := Try.underlying26
  go_enter Try.func8, Try.ntmps8
  go_wp2_with fail
  refine (lgnew_any _).mono ?_
  rintro e w1 ⟨g, rfl, h1, hg1, hb1⟩
  have hl := below_a1 w1 (.cells #[.int .i64 4, .int .i64 0, .int .i64 3, .int .i64 0, .int .i64 0, .int .i64 0, .int .i64 9, .int .i64 0, .slice none 0 0, .int .u32 0] 26)
  have HN := Lib.hid (lgnote_yes g zes zrs lgEx _ (h1.later hl) (lgEx_ok _) (by simp [lgEx]) lgEx_new lgEx_may)
  have KA : Blk (w1.alloc (.cells #[.int .i64 4, .int .i64 0, .int .i64 3, .int .i64 0, .int .i64 0, .int .i64 0, .int .i64 9, .int .i64 0, .slice none 0 0, .int .u32 0] 26)) w1.heap.size [.int .i64 4, .int .i64 0, .int .i64 3, .int .i64 0, .int .i64 0, .int .i64 0, .int .i64 9, .int .i64 0, .slice none 0 0, .int .u32 0] := Blk.new w1 [.int .i64 4, .int .i64 0, .int .i64 3, .int .i64 0, .int .i64 0, .int .i64 0, .int .i64 9, .int .i64 0, .slice none 0 0, .int .u32 0] 26
  have hgl := h1.lt
  have HBB := Lib.hid (hb1.trans (hl.mono hb1.size))
  have HKA := Lib.hid KA
  clear h1 hb1 hl KA
  go_wp2_with fail
  refine HN.out.mono ?_
  rintro e w3 ⟨rfl, ⟨r3, hr3, h3, _⟩, hg3⟩
  have HKA3 := Lib.hid (HKA.out.kept hg3 (by intro e; injection e with e; omega))
  have HB3 := Lib.hid (HBB.out.trans (below_grown hg3 HBB.out.size (fun k e => by injection e with e; omega)))
  obtain ⟨q1, ⟨q2, q3⟩, q4⟩ := lgEx_asks r3 hr3
  obtain ⟨rs3, hrs3⟩ : ∃ rs3, rs3 = zrs.set lgEx.dv.toNat r3 := ⟨_, rfl⟩
  rw [← hrs3] at h3 q1 q2 q3 q4
  have HG3 := Lib.hid h3
  have HA1 := Lib.hid (lask_any g zes rs3 0 2 w3 h3)
  rw [q1] at HA1
  clear hg3 hr3 hrs3 h3 HN HKA HBB
  go_wp2_with fail
  refine HA1.out.mono ?_
  rintro e w4 ⟨r4, rfl, hok4, hab4, hfar4, hn4, hb4⟩
  have hbb := HB3.out.trans (hb4.mono HB3.out.size)
  obtain ⟨TH4, HN4, HBN4⟩ := new_rp w.heap.size w w4 (rpc r4) (rpc_len r4) hbb hbb.size
  have hb2 := hb4.trans (HBN4.mono hb4.size)
  have HB5 := Lib.hid (hbb.trans (HBN4.mono hbb.size))
  have HG5 := Lib.hid (HG3.out.later hb2)
  have HKA5 := Lib.hid (HKA3.out.later hb2)
  have hone4 := all_oneCell_toArray (rpc_one r4)
  have HL4 := Lib.hid (rpc_len r4)
  generalize rpc r4 = cr4 at *
  obtain ⟨W5, hW5⟩ : ∃ W5, W5 = (w4.alloc (.cells #[.int .i64 0, .int .i64 0, .int .i64 0, .int .i64 0, .int .i64 0, .int .i64 0, .int .i64 0, .int .i64 0, .slice none 0 0, .int .u32 0] 26)).setCells w4.heap.size 0 cr4 := ⟨_, rfl⟩
  rw [← hW5] at HB5 HG5 HKA5
  have HW5 := Lib.hid hW5
  clear hok4 hab4 hfar4 hn4 hb4 hbb HN4 HBN4 hW5 hb2 HB3 HG3 HKA3
  have HA2 := Lib.hid (lask_any g zes rs3 0 3 W5 HG5.out)
  rw [q2, q3] at HA2
  go_wp2_with (first
    | (refine wpList_store_mid rfl 26 (.tmp 4) (.tmp 18) rfl w4.heap.size 0 cr4.toArray rfl rfl (by simpa [HL4.out] using TH4) (by simpa [HL4.out] using info_rp) hone4 ?_
       rw [← HW5.out])
    | fail)
  refine HA2.out.mono ?_
  rintro e w6 ⟨r6, rfl, hok6, hab6, hfar6, hn6, hb6⟩
  have hbb := HB5.out.trans (hb6.mono HB5.out.size)
  obtain ⟨TH6, HN6, HBN6⟩ := new_rp w.heap.size w w6 (rpc r6) (rpc_len r6) hbb hbb.size
  have hb2 := hb6.trans (HBN6.mono hb6.size)
  have HB7 := Lib.hid (hbb.trans (HBN6.mono hbb.size))
  have HG7 := Lib.hid (HG5.out.later hb2)
  have HKA7 := Lib.hid (HKA5.out.later hb2)
  have HK6 := Lib.hid HN6
  have HSAME : Hid (∀ W, Below ((w6.alloc (.cells #[.int .i64 0, .int .i64 0, .int .i64 0, .int .i64 0, .int .i64 0, .int .i64 0, .int .i64 0, .int .i64 0, .slice none 0 0, .int .u32 0] 26)).setCells w6.heap.size 0 (rpc r6)).heap.size ((w6.alloc (.cells #[.int .i64 0, .int .i64 0, .int .i64 0, .int .i64 0, .int .i64 0, .int .i64 0, .int .i64 0, .int .i64 0, .slice none 0 0, .int .u32 0] 26)).setCells w6.heap.size 0 (rpc r6)) W → Calls Try.prog 14 #[.agg (rpc r6).toArray, .agg #[.int .i64 4, .int .i64 0, .int .i64 3, .int .i64 0, .int .i64 0, .int .i64 0, .int .i64 9, .int .i64 0, .slice none 0 0, .int .u32 0]] W fun e w' => e = .returned (.bool true) ∧ Below W.heap.size W w') := Lib.hid (fun W hW => by
    have := rlsame_any r6 lgEx W ((hok6.later HBN6).later hW) (lgEx_ok W) hn6
    rw [decide_eq_true hab6] at this
    exact this)
  have hone6 := all_oneCell_toArray (rpc_one r6)
  have HL6 := Lib.hid (rpc_len r6)
  generalize rpc r6 = cr6 at *
  obtain ⟨W7, hW7⟩ : ∃ W7, W7 = (w6.alloc (.cells #[.int .i64 0, .int .i64 0, .int .i64 0, .int .i64 0, .int .i64 0, .int .i64 0, .int .i64 0, .int .i64 0, .slice none 0 0, .int .u32 0] 26)).setCells w6.heap.size 0 cr6 := ⟨_, rfl⟩
  rw [← hW7] at HB7 HG7 HKA7 HK6 HSAME
  have HW7 := Lib.hid hW7
  clear hok6 hab6 hfar6 hn6 hb6 hbb HN6 HBN6 hW7 hb2 HB5 HG5 HKA5
  have HA3 := Lib.hid (lask_any g zes rs3 0 4 W7 HG7.out)
  rw [q4] at HA3
  clear q1 q2 q3 q4
  go_wp2_with (first
    | (refine wpList_store_mid rfl 26 (.tmp 6) (.tmp 23) rfl w6.heap.size 0 cr6.toArray rfl rfl (by simpa [HL6.out] using TH6) (by simpa [HL6.out] using info_rp) hone6 ?_
       rw [← HW7.out])
    | fail)
  refine HA3.out.mono ?_
  rintro e w8 ⟨r8, rfl, hok8, hab8, hfar8, hn8, hb8⟩
  have hbb := HB7.out.trans (hb8.mono HB7.out.size)
  obtain ⟨TH8, HN8, HBN8⟩ := new_rp w.heap.size w w8 (rpc r8) (rpc_len r8) hbb hbb.size
  have hb2 := hb8.trans (HBN8.mono hb8.size)
  have HB9 := Lib.hid (hbb.trans (HBN8.mono hbb.size))
  have HG9 := Lib.hid (HG7.out.later hb2)
  have HKA9 := Lib.hid (HKA7.out.later hb2)
  have HK6 := Lib.hid (HK6.out.later hb2)
  have HSAME := Lib.hid (fun W hW => HSAME.out W (hb2.trans (Below.mono hW hb2.size)))
  have hone8 := all_oneCell_toArray (rpc_one r8)
  have HL8 := Lib.hid (rpc_len r8)
  generalize rpc r8 = cr8 at *
  obtain ⟨W9, hW9⟩ : ∃ W9, W9 = (w8.alloc (.cells #[.int .i64 0, .int .i64 0, .int .i64 0, .int .i64 0, .int .i64 0, .int .i64 0, .int .i64 0, .int .i64 0, .slice none 0 0, .int .u32 0] 26)).setCells w8.heap.size 0 cr8 := ⟨_, rfl⟩
  rw [← hW9] at HB9 HG9 HKA9 HK6 HSAME
  have HW9 := Lib.hid hW9
  clear hok8 hab8 hfar8 hn8 hb8 hbb HN8 HBN8 hW9 hb2 HB7 HG7 HKA7
  go_wp2_with (first
    | (refine wpList_store_mid rfl 26 (.tmp 8) (.tmp 28) rfl w8.heap.size 0 cr8.toArray rfl rfl (by simpa [HL8.out] using TH8) (by simpa [HL8.out] using info_rp) hone8 ?_
       rw [← HW9.out]
       have R6 := HK6.out.range 0 cr6 (by rw [List.drop_zero, List.take_length])
       have RA := HKA9.out.range 0 [.int .i64 4, .int .i64 0, .int .i64 3, .int .i64 0, .int .i64 0, .int .i64 0, .int .i64 9, .int .i64 0, .slice none 0 0, .int .u32 0] rfl)
    | (refine wpList_load_g (by rfl) 26 (.tmp 6) rfl w6.heap.size 0 rfl cr6 _ R6 hu rfl (by simpa [HL6.out] using info_rp) ?_
       simp only [Act.put, List.setIfInBounds_toArray, List.set_cons_zero, List.set_cons_succ])
    | (refine wpList_load_g (by rfl) 26 (.tmp 2) rfl w1.heap.size 0 rfl [.int .i64 4, .int .i64 0, .int .i64 3, .int .i64 0, .int .i64 0, .int .i64 0, .int .i64 9, .int .i64 0, .slice none 0 0, .int .u32 0] _ RA hu rfl info_rp ?_
       simp only [Act.put, List.setIfInBounds_toArray, List.set_cons_zero, List.set_cons_succ])
    | fail)
  refine (HSAME.out W9 (Below.refl _ _)).mono ?_
  rintro e wa ⟨rfl, hba⟩
  have HBA := Lib.hid (HB9.out.trans (hba.mono HB9.out.size))
  clear hba
  go_wp2_with fail
  go_ret
  exact ⟨rfl, HBA.out⟩
end Go.Proofs.Ytadmaalhhigbeaa

/- Ledger: LedgerOnce: what holds round and round. -/
namespace Go.Proofs.Ytadmaalhhigbeaa
set_option linter.unusedVariables false
set_option linter.unusedSimpArgs false
open Go Go.RowKit ValM

theorem okRp.grown {w w' : World} {g : Nat} {r : Rp} (h : okRp w r) (hf : farRp g r) (hg : w.grownBy w' (some g)) : okRp w' r := by
  refine ⟨h.len, h.cap, h.max, fun hx => ?_⟩
  obtain ⟨b, o', e, hb, hc⟩ := h.see hx
  refine ⟨b, o', e, Nat.lt_of_lt_of_le hb hg.size, fun j hj => ?_⟩
  have hne : b ≠ g := hf ⟨b, o', none⟩ e (h.pos hx)
  rw [World.cell?_of_block (a := ⟨b, o' + j, none⟩) (hg.block b hb (by intro e; injection e with e; exact hne e))]
  exact hc j hj
theorem LgAt.far {w : World} {g b o : Nat} {vs : List Value} {es : List Int} {rs : List Rp} (h : LgAt w g es rs) (hb : b ≠ g) (hf : ∀ r ∈ rs, farRp b r) : LgAt (w.setCells b o vs) g es rs :=
  ⟨h.blk.other hb vs o, h.le, h.lr, h.er, fun r hr => ⟨(h.ok r hr).1.store (hf r hr), (h.ok r hr).2⟩⟩
def rmay (r : Rp) : Prop := r.rq = 0 ∨ (1 ≤ r.rq ∧ r.rq ≤ 1099511627776)
structure LInv (w0 : World) (g b4 : Nat) (w : World) (es : List Int) (rs ls : List Rp) : Prop where
  lg : LgAt w g es rs
  l4 : Blk w b4 (rws rpc ls)
  ll : ls.length = 6
  eq : rs.map rab = ls.map rab
  ok : ∀ r ∈ ls, okRp w r ∧ farRp g r ∧ farRp b4 r ∧ r.n ≤ 65536 ∧ rmay r
  f4 : ∀ r ∈ rs, farRp b4 r
  be : Below w0.heap.size w0 w
  hg : w0.heap.size ≤ g
  h4 : g < b4
section
variable {w0 w w' : World} {g b4 : Nat} {es : List Int} {rs ls : List Rp}
theorem LInv.later (h : LInv w0 g b4 w es rs ls) (hb : Below w.heap.size w w') : LInv w0 g b4 w' es rs ls :=
  ⟨h.lg.later hb, h.l4.later hb, h.ll, h.eq, fun r hr => ⟨(h.ok r hr).1.later hb, (h.ok r hr).2⟩, h.f4, h.be.trans (hb.mono h.be.size), h.hg, h.h4⟩
theorem LInv.at_ (h : LInv w0 g b4 w es rs ls) (d : Nat) (hd : d < ls.length) : ∃ (hr : d < rs.length), rab rs[d] = rab ls[d] := by
  have hl : rs.length = ls.length := by have := congrArg List.length h.eq; simpa using this
  refine ⟨by omega, ?_⟩
  have h1 : (rs.map rab)[d]'(by simpa using (by omega : d < rs.length)) = (ls.map rab)[d]'(by simpa using hd) := by simp only [h.eq]
  simpa using h1
theorem LInv.range (h : LInv w0 g b4 w es rs ls) (d : Nat) (hd : d < ls.length) : w.rangeAt b4 (d * 10) (rpc ls[d]) := fun j v hj =>
  h.l4.cell (rws_at ls (fun x _ => rpc_len x) d hd j v hj)
theorem LInv.there (h : LInv w0 g b4 w es rs ls) (d : Nat) (hd : d < ls.length) : w.there b4 (d * 10) 10 :=
  h.l4.there _ _ (by rw [rws_len _ (fun x _ => rpc_len x)]; omega)
theorem LInv.raise (h : LInv w0 g b4 w es rs ls) {es' : List Int} (h' : LgAt w' g es' rs) (hg : w.grownBy w' (some g)) : LInv w0 g b4 w' es' rs ls :=
  ⟨h', h.l4.kept hg (by intro e; injection e with e; have := h.h4; omega), h.ll, h.eq, fun r hr => ⟨(h.ok r hr).1.grown (h.ok r hr).2.1 hg, (h.ok r hr).2⟩, h.f4,
    h.be.trans (below_grown hg h.be.size (fun k e => by injection e with e; have := h.hg; omega)), h.hg, h.h4⟩
/-- Note, and what is noted beside it. -/
theorem LInv.note (h : LInv w0 g b4 w es rs ls) (hg : w.grownBy w' (some g)) (k : Nat) (hk : k < ls.length) (r r' : Rp) (h' : LgAt w' g es (rs.set k r')) (hab : rab r' = rab r) (hf' : ∀ ad, r'.A = some ad → w.heap.size ≤ ad.block)
    {w9 : World} (hl : Below w'.heap.size w' w9) (ho : okRp w r) (hf : farRp g r) (hf4 : farRp b4 r) (hn : r.n ≤ 65536) (hr : rmay r) : LInv w0 g b4 (w9.setCells b4 (k * 10) (rpc r)) es (rs.set k r') (ls.set k r) := by
  have hb4 := h.l4.lt
  have h44 := h.h4
  have hf4' : ∀ x ∈ rs.set k r', farRp b4 x := fun x hx => by
    rcases List.mem_or_eq_of_mem_set hx with hx | rfl
    · exact h.f4 x hx
    · intro ad e _; have := hf' ad e; omega
  have hk4 : Blk w9 b4 (rws rpc ls) := (h.l4.kept hg (by intro e; injection e with e; omega)).later hl
  refine ⟨(h'.later hl).far (by omega) hf4', ?_, by rw [List.length_set]; exact h.ll, ?_, fun x hx => ?_, hf4', ?_, h.hg, h.h4⟩
  · have h2 := hk4.sets (rpc r) (k * 10) (by rw [rws_len _ (fun x _ => rpc_len x), rpc_len]; omega)
    rw [rpc_len, rws_put rpc 10 ls (fun x _ => rpc_len x) k hk r] at h2
    exact h2
  · rw [List.map_set, List.map_set, h.eq, hab]
  · have h3 : ∀ x, okRp w x → farRp g x → farRp b4 x → okRp (w9.setCells b4 (k * 10) (rpc r)) x := fun x a b c => ((a.grown b hg).later hl).store c
    rcases List.mem_or_eq_of_mem_set hx with hx | rfl
    · obtain ⟨a, b, c, d⟩ := h.ok x hx
      exact ⟨h3 x a b c, b, c, d⟩
    · exact ⟨h3 _ ho hf hf4, hf, hf4, hn, hr⟩
  · have h5 := h.be.trans (below_grown hg h.be.size (fun k e => by injection e with e; have := h.hg; omega))
    exact below_sets (by have := h.hg; omega) _ _ (h5.trans (hl.mono h5.size))
/-- What a request that was noted is answered. -/
theorem LInv.asks (h : LInv w0 g b4 w es rs ls) (d : Nat) (hd : d < ls.length) (h0 : ls[d].rq ≠ 0) : acod rs d ls[d].rq = 7 ∧ ares rs d ls[d].rq = rab ls[d] := by
  obtain ⟨hr, e⟩ := h.at_ d hd
  have hm := (h.ok _ (List.getElem_mem hd)).2.2.2.2
  have hq : rs[d].rq = ls[d].rq := rab_rq e
  obtain ⟨_, a2, _⟩ := acod_at (rs := rs) (k := d) (rq := ls[d].rq) hr (by have := h.ll; omega) (by rcases hm with hm | hm; exact absurd hm h0; exact hm)
  rw [← e]
  exact a2 hq.symm
/-- A request that is noted is above the one before. -/
theorem LInv.above (h : LInv w0 g b4 w es rs ls) (r : Rp) (h0 : acod rs r.dv r.rq = 0) : ∃ k : Nat, r.dv = (k : Int) ∧ ∃ (hk : k < ls.length), ls[k].rq < r.rq := by
  by_cases h1 : (0 ≤ r.dv ∧ r.dv < 6) ∧ (1 ≤ r.rq ∧ r.rq ≤ 1099511627776)
  · obtain ⟨k, hk⟩ : ∃ k : Nat, r.dv = (k : Int) := ⟨r.dv.toNat, by omega⟩
    have hkl : k < ls.length := by rw [h.ll]; omega
    obtain ⟨hr, e⟩ := h.at_ k hkl
    refine ⟨k, hk, hkl, ?_⟩
    rw [← rab_rq e]
    rw [hk] at h0
    obtain ⟨a1, a2, _⟩ := acod_at (rs := rs) (k := k) (rq := r.rq) hr (by omega) h1.2
    by_cases c1 : r.rq < rs[k].rq
    · rw [(a1 c1).1] at h0; simp at h0
    · by_cases c2 : r.rq = rs[k].rq
      · rw [(a2 c2).1] at h0; simp at h0
      · omega
  · rw [(acod_arg h1).1] at h0; simp at h0
end
theorem okRp.low {w : World} {r : Rp} (h : okRp w r) (g : Nat) (hg : w.heap.size ≤ g) : farRp g r := fun ad e hn => by
  obtain ⟨b, o, e2, hb, _⟩ := h.see (by rw [ncs_len, h.len]; omega)
  rw [e] at e2
  injection e2 with e2
  subst e2
  show b ≠ g
  omega
theorem wpList_store_as {P : Program} {ops : Array Oper} {rest : List Oper} {op : Oper} {a : Act} {w : World} {Q : Exit → Act → World → Prop} (hgd : op.guard = none) (ty : TypeId) (x y : Operand) (ho : op.op = .store ty x y)
    (b o : Nat) (cells : Array Value) (hx : a.eval x = .pointer (some ⟨b, o, none⟩)) (hy : a.eval y = .agg cells)
    (ht : w.there b o cells.size) (hi : (P.info? ty).map (·.size) = some cells.size) (h1 : cells.all (·.oneCell') = true) (W3 : World) (hW : W3 = w.setCells b o cells.toList)
    (h : wpList P ops Q rest (a.put op.dst undef) W3) : wpList P ops Q (op :: rest) a w :=
  wpList_store_mid hgd ty x y ho b o cells hx hy ht hi h1 (by rw [← hW]; exact h)
/-- An act as it lies. -/
structure Ac where
  k : Int
  r : Rp
def acc30 (a : Ac) : List Value := .int .i64 a.k :: rpc a.r
theorem acc30_len (l : List Ac) : ∀ x ∈ l, (acc30 x).length = 11 := fun _ _ => rfl
structure SeesA (w : World) (A : Option Addr) (n c : Nat) (l : List Ac) : Prop where
  len : l.length = n
  cap : n ≤ c
  max : c ≤ maxLen
  see : Sees w w.heap.size A (rws acc30 l)
  ok : ∀ a ∈ l, okRp w a.r
theorem SeesA.get {w : World} {A : Option Addr} {n c : Nat} {l : List Ac} (h : SeesA w A n c l) (k : Nat) (hk : k < l.length) :
    ∃ b o, A = some ⟨b, o, none⟩ ∧ b < w.heap.size ∧ ∀ W, Below w.heap.size w W → W.cell? ⟨b, o + k * 11, none⟩ = some (.int .i64 l[k].k) ∧ W.rangeAt b (o + k * 11 + 1) (rpc l[k].r) := by
  obtain ⟨b, o, e, hb, _⟩ := sees_rw (f := acc30) (sz := 11) (acc30_len l) h.see (by decide) k hk
  refine ⟨b, o, e, hb, fun W hW => ?_⟩
  obtain ⟨b', o', e', _, hr⟩ := sees_rw (f := acc30) (sz := 11) (acc30_len l) ((h.see.below hW).more hW.size) (by decide) k hk
  rw [e] at e'
  cases e'
  refine ⟨hr 0 _ rfl, fun j v hj => ?_⟩
  rw [show o + k * 11 + 1 + j = o + k * 11 + (j + 1) by omega]
  exact hr (j + 1) v (by simpa [acc30] using hj)
end Go.Proofs.Ytadmaalhhigbeaa

/- Filters: the chapter's examples; the walk of PredChecks. -/
namespace Go.Proofs.Ytadmaalhhigbeaa
set_option linter.unusedVariables false
set_option linter.unusedSimpArgs false
open Go Go.RowKit

theorem range_later {w w' : World} {B b o : Nat} {cs : List Value} (h : w.rangeAt b o cs) (hl : Below B w w') (hb : b < B) : w'.rangeAt b o cs := fun j v hj => (hl.cell (p := ⟨b, o + j, none⟩) hb).trans (h j v hj)

def exA : List Nd := [(10, 0, zv), (3, 3, zv)]
def exB : List Nd := [(11, 0, zv), (1, 0, zv)]
theorem exA_ok : lchk exA = 0 ∧ dep exA = 2 := by decide +kernel
theorem exB_ok : lchk exB = 1 := by decide +kernel

end Go.Proofs.Ytadmaalhhigbeaa

/- Patches as bytes, by the document: what its PutPatch returns. -/
namespace Go.Proofs.Ytadmaalhhigbeaa
set_option linter.unusedVariables false
open Go Go.RowKit BitM OctM

theorem fbs_lst_put (x : BitVec 32) (f : List V3) (k : Nat) (h : has x (k : Int) = true) : fbs (lst x (k + 1)) f = fbs (lst x k) f ++ vbs (f.getD k zv) := by
  rw [lst_succ, if_pos h, fbs_snoc]; simp
theorem lst_skip (x : BitVec 32) (k : Nat) (h : has x (k : Int) = false) : lst x (k + 1) = lst x k := by
  rw [lst_succ, if_neg (by rw [h]; simp)]; simp

end Go.Proofs.Ytadmaalhhigbeaa

/- Cards as bytes: whether the layer is awake; a slice of bytes as a string. -/
namespace Go.Proofs.Ytadmaalhhigbeaa
set_option linter.unusedVariables false
open Go Go.RowKit BitM OctM

theorem str_conv (w : World) (B : Nat) (A : Option Addr) (n c : Nat) (l : List UInt8) (s : ByteArray) (hn : l.length = n) (hs : Sees w B A (bvs l)) (h : s = str l) : (convert 27 9 (.slice A n c)).run Try.prog w = .ok (.string s) w := by
  subst h
  exact run_str (P := Try.prog) w B 27 5 9 Try.underlying27 Try.underlying5 Try.underlying9 A n c l hn hs

section
variable {P : Program} {w : World} {a : Act} {op : Oper}
theorem exec_conv (x : Operand) (t u : TypeId) (ho : op.op = .convert t u x) (v : Value) (hx : a.eval x = v) (r : Value) (h : (convert t u v).run P w = .ok r w) : (execOp a.eval op).run P w = .ok (.value r) w := by
  unfold execOp
  simp only [ho, hx, Sem.run_bind, Sem.run_pure, Result.andThen_ok, h]
end

/-- The card that awake writes. -/
def awk : List V3 := zv :: (1, 7, ⟨#[]⟩) :: List.replicate 6 zv
theorem awk_bytes : cbs 1 2 1 awk = [1, 2, 1, 2, 1, 7] := by decide +kernel
theorem awk_cells : (ccells 1 2 1 zeros).take 6 ++ vcells (1, 7, ⟨#[]⟩) ++ (ccells 1 2 1 zeros).drop 9 = ccells 1 2 1 awk := rfl

end Go.Proofs.Ytadmaalhhigbeaa

/- Filters as bytes: the chapter's example; the walk of PredwirePuts. -/
namespace Go.Proofs.Ytadmaalhhigbeaa
set_option linter.unusedVariables false
set_option linter.unusedSimpArgs false
open Go Go.RowKit OctM

theorem exA_bytes : lbs exA = [2, 10, 3, 3] := by decide +kernel
end Go.Proofs.Ytadmaalhhigbeaa

/- A region that draws its order, whose first operations turn memory, and whose others wait for them: the first by all their orders, the others walked once. -/
namespace Go.Proofs.Ytadmaalhhigbeaa
set_option linter.unusedVariables false
open Go Go.RowKit

/-- The values of the first operations, put. -/
def putsAll : List Oper → List Value → Act → Act
  | o :: l, v :: vs, a => putsAll l vs (a.put o.dst v)
  | _, _, a => a
section
variable {P : Program} {ops : Array Oper} {md : Region.Mode} {Q : Exit → Act → World → Prop}
theorem wpAny_step {fuel : Nat} {listed : Array Bool} {a : Act} {w : World} (r : List Nat) (hr : Region.ready md ops listed = r) (hne : r.isEmpty = false)
    (h : ∀ i ∈ r, wpOp P ops Q i (wpAny P md ops Q fuel (listed.setIfInBounds i true)) a w) : wpAny P md ops Q (fuel + 1) listed a w := by
  subst hr
  exact ⟨fun h0 => absurd hne (by rw [h0]; simp), h⟩
theorem wpOp_move {i : Nat} {a : Act} {w : World} {K : Act → World → Prop} (o : Oper) (ho : ops[i]? = some o) (x : Operand) (hx : o.op = .move x) (hw : Region.wanted o (yielded ops a.tmps) = true) (h : K (a.put o.dst (a.eval x)) w) : wpOp P ops Q i K a w := by
  unfold wpOp
  simp only [ho, hw, if_true]
  left
  unfold Oper.wp execOp
  simp only [hx, Sem.run_pure, Oper.upon]
  exact h
theorem wpOp_call {i : Nat} {a : Act} {w : World} {K : Act → World → Prop} (o : Oper) (ho : ops[i]? = some o) (f : FuncId) (args : Array Value) (hx : (execOp a.eval o).run P w = .ok (.enter f args) w) (hw : Region.wanted o (yielded ops a.tmps) = true)
    (h : Calls P f args w fun e w' => ∃ v, e = .returned v ∧ K (a.put o.dst v) w') : wpOp P ops Q i K a w := by
  unfold wpOp
  simp only [ho, hw, if_true]
  left
  unfold Oper.wp
  rw [hx]
  simp only [Oper.upon]
  exact h.mono fun e w' ⟨v, he, hk⟩ => by subst he; exact hk
end
theorem wpAny_rest {P : Program} {Q : Exit → Act → World → Prop} {l : List Oper} {a : Act} {w : World} (k n : Nat) (listed : Array Bool) (hs : Region.noSelect l.toArray = true) (hf : fedB l [] n = true)
    (hB : Region.lexFrom .any l.toArray (l.drop k).length k listed = true) (hn : a.tmps.size = n)
    (h : wpG P l.toArray (openOf []) w (fun a' w' => Q .normal a' w') (l.drop k) a (fun _ => True)) : wpAny P .any l.toArray Q (l.drop k).length listed a w := by
  obtain ⟨hF, hd⟩ := fedB_fed (g := []) (n := n) hf
  have hI : Inv l.toArray (openOf []) w listed a w := ⟨Le.refl w, fun k o d R _ _ _ hG => by simp [openOf] at hG⟩
  refine wpAny_of_G (Qn := fun a' w' => Q .normal a' w') (w0 := w) hF (fun _ _ h => h) _ _ _ _ hI ?_
  exact wpAnyG_lex hF hs n hd (l.drop k) k listed a (fun _ => True) (fun j => by rw [List.getElem?_toArray, List.getElem?_drop]) hB hn ⟨w, hI⟩ (fun _ _ => trivial) h
/-- The first k operations in all their orders (head); the others once (tail). -/
theorem wp_region_head {P : Program} {id : Nat} {Q : Exit → Act → World → Prop} {a : Act} {w : World} {l : List Oper} (k n : Nat) (listed : Array Bool) (vs : List Value) (S : World → Prop) (hm : P.follows .mixedOrders = true)
    (hs : Region.noSelect l.toArray = true) (hf : fedB l [] n = true) (hB : Region.lexFrom .any l.toArray (l.drop k).length k listed = true) (hn : (putsAll l vs a).tmps.size = n)
    (head : (∀ w', S w' → wpAny P .any l.toArray Q (l.drop k).length listed (putsAll l vs a) w') → wpAny P .any l.toArray Q l.length (Array.replicate l.length false) a { w with drawn := w.drawn + 1 })
    (tail : ∀ w', S w' → wpG P l.toArray (openOf []) w' (fun a' w' => Q .normal a' w') (l.drop k) (putsAll l vs a) (fun _ => True)) : (Code.region id l.toArray true).wp P Q a w := by
  refine wp_region_any hm ?_
  simpa using head fun w' hS => wpAny_rest k n listed hs hf hB hn (tail w' hS)
end Go.Proofs.Ytadmaalhhigbeaa

/- PredwireReads: the walk. -/
namespace Go.Proofs.Ytadmaalhhigbeaa
set_option linter.unusedVariables false
set_option linter.unusedSimpArgs false
open Go Go.RowKit OctM

/-- The first k operations in all their orders (head); the others once (tail); what the first ones give is known up to t. -/
theorem wp_region_headx {T : Type} {P : Program} {id : Nat} {Q : Exit → Act → World → Prop} {a : Act} {w : World} {l : List Oper} (k n : Nat) (listed : Array Bool) (vs : T → List Value) (S : T → World → Prop) (hm : P.follows .mixedOrders = true)
    (hs : Region.noSelect l.toArray = true) (hf : fedB l [] n = true) (hB : Region.lexFrom .any l.toArray (l.drop k).length k listed = true) (hn : ∀ t, (putsAll l (vs t) a).tmps.size = n)
    (head : (∀ t w', S t w' → wpAny P .any l.toArray Q (l.drop k).length listed (putsAll l (vs t) a) w') → wpAny P .any l.toArray Q l.length (Array.replicate l.length false) a { w with drawn := w.drawn + 1 })
    (tail : ∀ t w', S t w' → wpG P l.toArray (openOf []) w' (fun a' w' => Q .normal a' w') (l.drop k) (putsAll l (vs t) a) (fun _ => True)) : (Code.region id l.toArray true).wp P Q a w := by
  refine wp_region_any hm ?_
  simpa using head fun t w' hS => wpAny_rest k n listed hs hf hB (hn t) (tail t w' hS)

set_option maxRecDepth 100000 in
set_option maxHeartbeats 3200000 in
theorem nil_filter (w : World) : Calls Try.prog 52 #[.pointer none] w fun x w' => x = .returned (.slice none 0 0) ∧ Below w.heap.size w w' := by
  have HC := Lib.hid (fun wx : World => lcheck_any none 0 0 [] wx rfl Sees.nil_)
  rw [show lchk [] = 1 from by decide +kernel] at HC
  go_enter Try.func52, Try.ntmps52
  go_wp2_with fail
  all_goals (try go_step3)
  go_wp2_with fail
  refine (nil_num _ _).mono ?_
  rintro e w1 ⟨rfl, rfl⟩
  go_wp2_with fail
  refine (nil_fail _ _).mono ?_
  rintro e w1 ⟨rfl, rfl⟩
  go_wp2_with fail
  all_goals (try go_step3)
  go_wp2_with fail
  go_loopw [14, 4] (fun i v wr => i = .int .i64 0 ∧ v = .slice none 0 0 ∧ wr = w) (fun _ _ _ => 0)
  case atStart => exact ⟨rfl, rfl, rfl⟩
  case round =>
    obtain ⟨rfl, rfl, rfl⟩ := hrel
    go_wp2_with fail
    refine (HC.out _).mono ?_
    rintro e w3 ⟨rfl, hb3⟩
    go_wp2_with fail
    refine (nil_fail _ _).mono ?_
    rintro e w1 ⟨rfl, rfl⟩
    go_wp2_with fail
    refine (nil_err _).mono ?_
    rintro e w1 ⟨rfl, rfl⟩
    go_wp2_with fail
    try rw [Exit.noGoto_ret]
    go_ret
    exact ⟨rfl, hb3⟩

theorem filt_len (l : List UInt8) (a : Nat) (e : Int) : (filtOut l a e).1.length ≤ 31 := by
  have h1 := nodes_len (l := l) (a := (mny l a e).2.1) (mny l a e).1
  have h2 := mny_le l a e
  unfold filtOut
  split
  · simp
  · split
    · simp
    · split
      · omega
      · simp
/-- What lies there behind both reads. -/
def Both2 (w : World) (gr gm : Nat) (l : List UInt8) (a : Nat) (e : Int) (ns : List Nd) (m : Nat) (t : Option Addr × Nat × Option Addr × Nat) (w' : World) : Prop :=
  Two w w' gr gm l a e (l.drop a) e ∧ Sees w' w'.heap.size t.1 (ncs ns) ∧ Sees w' w'.heap.size t.2.2.1 (ncs ns)

end Go.Proofs.Ytadmaalhhigbeaa

/- Cards as they are read of bytes: the program's: the walk. -/
namespace Go.Proofs.Ytadmaalhhigbeaa
set_option linter.unusedVariables false
open Go Go.RowKit OctM BitM

theorem fld_nat {x : BitVec 32} {k : Nat} {L : List Int} (hL : L = flds x) (hk : k < L.length) : ∃ j : Nat, L[k] = (j : Int) ∧ j < 8 := by
  obtain ⟨h0, h8, _⟩ := (mem_flds x L[k]).1 (by rw [← hL]; exact List.getElem_mem hk)
  obtain ⟨j, hj⟩ := Int.eq_ofNat_of_zero_le h0
  exact ⟨j, hj, by omega⟩

end Go.Proofs.Ytadmaalhhigbeaa

/- Values, cards and patches as they are read of no reader. -/
namespace Go.Proofs.Ytadmaalhhigbeaa
set_option linter.unusedVariables false
open Go Go.RowKit OctM BitM

def relB (B : Nat) (cs : List Value) : Rel where
  rel x w := ∃ g, x = .pointer (some ⟨g, 0, none⟩) ∧ B ≤ g ∧ Blk w g cs
  mono := fun x w w' h ⟨g, e, hg, hr⟩ => ⟨g, e, hg, hr.later h⟩
  real := fun w ⟨g, e, _⟩ => by cases e
set_option maxRecDepth 100000 in
set_option maxHeartbeats 1600000 in
theorem nil_value (w : World) : Calls Try.prog 99 #[.pointer none] w fun x w' => x = .returned (.agg (vcells zv).toArray) ∧ Below w.heap.size w w' := by
  have hu := Try.underlying69
  have B2 := Blk.new w (vcells zv) 69
  have hb := (Below.refl w.heap.size w).alloc (Nat.le_refl _) (.cells (vcells zv).toArray 69)
  go_enter Try.func99, Try.ntmps99
  go_wp2_with fail
  refine (nil_num _ _).mono ?_
  rintro x w1 ⟨rfl, h1⟩
  generalize hw0 : w.alloc (.cells #[Value.int .i64 0, .int .i64 0, .string { data := #[] }] 69) = w0 at h1
  have B2' : Blk w0 w.heap.size (vcells zv) := hw0 ▸ B2
  have hb0 : Below w.heap.size w w0 := hw0 ▸ hb
  clear B2 hb hw0
  subst h1
  have B3 := Blk.new w0 (vcells zv) 69
  have T3 := B3.there 0 3 (Nat.le_refl _)
  have S3 := B3.wholeT (ds := vcells zv) rfl
  have LE3 : Le w0 (World.setCells (w0.alloc (.cells (vcells zv).toArray 69)) w0.heap.size 0 (vcells zv)) := below_sets (Nat.le_refl _) _ 0 ((Below.refl w0.heap.size w0).alloc (Nat.le_refl _) _)
  have O3 : (vcells zv).toArray.all (·.oneCell') = true := vcells_all _
  have hsz := hb0.size
  have hb2 := B2'.lt
  obtain ⟨g3, hg3⟩ : ∃ z, z = w0.heap.size := ⟨_, rfl⟩
  rw [← hg3] at T3 S3 LE3 hsz hb2
  have HG3 := Lib.hid hg3
  clear hg3 B3
  go_wp2_with (first
    | (rw [← HG3.out]
       refine wpList_store_mid rfl 69 (.tmp 3) (.tmp 6) rfl g3 0 (vcells zv).toArray rfl rfl T3 info_val O3 ?_
       simp only [Act.put]
       generalize hw3 : World.setCells _ g3 0 (vcells zv).toArray.toList = w3
       have S4 : Blk w3 g3 (vcells zv) := hw3 ▸ S3
       have LE3' : Le w0 w3 := hw3 ▸ LE3
       have q1 : w3.cell? ⟨g3, 0, none⟩ = some (.int .i64 0) := S4.cell rfl
       clear hw3 T3 S3 LE3)
    | fail)
  refine (nil_err _).mono ?_
  rintro x w4 ⟨rfl, rfl⟩
  replace B2' := B2'.later LE3'
  replace hb0 := hb0.trans (LE3'.mono hb0.size)
  have T8 := B2'.there 0 3 (Nat.le_refl _)
  have FIN := B2'.wholeT (ds := vcells zv) rfl
  have H9 := below_sets (Nat.le_refl w.heap.size) (vcells zv) 0 hb0
  clear q1 S4
  go_wp2_with (first
    | (refine wpList_store_mid rfl 69 (.tmp 2) (.tmp 22) rfl w.heap.size 0 (vcells zv).toArray rfl rfl T8 info_val O3 ?_)
    | fail)
  exact bodyPost_ret (v := .agg (vcells zv).toArray) (tok_results (q := 2) rfl _ _ w.heap.size _ _ rfl FIN hu rfl info_val) rfl ⟨rfl, H9⟩
end Go.Proofs.Ytadmaalhhigbeaa

/- CardwireReads: the walk. -/
namespace Go.Proofs.Ytadmaalhhigbeaa
set_option linter.unusedVariables false
set_option linter.unusedSimpArgs false
open Go Go.RowKit OctM

theorem same_v (v : V3) (w : World) : (Op.equalIn 10000 69 (.agg (vcells v).toArray) (.agg (vcells v).toArray)).run Try.prog w = .ok true w := by
  rw [eq_val 9998 v v w, decide_eq_true rfl]
end Go.Proofs.Ytadmaalhhigbeaa

/- CardwirePuts: the walk. -/
namespace Go.Proofs.Ytadmaalhhigbeaa
set_option linter.unusedVariables false
open Go Go.RowKit BitM OctM

theorem pbs_len (x : BitVec 32) (lab : Int) (f : List V3) : (pbs x lab f).length ≤ 400 := by
  unfold pbs
  split
  · simp
  · simp only [List.length_append]
    have h1 := held_len (x.toNat : Int)
    have h2 := held_len lab
    have h5 := fbs_len (lst x 8) f
    have h6 := lst_len x 8
    rw [flds_lst]
    split <;> first | omega | (simp only [List.length_nil]; omega)

end Go.Proofs.Ytadmaalhhigbeaa
