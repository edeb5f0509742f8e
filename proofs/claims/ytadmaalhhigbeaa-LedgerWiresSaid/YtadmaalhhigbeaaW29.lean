/- Ledger: Ask. -/
import Derived.Test.YtadmaalhhigbeaaW21
namespace Go.Proofs.Ytadmaalhhigbeaa
set_option linter.unusedVariables false
set_option linter.unusedSimpArgs false
open Go Go.RowKit ValM

theorem results_blk_tmp {P : Program} {fn : Func} {p q : Tmp} {ty : TypeId} (h : fn.results = #[.cell q ty, .tmp p]) (tmps : Array Value) (w : World) (g : Nat) (cs : List Value) (d : TypeDesc) (v : Value) (hp : tmps.getD p undef = v)
    (hq : tmps.getD q undef = .pointer (some ⟨g, 0, none⟩)) (hB : Blk w g cs)
    (hu : P.underlying ty = some d) (hd : (match d with | .struct _ | .array _ _ => true | _ => false) = true) (hi : (P.info? ty).map (·.size) = some cs.length) :
    (results fn tmps).run P w = .ok (.tuple #[.agg cs.toArray, v]) w := by
  obtain ⟨t, hB⟩ := hB
  subst hp
  have hq' : tmps[q]?.getD undef = .pointer (some ⟨g, 0, none⟩) := by simpa using hq
  simp [results, h, hq', asAddr, run_loadVar_row w g t ty cs.toArray (0, 0) d hB hu hd (by simpa using hi)]
/-- The code of an answer to a request. -/
def acod (rs : List Rp) (dv rq : Int) : Int := if ¬ ((0 ≤ dv ∧ dv < 6) ∧ (1 ≤ rq ∧ rq ≤ 1099511627776)) then 1 else if rq < (rs.getD dv.toNat zrp).rq then 13 else if rq = (rs.getD dv.toNat zrp).rq then 7 else 0
def ares (rs : List Rp) (dv rq : Int) : Rq := if acod rs dv rq = 7 then rab (rs.getD dv.toNat zrp) else zrq
def GivesAns (w : World) (q : Rq) (code : Int) (e : Ending) (w' : World) : Prop := ∃ r, e = .returned (.tuple #[.agg (rpc r).toArray, .int .i64 code]) ∧ okRp w' r ∧ rab r = q ∧ (∀ ad, r.A = some ad → w.heap.size ≤ ad.block) ∧ r.n ≤ 65536 ∧ Below w.heap.size w w'
theorem acod_arg {rs : List Rp} {dv rq : Int} (h : ¬ ((0 ≤ dv ∧ dv < 6) ∧ (1 ≤ rq ∧ rq ≤ 1099511627776))) : acod rs dv rq = 1 ∧ ares rs dv rq = zrq := by
  have e : acod rs dv rq = 1 := if_pos h
  exact ⟨e, by unfold ares; rw [e]; rfl⟩
theorem acod_at {rs : List Rp} {k : Nat} {rq : Int} (hk : k < rs.length) (h6 : k < 6) (h : 1 ≤ rq ∧ rq ≤ 1099511627776) :
    (rq < rs[k].rq → acod rs k rq = 13 ∧ ares rs k rq = zrq) ∧ (rq = rs[k].rq → acod rs k rq = 7 ∧ ares rs k rq = rab rs[k]) ∧ (rs[k].rq < rq → acod rs k rq = 0 ∧ ares rs k rq = zrq) := by
  have hg : rs.getD ((k : Int)).toNat zrp = rs[k] := by simp [hk]
  have hn : ¬ ¬ ((0 ≤ (k : Int) ∧ (k : Int) < 6) ∧ (1 ≤ rq ∧ rq ≤ 1099511627776)) := fun x => x ⟨by omega, h⟩
  refine ⟨fun h1 => ?_, fun h1 => ?_, fun h1 => ?_⟩
  · have e : acod rs k rq = 13 := by unfold acod; rw [if_neg hn, hg, if_pos h1]
    exact ⟨e, by unfold ares; rw [e]; rfl⟩
  · have e : acod rs k rq = 7 := by unfold acod; rw [if_neg hn, hg, if_neg (by omega), if_pos h1]
    exact ⟨e, by unfold ares; rw [if_pos e, hg]⟩
  · have e : acod rs k rq = 0 := by unfold acod; rw [if_neg hn, hg, if_neg (by omega), if_neg (by omega)]
    exact ⟨e, by unfold ares; rw [e]; rfl⟩
theorem zero_ans {w w' : World} (hb : Below w.heap.size w w') (code : Int) : GivesAns w zrq code (.returned (.tuple #[.agg #[.int .i64 0, .int .i64 0, .int .i64 0, .int .i64 0, .int .i64 0, .int .i64 0, .int .i64 0, .int .i64 0, .slice none 0 0, .int .u32 0], .int .i64 code])) w' :=
  ⟨zrp, rfl, okRp.zero _, rfl, (fun ad e => by cases e), by simp [zrp], hb⟩

set_option maxRecDepth 100000 in
set_option maxHeartbeats 3200000 in
theorem lask_any (g : Nat) (es : List Int) (rs : List Rp) (dv rq : Int) (w : World) (h : LgAt w g es rs) :
    Calls Try.prog 22 #[.pointer (some ⟨g, 0, none⟩), .int .i64 dv, .int .i64 rq] w (GivesAns w (ares rs dv rq) (acod rs dv rq)) := by
  have hu := Try.underlying26
  have HB0 := Lib.hid (below_a1 w (.cells #[.int .i64 0, .int .i64 0, .int .i64 0, .int .i64 0, .int .i64 0, .int .i64 0, .int .i64 0, .int .i64 0, .slice none 0 0, .int .u32 0] 26))
  have HK : Hid (Blk (w.alloc (.cells #[.int .i64 0, .int .i64 0, .int .i64 0, .int .i64 0, .int .i64 0, .int .i64 0, .int .i64 0, .int .i64 0, .slice none 0 0, .int .u32 0] 26)) w.heap.size [.int .i64 0, .int .i64 0, .int .i64 0, .int .i64 0, .int .i64 0, .int .i64 0, .int .i64 0, .int .i64 0, .slice none 0 0, .int .u32 0]) := Lib.hid (Blk.new w [.int .i64 0, .int .i64 0, .int .i64 0, .int .i64 0, .int .i64 0, .int .i64 0, .int .i64 0, .int .i64 0, .slice none 0 0, .int .u32 0] 26)
  by_cases h1 : 0 ≤ dv ∧ dv < 6
  · have HD := Lib.hid (fun W => lgdev_any dv W)
    rw [decide_eq_true h1] at HD
    by_cases h2 : 1 ≤ rq ∧ rq ≤ 1099511627776
    · have HA := Lib.hid (fun W => lgabove_any rq W)
      rw [decide_eq_true h2] at HA
      obtain ⟨k, rfl⟩ : ∃ k : Nat, dv = (k : Int) := ⟨dv.toNat, by omega⟩
      have h6 : k < 6 := by omega
      have hk : k < rs.length := by rw [h.lr]; exact h6
      obtain ⟨a1, a2, a3⟩ := acod_at hk h6 h2
      have hl := h.later HB0.out
      have kq := hl.cell k hk 2 _ rfl
      have RG := hl.range k hk
      have HCP := Lib.hid (fun W (hW : Below w.heap.size w W) => copied_any rs[k] W (((h.ok _ (List.getElem_mem hk)).1).later hW) (h.ok _ (List.getElem_mem hk)).2.2)
      have hnk : ¬ (6 : Int) ≤ (k : Int) := by omega
      have hnk2 : ¬ 6 ≤ k := by omega
      by_cases hlt : rq < rs[k].rq
      · obtain ⟨e1, e2⟩ := a1 hlt
        rw [e1, e2]
        have d1 : decide (rq < rs[k].rq) = true := decide_eq_true hlt
        clear a1 a2 a3 e1 e2 hlt h2 h1 HCP RG
        generalize rs[k].rq = q at *
        clear h hl
        go_enter Try.func22, Try.ntmps22
        go_wp2_with fail
        refine (HD.out _).mono ?_
        rintro e w2 ⟨rfl, rfl⟩
        go_wp2_with fail
        refine (HA.out _).mono ?_
        rintro e w2 ⟨rfl, rfl⟩
        go_wp2_with fail
        exact bodyPost_ret (v := .tuple #[.agg #[.int .i64 0, .int .i64 0, .int .i64 0, .int .i64 0, .int .i64 0, .int .i64 0, .int .i64 0, .int .i64 0, .slice none 0 0, .int .u32 0], .int .i64 13]) (results_blk_tmp (p := 7) (q := 6) rfl _ _ w.heap.size [.int .i64 0, .int .i64 0, .int .i64 0, .int .i64 0, .int .i64 0, .int .i64 0, .int .i64 0, .int .i64 0, .slice none 0 0, .int .u32 0] _ _ rfl rfl (HK.out) hu rfl info_rp) rfl (zero_ans (HB0.out) 13)
      · have d1 : decide (rq < rs[k].rq) = false := decide_eq_false hlt
        by_cases heq : rq = rs[k].rq
        · obtain ⟨e1, e2⟩ := a2 heq
          rw [e1, e2]
          have d2 : (rq == rs[k].rq) = true := by simp [heq]
          clear a1 a2 a3 e1 e2 hlt h2 h1 heq
          have HQ : Hid (∀ W, Below w.heap.size w W → Calls Try.prog 57 #[.agg (rpc rs[k]).toArray] W (GivesRp W (rab rs[k]))) := HCP
          generalize hrk : rs[k] = rk at *
          clear h hl HCP hrk
          generalize rab rk = qq at HQ ⊢
          go_enter Try.func22, Try.ntmps22
          go_wp2_with fail
          refine (HD.out _).mono ?_
          rintro e w2 ⟨rfl, rfl⟩
          go_wp2_with fail
          refine (HA.out _).mono ?_
          rintro e w2 ⟨rfl, rfl⟩
          go_wp2_with (first
            | (refine wpList_load_mid rfl 26 (.tmp 47) rfl g (6 + k * 10) rfl (rpc rk) _ RG hu rfl info_rp ?_
               simp only [Act.put, List.setIfInBounds_toArray, List.set_cons_zero, List.set_cons_succ])
            | fail)
          refine (HQ.out _ HB0.out).mono ?_
          rintro e w5 ⟨r, rfl, hok, hab, hfar, hn, hb5⟩
          have B6 := HK.out.later hb5
          have TH := B6.there 0 10 (by simp)
          have hne : farRp w.heap.size r := fun ad e _ => by have := hfar ad e; simp at this; omega
          have FIN := B6.sets (rpc r) 0 (by simp [rpc])
          have HFIN : Hid (GivesAns w qq 7 (.returned (.tuple #[.agg (rpc r).toArray, .int .i64 7])) (w5.setCells w.heap.size 0 (rpc r))) := Lib.hid
            ⟨r, rfl, okRp.store hok hne, hab, (fun ad e => by have := hfar ad e; simp at this; omega), hn, below_sets (Nat.le_refl _) _ _ (HB0.out.trans (hb5.mono HB0.out.size))⟩
          have hone := all_oneCell_toArray (rpc_one r)
          have HL := Lib.hid (rpc_len r)
          have FIN2 : Blk (w5.setCells w.heap.size 0 (rpc r)) w.heap.size (rpc r) := by
            have h3 := FIN
            rw [List.take_zero, List.nil_append, List.drop_eq_nil_of_le (by simp [rpc]), List.append_nil] at h3
            exact h3
          clear hok hab hfar hn hb5 B6 hne FIN
          generalize rpc r = cr at *
          go_wp2_with (first
            | (refine wpList_store_mid rfl 26 (.tmp 6) (.tmp 49) rfl w.heap.size 0 cr.toArray rfl rfl (by simpa [HL.out] using TH) (by simpa [HL.out] using info_rp) hone ?_)
            | fail)
          exact bodyPost_ret (v := .tuple #[.agg cr.toArray, .int .i64 7]) (results_blk_tmp (p := 7) (q := 6) rfl _ _ w.heap.size cr _ _ rfl rfl FIN2 hu rfl (by rw [HL.out]; exact info_rp)) rfl HFIN.out
        · obtain ⟨e1, e2⟩ := a3 (by omega)
          rw [e1, e2]
          have d2 : (rq == rs[k].rq) = false := by simp [heq]
          clear a1 a2 a3 e1 e2 hlt h2 h1 heq HCP RG
          generalize rs[k].rq = q at *
          clear h hl
          go_enter Try.func22, Try.ntmps22
          go_wp2_with fail
          refine (HD.out _).mono ?_
          rintro e w2 ⟨rfl, rfl⟩
          go_wp2_with fail
          refine (HA.out _).mono ?_
          rintro e w2 ⟨rfl, rfl⟩
          go_wp2_with fail
          exact bodyPost_ret (v := .tuple #[.agg #[.int .i64 0, .int .i64 0, .int .i64 0, .int .i64 0, .int .i64 0, .int .i64 0, .int .i64 0, .int .i64 0, .slice none 0 0, .int .u32 0], .int .i64 0]) (results_blk_tmp (p := 7) (q := 6) rfl _ _ w.heap.size [.int .i64 0, .int .i64 0, .int .i64 0, .int .i64 0, .int .i64 0, .int .i64 0, .int .i64 0, .int .i64 0, .slice none 0 0, .int .u32 0] _ _ rfl rfl (HK.out) hu rfl info_rp) rfl (zero_ans (HB0.out) 0)
    · have HA := Lib.hid (fun W => lgabove_any rq W)
      rw [decide_eq_false h2] at HA
      obtain ⟨e1, e2⟩ := acod_arg (rs := rs) (dv := dv) (rq := rq) (fun x => h2 x.2)
      rw [e1, e2]
      clear h h1 h2 e1 e2
      go_enter Try.func22, Try.ntmps22
      go_wp2_with fail
      refine (HD.out _).mono ?_
      rintro e w2 ⟨rfl, rfl⟩
      go_wp2_with fail
      refine (HA.out _).mono ?_
      rintro e w2 ⟨rfl, rfl⟩
      go_wp2_with fail
      exact bodyPost_ret (v := .tuple #[.agg #[.int .i64 0, .int .i64 0, .int .i64 0, .int .i64 0, .int .i64 0, .int .i64 0, .int .i64 0, .int .i64 0, .slice none 0 0, .int .u32 0], .int .i64 1]) (results_blk_tmp (p := 7) (q := 6) rfl _ _ w.heap.size [.int .i64 0, .int .i64 0, .int .i64 0, .int .i64 0, .int .i64 0, .int .i64 0, .int .i64 0, .int .i64 0, .slice none 0 0, .int .u32 0] _ _ rfl rfl (HK.out) hu rfl info_rp) rfl (zero_ans (HB0.out) 1)
  · have HD := Lib.hid (fun W => lgdev_any dv W)
    rw [decide_eq_false h1] at HD
    obtain ⟨e1, e2⟩ := acod_arg (rs := rs) (dv := dv) (rq := rq) (fun x => h1 x.1)
    rw [e1, e2]
    clear h h1 e1 e2
    go_enter Try.func22, Try.ntmps22
    go_wp2_with fail
    refine (HD.out _).mono ?_
    rintro e w2 ⟨rfl, rfl⟩
    go_wp2_with fail
    exact bodyPost_ret (v := .tuple #[.agg #[.int .i64 0, .int .i64 0, .int .i64 0, .int .i64 0, .int .i64 0, .int .i64 0, .int .i64 0, .int .i64 0, .slice none 0 0, .int .u32 0], .int .i64 1]) (results_blk_tmp (p := 7) (q := 6) rfl _ _ w.heap.size [.int .i64 0, .int .i64 0, .int .i64 0, .int .i64 0, .int .i64 0, .int .i64 0, .int .i64 0, .int .i64 0, .slice none 0 0, .int .u32 0] _ _ rfl rfl (HK.out) hu rfl info_rp) rfl (zero_ans (HB0.out) 1)
end Go.Proofs.Ytadmaalhhigbeaa
