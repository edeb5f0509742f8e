/- LedgerLoads: which rows may be loaded, and what they are then, is the document's: for every input. No condition. -/
import Derived.Test.YtadmaalhhigbeaaLgE
import Derived.Test.YtadmaalhhigbeaaPrdK
import Derived.Test.YtadmaalhhigbeaaCpy
import Derived.Laws.LoneSync
import Derived.Test.YtadmaalhhigbeaaTail
import Derived.Test.YtadmaalhhigbeaaLgB
import Derived.Test.YtadmaalhhigbeaaPrdW
import Derived.Test.YtadmaalhhigbeaaRws
import Derived.ChangeSame
import Derived.Test.YtadmaalhhigbeaaRowN
import Derived.Test.YtadmaalhhigbeaaRowS
import Derived.Deep.Strs
import Derived.Test.YtadmaalhhigbeaaBase
import Derived.ChangeMaps5
/- Ledger: the ledger as it lies; New, copied. -/
namespace Go.Proofs.Ytadmaalhhigbeaa
set_option linter.unusedVariables false
set_option linter.unusedSimpArgs false
open Go Go.RowKit ValM

theorem row_capm {w : World} {base : Nat} {e : TypeId} {size n c : Nat} {A : Option Addr} {xs : List Value} (h : w.ownsRow base e size (.slice A n c) n xs) : n ≤ c ∧ c ≤ maxLen := by
  rcases h.2 with ⟨e, h0⟩ | ⟨g, cap, cur, e, hx⟩
  · cases e; exact ⟨by omega, by simp [maxLen]⟩
  · cases e; exact ⟨hx.2.2.1, hx.2.2.2.1⟩
/-- An answer's filter lies in another block. -/
def farRp (g : Nat) (r : Rp) : Prop := ∀ ad, r.A = some ad → 0 < r.n → ad.block ≠ g
theorem okRp.pos {w : World} {r : Rp} (h : okRp w r) (hx : 0 < (ncs r.f).length) : 0 < r.n := by
  rw [ncs_len] at hx
  have := h.len
  omega
theorem farRp.zero (g : Nat) : farRp g zrp := fun ad e _ => by cases e
theorem okRp.store {w : World} {g o : Nat} {vs : List Value} {r : Rp} (h : okRp w r) (hf : farRp g r) : okRp (w.setCells g o vs) r := by
  refine ⟨h.len, h.cap, h.max, fun hx => ?_⟩
  obtain ⟨b, o', e, hb, hc⟩ := h.see hx
  refine ⟨b, o', e, by rw [size_sets]; exact hb, fun j hj => ?_⟩
  rw [World.cell?_setCells_out g vs o w ⟨b, o' + j, none⟩ (fun h2 _ => absurd h2 (hf ⟨b, o', none⟩ e (h.pos hx)))]
  exact hc j hj
/-- A ledger: what it has counted of epochs, and each device's last answer. -/
structure LgAt (w : World) (g : Nat) (es : List Int) (rs : List Rp) : Prop where
  blk : BT w g (es.map (Value.int .i64) ++ rws rpc rs) 99
  le : es.length = 6
  lr : rs.length = 6
  er : ∀ e ∈ es, 0 ≤ e ∧ e ≤ 1099511627776
  ok : ∀ r ∈ rs, okRp w r ∧ farRp g r ∧ r.n ≤ 65536
theorem LgAt.later {w w' : World} {g : Nat} {es : List Int} {rs : List Rp} (h : LgAt w g es rs) (hb : Below w.heap.size w w') : LgAt w' g es rs :=
  ⟨h.blk.later hb, h.le, h.lr, h.er, fun r hr => ⟨(h.ok r hr).1.later hb, (h.ok r hr).2⟩⟩
theorem LgAt.lt {w : World} {g : Nat} {es : List Int} {rs : List Rp} (h : LgAt w g es rs) : g < w.heap.size := h.blk.lt
theorem lg_es (es : List Int) (rs : List Rp) (k : Nat) (hk : k < es.length) : (es.map (Value.int .i64) ++ rws rpc rs)[k]? = some (.int .i64 es[k]) := by
  rw [List.getElem?_append_left (by simpa using hk)]
  simp [hk]
theorem lg_rs (es : List Int) (rs : List Rp) (he : es.length = 6) (k : Nat) (hk : k < rs.length) (j : Nat) (v : Value) (hj : (rpc rs[k])[j]? = some v) : (es.map (Value.int .i64) ++ rws rpc rs)[6 + k * 10 + j]? = some v := by
  rw [List.getElem?_append_right (by simp; omega)]
  have := rws_at (f := rpc) (sz := 10) rs (fun x _ => rpc_len x) k hk j v hj
  rw [← this]
  congr 1
  simp
  omega
theorem LgAt.cell {w : World} {g : Nat} {es : List Int} {rs : List Rp} (h : LgAt w g es rs) (k : Nat) (hk : k < rs.length) (j : Nat) (v : Value) (hj : (rpc rs[k])[j]? = some v) : w.cell? ⟨g, 6 + k * 10 + j, none⟩ = some v :=
  h.blk.blk.cell (lg_rs es rs h.le k hk j v hj)
theorem LgAt.range {w : World} {g : Nat} {es : List Int} {rs : List Rp} (h : LgAt w g es rs) (k : Nat) (hk : k < rs.length) : w.rangeAt g (6 + k * 10) (rpc rs[k]) := fun j v hj => h.cell k hk j v hj
theorem LgAt.epoch {w : World} {g : Nat} {es : List Int} {rs : List Rp} (h : LgAt w g es rs) (k : Nat) (hk : k < es.length) : w.cell? ⟨g, k, none⟩ = some (.int .i64 es[k]) :=
  h.blk.blk.cell (lg_es es rs k hk)
theorem LgAt.there {w : World} {g : Nat} {es : List Int} {rs : List Rp} (h : LgAt w g es rs) (k : Nat) (hk : k < rs.length) : w.there g (6 + k * 10) 10 :=
  h.blk.blk.there _ _ (by rw [List.length_append, List.length_map, rws_len _ (fun x _ => rpc_len x), h.le, h.lr]; have := h.lr; omega)

def zes : List Int := [0, 0, 0, 0, 0, 0]
def zrs : List Rp := [zrp, zrp, zrp, zrp, zrp, zrp]
set_option maxRecDepth 100000 in
set_option maxHeartbeats 1600000 in
theorem lgnew_any (w : World) : Calls Try.prog 20 #[] w fun e w' => ∃ g, e = .returned (.pointer (some ⟨g, 0, none⟩)) ∧ LgAt w' g zes zrs ∧ w.heap.size ≤ g ∧ Below w.heap.size w w' := by
  go_enter Try.func20, Try.ntmps20
  go_wp2_with fail
  go_ret
  refine ⟨_, rfl, ⟨BT.new w (zes.map (Value.int .i64) ++ rws rpc zrs) _, rfl, rfl, by simp [zes], fun r hr => ?_⟩, Nat.le_refl _, below_a1 _ _⟩
  have : r = zrp := by simp [zrs] at hr; exact hr
  subst this
  exact ⟨okRp.zero _, farRp.zero _, by simp [zrp]⟩

/-- An answer with its filter in memory of the call's own. -/
def GivesRp (w : World) (q : Rq) (e : Ending) (w' : World) : Prop := ∃ r, e = .returned (.agg (rpc r).toArray) ∧ okRp w' r ∧ rab r = q ∧ (∀ ad, r.A = some ad → w.heap.size ≤ ad.block) ∧ r.n ≤ 65536 ∧ Below w.heap.size w w'
set_option maxRecDepth 100000 in
set_option maxHeartbeats 3200000 in
theorem copied_any (r : Rp) (w : World) (h : okRp w r) (hz : r.n ≤ 65536) : Calls Try.prog 57 #[.agg (rpc r).toArray] w (GivesRp w (rab r)) := by
  have hu := Try.underlying26
  have HC := Lib.hid (fun W (hW : Below w.heap.size w W) => clone_nodes r.A r.n r.c r.f W (h.later hW).len (h.later hW).see hz)
  have hln := h.len
  obtain ⟨kd, dv, rq, cd, id, vr, sq, ep, A, n, c, f, ms⟩ := r
  dsimp only [rpc] at *
  clear h
  go_enter Try.func57, Try.ntmps57
  go_wp2_with fail
  refine (HC.out _ (below_a2 _ _ _)).mono ?_
  rintro e w3 ⟨A3, c3, rfl, hr3, hb3⟩
  have HB3 := Lib.hid ((below_a2 _ _ _).trans (hb3.mono (below_a2 _ _ _).size))
  have B1 : Blk w3 w.heap.size [.int .i64 kd, .int .i64 dv, .int .i64 rq, .int .i64 cd, .int .i64 id, .int .i64 vr, .int .i64 sq, .int .i64 ep, .slice A n c, .int .u32 (ms.toNat : Int)] := ((Blk.new w _ _).alloc _).later hb3
  have B2 : Blk w3 (w.heap.size + 1) [.int .i64 0, .int .i64 0, .int .i64 0, .int .i64 0, .int .i64 0, .int .i64 0, .int .i64 0, .int .i64 0, .slice none 0 0, .int .u32 0] := by
    have h2 := (Blk.new (w.alloc _) [.int .i64 0, .int .i64 0, .int .i64 0, .int .i64 0, .int .i64 0, .int .i64 0, .int .i64 0, .int .i64 0, .slice none 0 0, .int .u32 0] _).later hb3
    rw [show (w.alloc _).heap.size = w.heap.size + 1 by simp] at h2
    exact h2
  have hcap := row_capm hr3
  have hsee := row_sees hr3
  have hfar : ∀ ad, A3 = some ad → w.heap.size ≤ ad.block := fun ad e => Nat.le_trans (by simp; omega) (World.ownsRow.lt hr3 ad.block (by rw [e]; rfl)).1
  obtain ⟨n3, hn3⟩ : ∃ n3, n3 = f.length := ⟨_, rfl⟩
  rw [← hn3] at hr3 hcap ⊢
  have B3 := B1.set 8 (.slice A3 n3 c3)
  have B4 := (B2.setOther (b := w.heap.size) 8 (.slice A3 n3 c3) (by omega))
  have RG := B3.range 0 [.int .i64 kd, .int .i64 dv, .int .i64 rq, .int .i64 cd, .int .i64 id, .int .i64 vr, .int .i64 sq, .int .i64 ep, .slice A3 n3 c3, .int .u32 (ms.toNat : Int)] rfl
  have TH := B4.there 0 10 (by simp)
  have k8 := B1.cell (j := 8) rfl
  have z8 := B1.frozen 8
  have FIN := B4.sets [.int .i64 kd, .int .i64 dv, .int .i64 rq, .int .i64 cd, .int .i64 id, .int .i64 vr, .int .i64 sq, .int .i64 ep, .slice A3 n3 c3, .int .u32 (ms.toNat : Int)] 0 (by simp)
  have hne : ∀ ad, A3 = some ad → ad.block ≠ w.heap.size ∧ ad.block ≠ w.heap.size + 1 := fun ad e => by
    have h1 := (World.ownsRow.lt hr3 ad.block (by rw [e]; rfl)).1
    simp at h1
    omega
  have HFIN : Hid (GivesRp w (rab ⟨kd, dv, rq, cd, id, vr, sq, ep, A, n, c, f, ms⟩) (.returned (.agg #[.int .i64 kd, .int .i64 dv, .int .i64 rq, .int .i64 cd, .int .i64 id, .int .i64 vr, .int .i64 sq, .int .i64 ep, .slice A3 n3 c3, .int .u32 (ms.toNat : Int)])) ((w3.setCell ⟨w.heap.size, 8, none⟩ (.slice A3 n3 c3)).setCells (w.heap.size + 1) 0 [.int .i64 kd, .int .i64 dv, .int .i64 rq, .int .i64 cd, .int .i64 id, .int .i64 vr, .int .i64 sq, .int .i64 ep, .slice A3 n3 c3, .int .u32 (ms.toNat : Int)])) := Lib.hid (by
    have h1 : okRp w3 ⟨kd, dv, rq, cd, id, vr, sq, ep, A3, n3, c3, f, ms⟩ := ⟨hn3.symm, hcap.1, hcap.2, hsee⟩
    have h2 := okRp.store (g := w.heap.size) (o := 8) (vs := [.slice A3 n3 c3]) h1 (fun ad e _ => (hne ad e).1)
    have h3 := okRp.store (g := w.heap.size + 1) (o := 0) (vs := [.int .i64 kd, .int .i64 dv, .int .i64 rq, .int .i64 cd, .int .i64 id, .int .i64 vr, .int .i64 sq, .int .i64 ep, .slice A3 n3 c3, .int .u32 (ms.toNat : Int)]) h2 (fun ad e _ => (hne ad e).2)
    exact ⟨_, rfl, h3, rfl, hfar, by show n3 ≤ 65536; omega, below_sets (by omega) _ _ (HB3.out.setCell (by simp) _)⟩)
  clear hr3 hb3 hfar hne hsee hcap B1 B2 B3 B4 HC hn3 hln
  go_wp2_with (first
    | (refine wpList_load_mid rfl 26 (.tmp 1) rfl w.heap.size 0 rfl [.int .i64 kd, .int .i64 dv, .int .i64 rq, .int .i64 cd, .int .i64 id, .int .i64 vr, .int .i64 sq, .int .i64 ep, .slice A3 n3 c3, .int .u32 (ms.toNat : Int)] _ RG hu rfl info_rp ?_
       simp only [Act.put, List.setIfInBounds_toArray, List.set_cons_zero, List.set_cons_succ])
    | (refine wpList_store_mid rfl 26 (.tmp 2) (.tmp 7) rfl (w.heap.size + 1) 0 #[.int .i64 kd, .int .i64 dv, .int .i64 rq, .int .i64 cd, .int .i64 id, .int .i64 vr, .int .i64 sq, .int .i64 ep, .slice A3 n3 c3, .int .u32 (ms.toNat : Int)] rfl rfl TH info_rp (by kernel_rfl) ?_)
    | fail)
  exact bodyPost_ret (v := .agg #[.int .i64 kd, .int .i64 dv, .int .i64 rq, .int .i64 cd, .int .i64 id, .int .i64 vr, .int .i64 sq, .int .i64 ep, .slice A3 n3 c3, .int .u32 (ms.toNat : Int)]) (results_blk (q := 2) rfl _ _ (w.heap.size + 1) [.int .i64 kd, .int .i64 dv, .int .i64 rq, .int .i64 cd, .int .i64 id, .int .i64 vr, .int .i64 sq, .int .i64 ep, .slice A3 n3 c3, .int .u32 (ms.toNat : Int)] _ rfl FIN hu rfl info_rp) rfl HFIN.out
end Go.Proofs.Ytadmaalhhigbeaa

/- Ledger: Ask. -/
namespace Go.Proofs.Ytadmaalhhigbeaa
set_option linter.unusedVariables false
set_option linter.unusedSimpArgs false
open Go Go.RowKit ValM

theorem results_blk_tmp {P : Program} {fn : Func} {p q : Tmp} {ty : TypeId} (h : fn.results = #[.cell q ty, .tmp p]) (tmps : Array Value) (w : World) (g : Nat) (cs : List Value) (d : TypeDesc) (v : Value) (hp : tmps.getD p undef = v)
    (hq : tmps.getD q undef = .pointer (some ⟨g, 0, none⟩)) (hB : Blk w g cs)
    (hu : P.underlying ty = some d) (hd : (match d with | .struct _ | .array _ _ => true | _ => false) = true) (hi : (P.info? ty).map (·.size) = some cs.length) :
    (results fn tmps).run P w = .ok (.tuple #[.agg cs.toArray, v]) w := by
  obtain ⟨t, hB⟩ := hB
  subst hp
  have hq' : tmps[q]?.getD undef = .pointer (some ⟨g, 0, none⟩) := by simpa using hq
  simp [results, h, hq', asAddr, run_loadVar_row w g t ty cs.toArray (0, 0) d hB hu hd (by simpa using hi)]
/-- The code of an answer to a request. -/
def acod (rs : List Rp) (dv rq : Int) : Int := if ¬ ((0 ≤ dv ∧ dv < 6) ∧ (1 ≤ rq ∧ rq ≤ 1099511627776)) then 1 else if rq < (rs.getD dv.toNat zrp).rq then 13 else if rq = (rs.getD dv.toNat zrp).rq then 7 else 0
def ares (rs : List Rp) (dv rq : Int) : Rq := if acod rs dv rq = 7 then rab (rs.getD dv.toNat zrp) else zrq
def GivesAns (w : World) (q : Rq) (code : Int) (e : Ending) (w' : World) : Prop := ∃ r, e = .returned (.tuple #[.agg (rpc r).toArray, .int .i64 code]) ∧ okRp w' r ∧ rab r = q ∧ (∀ ad, r.A = some ad → w.heap.size ≤ ad.block) ∧ r.n ≤ 65536 ∧ Below w.heap.size w w'
theorem acod_arg {rs : List Rp} {dv rq : Int} (h : ¬ ((0 ≤ dv ∧ dv < 6) ∧ (1 ≤ rq ∧ rq ≤ 1099511627776))) : acod rs dv rq = 1 ∧ ares rs dv rq = zrq := by
  have e : acod rs dv rq = 1 := if_pos h
  exact ⟨e, by unfold ares; rw [e]; rfl⟩
theorem acod_at {rs : List Rp} {k : Nat} {rq : Int} (hk : k < rs.length) (h6 : k < 6) (h : 1 ≤ rq ∧ rq ≤ 1099511627776) :
    (rq < rs[k].rq → acod rs k rq = 13 ∧ ares rs k rq = zrq) ∧ (rq = rs[k].rq → acod rs k rq = 7 ∧ ares rs k rq = rab rs[k]) ∧ (rs[k].rq < rq → acod rs k rq = 0 ∧ ares rs k rq = zrq) := by
  have hg : rs.getD ((k : Int)).toNat zrp = rs[k] := by simp [hk]
  have hn : ¬ ¬ ((0 ≤ (k : Int) ∧ (k : Int) < 6) ∧ (1 ≤ rq ∧ rq ≤ 1099511627776)) := fun x => x ⟨by omega, h⟩
  refine ⟨fun h1 => ?_, fun h1 => ?_, fun h1 => ?_⟩
  · have e : acod rs k rq = 13 := by unfold acod; rw [if_neg hn, hg, if_pos h1]
    exact ⟨e, by unfold ares; rw [e]; rfl⟩
  · have e : acod rs k rq = 7 := by unfold acod; rw [if_neg hn, hg, if_neg (by omega), if_pos h1]
    exact ⟨e, by unfold ares; rw [if_pos e, hg]⟩
  · have e : acod rs k rq = 0 := by unfold acod; rw [if_neg hn, hg, if_neg (by omega), if_neg (by omega)]
    exact ⟨e, by unfold ares; rw [e]; rfl⟩
theorem zero_ans {w w' : World} (hb : Below w.heap.size w w') (code : Int) : GivesAns w zrq code (.returned (.tuple #[.agg #[.int .i64 0, .int .i64 0, .int .i64 0, .int .i64 0, .int .i64 0, .int .i64 0, .int .i64 0, .int .i64 0, .slice none 0 0, .int .u32 0], .int .i64 code])) w' :=
  ⟨zrp, rfl, okRp.zero _, rfl, (fun ad e => by cases e), by simp [zrp], hb⟩

set_option maxRecDepth 100000 in
set_option maxHeartbeats 3200000 in
theorem lask_any (g : Nat) (es : List Int) (rs : List Rp) (dv rq : Int) (w : World) (h : LgAt w g es rs) :
    Calls Try.prog 22 #[.pointer (some ⟨g, 0, none⟩), .int .i64 dv, .int .i64 rq] w (GivesAns w (ares rs dv rq) (acod rs dv rq)) := by
  have hu := Try.underlying26
  have HB0 := Lib.hid (below_a1 w (.cells #[.int .i64 0, .int .i64 0, .int .i64 0, .int .i64 0, .int .i64 0, .int .i64 0, .int .i64 0, .int .i64 0, .slice none 0 0, .int .u32 0] 26))
  have HK : Hid (Blk (w.alloc (.cells #[.int .i64 0, .int .i64 0, .int .i64 0, .int .i64 0, .int .i64 0, .int .i64 0, .int .i64 0, .int .i64 0, .slice none 0 0, .int .u32 0] 26)) w.heap.size [.int .i64 0, .int .i64 0, .int .i64 0, .int .i64 0, .int .i64 0, .int .i64 0, .int .i64 0, .int .i64 0, .slice none 0 0, .int .u32 0]) := Lib.hid (Blk.new w [.int .i64 0, .int .i64 0, .int .i64 0, .int .i64 0, .int .i64 0, .int .i64 0, .int .i64 0, .int .i64 0, .slice none 0 0, .int .u32 0] 26)
  by_cases h1 : 0 ≤ dv ∧ dv < 6
  · have HD := Lib.hid (fun W => lgdev_any dv W)
    rw [decide_eq_true h1] at HD
    by_cases h2 : 1 ≤ rq ∧ rq ≤ 1099511627776
    · have HA := Lib.hid (fun W => lgabove_any rq W)
      rw [decide_eq_true h2] at HA
      obtain ⟨k, rfl⟩ : ∃ k : Nat, dv = (k : Int) := ⟨dv.toNat, by omega⟩
      have h6 : k < 6 := by omega
      have hk : k < rs.length := by rw [h.lr]; exact h6
      obtain ⟨a1, a2, a3⟩ := acod_at hk h6 h2
      have hl := h.later HB0.out
      have kq := hl.cell k hk 2 _ rfl
      have RG := hl.range k hk
      have HCP := Lib.hid (fun W (hW : Below w.heap.size w W) => copied_any rs[k] W (((h.ok _ (List.getElem_mem hk)).1).later hW) (h.ok _ (List.getElem_mem hk)).2.2)
      have hnk : ¬ (6 : Int) ≤ (k : Int) := by omega
      have hnk2 : ¬ 6 ≤ k := by omega
      by_cases hlt : rq < rs[k].rq
      · obtain ⟨e1, e2⟩ := a1 hlt
        rw [e1, e2]
        have d1 : decide (rq < rs[k].rq) = true := decide_eq_true hlt
        clear a1 a2 a3 e1 e2 hlt h2 h1 HCP RG
        generalize rs[k].rq = q at *
        clear h hl
        go_enter Try.func22, Try.ntmps22
        go_wp2_with fail
        refine (HD.out _).mono ?_
        rintro e w2 ⟨rfl, rfl⟩
        go_wp2_with fail
        refine (HA.out _).mono ?_
        rintro e w2 ⟨rfl, rfl⟩
        go_wp2_with fail
        exact bodyPost_ret (v := .tuple #[.agg #[.int .i64 0, .int .i64 0, .int .i64 0, .int .i64 0, .int .i64 0, .int .i64 0, .int .i64 0, .int .i64 0, .slice none 0 0, .int .u32 0], .int .i64 13]) (results_blk_tmp (p := 7) (q := 6) rfl _ _ w.heap.size [.int .i64 0, .int .i64 0, .int .i64 0, .int .i64 0, .int .i64 0, .int .i64 0, .int .i64 0, .int .i64 0, .slice none 0 0, .int .u32 0] _ _ rfl rfl (HK.out) hu rfl info_rp) rfl (zero_ans (HB0.out) 13)
      · have d1 : decide (rq < rs[k].rq) = false := decide_eq_false hlt
        by_cases heq : rq = rs[k].rq
        · obtain ⟨e1, e2⟩ := a2 heq
          rw [e1, e2]
          have d2 : (rq == rs[k].rq) = true := by simp [heq]
          clear a1 a2 a3 e1 e2 hlt h2 h1 heq
          have HQ : Hid (∀ W, Below w.heap.size w W → Calls Try.prog 57 #[.agg (rpc rs[k]).toArray] W (GivesRp W (rab rs[k]))) := HCP
          generalize hrk : rs[k] = rk at *
          clear h hl HCP hrk
          generalize rab rk = qq at HQ ⊢
          go_enter Try.func22, Try.ntmps22
          go_wp2_with fail
          refine (HD.out _).mono ?_
          rintro e w2 ⟨rfl, rfl⟩
          go_wp2_with fail
          refine (HA.out _).mono ?_
          rintro e w2 ⟨rfl, rfl⟩
          go_wp2_with (first
            | (refine wpList_load_mid rfl 26 (.tmp 47) rfl g (6 + k * 10) rfl (rpc rk) _ RG hu rfl info_rp ?_
               simp only [Act.put, List.setIfInBounds_toArray, List.set_cons_zero, List.set_cons_succ])
            | fail)
          refine (HQ.out _ HB0.out).mono ?_
          rintro e w5 ⟨r, rfl, hok, hab, hfar, hn, hb5⟩
          have B6 := HK.out.later hb5
          have TH := B6.there 0 10 (by simp)
          have hne : farRp w.heap.size r := fun ad e _ => by have := hfar ad e; simp at this; omega
          have FIN := B6.sets (rpc r) 0 (by simp [rpc])
          have HFIN : Hid (GivesAns w qq 7 (.returned (.tuple #[.agg (rpc r).toArray, .int .i64 7])) (w5.setCells w.heap.size 0 (rpc r))) := Lib.hid
            ⟨r, rfl, okRp.store hok hne, hab, (fun ad e => by have := hfar ad e; simp at this; omega), hn, below_sets (Nat.le_refl _) _ _ (HB0.out.trans (hb5.mono HB0.out.size))⟩
          have hone := all_oneCell_toArray (rpc_one r)
          have HL := Lib.hid (rpc_len r)
          have FIN2 : Blk (w5.setCells w.heap.size 0 (rpc r)) w.heap.size (rpc r) := by
            have h3 := FIN
            rw [List.take_zero, List.nil_append, List.drop_eq_nil_of_le (by simp [rpc]), List.append_nil] at h3
            exact h3
          clear hok hab hfar hn hb5 B6 hne FIN
          generalize rpc r = cr at *
          go_wp2_with (first
            | (refine wpList_store_mid rfl 26 (.tmp 6) (.tmp 49) rfl w.heap.size 0 cr.toArray rfl rfl (by simpa [HL.out] using TH) (by simpa [HL.out] using info_rp) hone ?_)
            | fail)
          exact bodyPost_ret (v := .tuple #[.agg cr.toArray, .int .i64 7]) (results_blk_tmp (p := 7) (q := 6) rfl _ _ w.heap.size cr _ _ rfl rfl FIN2 hu rfl (by rw [HL.out]; exact info_rp)) rfl HFIN.out
        · obtain ⟨e1, e2⟩ := a3 (by omega)
          rw [e1, e2]
          have d2 : (rq == rs[k].rq) = false := by simp [heq]
          clear a1 a2 a3 e1 e2 hlt h2 h1 heq HCP RG
          generalize rs[k].rq = q at *
          clear h hl
          go_enter Try.func22, Try.ntmps22
          go_wp2_with fail
          refine (HD.out _).mono ?_
          rintro e w2 ⟨rfl, rfl⟩
          go_wp2_with fail
          refine (HA.out _).mono ?_
          rintro e w2 ⟨rfl, rfl⟩
          go_wp2_with fail
          exact bodyPost_ret (v := .tuple #[.agg #[.int .i64 0, .int .i64 0, .int .i64 0, .int .i64 0, .int .i64 0, .int .i64 0, .int .i64 0, .int .i64 0, .slice none 0 0, .int .u32 0], .int .i64 0]) (results_blk_tmp (p := 7) (q := 6) rfl _ _ w.heap.size [.int .i64 0, .int .i64 0, .int .i64 0, .int .i64 0, .int .i64 0, .int .i64 0, .int .i64 0, .int .i64 0, .slice none 0 0, .int .u32 0] _ _ rfl rfl (HK.out) hu rfl info_rp) rfl (zero_ans (HB0.out) 0)
    · have HA := Lib.hid (fun W => lgabove_any rq W)
      rw [decide_eq_false h2] at HA
      obtain ⟨e1, e2⟩ := acod_arg (rs := rs) (dv := dv) (rq := rq) (fun x => h2 x.2)
      rw [e1, e2]
      clear h h1 h2 e1 e2
      go_enter Try.func22, Try.ntmps22
      go_wp2_with fail
      refine (HD.out _).mono ?_
      rintro e w2 ⟨rfl, rfl⟩
      go_wp2_with fail
      refine (HA.out _).mono ?_
      rintro e w2 ⟨rfl, rfl⟩
      go_wp2_with fail
      exact bodyPost_ret (v := .tuple #[.agg #[.int .i64 0, .int .i64 0, .int .i64 0, .int .i64 0, .int .i64 0, .int .i64 0, .int .i64 0, .int .i64 0, .slice none 0 0, .int .u32 0], .int .i64 1]) (results_blk_tmp (p := 7) (q := 6) rfl _ _ w.heap.size [.int .i64 0, .int .i64 0, .int .i64 0, .int .i64 0, .int .i64 0, .int .i64 0, .int .i64 0, .int .i64 0, .slice none 0 0, .int .u32 0] _ _ rfl rfl (HK.out) hu rfl info_rp) rfl (zero_ans (HB0.out) 1)
  · have HD := Lib.hid (fun W => lgdev_any dv W)
    rw [decide_eq_false h1] at HD
    obtain ⟨e1, e2⟩ := acod_arg (rs := rs) (dv := dv) (rq := rq) (fun x => h1 x.1)
    rw [e1, e2]
    clear h h1 e1 e2
    go_enter Try.func22, Try.ntmps22
    go_wp2_with fail
    refine (HD.out _).mono ?_
    rintro e w2 ⟨rfl, rfl⟩
    go_wp2_with fail
    exact bodyPost_ret (v := .tuple #[.agg #[.int .i64 0, .int .i64 0, .int .i64 0, .int .i64 0, .int .i64 0, .int .i64 0, .int .i64 0, .int .i64 0, .slice none 0 0, .int .u32 0], .int .i64 1]) (results_blk_tmp (p := 7) (q := 6) rfl _ _ w.heap.size [.int .i64 0, .int .i64 0, .int .i64 0, .int .i64 0, .int .i64 0, .int .i64 0, .int .i64 0, .int .i64 0, .slice none 0 0, .int .u32 0] _ _ rfl rfl (HK.out) hu rfl info_rp) rfl (zero_ans (HB0.out) 1)
end Go.Proofs.Ytadmaalhhigbeaa

/- Ledger: Note. -/
namespace Go.Proofs.Ytadmaalhhigbeaa
set_option linter.unusedVariables false
set_option linter.unusedSimpArgs false
open Go Go.RowKit ValM

theorem rws_put {α : Type} (f : α → List Value) (sz : Nat) (l : List α) (hf : ∀ x ∈ l, (f x).length = sz) (k : Nat) (hk : k < l.length) (x : α) : (rws f l).take (k * sz) ++ f x ++ (rws f l).drop (k * sz + sz) = rws f (l.set k x) := by
  rw [show k * sz + sz = (k + 1) * sz by rw [Nat.add_mul, Nat.one_mul], rws_take l k hf, rws_drop l (k + 1) hf, List.set_eq_take_append_cons_drop, if_pos hk, rws_append, rws_cons, List.append_assoc]
theorem LgAt.put {w : World} {g : Nat} {es : List Int} {rs : List Rp} (h : LgAt w g es rs) (k : Nat) (hk : k < rs.length) (r : Rp) (ho : okRp w r) (hf : farRp g r) (hn : r.n ≤ 65536) : LgAt (w.setCells g (6 + k * 10) (rpc r)) g es (rs.set k r) := by
  have h6 := h.lr
  have hl : (rws rpc rs).length = rs.length * 10 := rws_len _ (fun x _ => rpc_len x)
  refine ⟨?_, h.le, by rw [List.length_set]; exact h.lr, h.er, fun x hx => ?_⟩
  · have := h.blk.sets (rpc r) (6 + k * 10) (by rw [List.length_append, List.length_map, hl, h.le, rpc_len]; omega)
    have e : (es.map (Value.int .i64) ++ rws rpc rs).take (6 + k * 10) ++ rpc r ++ (es.map (Value.int .i64) ++ rws rpc rs).drop (6 + k * 10 + (rpc r).length) = es.map (Value.int .i64) ++ rws rpc (rs.set k r) := by
      rw [← rws_put rpc 10 rs (fun x _ => rpc_len x) k hk r, rpc_len]
      have l6 : (es.map (Value.int .i64)).length = 6 := by rw [List.length_map, h.le]
      rw [List.take_append, List.drop_append, l6, List.take_of_length_le (by omega), List.drop_of_length_le (by omega), List.nil_append]
      rw [show 6 + k * 10 - 6 = k * 10 by omega, show 6 + k * 10 + 10 - 6 = k * 10 + 10 by omega]
      simp only [List.append_assoc]
    rw [e] at this
    exact this
  · rcases List.mem_or_eq_of_mem_set hx with hx | rfl
    · obtain ⟨a, b, c⟩ := h.ok x hx
      exact ⟨a.store b, b, c⟩
    · exact ⟨ho.store hf, hf, hn⟩
theorem LgAt.other {w : World} {g b o : Nat} {vs : List Value} {es : List Int} {rs : List Rp} (h : LgAt w g es rs) (w0 : World) (hw : LgAt w0 g es rs) (hb : Below w0.heap.size w0 w) (hle : w0.heap.size ≤ b) : LgAt (w.setCells b o vs) g es rs :=
  hw.later (below_sets hle _ _ hb)
def relRp (B : Nat) (q : Rq) : Rel where
  rel v w := ∃ r, v = .agg (rpc r).toArray ∧ okRp w r ∧ rab r = q ∧ (∀ ad, r.A = some ad → B ≤ ad.block) ∧ r.n ≤ 65536
  mono := fun v w w' h ⟨r, e, ho, hq, hf, hn⟩ => ⟨r, e, ho.later h, hq, hf, hn⟩
  real := fun w ⟨_, e, _⟩ => by cases e
/-- A store of a whole struct into a new block: what comes of it. -/
theorem new_rp (B : Nat) (w0 w : World) (cr : List Value) (hc : cr.length = 10) (hb : Below B w0 w) (hB : B ≤ w.heap.size) :
    (w.alloc (.cells #[.int .i64 0, .int .i64 0, .int .i64 0, .int .i64 0, .int .i64 0, .int .i64 0, .int .i64 0, .int .i64 0, .slice none 0 0, .int .u32 0] 26)).there w.heap.size 0 10 ∧ Blk ((w.alloc (.cells #[.int .i64 0, .int .i64 0, .int .i64 0, .int .i64 0, .int .i64 0, .int .i64 0, .int .i64 0, .int .i64 0, .slice none 0 0, .int .u32 0] 26)).setCells w.heap.size 0 cr) w.heap.size cr ∧ Below w.heap.size w ((w.alloc (.cells #[.int .i64 0, .int .i64 0, .int .i64 0, .int .i64 0, .int .i64 0, .int .i64 0, .int .i64 0, .int .i64 0, .slice none 0 0, .int .u32 0] 26)).setCells w.heap.size 0 cr) := by
  have h1 := Blk.new w [.int .i64 0, .int .i64 0, .int .i64 0, .int .i64 0, .int .i64 0, .int .i64 0, .int .i64 0, .int .i64 0, .slice none 0 0, .int .u32 0] 26
  have h2 := h1.sets cr 0 (by rw [hc]; simp)
  rw [List.take_zero, List.nil_append, List.drop_eq_nil_of_le (by rw [hc]; simp), List.append_nil] at h2
  exact ⟨h1.there 0 10 (by simp), h2, below_sets (Nat.le_refl _) _ _ (below_a1 _ _)⟩

set_option maxRecDepth 100000 in
set_option maxHeartbeats 3200000 in
theorem lgnote_no (g : Nat) (es : List Int) (rs : List Rp) (r : Rp) (w : World) (h : LgAt w g es rs) (hr : okRp w r) (hn : r.n ≤ 65536) (hne : ¬ (acod rs r.dv r.rq = 0 ∧ rok r)) :
    Calls Try.prog 25 #[.pointer (some ⟨g, 0, none⟩), .agg (rpc r).toArray] w fun e w' => e = .returned (.bool false) ∧ Below w.heap.size w w' := by
  have hu := Try.underlying26
  have HA := Lib.hid (lask_any g es rs r.dv r.rq _ (h.later (below_a1 w (.cells (rpc r).toArray 26))))
  have HB0 := Lib.hid (below_a1 w (.cells (rpc r).toArray 26))
  have HCK := Lib.hid (fun W (hW : Below w.heap.size w W) => lcheck30_any r W (hr.later hW) hn)
  have HLG := Lib.hid (fun W (hW : Below w.heap.size w W) => h.later hW)
  by_cases h0 : acod rs r.dv r.rq = 0
  · have hrk : ¬ rok r := fun x => hne ⟨h0, x⟩
    rw [decide_eq_false hrk] at HCK
    rw [h0] at HA
    clear h0 hrk hne h
    generalize ares rs r.dv r.rq = qq at HA
    obtain ⟨kd, dv, rq, cd, id, vr, sq, ep, A, n, c, f, ms⟩ := r
    dsimp only [rpc] at *
    go_enter Try.func25, Try.ntmps25
    go_wp2_with fail
    refine HA.out.mono ?_
    rintro e w2 ⟨rr, rfl, hok, hab, hfar, hn2, hb2⟩
    have hb2' := HB0.out.trans (hb2.mono HB0.out.size)
    obtain ⟨TH, HN, HBN⟩ := new_rp w.heap.size w w2 (rpc rr) (rpc_len rr) hb2' hb2'.size
    have HB3 := Lib.hid (hb2'.trans (HBN.mono hb2'.size))
    have KB : Blk ((w2.alloc (.cells #[.int .i64 0, .int .i64 0, .int .i64 0, .int .i64 0, .int .i64 0, .int .i64 0, .int .i64 0, .int .i64 0, .slice none 0 0, .int .u32 0] 26)).setCells w2.heap.size 0 (rpc rr)) w.heap.size [.int .i64 kd, .int .i64 dv, .int .i64 rq, .int .i64 cd, .int .i64 id, .int .i64 vr, .int .i64 sq, .int .i64 ep, .slice A n c, .int .u32 (ms.toNat : Int)] := ((Blk.new w [.int .i64 kd, .int .i64 dv, .int .i64 rq, .int .i64 cd, .int .i64 id, .int .i64 vr, .int .i64 sq, .int .i64 ep, .slice A n c, .int .u32 (ms.toNat : Int)] 26).later hb2).later HBN
    have hone := all_oneCell_toArray (rpc_one rr)
    have HL := Lib.hid (rpc_len rr)
    generalize rpc rr = cr at *
    obtain ⟨W3, hW3⟩ : ∃ W3, W3 = (w2.alloc (.cells #[.int .i64 0, .int .i64 0, .int .i64 0, .int .i64 0, .int .i64 0, .int .i64 0, .int .i64 0, .int .i64 0, .slice none 0 0, .int .u32 0] 26)).setCells w2.heap.size 0 cr := ⟨_, rfl⟩
    rw [← hW3] at HB3 KB
    have HW3 := Lib.hid hW3
    have HKB := Lib.hid KB
    clear hok hab hfar hn2 hb2 hb2' HN HBN hW3
    go_wp2_with (first
      | (refine wpList_store_mid rfl 26 (.tmp 5) (.tmp 14) rfl w2.heap.size 0 cr.toArray rfl rfl (by simpa [HL.out] using TH) (by simpa [HL.out] using info_rp) hone ?_
         rw [← HW3.out]
         have RG := HKB.out.range 0 [.int .i64 kd, .int .i64 dv, .int .i64 rq, .int .i64 cd, .int .i64 id, .int .i64 vr, .int .i64 sq, .int .i64 ep, .slice A n c, .int .u32 (ms.toNat : Int)] rfl)
      | (refine wpList_load_g (by rfl) 26 (.tmp 3) rfl w.heap.size 0 rfl [.int .i64 kd, .int .i64 dv, .int .i64 rq, .int .i64 cd, .int .i64 id, .int .i64 vr, .int .i64 sq, .int .i64 ep, .slice A n c, .int .u32 (ms.toNat : Int)] _ RG hu rfl info_rp ?_
         simp only [Act.put, List.setIfInBounds_toArray, List.set_cons_zero, List.set_cons_succ])
      | fail)
    refine (HCK.out _ HB3.out).mono ?_
    rintro e w4 ⟨rfl, hb4⟩
    have HB4 := Lib.hid (HB3.out.trans (hb4.mono HB3.out.size))
    clear hb4
    go_wp2_with fail
    go_ret
    exact ⟨rfl, HB4.out⟩
  · have b0 : (acod rs r.dv r.rq != 0) = true := by simpa using h0
    clear hne h0 h
    generalize acod rs r.dv r.rq = ac at HA b0
    generalize ares rs r.dv r.rq = qq at HA
    obtain ⟨kd, dv, rq, cd, id, vr, sq, ep, A, n, c, f, ms⟩ := r
    dsimp only [rpc] at *
    go_enter Try.func25, Try.ntmps25
    go_wp2_with fail
    refine HA.out.mono ?_
    rintro e w2 ⟨rr, rfl, hok, hab, hfar, hn2, hb2⟩
    have hb2' := HB0.out.trans (hb2.mono HB0.out.size)
    obtain ⟨TH, HN, HBN⟩ := new_rp w.heap.size w w2 (rpc rr) (rpc_len rr) hb2' hb2'.size
    have HB3 := Lib.hid (hb2'.trans (HBN.mono hb2'.size))
    have KB : Blk ((w2.alloc (.cells #[.int .i64 0, .int .i64 0, .int .i64 0, .int .i64 0, .int .i64 0, .int .i64 0, .int .i64 0, .int .i64 0, .slice none 0 0, .int .u32 0] 26)).setCells w2.heap.size 0 (rpc rr)) w.heap.size [.int .i64 kd, .int .i64 dv, .int .i64 rq, .int .i64 cd, .int .i64 id, .int .i64 vr, .int .i64 sq, .int .i64 ep, .slice A n c, .int .u32 (ms.toNat : Int)] := ((Blk.new w [.int .i64 kd, .int .i64 dv, .int .i64 rq, .int .i64 cd, .int .i64 id, .int .i64 vr, .int .i64 sq, .int .i64 ep, .slice A n c, .int .u32 (ms.toNat : Int)] 26).later hb2).later HBN
    have hone := all_oneCell_toArray (rpc_one rr)
    have HL := Lib.hid (rpc_len rr)
    generalize rpc rr = cr at *
    obtain ⟨W3, hW3⟩ : ∃ W3, W3 = (w2.alloc (.cells #[.int .i64 0, .int .i64 0, .int .i64 0, .int .i64 0, .int .i64 0, .int .i64 0, .int .i64 0, .int .i64 0, .slice none 0 0, .int .u32 0] 26)).setCells w2.heap.size 0 cr := ⟨_, rfl⟩
    rw [← hW3] at HB3 KB
    have HW3 := Lib.hid hW3
    have HKB := Lib.hid KB
    clear hok hab hfar hn2 hb2 hb2' HN HBN hW3
    go_wp2_with (first
      | (refine wpList_store_mid rfl 26 (.tmp 5) (.tmp 14) rfl w2.heap.size 0 cr.toArray rfl rfl (by simpa [HL.out] using TH) (by simpa [HL.out] using info_rp) hone ?_
         rw [← HW3.out]
         have RG := HKB.out.range 0 [.int .i64 kd, .int .i64 dv, .int .i64 rq, .int .i64 cd, .int .i64 id, .int .i64 vr, .int .i64 sq, .int .i64 ep, .slice A n c, .int .u32 (ms.toNat : Int)] rfl)
      | (refine wpList_load_g (by rfl) 26 (.tmp 3) rfl w.heap.size 0 rfl [.int .i64 kd, .int .i64 dv, .int .i64 rq, .int .i64 cd, .int .i64 id, .int .i64 vr, .int .i64 sq, .int .i64 ep, .slice A n c, .int .u32 (ms.toNat : Int)] _ RG hu rfl info_rp ?_
         simp only [Act.put, List.setIfInBounds_toArray, List.set_cons_zero, List.set_cons_succ])
      | fail)
    go_ret
    exact ⟨rfl, HB3.out⟩

set_option maxRecDepth 100000 in
set_option maxHeartbeats 3200000 in
theorem lgnote_yes (g : Nat) (es : List Int) (rs : List Rp) (r : Rp) (w : World) (h : LgAt w g es rs) (hr : okRp w r) (hn : r.n ≤ 65536) (h0 : acod rs r.dv r.rq = 0) (hrk : rok r) :
    Calls Try.prog 25 #[.pointer (some ⟨g, 0, none⟩), .agg (rpc r).toArray] w fun e w' => e = .returned (.bool true) ∧ (∃ r', rab r' = rab r ∧ LgAt w' g es (rs.set r.dv.toNat r') ∧ ∀ ad, r'.A = some ad → w.heap.size ≤ ad.block) ∧ w.grownBy w' (some g) := by
  have hu := Try.underlying26
  have HA := Lib.hid (lask_any g es rs r.dv r.rq _ (h.later (below_a1 w (.cells (rpc r).toArray 26))))
  have HB0 := Lib.hid (below_a1 w (.cells (rpc r).toArray 26))
  have HCK := Lib.hid (fun W (hW : Below w.heap.size w W) => lcheck30_any r W (hr.later hW) hn)
  have HLG := Lib.hid (fun W (hW : Below w.heap.size w W) => h.later hW)
  rw [decide_eq_true hrk] at HCK
  rw [h0] at HA
  have hd := hrk.2.1
  have hgl := h.lt
  obtain ⟨k, hk⟩ : ∃ k : Nat, r.dv = (k : Int) := ⟨r.dv.toNat, by omega⟩
  have hk6 : k < 6 := by omega
  have hkl : k < rs.length := by rw [h.lr]; exact hk6
  have HCP := Lib.hid (fun W (hW : Below w.heap.size w W) => copied_any r W (hr.later hW) hn)
  have HPUT : Hid (∀ W, Below w.heap.size w W → ∀ r', okRp W r' → farRp g r' → r'.n ≤ 65536 → LgAt (W.setCells g (6 + k * 10) (rpc r')) g es (rs.set k r')) := Lib.hid (fun W hW r' a b c => (h.later hW).put k hkl r' a b c)
  have HTH : Hid (∀ W, Below w.heap.size w W → W.there g (6 + k * 10) 10) := Lib.hid (fun W hW => (h.later hW).there k hkl)
  rw [hk] at HA ⊢
  rw [show ((k : Int)).toNat = k by simp]
  clear h0 hrk hd h
  generalize ares rs k r.rq = qq at HA
  obtain ⟨q0, hq0⟩ : ∃ q0, q0 = rab r := ⟨_, rfl⟩
  rw [← hq0] at HCP ⊢
  obtain ⟨kd, dv, rq, cd, id, vr, sq, ep, A, n, c, f, ms⟩ := r
  dsimp only [rpc] at HA HB0 HCK HCP hr hn ⊢
  subst hk
  have hnk : ¬ (6 : Int) ≤ (k : Int) := by omega
  have hnk2 : ¬ 6 ≤ k := by omega
  clear hq0
  go_enter Try.func25, Try.ntmps25
  go_wp2_with fail
  refine HA.out.mono ?_
  rintro e w2 ⟨rr, rfl, hok, hab, hfar, hn2, hb2⟩
  have hb2' := HB0.out.trans (hb2.mono HB0.out.size)
  obtain ⟨TH, HN, HBN⟩ := new_rp w.heap.size w w2 (rpc rr) (rpc_len rr) hb2' hb2'.size
  have HB3 := Lib.hid (hb2'.trans (HBN.mono hb2'.size))
  have KB : Blk ((w2.alloc (.cells #[.int .i64 0, .int .i64 0, .int .i64 0, .int .i64 0, .int .i64 0, .int .i64 0, .int .i64 0, .int .i64 0, .slice none 0 0, .int .u32 0] 26)).setCells w2.heap.size 0 (rpc rr)) w.heap.size [.int .i64 kd, .int .i64 (k : Int), .int .i64 rq, .int .i64 cd, .int .i64 id, .int .i64 vr, .int .i64 sq, .int .i64 ep, .slice A n c, .int .u32 (ms.toNat : Int)] := ((Blk.new w [.int .i64 kd, .int .i64 (k : Int), .int .i64 rq, .int .i64 cd, .int .i64 id, .int .i64 vr, .int .i64 sq, .int .i64 ep, .slice A n c, .int .u32 (ms.toNat : Int)] 26).later hb2).later HBN
  have hone := all_oneCell_toArray (rpc_one rr)
  have HL := Lib.hid (rpc_len rr)
  generalize rpc rr = cr at *
  obtain ⟨W3, hW3⟩ : ∃ W3, W3 = (w2.alloc (.cells #[.int .i64 0, .int .i64 0, .int .i64 0, .int .i64 0, .int .i64 0, .int .i64 0, .int .i64 0, .int .i64 0, .slice none 0 0, .int .u32 0] 26)).setCells w2.heap.size 0 cr := ⟨_, rfl⟩
  rw [← hW3] at HB3 KB
  have HW3 := Lib.hid hW3
  have HKB := Lib.hid KB
  clear hok hab hfar hn2 hb2 hb2' HN HBN hW3
  go_wp2_with (first
    | (refine wpList_store_mid rfl 26 (.tmp 5) (.tmp 14) rfl w2.heap.size 0 cr.toArray rfl rfl (by simpa [HL.out] using TH) (by simpa [HL.out] using info_rp) hone ?_
       rw [← HW3.out]
       have RG := HKB.out.range 0 [.int .i64 kd, .int .i64 (k : Int), .int .i64 rq, .int .i64 cd, .int .i64 id, .int .i64 vr, .int .i64 sq, .int .i64 ep, .slice A n c, .int .u32 (ms.toNat : Int)] rfl)
    | (refine wpList_load_g (by rfl) 26 (.tmp 3) rfl w.heap.size 0 rfl [.int .i64 kd, .int .i64 (k : Int), .int .i64 rq, .int .i64 cd, .int .i64 id, .int .i64 vr, .int .i64 sq, .int .i64 ep, .slice A n c, .int .u32 (ms.toNat : Int)] _ RG hu rfl info_rp ?_
       simp only [Act.put, List.setIfInBounds_toArray, List.set_cons_zero, List.set_cons_succ])
    | fail)
  refine (HCK.out _ HB3.out).mono ?_
  rintro e w4 ⟨rfl, hb4⟩
  have HB4 := Lib.hid (HB3.out.trans (hb4.mono HB3.out.size))
  have HK4 := Lib.hid (HKB.out.later hb4)
  have ca : ∀ kk : LW w4, kk.val.cell? ⟨w.heap.size, 1, none⟩ = some (.int .i64 (k : Int)) := fun kk => (HK4.out.later kk.le).cell (j := 1) rfl
  have HBW : Hid (∀ W, Le w4 W → Below w.heap.size w W) := Lib.hid (fun W hl => HB4.out.trans (Below.mono hl HB4.out.size))
  clear hb4 HKB HCK HLG HA HB3
  go_wp2_with fail
  refine wp_region_tail [(27, relRp w4.heap.size q0)] 31 8 (by kernel_rfl) (by kernel_rfl) (by kernel_rfl) (by rfl) ?_
  simp only [List.take_succ_cons, List.take_zero, List.drop_succ_cons, List.drop_zero]
  iterate 3 (refine wpG_quiet (by rfl) (by rfl) (by rfl) (fun K hK => ?_); go_big_quiet_op; refine hK _ ?_; clear hK K)
  refine wpG_run (by rfl) (by rfl) (.agg #[.int .i64 kd, .int .i64 (k : Int), .int .i64 rq, .int .i64 cd, .int .i64 id, .int .i64 vr, .int .i64 sq, .int .i64 ep, .slice A n c, .int .u32 (ms.toNat : Int)]) (fun wx hl => exec_load 26 (.tmp 3) rfl w.heap.size 0 rfl [.int .i64 kd, .int .i64 (k : Int), .int .i64 rq, .int .i64 cd, .int .i64 id, .int .i64 vr, .int .i64 sq, .int .i64 ep, .slice A n c, .int .u32 (ms.toNat : Int)] _ ((HK4.out.later hl.1).range 0 _ rfl) hu rfl info_rp) ?_
  simp only [Act.put, List.setIfInBounds_toArray, List.set_cons_zero, List.set_cons_succ]
  refine wpG_calls (relRp w4.heap.size q0) (by rfl) (by rfl) 57 #[.agg #[.int .i64 kd, .int .i64 (k : Int), .int .i64 rq, .int .i64 cd, .int .i64 id, .int .i64 vr, .int .i64 sq, .int .i64 ep, .slice A n c, .int .u32 (ms.toNat : Int)]] (by intro _; simp [go_sem]) (fun wx hl => (HCP.out wx (HBW.out wx hl.1)).mono ?_) ?_
  · rintro e w5 ⟨r5, rfl, a1, a2, a3, a4, a5⟩
    exact ⟨_, rfl, a5, r5, rfl, a1, a2, (fun ad e => Nat.le_trans hl.1.size (a3 ad e)), a4⟩
  rintro _ ⟨_, _, _, ⟨r5, rfl, _⟩⟩
  simp only [Act.put, List.setIfInBounds_toArray, List.set_cons_zero, List.set_cons_succ]
  iterate 3 (refine wpG_quiet (by rfl) (by rfl) (by rfl) (fun K hK => ?_); go_big_quiet_op; refine hK _ ?_; clear hK K)
  refine wpG_nil fun wx hl hS => ?_
  obtain ⟨_, r6, e6, ho, hab, hfar, hn6⟩ := hS
  have e7 : rpc r5 = rpc r6 := by
    have := e6
    simpa using this
  have hbx := HBW.out wx hl
  have hgf : farRp g r6 := fun ad e _ => by
    have h1 := hfar ad e
    have h2 := HB4.out.size
    omega
  have HF := Lib.hid (HPUT.out wx hbx r6 ho hgf hn6)
  have HG : Hid (w.grownBy (wx.setCells g (6 + k * 10) (rpc r6)) (some g)) := Lib.hid (by
    have h2 := grown_sets g (rpc r6) (6 + k * 10) wx
    exact ⟨h2.os.trans hbx.os, h2.tape.trans hbx.tape, h2.output.trans hbx.output, Nat.le_trans hbx.size h2.size, fun j hj hne => (h2.block j (Nat.lt_of_lt_of_le hj hbx.size) hne).trans (hbx.block j hj)⟩)
  have TH5 := HTH.out wx hbx
  have hone5 := all_oneCell_toArray (rpc_one r5)
  have HL5 := Lib.hid (rpc_len r5)
  rw [← e7] at HF HG
  have HAB := Lib.hid hab
  have HFAR := Lib.hid (fun ad (e : r6.A = some ad) => Nat.le_trans HB4.out.size (hfar ad e))
  clear e6 ho hfar hn6 hbx hgf hl ca HBW HPUT HTH HK4 HCP
  generalize rpc r5 = c5 at *
  refine wpList_store_mid rfl 26 (.tmp 30) (.tmp 27) rfl g (6 + k * 10) c5.toArray (by rfl) (by rfl) (by simpa [HL5.out] using TH5) (by simpa [HL5.out] using info_rp) hone5 ?_
  clear e7 TH5 hone5 HL5
  go_wp2_with fail
  go_ret
  exact ⟨rfl, ⟨r6, HAB.out, HF.out, HFAR.out⟩, HG.out⟩
end Go.Proofs.Ytadmaalhhigbeaa

/- Ledger: Raise. -/
namespace Go.Proofs.Ytadmaalhhigbeaa
set_option linter.unusedVariables false
set_option linter.unusedSimpArgs false
open Go Go.RowKit ValM

set_option maxRecDepth 100000 in
set_option maxHeartbeats 1600000 in
theorem aload_any (a : Addr) (d : Int) (w : World) (hc : w.cell? a = some (.int .i64 d)) :
    Calls Try.prog 58 #[.pointer (some a)] w fun e w' => e = .returned (.int .i64 d) ∧ w = w' := by
  have hl := run_call_load (P := Try.prog) Try.func86 (by kernel_rfl) (by kernel_rfl) (by kernel_rfl) .i64 (by kernel_rfl) hc
  obtain ⟨b, o, sp⟩ := a
  go_enter Try.func58, Try.ntmps58
  go_wp2
  go_ret
  exact ⟨rfl, rfl⟩
set_option maxRecDepth 100000 in
set_option maxHeartbeats 1600000 in
theorem aadd_any (a : Addr) (d : Int) (w : World) (hc : w.cell? a = some (.int .i64 d)) (hz : w.frozen? a = false) (h0 : 0 ≤ d) (h1 : d < 1099511627776) :
    Calls Try.prog 59 #[.pointer (some a), .int .i64 1] w fun e w' => e = .returned (.int .i64 (d + 1)) ∧ w.setCell a (.int .i64 (d + 1)) = w' := by
  have hl := run_call_add (P := Try.prog) Try.func87 (by kernel_rfl) (by kernel_rfl) (by kernel_rfl) .i64 (by kernel_rfl) (y := 1) (s := d + 1) hc hz (by
    have : IntKind.i64.wrap (d + 1) = d + 1 := by rw [IntKind.wrap_i64]; omega
    simp [go_sem, this])
  obtain ⟨b, o, sp⟩ := a
  clear h0 h1
  go_enter Try.func59, Try.ntmps59
  go_wp2
  go_ret
  exact ⟨rfl, rfl⟩
theorem LgAt.raise {w : World} {g : Nat} {es : List Int} {rs : List Rp} (h : LgAt w g es rs) (k : Nat) (hk : k < es.length) (e : Int) (he : 0 ≤ e ∧ e ≤ 1099511627776) : LgAt (w.setCell ⟨g, k, none⟩ (.int .i64 e)) g (es.set k e) rs := by
  refine ⟨?_, by rw [List.length_set]; exact h.le, h.lr, fun x hx => ?_, fun r hr => ?_⟩
  · have := h.blk.set k (.int .i64 e)
    rw [List.set_append_left _ _ (by simpa using hk), ← List.map_set] at this
    exact this
  · rcases List.mem_or_eq_of_mem_set hx with hx | rfl
    · exact h.er x hx
    · exact he
  · obtain ⟨a, b, c⟩ := h.ok r hr
    exact ⟨okRp.store (o := k) (vs := [.int .i64 e]) a b, b, c⟩
def rcode (es : List Int) (dv : Int) : Int := if (0 ≤ dv ∧ dv < 6) ∧ es.getD dv.toNat 0 < 1099511627776 then es.getD dv.toNat 0 + 1 else 0
def res (es : List Int) (dv : Int) : List Int := if (0 ≤ dv ∧ dv < 6) ∧ es.getD dv.toNat 0 < 1099511627776 then es.set dv.toNat (es.getD dv.toNat 0 + 1) else es
set_option maxRecDepth 100000 in
set_option maxHeartbeats 3200000 in
theorem lgraise_any (g : Nat) (es : List Int) (rs : List Rp) (dv : Int) (w : World) (h : LgAt w g es rs) :
    Calls Try.prog 27 #[.pointer (some ⟨g, 0, none⟩), .int .i64 dv] w fun e w' => e = .returned (.int .i64 (rcode es dv)) ∧ LgAt w' g (res es dv) rs ∧ w.grownBy w' (some g) := by
  by_cases h1 : 0 ≤ dv ∧ dv < 6
  · have HD := Lib.hid (fun W => lgdev_any dv W)
    rw [decide_eq_true h1] at HD
    obtain ⟨k, rfl⟩ : ∃ k : Nat, dv = (k : Int) := ⟨dv.toNat, by omega⟩
    have hk : k < es.length := by rw [h.le]; omega
    have hg : es.getD ((k : Int)).toNat 0 = es[k] := by simp [hk]
    have kc := h.epoch k hk
    have HL := Lib.hid (aload_any ⟨g, k, none⟩ es[k] w kc)
    have her := h.er es[k] (List.getElem_mem hk)
    have hnk : ¬ (6 : Int) ≤ (k : Int) := by omega
    have hnk2 : ¬ 6 ≤ k := by omega
    by_cases h2 : es[k] < 1099511627776
    · have e1 : rcode es k = es[k] + 1 := by unfold rcode; rw [hg, if_pos ⟨h1, h2⟩]
      have e2 : res es k = es.set k (es[k] + 1) := by unfold res; rw [hg, if_pos ⟨h1, h2⟩]; simp
      rw [e1, e2]
      have HA := Lib.hid (aadd_any ⟨g, k, none⟩ es[k] w kc (h.blk.blk.frozen k) her.1 h2)
      have HF := Lib.hid (h.raise k hk (es[k] + 1) ⟨by omega, by omega⟩)
      have HG : Hid (w.grownBy (w.setCell ⟨g, k, none⟩ (.int .i64 (es[k] + 1))) (some g)) := Lib.hid (grown_sets g [.int .i64 (es[k] + 1)] k w)
      have d1 : decide (1099511627776 ≤ es[k]) = false := decide_eq_false (by omega)
      clear e1 e2 h h1 h2 her kc
      generalize es.set k (es[k] + 1) = es2 at HF ⊢
      generalize es[k] = x at *
      clear hg
      go_enter Try.func27, Try.ntmps27
      go_wp2_with fail
      refine (HD.out _).mono ?_
      rintro e w2 ⟨rfl, rfl⟩
      go_wp2_with fail
      refine HL.out.mono ?_
      rintro e w2 ⟨rfl, rfl⟩
      go_wp2_with fail
      refine HA.out.mono ?_
      rintro e w2 ⟨rfl, rfl⟩
      go_wp2_with fail
      go_ret
      exact ⟨rfl, HF.out, HG.out⟩
    · have e1 : rcode es k = 0 := by unfold rcode; rw [hg, if_neg (fun x => h2 x.2)]
      have e2 : res es k = es := by unfold res; rw [hg, if_neg (fun x => h2 x.2)]
      rw [e1, e2]
      have HF := Lib.hid h
      have d1 : decide (1099511627776 ≤ es[k]) = true := decide_eq_true (by omega)
      clear e1 e2 h h1 h2 her kc
      generalize es[k] = x at *
      clear hg
      go_enter Try.func27, Try.ntmps27
      go_wp2_with fail
      refine (HD.out _).mono ?_
      rintro e w2 ⟨rfl, rfl⟩
      go_wp2_with fail
      refine HL.out.mono ?_
      rintro e w2 ⟨rfl, rfl⟩
      go_wp2_with fail
      go_ret
      exact ⟨rfl, HF.out, World.grownBy.refl _ _⟩
  · have HD := Lib.hid (fun W => lgdev_any dv W)
    rw [decide_eq_false h1] at HD
    have e1 : rcode es dv = 0 := by unfold rcode; rw [if_neg (fun x => h1 x.1)]
    have e2 : res es dv = es := by unfold res; rw [if_neg (fun x => h1 x.1)]
    rw [e1, e2]
    have HF := Lib.hid h
    clear h1 e1 e2 h
    go_enter Try.func27, Try.ntmps27
    go_wp2_with fail
    refine (HD.out _).mono ?_
    rintro e w2 ⟨rfl, rfl⟩
    go_wp2_with fail
    go_ret
    exact ⟨rfl, HF.out, World.grownBy.refl _ _⟩
end Go.Proofs.Ytadmaalhhigbeaa

/- Ledger: the chapter's example. -/
namespace Go.Proofs.Ytadmaalhhigbeaa
set_option linter.unusedVariables false
set_option linter.unusedSimpArgs false
open Go Go.RowKit ValM

theorem below_grown {w w' : World} {r : Option Nat} {B : Nat} (h : w.grownBy w' r) (hB : B ≤ w.heap.size) (hr : ∀ k, r = some k → B ≤ k) : Below B w w' :=
  ⟨h.os, h.tape, h.output, h.size, fun k hk => h.block k (by omega) (fun e => by have := hr k e.symm; omega)⟩
def lgEx : Rp := ⟨4, 0, 3, 0, 0, 0, 9, 0, none, 0, 0, [], 0#32⟩
theorem lgEx_ok (w : World) : okRp w lgEx := ⟨rfl, Nat.le_refl _, by simp [lgEx, maxLen], Sees.nil_⟩
theorem lgEx_may : rok lgEx := by unfold rok lgEx; simp
theorem lgEx_new : acod zrs lgEx.dv lgEx.rq = 0 := by simp [acod, zrs, lgEx, zrp]
theorem lgEx_asks (r : Rp) (h : rab r = rab lgEx) : (acod (zrs.set (lgEx.dv.toNat) r) 0 2 = 13) ∧ (acod (zrs.set (lgEx.dv.toNat) r) 0 3 = 7 ∧ ares (zrs.set (lgEx.dv.toNat) r) 0 3 = rab lgEx) ∧ acod (zrs.set (lgEx.dv.toNat) r) 0 4 = 0 := by
  have h3 : r.rq = 3 := rab_rq h
  have e : (zrs.set (lgEx.dv.toNat) r).getD (0 : Int).toNat zrp = r := rfl
  have a3 : acod (zrs.set (lgEx.dv.toNat) r) 0 3 = 7 := by unfold acod; rw [e, h3]; simp
  refine ⟨by unfold acod; rw [e, h3]; simp, ⟨a3, by unfold ares; rw [if_pos a3, e, h]⟩, by unfold acod; rw [e, h3]; simp⟩

set_option maxRecDepth 100000 in
set_option maxHeartbeats 3200000 in
theorem lg_awake (w : World) : Calls Try.prog 8 #[] w fun e w' => e = .returned (.bool true) ∧ Below w.heap.size w w' := by
  have hu := Try.underlying26
  go_enter Try.func8, Try.ntmps8
  go_wp2_with fail
  refine (lgnew_any _).mono ?_
  rintro e w1 ⟨g, rfl, h1, hg1, hb1⟩
  have hl := below_a1 w1 (.cells #[.int .i64 4, .int .i64 0, .int .i64 3, .int .i64 0, .int .i64 0, .int .i64 0, .int .i64 9, .int .i64 0, .slice none 0 0, .int .u32 0] 26)
  have HN := Lib.hid (lgnote_yes g zes zrs lgEx _ (h1.later hl) (lgEx_ok _) (by simp [lgEx]) lgEx_new lgEx_may)
  have KA : Blk (w1.alloc (.cells #[.int .i64 4, .int .i64 0, .int .i64 3, .int .i64 0, .int .i64 0, .int .i64 0, .int .i64 9, .int .i64 0, .slice none 0 0, .int .u32 0] 26)) w1.heap.size [.int .i64 4, .int .i64 0, .int .i64 3, .int .i64 0, .int .i64 0, .int .i64 0, .int .i64 9, .int .i64 0, .slice none 0 0, .int .u32 0] := Blk.new w1 [.int .i64 4, .int .i64 0, .int .i64 3, .int .i64 0, .int .i64 0, .int .i64 0, .int .i64 9, .int .i64 0, .slice none 0 0, .int .u32 0] 26
  have hgl := h1.lt
  have HBB := Lib.hid (hb1.trans (hl.mono hb1.size))
  have HKA := Lib.hid KA
  clear h1 hb1 hl KA
  go_wp2_with fail
  refine HN.out.mono ?_
  rintro e w3 ⟨rfl, ⟨r3, hr3, h3, _⟩, hg3⟩
  have HKA3 := Lib.hid (HKA.out.kept hg3 (by intro e; injection e with e; omega))
  have HB3 := Lib.hid (HBB.out.trans (below_grown hg3 HBB.out.size (fun k e => by injection e with e; omega)))
  obtain ⟨q1, ⟨q2, q3⟩, q4⟩ := lgEx_asks r3 hr3
  obtain ⟨rs3, hrs3⟩ : ∃ rs3, rs3 = zrs.set lgEx.dv.toNat r3 := ⟨_, rfl⟩
  rw [← hrs3] at h3 q1 q2 q3 q4
  have HG3 := Lib.hid h3
  have HA1 := Lib.hid (lask_any g zes rs3 0 2 w3 h3)
  rw [q1] at HA1
  clear hg3 hr3 hrs3 h3 HN HKA HBB
  go_wp2_with fail
  refine HA1.out.mono ?_
  rintro e w4 ⟨r4, rfl, hok4, hab4, hfar4, hn4, hb4⟩
  have hbb := HB3.out.trans (hb4.mono HB3.out.size)
  obtain ⟨TH4, HN4, HBN4⟩ := new_rp w.heap.size w w4 (rpc r4) (rpc_len r4) hbb hbb.size
  have hb2 := hb4.trans (HBN4.mono hb4.size)
  have HB5 := Lib.hid (hbb.trans (HBN4.mono hbb.size))
  have HG5 := Lib.hid (HG3.out.later hb2)
  have HKA5 := Lib.hid (HKA3.out.later hb2)
  have hone4 := all_oneCell_toArray (rpc_one r4)
  have HL4 := Lib.hid (rpc_len r4)
  generalize rpc r4 = cr4 at *
  obtain ⟨W5, hW5⟩ : ∃ W5, W5 = (w4.alloc (.cells #[.int .i64 0, .int .i64 0, .int .i64 0, .int .i64 0, .int .i64 0, .int .i64 0, .int .i64 0, .int .i64 0, .slice none 0 0, .int .u32 0] 26)).setCells w4.heap.size 0 cr4 := ⟨_, rfl⟩
  rw [← hW5] at HB5 HG5 HKA5
  have HW5 := Lib.hid hW5
  clear hok4 hab4 hfar4 hn4 hb4 hbb HN4 HBN4 hW5 hb2 HB3 HG3 HKA3
  have HA2 := Lib.hid (lask_any g zes rs3 0 3 W5 HG5.out)
  rw [q2, q3] at HA2
  go_wp2_with (first
    | (refine wpList_store_mid rfl 26 (.tmp 4) (.tmp 18) rfl w4.heap.size 0 cr4.toArray rfl rfl (by simpa [HL4.out] using TH4) (by simpa [HL4.out] using info_rp) hone4 ?_
       rw [← HW5.out])
    | fail)
  refine HA2.out.mono ?_
  rintro e w6 ⟨r6, rfl, hok6, hab6, hfar6, hn6, hb6⟩
  have hbb := HB5.out.trans (hb6.mono HB5.out.size)
  obtain ⟨TH6, HN6, HBN6⟩ := new_rp w.heap.size w w6 (rpc r6) (rpc_len r6) hbb hbb.size
  have hb2 := hb6.trans (HBN6.mono hb6.size)
  have HB7 := Lib.hid (hbb.trans (HBN6.mono hbb.size))
  have HG7 := Lib.hid (HG5.out.later hb2)
  have HKA7 := Lib.hid (HKA5.out.later hb2)
  have HK6 := Lib.hid HN6
  have HSAME : Hid (∀ W, Below ((w6.alloc (.cells #[.int .i64 0, .int .i64 0, .int .i64 0, .int .i64 0, .int .i64 0, .int .i64 0, .int .i64 0, .int .i64 0, .slice none 0 0, .int .u32 0] 26)).setCells w6.heap.size 0 (rpc r6)).heap.size ((w6.alloc (.cells #[.int .i64 0, .int .i64 0, .int .i64 0, .int .i64 0, .int .i64 0, .int .i64 0, .int .i64 0, .int .i64 0, .slice none 0 0, .int .u32 0] 26)).setCells w6.heap.size 0 (rpc r6)) W → Calls Try.prog 14 #[.agg (rpc r6).toArray, .agg #[.int .i64 4, .int .i64 0, .int .i64 3, .int .i64 0, .int .i64 0, .int .i64 0, .int .i64 9, .int .i64 0, .slice none 0 0, .int .u32 0]] W fun e w' => e = .returned (.bool true) ∧ Below W.heap.size W w') := Lib.hid (fun W hW => by
    have := rlsame_any r6 lgEx W ((hok6.later HBN6).later hW) (lgEx_ok W) hn6
    rw [decide_eq_true hab6] at this
    exact this)
  have hone6 := all_oneCell_toArray (rpc_one r6)
  have HL6 := Lib.hid (rpc_len r6)
  generalize rpc r6 = cr6 at *
  obtain ⟨W7, hW7⟩ : ∃ W7, W7 = (w6.alloc (.cells #[.int .i64 0, .int .i64 0, .int .i64 0, .int .i64 0, .int .i64 0, .int .i64 0, .int .i64 0, .int .i64 0, .slice none 0 0, .int .u32 0] 26)).setCells w6.heap.size 0 cr6 := ⟨_, rfl⟩
  rw [← hW7] at HB7 HG7 HKA7 HK6 HSAME
  have HW7 := Lib.hid hW7
  clear hok6 hab6 hfar6 hn6 hb6 hbb HN6 HBN6 hW7 hb2 HB5 HG5 HKA5
  have HA3 := Lib.hid (lask_any g zes rs3 0 4 W7 HG7.out)
  rw [q4] at HA3
  clear q1 q2 q3 q4
  go_wp2_with (first
    | (refine wpList_store_mid rfl 26 (.tmp 6) (.tmp 23) rfl w6.heap.size 0 cr6.toArray rfl rfl (by simpa [HL6.out] using TH6) (by simpa [HL6.out] using info_rp) hone6 ?_
       rw [← HW7.out])
    | fail)
  refine HA3.out.mono ?_
  rintro e w8 ⟨r8, rfl, hok8, hab8, hfar8, hn8, hb8⟩
  have hbb := HB7.out.trans (hb8.mono HB7.out.size)
  obtain ⟨TH8, HN8, HBN8⟩ := new_rp w.heap.size w w8 (rpc r8) (rpc_len r8) hbb hbb.size
  have hb2 := hb8.trans (HBN8.mono hb8.size)
  have HB9 := Lib.hid (hbb.trans (HBN8.mono hbb.size))
  have HG9 := Lib.hid (HG7.out.later hb2)
  have HKA9 := Lib.hid (HKA7.out.later hb2)
  have HK6 := Lib.hid (HK6.out.later hb2)
  have HSAME := Lib.hid (fun W hW => HSAME.out W (hb2.trans (Below.mono hW hb2.size)))
  have hone8 := all_oneCell_toArray (rpc_one r8)
  have HL8 := Lib.hid (rpc_len r8)
  generalize rpc r8 = cr8 at *
  obtain ⟨W9, hW9⟩ : ∃ W9, W9 = (w8.alloc (.cells #[.int .i64 0, .int .i64 0, .int .i64 0, .int .i64 0, .int .i64 0, .int .i64 0, .int .i64 0, .int .i64 0, .slice none 0 0, .int .u32 0] 26)).setCells w8.heap.size 0 cr8 := ⟨_, rfl⟩
  rw [← hW9] at HB9 HG9 HKA9 HK6 HSAME
  have HW9 := Lib.hid hW9
  clear hok8 hab8 hfar8 hn8 hb8 hbb HN8 HBN8 hW9 hb2 HB7 HG7 HKA7
  go_wp2_with (first
    | (refine wpList_store_mid rfl 26 (.tmp 8) (.tmp 28) rfl w8.heap.size 0 cr8.toArray rfl rfl (by simpa [HL8.out] using TH8) (by simpa [HL8.out] using info_rp) hone8 ?_
       rw [← HW9.out]
       have R6 := HK6.out.range 0 cr6 (by rw [List.drop_zero, List.take_length])
       have RA := HKA9.out.range 0 [.int .i64 4, .int .i64 0, .int .i64 3, .int .i64 0, .int .i64 0, .int .i64 0, .int .i64 9, .int .i64 0, .slice none 0 0, .int .u32 0] rfl)
    | (refine wpList_load_g (by rfl) 26 (.tmp 6) rfl w6.heap.size 0 rfl cr6 _ R6 hu rfl (by simpa [HL6.out] using info_rp) ?_
       simp only [Act.put, List.setIfInBounds_toArray, List.set_cons_zero, List.set_cons_succ])
    | (refine wpList_load_g (by rfl) 26 (.tmp 2) rfl w1.heap.size 0 rfl [.int .i64 4, .int .i64 0, .int .i64 3, .int .i64 0, .int .i64 0, .int .i64 0, .int .i64 9, .int .i64 0, .slice none 0 0, .int .u32 0] _ RA hu rfl info_rp ?_
       simp only [Act.put, List.setIfInBounds_toArray, List.set_cons_zero, List.set_cons_succ])
    | fail)
  refine (HSAME.out W9 (Below.refl _ _)).mono ?_
  rintro e wa ⟨rfl, hba⟩
  have HBA := Lib.hid (HB9.out.trans (hba.mono HB9.out.size))
  clear hba
  go_wp2_with fail
  go_ret
  exact ⟨rfl, HBA.out⟩
end Go.Proofs.Ytadmaalhhigbeaa

/- Ledger: LedgerOnce: what holds round and round. -/
namespace Go.Proofs.Ytadmaalhhigbeaa
set_option linter.unusedVariables false
set_option linter.unusedSimpArgs false
open Go Go.RowKit ValM

theorem okRp.grown {w w' : World} {g : Nat} {r : Rp} (h : okRp w r) (hf : farRp g r) (hg : w.grownBy w' (some g)) : okRp w' r := by
  refine ⟨h.len, h.cap, h.max, fun hx => ?_⟩
  obtain ⟨b, o', e, hb, hc⟩ := h.see hx
  refine ⟨b, o', e, Nat.lt_of_lt_of_le hb hg.size, fun j hj => ?_⟩
  have hne : b ≠ g := hf ⟨b, o', none⟩ e (h.pos hx)
  rw [World.cell?_of_block (a := ⟨b, o' + j, none⟩) (hg.block b hb (by intro e; injection e with e; exact hne e))]
  exact hc j hj
theorem LgAt.far {w : World} {g b o : Nat} {vs : List Value} {es : List Int} {rs : List Rp} (h : LgAt w g es rs) (hb : b ≠ g) (hf : ∀ r ∈ rs, farRp b r) : LgAt (w.setCells b o vs) g es rs :=
  ⟨h.blk.other hb vs o, h.le, h.lr, h.er, fun r hr => ⟨(h.ok r hr).1.store (hf r hr), (h.ok r hr).2⟩⟩
def rmay (r : Rp) : Prop := r.rq = 0 ∨ (1 ≤ r.rq ∧ r.rq ≤ 1099511627776)
structure LInv (w0 : World) (g b4 : Nat) (w : World) (es : List Int) (rs ls : List Rp) : Prop where
  lg : LgAt w g es rs
  l4 : Blk w b4 (rws rpc ls)
  ll : ls.length = 6
  eq : rs.map rab = ls.map rab
  ok : ∀ r ∈ ls, okRp w r ∧ farRp g r ∧ farRp b4 r ∧ r.n ≤ 65536 ∧ rmay r
  f4 : ∀ r ∈ rs, farRp b4 r
  be : Below w0.heap.size w0 w
  hg : w0.heap.size ≤ g
  h4 : g < b4
section
variable {w0 w w' : World} {g b4 : Nat} {es : List Int} {rs ls : List Rp}
theorem LInv.later (h : LInv w0 g b4 w es rs ls) (hb : Below w.heap.size w w') : LInv w0 g b4 w' es rs ls :=
  ⟨h.lg.later hb, h.l4.later hb, h.ll, h.eq, fun r hr => ⟨(h.ok r hr).1.later hb, (h.ok r hr).2⟩, h.f4, h.be.trans (hb.mono h.be.size), h.hg, h.h4⟩
theorem LInv.at_ (h : LInv w0 g b4 w es rs ls) (d : Nat) (hd : d < ls.length) : ∃ (hr : d < rs.length), rab rs[d] = rab ls[d] := by
  have hl : rs.length = ls.length := by have := congrArg List.length h.eq; simpa using this
  refine ⟨by omega, ?_⟩
  have h1 : (rs.map rab)[d]'(by simpa using (by omega : d < rs.length)) = (ls.map rab)[d]'(by simpa using hd) := by simp only [h.eq]
  simpa using h1
theorem LInv.range (h : LInv w0 g b4 w es rs ls) (d : Nat) (hd : d < ls.length) : w.rangeAt b4 (d * 10) (rpc ls[d]) := fun j v hj =>
  h.l4.cell (rws_at ls (fun x _ => rpc_len x) d hd j v hj)
theorem LInv.there (h : LInv w0 g b4 w es rs ls) (d : Nat) (hd : d < ls.length) : w.there b4 (d * 10) 10 :=
  h.l4.there _ _ (by rw [rws_len _ (fun x _ => rpc_len x)]; omega)
theorem LInv.raise (h : LInv w0 g b4 w es rs ls) {es' : List Int} (h' : LgAt w' g es' rs) (hg : w.grownBy w' (some g)) : LInv w0 g b4 w' es' rs ls :=
  ⟨h', h.l4.kept hg (by intro e; injection e with e; have := h.h4; omega), h.ll, h.eq, fun r hr => ⟨(h.ok r hr).1.grown (h.ok r hr).2.1 hg, (h.ok r hr).2⟩, h.f4,
    h.be.trans (below_grown hg h.be.size (fun k e => by injection e with e; have := h.hg; omega)), h.hg, h.h4⟩
/-- Note, and what is noted beside it. -/
theorem LInv.note (h : LInv w0 g b4 w es rs ls) (hg : w.grownBy w' (some g)) (k : Nat) (hk : k < ls.length) (r r' : Rp) (h' : LgAt w' g es (rs.set k r')) (hab : rab r' = rab r) (hf' : ∀ ad, r'.A = some ad → w.heap.size ≤ ad.block)
    {w9 : World} (hl : Below w'.heap.size w' w9) (ho : okRp w r) (hf : farRp g r) (hf4 : farRp b4 r) (hn : r.n ≤ 65536) (hr : rmay r) : LInv w0 g b4 (w9.setCells b4 (k * 10) (rpc r)) es (rs.set k r') (ls.set k r) := by
  have hb4 := h.l4.lt
  have h44 := h.h4
  have hf4' : ∀ x ∈ rs.set k r', farRp b4 x := fun x hx => by
    rcases List.mem_or_eq_of_mem_set hx with hx | rfl
    · exact h.f4 x hx
    · intro ad e _; have := hf' ad e; omega
  have hk4 : Blk w9 b4 (rws rpc ls) := (h.l4.kept hg (by intro e; injection e with e; omega)).later hl
  refine ⟨(h'.later hl).far (by omega) hf4', ?_, by rw [List.length_set]; exact h.ll, ?_, fun x hx => ?_, hf4', ?_, h.hg, h.h4⟩
  · have h2 := hk4.sets (rpc r) (k * 10) (by rw [rws_len _ (fun x _ => rpc_len x), rpc_len]; omega)
    rw [rpc_len, rws_put rpc 10 ls (fun x _ => rpc_len x) k hk r] at h2
    exact h2
  · rw [List.map_set, List.map_set, h.eq, hab]
  · have h3 : ∀ x, okRp w x → farRp g x → farRp b4 x → okRp (w9.setCells b4 (k * 10) (rpc r)) x := fun x a b c => ((a.grown b hg).later hl).store c
    rcases List.mem_or_eq_of_mem_set hx with hx | rfl
    · obtain ⟨a, b, c, d⟩ := h.ok x hx
      exact ⟨h3 x a b c, b, c, d⟩
    · exact ⟨h3 _ ho hf hf4, hf, hf4, hn, hr⟩
  · have h5 := h.be.trans (below_grown hg h.be.size (fun k e => by injection e with e; have := h.hg; omega))
    exact below_sets (by have := h.hg; omega) _ _ (h5.trans (hl.mono h5.size))
/-- What a request that was noted is answered. -/
theorem LInv.asks (h : LInv w0 g b4 w es rs ls) (d : Nat) (hd : d < ls.length) (h0 : ls[d].rq ≠ 0) : acod rs d ls[d].rq = 7 ∧ ares rs d ls[d].rq = rab ls[d] := by
  obtain ⟨hr, e⟩ := h.at_ d hd
  have hm := (h.ok _ (List.getElem_mem hd)).2.2.2.2
  have hq : rs[d].rq = ls[d].rq := rab_rq e
  obtain ⟨_, a2, _⟩ := acod_at (rs := rs) (k := d) (rq := ls[d].rq) hr (by have := h.ll; omega) (by rcases hm with hm | hm; exact absurd hm h0; exact hm)
  rw [← e]
  exact a2 hq.symm
/-- A request that is noted is above the one before. -/
theorem LInv.above (h : LInv w0 g b4 w es rs ls) (r : Rp) (h0 : acod rs r.dv r.rq = 0) : ∃ k : Nat, r.dv = (k : Int) ∧ ∃ (hk : k < ls.length), ls[k].rq < r.rq := by
  by_cases h1 : (0 ≤ r.dv ∧ r.dv < 6) ∧ (1 ≤ r.rq ∧ r.rq ≤ 1099511627776)
  · obtain ⟨k, hk⟩ : ∃ k : Nat, r.dv = (k : Int) := ⟨r.dv.toNat, by omega⟩
    have hkl : k < ls.length := by rw [h.ll]; omega
    obtain ⟨hr, e⟩ := h.at_ k hkl
    refine ⟨k, hk, hkl, ?_⟩
    rw [← rab_rq e]
    rw [hk] at h0
    obtain ⟨a1, a2, _⟩ := acod_at (rs := rs) (k := k) (rq := r.rq) hr (by omega) h1.2
    by_cases c1 : r.rq < rs[k].rq
    · rw [(a1 c1).1] at h0; simp at h0
    · by_cases c2 : r.rq = rs[k].rq
      · rw [(a2 c2).1] at h0; simp at h0
      · omega
  · rw [(acod_arg h1).1] at h0; simp at h0
end
theorem okRp.low {w : World} {r : Rp} (h : okRp w r) (g : Nat) (hg : w.heap.size ≤ g) : farRp g r := fun ad e hn => by
  obtain ⟨b, o, e2, hb, _⟩ := h.see (by rw [ncs_len, h.len]; omega)
  rw [e] at e2
  injection e2 with e2
  subst e2
  show b ≠ g
  omega
theorem wpList_store_as {P : Program} {ops : Array Oper} {rest : List Oper} {op : Oper} {a : Act} {w : World} {Q : Exit → Act → World → Prop} (hgd : op.guard = none) (ty : TypeId) (x y : Operand) (ho : op.op = .store ty x y)
    (b o : Nat) (cells : Array Value) (hx : a.eval x = .pointer (some ⟨b, o, none⟩)) (hy : a.eval y = .agg cells)
    (ht : w.there b o cells.size) (hi : (P.info? ty).map (·.size) = some cells.size) (h1 : cells.all (·.oneCell') = true) (W3 : World) (hW : W3 = w.setCells b o cells.toList)
    (h : wpList P ops Q rest (a.put op.dst undef) W3) : wpList P ops Q (op :: rest) a w :=
  wpList_store_mid hgd ty x y ho b o cells hx hy ht hi h1 (by rw [← hW]; exact h)
/-- An act as it lies. -/
structure Ac where
  k : Int
  r : Rp
def acc30 (a : Ac) : List Value := .int .i64 a.k :: rpc a.r
theorem acc30_len (l : List Ac) : ∀ x ∈ l, (acc30 x).length = 11 := fun _ _ => rfl
structure SeesA (w : World) (A : Option Addr) (n c : Nat) (l : List Ac) : Prop where
  len : l.length = n
  cap : n ≤ c
  max : c ≤ maxLen
  see : Sees w w.heap.size A (rws acc30 l)
  ok : ∀ a ∈ l, okRp w a.r
theorem SeesA.get {w : World} {A : Option Addr} {n c : Nat} {l : List Ac} (h : SeesA w A n c l) (k : Nat) (hk : k < l.length) :
    ∃ b o, A = some ⟨b, o, none⟩ ∧ b < w.heap.size ∧ ∀ W, Below w.heap.size w W → W.cell? ⟨b, o + k * 11, none⟩ = some (.int .i64 l[k].k) ∧ W.rangeAt b (o + k * 11 + 1) (rpc l[k].r) := by
  obtain ⟨b, o, e, hb, _⟩ := sees_rw (f := acc30) (sz := 11) (acc30_len l) h.see (by decide) k hk
  refine ⟨b, o, e, hb, fun W hW => ?_⟩
  obtain ⟨b', o', e', _, hr⟩ := sees_rw (f := acc30) (sz := 11) (acc30_len l) ((h.see.below hW).more hW.size) (by decide) k hk
  rw [e] at e'
  cases e'
  refine ⟨hr 0 _ rfl, fun j v hj => ?_⟩
  rw [show o + k * 11 + 1 + j = o + k * 11 + (j + 1) by omega]
  exact hr (j + 1) v (by simpa [acc30] using hj)
end Go.Proofs.Ytadmaalhhigbeaa

/- Ledger: LedgerOnce's walk. -/
namespace Go.Proofs.Ytadmaalhhigbeaa
set_option linter.unusedVariables false
set_option linter.unusedSimpArgs false
open Go Go.RowKit ValM

theorem info_ar : (Try.prog.info? 67).map (·.size) = some 60 := by kernel_rfl
theorem ar_size : (rws rpc zrs).toArray.size = 60 := by kernel_rfl
theorem ar_one : (rws rpc zrs).toArray.all (·.oneCell') = true := by kernel_rfl

set_option maxRecDepth 100000 in
set_option maxHeartbeats 6400000 in
theorem walk_lonce (A : Option Addr) (n c : Nat) (l : List Ac) (w : World) (h : SeesA w A n c l) :
    Calls Try.prog 6 #[.slice A n c] w fun e w' => e = .returned (.bool true) ∧ Below w.heap.size w w' := by
  have hu := Try.underlying26
  have hua := Try.underlying67
  have HS := Lib.hid h
  have HN := Lib.hid h.len
  clear h
  go_enter Try.func6, Try.ntmps6
  go_wp2_with fail
  refine (lgnew_any _).mono ?_
  rintro e w1 ⟨g, rfl, h1, hg1, hb1⟩
  have hl := below_a1 w1 (.cells (rws rpc zrs).toArray 67)
  have hgl := h1.lt
  have K0 := Blk.new w1 (rws rpc zrs) 67
  have TH := K0.there 0 60 (by show 60 ≤ 60; omega)
  obtain ⟨W2, hW2⟩ : ∃ W2, W2 = (w1.alloc (.cells (rws rpc zrs).toArray 67)).setCells w1.heap.size 0 (rws rpc zrs) := ⟨_, rfl⟩
  have K2 : Blk W2 w1.heap.size (rws rpc zrs) := by rw [hW2]; exact K0.sets (rws rpc zrs) 0 (by show 60 ≤ 60; omega)
  have hb2 : Below w1.heap.size w1 W2 := by rw [hW2]; exact below_sets (Nat.le_refl _) _ _ hl
  obtain ⟨b4, hb4⟩ : ∃ b4, b4 = w1.heap.size := ⟨_, rfl⟩
  have HI0 : Hid (LInv w g b4 W2 zes zrs zrs) := Lib.hid (by
    rw [hb4]
    refine ⟨h1.later hb2, K2, rfl, rfl, fun r hr => ?_, fun r hr => ?_, hb1.trans (hb2.mono hb1.size), hg1, hgl⟩
    · have : r = zrp := by simp [zrs] at hr; exact hr
      subst this
      exact ⟨okRp.zero _, farRp.zero _, farRp.zero _, by simp [zrp], .inl rfl⟩
    · have : r = zrp := by simp [zrs] at hr; exact hr
      subst this
      exact farRp.zero _)
  have HW2 := Lib.hid hW2
  clear hW2 K2 hb2 K0 hl h1 hb1
  go_wp2_with (first
    | (refine wpList_store_as rfl 67 (.tmp 4) (.tmp 13) rfl w1.heap.size 0 (rws rpc zrs).toArray rfl rfl (by rw [ar_size]; exact TH) (by rw [ar_size]; exact info_ar) ar_one W2 (HW2.out.trans (by kernel_rfl)) ?_)
    | fail)
  rw [← hb4]
  have h4g : g < b4 := by omega
  clear TH HW2 hb4
  go_loopw [5] (fun i wr => ∃ k : Nat, k ≤ n ∧ i = .int .i64 (k : Int) ∧ ∃ es rs ls, Hid (LInv w g b4 wr es rs ls)) (fun i _ => n - (intOf i).toNat)
  case atStart => exact ⟨0, by omega, rfl, zes, zrs, zrs, HI0⟩
  case round =>
    clear HI0
    obtain ⟨k, hk, rfl, es, rs, ls, HI⟩ := hrel
    have d1 : decide ((k : Int) < (n : Int)) = decide (k < n) := decide_eq_decide.2 (by omega)
    by_cases hlt : k < n ∧ k < 200
    · obtain ⟨hkn, hk2⟩ := hlt
      have d0 : decide ((k : Int) < (n : Int)) = true := decide_eq_true (by omega)
      have d2 : decide ((k : Int) < 200) = true := decide_eq_true (by omega)
      have hkl : k < l.length := by rw [HN.out]; exact hkn
      obtain ⟨b, o, rfl, _, hget⟩ := HS.out.get k hkl
      have hokr := HS.out.ok _ (List.getElem_mem hkl)
      have HKD := Lib.hid (fun W hW => (hget W hW).1)
      have RG6 := (hget wr HI.out.be).2
      have hnk : ¬ n ≤ k := by omega
      clear hget
      generalize l[k] = a at *
      obtain ⟨ak, r⟩ := a
      dsimp only at *
      have hlow : ∀ x, w.heap.size ≤ x → farRp x r := fun x hx => hokr.low x hx
      have hgl := HI.out.hg
      have h44 := HI.out.h4
      have h4l := HI.out.l4.lt
      obtain ⟨TH6, HN6, HBN6⟩ := new_rp w.heap.size w wr (rpc r) (rpc_len r) HI.out.be HI.out.be.size
      obtain ⟨b6, hb6⟩ : ∃ b6, b6 = wr.heap.size := ⟨_, rfl⟩
      obtain ⟨W6, hW6⟩ : ∃ W6, W6 = (wr.alloc (.cells #[.int .i64 0, .int .i64 0, .int .i64 0, .int .i64 0, .int .i64 0, .int .i64 0, .int .i64 0, .int .i64 0, .slice none 0 0, .int .u32 0] 26)).setCells wr.heap.size 0 (rpc r) := ⟨_, rfl⟩
      rw [← hW6] at HN6 HBN6
      rw [← hb6] at HN6
      have HI6 := Lib.hid (HI.out.later HBN6)
      have hok6 := hokr.later HI6.out.be
      have HW6 := Lib.hid hW6
      have HK6 := Lib.hid HN6
      have HONE := Lib.hid (all_oneCell_toArray (rpc_one r))
      have k61 := HN6.cell (j := 1) rfl
      have k68 := HN6.cell (j := 8) rfl
      have kk6 := HKD.out W6 HI6.out.be
      have RR6 := HN6.range 0 (rpc r) (by rw [List.drop_zero, List.take_length])
      have HLG := Lib.hid (nlarge_any r.A r.n r.c r.f W6 W6.heap.size hok6.len hok6.see)
      have HMAX : Hid (lbig r.f = false → r.n ≤ 65536) := Lib.hid (fun hb => by
        unfold lbig at hb
        rw [Bool.or_eq_false_iff] at hb
        have h1 := of_decide_eq_false hb.1
        rw [← hokr.len]
        omega)
      have HOK6 := Lib.hid hok6
      have HLOW := Lib.hid hlow
      have HB6E := Lib.hid hb6
      have hb46 : b4 < b6 := by omega
      clear hW6 HN6 HBN6 hok6 hlow hokr HI hb6
      go_wp2_with (first
        | (refine wpList_load_mid rfl 26 (.tmp 27) rfl b (o + k * 11 + 1) rfl (rpc r) _ RG6 hu rfl info_rp ?_
           simp only [Act.put, List.setIfInBounds_toArray, List.set_cons_zero, List.set_cons_succ])
        | (refine wpList_store_as rfl 26 (.tmp 6) (.tmp 28) rfl wr.heap.size 0 (rpc r).toArray rfl rfl TH6 info_rp HONE.out W6 HW6.out ?_
           rw [← HB6E.out])
        | fail)
      clear TH6 RG6
      refine HLG.out.mono ?_
      rintro e w7 ⟨rfl, rfl⟩
      clear HLG
      by_cases hbig : lbig r.f = true
      · rw [hbig]
        clear hbig HMAX
        go_wp2_with fail
        refine (lg_awake _).mono ?_
        rintro e wa ⟨rfl, hba⟩
        have HBA := Lib.hid (HI6.out.be.trans (hba.mono HI6.out.be.size))
        clear hba
        go_wp2_with fail
        go_ret
        exact ⟨rfl, HBA.out⟩
      · have hbig : lbig r.f = false := by simpa using hbig
        rw [hbig]
        have hn := HMAX.out hbig
        clear hbig HMAX
        by_cases hk1 : ak = 1
        · have g1 : (ak == 1) = true := by simp [hk1]
          have g2 : decide ((1 : Int) < ak) = false := decide_eq_false (by omega)
          clear hk1
          by_cases hnote : acod rs r.dv r.rq = 0 ∧ rok r
          · obtain ⟨kd, hdv, hkd, hab⟩ := HI6.out.above r hnote.1
            have HNT := Lib.hid (lgnote_yes g es rs r W6 HI6.out.lg HOK6.out hn hnote.1 hnote.2)
            have hmay : rmay r := .inr hnote.2.2.2.1
            rw [hdv, show ((kd : Int)).toNat = kd by simp] at HNT
            clear hnote
            go_wp2_with (first
              | (refine wpList_load_g (by rfl) 26 (.tmp 6) rfl b6 0 rfl (rpc r) _ RR6 hu rfl info_rp ?_
                 simp only [Act.put, List.setIfInBounds_toArray, List.set_cons_zero, List.set_cons_succ])
              | fail)
            refine HNT.out.mono ?_
            rintro e w7 ⟨rfl, ⟨r', hab', h7, hfar'⟩, hg7⟩
            have hb64 : b6 ≠ g := by omega
            have K7 := HK6.out.kept hg7 (by intro e; injection e with e; omega)
            have L7 := HI6.out.l4.kept hg7 (by intro e; injection e with e; omega)
            have ca : ∀ kk : LW w7, kk.val.cell? ⟨b6, 1, none⟩ = some (.int .i64 (kd : Int)) := fun kk => by rw [← hdv]; exact (K7.later kk.le).cell (j := 1) rfl
            have cb : ∀ kk : LW w7, kk.val.cell? ⟨b6, 2, none⟩ = some (.int .i64 r.rq) := fun kk => (K7.later kk.le).cell (j := 2) rfl
            have cc : ∀ kk : LW w7, kk.val.cell? ⟨b4, kd * 10 + 2, none⟩ = some (.int .i64 ls[kd].rq) := fun kk => (L7.later kk.le).cell (rws_at ls (fun x _ => rpc_len x) kd hkd 2 _ rfl)
            have h6l := HI6.out.ll
            have hnd : ¬ (6 : Int) ≤ (kd : Int) := by omega
            have hnd2 : ¬ 6 ≤ kd := by omega
            have da : decide ((kd : Int) < 0) = false := decide_eq_false (by omega)
            have db : decide (6 ≤ (kd : Int)) = false := decide_eq_false (by omega)
            have dc : decide (r.rq ≤ ls[kd].rq) = false := decide_eq_false (by omega)
            generalize ls[kd].rq = q at cc dc hab
            have HTH : Hid (∀ W, Below w7.heap.size w7 W → W.there b4 (kd * 10) 10) := Lib.hid (fun W hW => (L7.later hW).there _ _ (by rw [rws_len _ (fun x _ => rpc_len x)]; omega))
            have HK7 := Lib.hid K7
            have HNEW := Lib.hid (fun w9 (hl : Below w7.heap.size w7 w9) => HI6.out.note hg7 kd hkd r r' h7 hab' hfar' hl HOK6.out (HLOW.out g hgl) (HLOW.out b4 (by omega)) hn hmay)
            clear K7 L7 hab h7 hab' hfar' hg7 HNT k61 k68 kk6 RR6 HK6
            go_wp2_with fail
            refine wp_region_steady [] 128 (by kernel_rfl) (by kernel_rfl) (by kernel_rfl) (by rfl) ?_
            iterate 18 (refine wpG_quiet (by rfl) (by rfl) (by rfl) (fun K hK => ?_); go_big_quiet_op; refine hK _ ?_; clear hK K)
            refine wpG_nil fun w9 hl _ => ?_
            have hb9 : Below w7.heap.size w7 w9 := hl
            obtain ⟨W10, hW10⟩ : ∃ W10, W10 = w9.setCells b4 (kd * 10) (rpc r) := ⟨_, rfl⟩
            have HI10 := HNEW.out w9 hb9
            rw [← hW10] at HI10
            have HI7 := Lib.hid HI10
            have TH9 := HTH.out w9 hb9
            have K9 := HK7.out.later hb9
            have k91 : w9.cell? ⟨b6, 1, none⟩ = some (.int .i64 (kd : Int)) := by rw [← hdv]; exact K9.cell (j := 1) rfl
            have RR9 := K9.range 0 (rpc r) (by rw [List.drop_zero, List.take_length])
            have HW10 := Lib.hid hW10
            have kk9 := HKD.out W10 HI10.be
            clear hW10 HI10 hb9 hl ca cb cc da db dc HNEW HTH HK7 K9 HOK6 HLOW hdv
            go_wp2_with (first
              | (refine wpList_load_mid rfl 26 (.tmp 6) rfl b6 0 rfl (rpc r) _ RR9 hu rfl info_rp ?_
                 simp only [Act.put, List.setIfInBounds_toArray, List.set_cons_zero, List.set_cons_succ])
              | (refine wpList_store_as rfl 26 (.tmp 65) (.tmp 64) rfl b4 (kd * 10) (rpc r).toArray rfl rfl TH9 info_rp HONE.out W10 HW10.out ?_
                 clear TH9 k91 RR9)
              | fail)
            have hgen : ∃ rs2 ls2, rs.set kd r' = rs2 ∧ ls.set kd r = ls2 := ⟨_, _, rfl, rfl⟩
            obtain ⟨rs2, ls2, hrs2, hls2⟩ := hgen
            rw [hrs2, hls2] at HI7
            clear hrs2 hls2 hkd
            have HI := HI7
            clear HI6
            go_loopw [7] (fun d wr => ∃ j : Nat, j ≤ 6 ∧ d = .int .i64 (j : Int) ∧ Hid (LInv w g b4 wr es rs2 ls2)) (fun d _ => 6 - (intOf d).toNat)
            case atStart => exact ⟨0, by omega, rfl, HI⟩
            case round =>
              clear HI
              obtain ⟨j, hj6, rfl, HI⟩ := hrel
              by_cases hjl : j < 6
              · have d0 : decide ((j : Int) < 6) = true := decide_eq_true (by omega)
                have hjl2 : j < ls2.length := by rw [HI.out.ll]; exact hjl
                obtain ⟨lj, hgd⟩ : ∃ lj, lj = ls2[j] := ⟨_, rfl⟩
                have RG := HI.out.range j hjl2
                have kq := RG 2 _ rfl
                have hnj : ¬ (6 : Int) ≤ (j : Int) := by omega
                have hnj2 : ¬ 6 ≤ j := by omega
                by_cases h0 : ls2[j].rq = 0
                · rw [h0] at kq
                  clear RG h0 hgd
                  go_wp2_with fail
                  go_roundw
                  case rel => exact ⟨j + 1, by omega, by go_num, HI⟩
                  case measure => simp [intOf]; omega
                · obtain ⟨c7, r7⟩ := HI.out.asks j hjl2 h0
                  have hask := lask_any g es rs2 j ls2[j].rq _ HI.out.lg
                  rw [c7, r7] at hask
                  have HASK1 := Lib.hid hask
                  have h00 : (ls2[j].rq == 0) = false := by simpa using h0
                  have HRAB : Hid (rab ls2[j] = rab lj) := Lib.hid (by rw [hgd])
                  have HOKL : Hid (∀ W, Below wr.heap.size wr W → okRp W lj) := Lib.hid (fun W hW => by
                    rw [hgd]
                    exact (HI.out.ok _ (List.getElem_mem hjl2)).1.later hW)
                  have HAGN : Hid (∀ W, LgAt W g es rs2 → Calls Try.prog 22 #[.pointer (some ⟨g, 0, none⟩), .int .i64 (j : Int), .int .i64 ls2[j].rq] W (GivesAns W (rab ls2[j]) 7)) := Lib.hid (fun W hW => by
                    have h9 := lask_any g es rs2 j ls2[j].rq W hW
                    rwa [c7, r7] at h9)
                  have HRQ : Hid (∀ W, LInv w g b4 W es rs2 ls2 → W.cell? ⟨b4, j * 10 + 2, none⟩ = some (.int .i64 ls2[j].rq) ∧ W.rangeAt b4 (j * 10) (rpc lj)) := Lib.hid (fun W hW => by
                    rw [hgd]
                    exact ⟨hW.range j hjl2 2 _ rfl, hW.range j hjl2⟩)
                  have HI1 := HI
                  clear c7 r7 hask h0 hgd RG
                  generalize ls2[j].rq = q at *
                  generalize rab ls2[j] = qq at *
                  go_wp2_with fail
                  refine HASK1.out.mono ?_
                  rintro e w2 ⟨r2, rfl, hok2, hab2, hfar2, hn2, hb2⟩
                  have hbb := HI1.out.be.trans (hb2.mono HI1.out.be.size)
                  obtain ⟨TH2, HN2, HBN2⟩ := new_rp w.heap.size w w2 (rpc r2) (rpc_len r2) hbb hbb.size
                  have hb2 := hb2.trans (HBN2.mono hb2.size)
                  have HI3 := Lib.hid (HI1.out.later hb2)
                  have HK2 := Lib.hid HN2
                  have HSM2 : Hid (∀ W, Below ((w2.alloc (.cells #[.int .i64 0, .int .i64 0, .int .i64 0, .int .i64 0, .int .i64 0, .int .i64 0, .int .i64 0, .int .i64 0, .slice none 0 0, .int .u32 0] 26)).setCells w2.heap.size 0 (rpc r2)).heap.size ((w2.alloc (.cells #[.int .i64 0, .int .i64 0, .int .i64 0, .int .i64 0, .int .i64 0, .int .i64 0, .int .i64 0, .int .i64 0, .slice none 0 0, .int .u32 0] 26)).setCells w2.heap.size 0 (rpc r2)) W → Calls Try.prog 14 #[.agg (rpc r2).toArray, .agg (rpc lj).toArray] W fun e w' => e = .returned (.bool true) ∧ Below W.heap.size W w') := Lib.hid (fun W hW => by
                    have := rlsame_any r2 lj W ((hok2.later HBN2).later hW) (HOKL.out W (hb2.trans (hW.mono hb2.size))) hn2
                    rw [decide_eq_true (hab2.trans HRAB.out)] at this
                    exact this)
                  have hone2 := all_oneCell_toArray (rpc_one r2)
                  have HL2 := Lib.hid (rpc_len r2)
                  generalize rpc r2 = cr2 at *
                  obtain ⟨W3, hW3⟩ : ∃ W3, W3 = (w2.alloc (.cells #[.int .i64 0, .int .i64 0, .int .i64 0, .int .i64 0, .int .i64 0, .int .i64 0, .int .i64 0, .int .i64 0, .slice none 0 0, .int .u32 0] 26)).setCells w2.heap.size 0 cr2 := ⟨_, rfl⟩
                  rw [← hW3] at HI3 HK2 HSM2
                  have HOKL := Lib.hid (fun W (hW : Below W3.heap.size W3 W) => HOKL.out W (by
                    rw [hW3] at hW
                    exact hb2.trans (hW.mono hb2.size)))
                  have HW3 := Lib.hid hW3
                  clear hok2 hab2 hfar2 hn2 hb2 hbb HN2 HBN2 hW3
                  have kq3 := (HRQ.out _ HI3.out).1
                  have HASK3 := Lib.hid (HAGN.out _ HI3.out.lg)
                  clear kq
                  go_wp2_with (first
                    | (refine wpList_store_mid rfl 26 (.tmp 8) (.tmp 93) rfl w2.heap.size 0 cr2.toArray rfl rfl (by simpa [HL2.out] using TH2) (by simpa [HL2.out] using info_rp) hone2 ?_
                       rw [← HW3.out])
                    | fail)
                  refine HASK3.out.mono ?_
                  rintro e w4 ⟨r4, rfl, hok4, hab4, hfar4, hn4, hb4⟩
                  have hbb := HI3.out.be.trans (hb4.mono HI3.out.be.size)
                  obtain ⟨TH4, HN4, HBN4⟩ := new_rp w.heap.size w w4 (rpc r4) (rpc_len r4) hbb hbb.size
                  have hb2 := hb4.trans (HBN4.mono hb4.size)
                  have HI5 := Lib.hid (HI3.out.later hb2)
                  have HK4 := Lib.hid HN4
                  have HSM4 : Hid (∀ W, Below ((w4.alloc (.cells #[.int .i64 0, .int .i64 0, .int .i64 0, .int .i64 0, .int .i64 0, .int .i64 0, .int .i64 0, .int .i64 0, .slice none 0 0, .int .u32 0] 26)).setCells w4.heap.size 0 (rpc r4)).heap.size ((w4.alloc (.cells #[.int .i64 0, .int .i64 0, .int .i64 0, .int .i64 0, .int .i64 0, .int .i64 0, .int .i64 0, .int .i64 0, .slice none 0 0, .int .u32 0] 26)).setCells w4.heap.size 0 (rpc r4)) W → Calls Try.prog 14 #[.agg (rpc r4).toArray, .agg (rpc lj).toArray] W fun e w' => e = .returned (.bool true) ∧ Below W.heap.size W w') := Lib.hid (fun W hW => by
                    have := rlsame_any r4 lj W ((hok4.later HBN4).later hW) (HOKL.out W (hb2.trans (hW.mono hb2.size))) hn4
                    rw [decide_eq_true (hab4.trans HRAB.out)] at this
                    exact this)
                  have hone4 := all_oneCell_toArray (rpc_one r4)
                  have HL4 := Lib.hid (rpc_len r4)
                  generalize rpc r4 = cr4 at *
                  obtain ⟨W5, hW5⟩ : ∃ W5, W5 = (w4.alloc (.cells #[.int .i64 0, .int .i64 0, .int .i64 0, .int .i64 0, .int .i64 0, .int .i64 0, .int .i64 0, .int .i64 0, .slice none 0 0, .int .u32 0] 26)).setCells w4.heap.size 0 cr4 := ⟨_, rfl⟩
                  rw [← hW5] at HI5 HK4 HSM4
                  have HOKL := Lib.hid (fun W (hW : Below W5.heap.size W5 W) => HOKL.out W (by
                    rw [hW5] at hW
                    exact hb2.trans (hW.mono hb2.size)))
                  have HW5 := Lib.hid hW5
                  clear hok4 hab4 hfar4 hn4 hb4 hbb HN4 HBN4 hW5
                  have HK2 := Lib.hid (HK2.out.later hb2)
                  have HSM2 := Lib.hid (fun W hW => HSM2.out W (hb2.trans (Below.mono hW hb2.size)))
                  rw [← HW5.out] at HK2 HSM2
                  have HRG5 := Lib.hid (HRQ.out _ HI5.out).2
                  clear kq3 hb2
                  go_wp2_with (first
                    | (refine wpList_store_mid rfl 26 (.tmp 10) (.tmp 103) rfl w4.heap.size 0 cr4.toArray rfl rfl (by simpa [HL4.out] using TH4) (by simpa [HL4.out] using info_rp) hone4 ?_
                       rw [← HW5.out])
                    | fail)
                  refine wp_region_steady [] 128 (by kernel_rfl) (by kernel_rfl) (by kernel_rfl) (by rfl) ?_
                  iterate 7 (refine wpG_quiet (by rfl) (by rfl) (by rfl) (fun K hK => ?_); go_big_quiet_op; refine hK _ ?_; clear hK K)
                  refine wpG_run (by rfl) (by rfl) (.agg cr2.toArray) (fun wx hl => exec_load 26 (.tmp 8) rfl w2.heap.size 0 rfl cr2 _ ((HK2.out.later hl.1).range 0 cr2 (by rw [List.drop_zero, List.take_length])) hu rfl (by rw [HL2.out]; exact info_rp)) ?_
                  simp only [Act.put, List.setIfInBounds_toArray, List.set_cons_zero, List.set_cons_succ]
                  iterate 2 (refine wpG_quiet (by rfl) (by rfl) (by rfl) (fun K hK => ?_); go_big_quiet_op; refine hK _ ?_; clear hK K)
                  refine wpG_run (by rfl) (by rfl) (.agg (rpc lj).toArray) (fun wx hl => exec_load 26 (.tmp 114) rfl b4 (j * 10) rfl (rpc lj) _ (HRQ.out wx (HI5.out.later hl.1)).2 hu rfl info_rp) ?_
                  simp only [Act.put, List.setIfInBounds_toArray, List.set_cons_zero, List.set_cons_succ]
                  refine wpG_call (by rfl) (by rfl) 14 #[.agg cr2.toArray, .agg (rpc lj).toArray] (.bool true) (by intro _; simp [go_sem]) (by kernel_rfl) (fun wx hl => HSM2.out wx hl.1) ?_
                  simp only [Act.put, List.setIfInBounds_toArray, List.set_cons_zero, List.set_cons_succ]
                  iterate 3 (refine wpG_quiet (by rfl) (by rfl) (by rfl) (fun K hK => ?_); go_big_quiet_op; refine hK _ ?_; clear hK K)
                  refine wpG_run (by rfl) (by rfl) (.agg cr4.toArray) (fun wx hl => exec_load 26 (.tmp 10) rfl w4.heap.size 0 rfl cr4 _ ((HK4.out.later hl.1).range 0 cr4 (by rw [List.drop_zero, List.take_length])) hu rfl (by rw [HL4.out]; exact info_rp)) ?_
                  simp only [Act.put, List.setIfInBounds_toArray, List.set_cons_zero, List.set_cons_succ]
                  iterate 2 (refine wpG_quiet (by rfl) (by rfl) (by rfl) (fun K hK => ?_); go_big_quiet_op; refine hK _ ?_; clear hK K)
                  refine wpG_run (by rfl) (by rfl) (.agg (rpc lj).toArray) (fun wx hl => exec_load 26 (.tmp 122) rfl b4 (j * 10) rfl (rpc lj) _ (HRQ.out wx (HI5.out.later hl.1)).2 hu rfl info_rp) ?_
                  simp only [Act.put, List.setIfInBounds_toArray, List.set_cons_zero, List.set_cons_succ]
                  refine wpG_call (by rfl) (by rfl) 14 #[.agg cr4.toArray, .agg (rpc lj).toArray] (.bool true) (by intro _; simp [go_sem]) (by kernel_rfl) (fun wx hl => HSM4.out wx hl.1) ?_
                  simp only [Act.put, List.setIfInBounds_toArray, List.set_cons_zero, List.set_cons_succ]
                  iterate 2 (refine wpG_quiet (by rfl) (by rfl) (by rfl) (fun K hK => ?_); go_big_quiet_op; refine hK _ ?_; clear hK K)
                  refine wpG_nil fun w9 hl _ => ?_
                  have HI9 := Lib.hid (HI5.out.later hl)
                  clear hl
                  go_wp2_with fail
                  go_roundw
                  case rel => exact ⟨j + 1, by omega, by go_num, HI9⟩
                  case measure => simp [intOf]; omega
              · obtain rfl : j = 6 := by omega
                go_wp2_with fail
                go_roundw
                case rel => exact ⟨k + 1, by omega, by go_num, ⟨es, rs2, ls2, HI⟩⟩
                case measure => simp [intOf]; omega
          · have HNT := Lib.hid (lgnote_no g es rs r W6 HI6.out.lg HOK6.out hn hnote)
            clear hnote
            go_wp2_with (first
              | (refine wpList_load_g (by rfl) 26 (.tmp 6) rfl b6 0 rfl (rpc r) _ RR6 hu rfl info_rp ?_
                 simp only [Act.put, List.setIfInBounds_toArray, List.set_cons_zero, List.set_cons_succ])
              | fail)
            refine HNT.out.mono ?_
            rintro e w7 ⟨rfl, hb7⟩
            have HI7 := Lib.hid (HI6.out.later hb7)
            have kk7 := HKD.out w7 HI7.out.be
            clear hb7 HNT k61 k68 kk6 RR6 HOK6 HLOW HK6
            go_wp2_with fail
            have HI := HI7
            clear HI6
            go_loopw [7] (fun d wr => ∃ j : Nat, j ≤ 6 ∧ d = .int .i64 (j : Int) ∧ Hid (LInv w g b4 wr es rs ls)) (fun d _ => 6 - (intOf d).toNat)
            case atStart => exact ⟨0, by omega, rfl, HI⟩
            case round =>
              clear HI
              obtain ⟨j, hj6, rfl, HI⟩ := hrel
              by_cases hjl : j < 6
              · have d0 : decide ((j : Int) < 6) = true := decide_eq_true (by omega)
                have hjl2 : j < ls.length := by rw [HI.out.ll]; exact hjl
                obtain ⟨lj, hgd⟩ : ∃ lj, lj = ls[j] := ⟨_, rfl⟩
                have RG := HI.out.range j hjl2
                have kq := RG 2 _ rfl
                have hnj : ¬ (6 : Int) ≤ (j : Int) := by omega
                have hnj2 : ¬ 6 ≤ j := by omega
                by_cases h0 : ls[j].rq = 0
                · rw [h0] at kq
                  clear RG h0 hgd
                  go_wp2_with fail
                  go_roundw
                  case rel => exact ⟨j + 1, by omega, by go_num, HI⟩
                  case measure => simp [intOf]; omega
                · obtain ⟨c7, r7⟩ := HI.out.asks j hjl2 h0
                  have hask := lask_any g es rs j ls[j].rq _ HI.out.lg
                  rw [c7, r7] at hask
                  have HASK1 := Lib.hid hask
                  have h00 : (ls[j].rq == 0) = false := by simpa using h0
                  have HRAB : Hid (rab ls[j] = rab lj) := Lib.hid (by rw [hgd])
                  have HOKL : Hid (∀ W, Below wr.heap.size wr W → okRp W lj) := Lib.hid (fun W hW => by
                    rw [hgd]
                    exact (HI.out.ok _ (List.getElem_mem hjl2)).1.later hW)
                  have HAGN : Hid (∀ W, LgAt W g es rs → Calls Try.prog 22 #[.pointer (some ⟨g, 0, none⟩), .int .i64 (j : Int), .int .i64 ls[j].rq] W (GivesAns W (rab ls[j]) 7)) := Lib.hid (fun W hW => by
                    have h9 := lask_any g es rs j ls[j].rq W hW
                    rwa [c7, r7] at h9)
                  have HRQ : Hid (∀ W, LInv w g b4 W es rs ls → W.cell? ⟨b4, j * 10 + 2, none⟩ = some (.int .i64 ls[j].rq) ∧ W.rangeAt b4 (j * 10) (rpc lj)) := Lib.hid (fun W hW => by
                    rw [hgd]
                    exact ⟨hW.range j hjl2 2 _ rfl, hW.range j hjl2⟩)
                  have HI1 := HI
                  clear c7 r7 hask h0 hgd RG
                  generalize ls[j].rq = q at *
                  generalize rab ls[j] = qq at *
                  go_wp2_with fail
                  refine HASK1.out.mono ?_
                  rintro e w2 ⟨r2, rfl, hok2, hab2, hfar2, hn2, hb2⟩
                  have hbb := HI1.out.be.trans (hb2.mono HI1.out.be.size)
                  obtain ⟨TH2, HN2, HBN2⟩ := new_rp w.heap.size w w2 (rpc r2) (rpc_len r2) hbb hbb.size
                  have hb2 := hb2.trans (HBN2.mono hb2.size)
                  have HI3 := Lib.hid (HI1.out.later hb2)
                  have HK2 := Lib.hid HN2
                  have HSM2 : Hid (∀ W, Below ((w2.alloc (.cells #[.int .i64 0, .int .i64 0, .int .i64 0, .int .i64 0, .int .i64 0, .int .i64 0, .int .i64 0, .int .i64 0, .slice none 0 0, .int .u32 0] 26)).setCells w2.heap.size 0 (rpc r2)).heap.size ((w2.alloc (.cells #[.int .i64 0, .int .i64 0, .int .i64 0, .int .i64 0, .int .i64 0, .int .i64 0, .int .i64 0, .int .i64 0, .slice none 0 0, .int .u32 0] 26)).setCells w2.heap.size 0 (rpc r2)) W → Calls Try.prog 14 #[.agg (rpc r2).toArray, .agg (rpc lj).toArray] W fun e w' => e = .returned (.bool true) ∧ Below W.heap.size W w') := Lib.hid (fun W hW => by
                    have := rlsame_any r2 lj W ((hok2.later HBN2).later hW) (HOKL.out W (hb2.trans (hW.mono hb2.size))) hn2
                    rw [decide_eq_true (hab2.trans HRAB.out)] at this
                    exact this)
                  have hone2 := all_oneCell_toArray (rpc_one r2)
                  have HL2 := Lib.hid (rpc_len r2)
                  generalize rpc r2 = cr2 at *
                  obtain ⟨W3, hW3⟩ : ∃ W3, W3 = (w2.alloc (.cells #[.int .i64 0, .int .i64 0, .int .i64 0, .int .i64 0, .int .i64 0, .int .i64 0, .int .i64 0, .int .i64 0, .slice none 0 0, .int .u32 0] 26)).setCells w2.heap.size 0 cr2 := ⟨_, rfl⟩
                  rw [← hW3] at HI3 HK2 HSM2
                  have HOKL := Lib.hid (fun W (hW : Below W3.heap.size W3 W) => HOKL.out W (by
                    rw [hW3] at hW
                    exact hb2.trans (hW.mono hb2.size)))
                  have HW3 := Lib.hid hW3
                  clear hok2 hab2 hfar2 hn2 hb2 hbb HN2 HBN2 hW3
                  have kq3 := (HRQ.out _ HI3.out).1
                  have HASK3 := Lib.hid (HAGN.out _ HI3.out.lg)
                  clear kq
                  go_wp2_with (first
                    | (refine wpList_store_mid rfl 26 (.tmp 8) (.tmp 93) rfl w2.heap.size 0 cr2.toArray rfl rfl (by simpa [HL2.out] using TH2) (by simpa [HL2.out] using info_rp) hone2 ?_
                       rw [← HW3.out])
                    | fail)
                  refine HASK3.out.mono ?_
                  rintro e w4 ⟨r4, rfl, hok4, hab4, hfar4, hn4, hb4⟩
                  have hbb := HI3.out.be.trans (hb4.mono HI3.out.be.size)
                  obtain ⟨TH4, HN4, HBN4⟩ := new_rp w.heap.size w w4 (rpc r4) (rpc_len r4) hbb hbb.size
                  have hb2 := hb4.trans (HBN4.mono hb4.size)
                  have HI5 := Lib.hid (HI3.out.later hb2)
                  have HK4 := Lib.hid HN4
                  have HSM4 : Hid (∀ W, Below ((w4.alloc (.cells #[.int .i64 0, .int .i64 0, .int .i64 0, .int .i64 0, .int .i64 0, .int .i64 0, .int .i64 0, .int .i64 0, .slice none 0 0, .int .u32 0] 26)).setCells w4.heap.size 0 (rpc r4)).heap.size ((w4.alloc (.cells #[.int .i64 0, .int .i64 0, .int .i64 0, .int .i64 0, .int .i64 0, .int .i64 0, .int .i64 0, .int .i64 0, .slice none 0 0, .int .u32 0] 26)).setCells w4.heap.size 0 (rpc r4)) W → Calls Try.prog 14 #[.agg (rpc r4).toArray, .agg (rpc lj).toArray] W fun e w' => e = .returned (.bool true) ∧ Below W.heap.size W w') := Lib.hid (fun W hW => by
                    have := rlsame_any r4 lj W ((hok4.later HBN4).later hW) (HOKL.out W (hb2.trans (hW.mono hb2.size))) hn4
                    rw [decide_eq_true (hab4.trans HRAB.out)] at this
                    exact this)
                  have hone4 := all_oneCell_toArray (rpc_one r4)
                  have HL4 := Lib.hid (rpc_len r4)
                  generalize rpc r4 = cr4 at *
                  obtain ⟨W5, hW5⟩ : ∃ W5, W5 = (w4.alloc (.cells #[.int .i64 0, .int .i64 0, .int .i64 0, .int .i64 0, .int .i64 0, .int .i64 0, .int .i64 0, .int .i64 0, .slice none 0 0, .int .u32 0] 26)).setCells w4.heap.size 0 cr4 := ⟨_, rfl⟩
                  rw [← hW5] at HI5 HK4 HSM4
                  have HOKL := Lib.hid (fun W (hW : Below W5.heap.size W5 W) => HOKL.out W (by
                    rw [hW5] at hW
                    exact hb2.trans (hW.mono hb2.size)))
                  have HW5 := Lib.hid hW5
                  clear hok4 hab4 hfar4 hn4 hb4 hbb HN4 HBN4 hW5
                  have HK2 := Lib.hid (HK2.out.later hb2)
                  have HSM2 := Lib.hid (fun W hW => HSM2.out W (hb2.trans (Below.mono hW hb2.size)))
                  rw [← HW5.out] at HK2 HSM2
                  have HRG5 := Lib.hid (HRQ.out _ HI5.out).2
                  clear kq3 hb2
                  go_wp2_with (first
                    | (refine wpList_store_mid rfl 26 (.tmp 10) (.tmp 103) rfl w4.heap.size 0 cr4.toArray rfl rfl (by simpa [HL4.out] using TH4) (by simpa [HL4.out] using info_rp) hone4 ?_
                       rw [← HW5.out])
                    | fail)
                  refine wp_region_steady [] 128 (by kernel_rfl) (by kernel_rfl) (by kernel_rfl) (by rfl) ?_
                  iterate 7 (refine wpG_quiet (by rfl) (by rfl) (by rfl) (fun K hK => ?_); go_big_quiet_op; refine hK _ ?_; clear hK K)
                  refine wpG_run (by rfl) (by rfl) (.agg cr2.toArray) (fun wx hl => exec_load 26 (.tmp 8) rfl w2.heap.size 0 rfl cr2 _ ((HK2.out.later hl.1).range 0 cr2 (by rw [List.drop_zero, List.take_length])) hu rfl (by rw [HL2.out]; exact info_rp)) ?_
                  simp only [Act.put, List.setIfInBounds_toArray, List.set_cons_zero, List.set_cons_succ]
                  iterate 2 (refine wpG_quiet (by rfl) (by rfl) (by rfl) (fun K hK => ?_); go_big_quiet_op; refine hK _ ?_; clear hK K)
                  refine wpG_run (by rfl) (by rfl) (.agg (rpc lj).toArray) (fun wx hl => exec_load 26 (.tmp 114) rfl b4 (j * 10) rfl (rpc lj) _ (HRQ.out wx (HI5.out.later hl.1)).2 hu rfl info_rp) ?_
                  simp only [Act.put, List.setIfInBounds_toArray, List.set_cons_zero, List.set_cons_succ]
                  refine wpG_call (by rfl) (by rfl) 14 #[.agg cr2.toArray, .agg (rpc lj).toArray] (.bool true) (by intro _; simp [go_sem]) (by kernel_rfl) (fun wx hl => HSM2.out wx hl.1) ?_
                  simp only [Act.put, List.setIfInBounds_toArray, List.set_cons_zero, List.set_cons_succ]
                  iterate 3 (refine wpG_quiet (by rfl) (by rfl) (by rfl) (fun K hK => ?_); go_big_quiet_op; refine hK _ ?_; clear hK K)
                  refine wpG_run (by rfl) (by rfl) (.agg cr4.toArray) (fun wx hl => exec_load 26 (.tmp 10) rfl w4.heap.size 0 rfl cr4 _ ((HK4.out.later hl.1).range 0 cr4 (by rw [List.drop_zero, List.take_length])) hu rfl (by rw [HL4.out]; exact info_rp)) ?_
                  simp only [Act.put, List.setIfInBounds_toArray, List.set_cons_zero, List.set_cons_succ]
                  iterate 2 (refine wpG_quiet (by rfl) (by rfl) (by rfl) (fun K hK => ?_); go_big_quiet_op; refine hK _ ?_; clear hK K)
                  refine wpG_run (by rfl) (by rfl) (.agg (rpc lj).toArray) (fun wx hl => exec_load 26 (.tmp 122) rfl b4 (j * 10) rfl (rpc lj) _ (HRQ.out wx (HI5.out.later hl.1)).2 hu rfl info_rp) ?_
                  simp only [Act.put, List.setIfInBounds_toArray, List.set_cons_zero, List.set_cons_succ]
                  refine wpG_call (by rfl) (by rfl) 14 #[.agg cr4.toArray, .agg (rpc lj).toArray] (.bool true) (by intro _; simp [go_sem]) (by kernel_rfl) (fun wx hl => HSM4.out wx hl.1) ?_
                  simp only [Act.put, List.setIfInBounds_toArray, List.set_cons_zero, List.set_cons_succ]
                  iterate 2 (refine wpG_quiet (by rfl) (by rfl) (by rfl) (fun K hK => ?_); go_big_quiet_op; refine hK _ ?_; clear hK K)
                  refine wpG_nil fun w9 hl _ => ?_
                  have HI9 := Lib.hid (HI5.out.later hl)
                  clear hl
                  go_wp2_with fail
                  go_roundw
                  case rel => exact ⟨j + 1, by omega, by go_num, HI9⟩
                  case measure => simp [intOf]; omega
              · obtain rfl : j = 6 := by omega
                go_wp2_with fail
                go_roundw
                case rel => exact ⟨k + 1, by omega, by go_num, ⟨es, rs, ls, HI⟩⟩
                case measure => simp [intOf]; omega
        · have g1 : (ak == 1) = false := by simp [hk1]
          by_cases hk2 : 1 < ak
          · have g2 : decide ((1 : Int) < ak) = true := decide_eq_true hk2
            have HRS := Lib.hid (lgraise_any g es rs r.dv W6 HI6.out.lg)
            clear hk1 hk2 RR6
            go_wp2_with fail
            refine HRS.out.mono ?_
            rintro e w7 ⟨rfl, h7, hg7⟩
            have HI7 := Lib.hid (HI6.out.raise h7 hg7)
            clear h7 hg7 HRS k61 k68 kk6 HOK6 HLOW HK6
            generalize res es r.dv = es at *
            go_wp2_with fail
            have HI := HI7
            clear HI6
            go_loopw [7] (fun d wr => ∃ j : Nat, j ≤ 6 ∧ d = .int .i64 (j : Int) ∧ Hid (LInv w g b4 wr es rs ls)) (fun d _ => 6 - (intOf d).toNat)
            case atStart => exact ⟨0, by omega, rfl, HI⟩
            case round =>
              clear HI
              obtain ⟨j, hj6, rfl, HI⟩ := hrel
              by_cases hjl : j < 6
              · have d0 : decide ((j : Int) < 6) = true := decide_eq_true (by omega)
                have hjl2 : j < ls.length := by rw [HI.out.ll]; exact hjl
                obtain ⟨lj, hgd⟩ : ∃ lj, lj = ls[j] := ⟨_, rfl⟩
                have RG := HI.out.range j hjl2
                have kq := RG 2 _ rfl
                have hnj : ¬ (6 : Int) ≤ (j : Int) := by omega
                have hnj2 : ¬ 6 ≤ j := by omega
                by_cases h0 : ls[j].rq = 0
                · rw [h0] at kq
                  clear RG h0 hgd
                  go_wp2_with fail
                  go_roundw
                  case rel => exact ⟨j + 1, by omega, by go_num, HI⟩
                  case measure => simp [intOf]; omega
                · obtain ⟨c7, r7⟩ := HI.out.asks j hjl2 h0
                  have hask := lask_any g es rs j ls[j].rq _ HI.out.lg
                  rw [c7, r7] at hask
                  have HASK1 := Lib.hid hask
                  have h00 : (ls[j].rq == 0) = false := by simpa using h0
                  have HRAB : Hid (rab ls[j] = rab lj) := Lib.hid (by rw [hgd])
                  have HOKL : Hid (∀ W, Below wr.heap.size wr W → okRp W lj) := Lib.hid (fun W hW => by
                    rw [hgd]
                    exact (HI.out.ok _ (List.getElem_mem hjl2)).1.later hW)
                  have HAGN : Hid (∀ W, LgAt W g es rs → Calls Try.prog 22 #[.pointer (some ⟨g, 0, none⟩), .int .i64 (j : Int), .int .i64 ls[j].rq] W (GivesAns W (rab ls[j]) 7)) := Lib.hid (fun W hW => by
                    have h9 := lask_any g es rs j ls[j].rq W hW
                    rwa [c7, r7] at h9)
                  have HRQ : Hid (∀ W, LInv w g b4 W es rs ls → W.cell? ⟨b4, j * 10 + 2, none⟩ = some (.int .i64 ls[j].rq) ∧ W.rangeAt b4 (j * 10) (rpc lj)) := Lib.hid (fun W hW => by
                    rw [hgd]
                    exact ⟨hW.range j hjl2 2 _ rfl, hW.range j hjl2⟩)
                  have HI1 := HI
                  clear c7 r7 hask h0 hgd RG
                  generalize ls[j].rq = q at *
                  generalize rab ls[j] = qq at *
                  go_wp2_with fail
                  refine HASK1.out.mono ?_
                  rintro e w2 ⟨r2, rfl, hok2, hab2, hfar2, hn2, hb2⟩
                  have hbb := HI1.out.be.trans (hb2.mono HI1.out.be.size)
                  obtain ⟨TH2, HN2, HBN2⟩ := new_rp w.heap.size w w2 (rpc r2) (rpc_len r2) hbb hbb.size
                  have hb2 := hb2.trans (HBN2.mono hb2.size)
                  have HI3 := Lib.hid (HI1.out.later hb2)
                  have HK2 := Lib.hid HN2
                  have HSM2 : Hid (∀ W, Below ((w2.alloc (.cells #[.int .i64 0, .int .i64 0, .int .i64 0, .int .i64 0, .int .i64 0, .int .i64 0, .int .i64 0, .int .i64 0, .slice none 0 0, .int .u32 0] 26)).setCells w2.heap.size 0 (rpc r2)).heap.size ((w2.alloc (.cells #[.int .i64 0, .int .i64 0, .int .i64 0, .int .i64 0, .int .i64 0, .int .i64 0, .int .i64 0, .int .i64 0, .slice none 0 0, .int .u32 0] 26)).setCells w2.heap.size 0 (rpc r2)) W → Calls Try.prog 14 #[.agg (rpc r2).toArray, .agg (rpc lj).toArray] W fun e w' => e = .returned (.bool true) ∧ Below W.heap.size W w') := Lib.hid (fun W hW => by
                    have := rlsame_any r2 lj W ((hok2.later HBN2).later hW) (HOKL.out W (hb2.trans (hW.mono hb2.size))) hn2
                    rw [decide_eq_true (hab2.trans HRAB.out)] at this
                    exact this)
                  have hone2 := all_oneCell_toArray (rpc_one r2)
                  have HL2 := Lib.hid (rpc_len r2)
                  generalize rpc r2 = cr2 at *
                  obtain ⟨W3, hW3⟩ : ∃ W3, W3 = (w2.alloc (.cells #[.int .i64 0, .int .i64 0, .int .i64 0, .int .i64 0, .int .i64 0, .int .i64 0, .int .i64 0, .int .i64 0, .slice none 0 0, .int .u32 0] 26)).setCells w2.heap.size 0 cr2 := ⟨_, rfl⟩
                  rw [← hW3] at HI3 HK2 HSM2
                  have HOKL := Lib.hid (fun W (hW : Below W3.heap.size W3 W) => HOKL.out W (by
                    rw [hW3] at hW
                    exact hb2.trans (hW.mono hb2.size)))
                  have HW3 := Lib.hid hW3
                  clear hok2 hab2 hfar2 hn2 hb2 hbb HN2 HBN2 hW3
                  have kq3 := (HRQ.out _ HI3.out).1
                  have HASK3 := Lib.hid (HAGN.out _ HI3.out.lg)
                  clear kq
                  go_wp2_with (first
                    | (refine wpList_store_mid rfl 26 (.tmp 8) (.tmp 93) rfl w2.heap.size 0 cr2.toArray rfl rfl (by simpa [HL2.out] using TH2) (by simpa [HL2.out] using info_rp) hone2 ?_
                       rw [← HW3.out])
                    | fail)
                  refine HASK3.out.mono ?_
                  rintro e w4 ⟨r4, rfl, hok4, hab4, hfar4, hn4, hb4⟩
                  have hbb := HI3.out.be.trans (hb4.mono HI3.out.be.size)
                  obtain ⟨TH4, HN4, HBN4⟩ := new_rp w.heap.size w w4 (rpc r4) (rpc_len r4) hbb hbb.size
                  have hb2 := hb4.trans (HBN4.mono hb4.size)
                  have HI5 := Lib.hid (HI3.out.later hb2)
                  have HK4 := Lib.hid HN4
                  have HSM4 : Hid (∀ W, Below ((w4.alloc (.cells #[.int .i64 0, .int .i64 0, .int .i64 0, .int .i64 0, .int .i64 0, .int .i64 0, .int .i64 0, .int .i64 0, .slice none 0 0, .int .u32 0] 26)).setCells w4.heap.size 0 (rpc r4)).heap.size ((w4.alloc (.cells #[.int .i64 0, .int .i64 0, .int .i64 0, .int .i64 0, .int .i64 0, .int .i64 0, .int .i64 0, .int .i64 0, .slice none 0 0, .int .u32 0] 26)).setCells w4.heap.size 0 (rpc r4)) W → Calls Try.prog 14 #[.agg (rpc r4).toArray, .agg (rpc lj).toArray] W fun e w' => e = .returned (.bool true) ∧ Below W.heap.size W w') := Lib.hid (fun W hW => by
                    have := rlsame_any r4 lj W ((hok4.later HBN4).later hW) (HOKL.out W (hb2.trans (hW.mono hb2.size))) hn4
                    rw [decide_eq_true (hab4.trans HRAB.out)] at this
                    exact this)
                  have hone4 := all_oneCell_toArray (rpc_one r4)
                  have HL4 := Lib.hid (rpc_len r4)
                  generalize rpc r4 = cr4 at *
                  obtain ⟨W5, hW5⟩ : ∃ W5, W5 = (w4.alloc (.cells #[.int .i64 0, .int .i64 0, .int .i64 0, .int .i64 0, .int .i64 0, .int .i64 0, .int .i64 0, .int .i64 0, .slice none 0 0, .int .u32 0] 26)).setCells w4.heap.size 0 cr4 := ⟨_, rfl⟩
                  rw [← hW5] at HI5 HK4 HSM4
                  have HOKL := Lib.hid (fun W (hW : Below W5.heap.size W5 W) => HOKL.out W (by
                    rw [hW5] at hW
                    exact hb2.trans (hW.mono hb2.size)))
                  have HW5 := Lib.hid hW5
                  clear hok4 hab4 hfar4 hn4 hb4 hbb HN4 HBN4 hW5
                  have HK2 := Lib.hid (HK2.out.later hb2)
                  have HSM2 := Lib.hid (fun W hW => HSM2.out W (hb2.trans (Below.mono hW hb2.size)))
                  rw [← HW5.out] at HK2 HSM2
                  have HRG5 := Lib.hid (HRQ.out _ HI5.out).2
                  clear kq3 hb2
                  go_wp2_with (first
                    | (refine wpList_store_mid rfl 26 (.tmp 10) (.tmp 103) rfl w4.heap.size 0 cr4.toArray rfl rfl (by simpa [HL4.out] using TH4) (by simpa [HL4.out] using info_rp) hone4 ?_
                       rw [← HW5.out])
                    | fail)
                  refine wp_region_steady [] 128 (by kernel_rfl) (by kernel_rfl) (by kernel_rfl) (by rfl) ?_
                  iterate 7 (refine wpG_quiet (by rfl) (by rfl) (by rfl) (fun K hK => ?_); go_big_quiet_op; refine hK _ ?_; clear hK K)
                  refine wpG_run (by rfl) (by rfl) (.agg cr2.toArray) (fun wx hl => exec_load 26 (.tmp 8) rfl w2.heap.size 0 rfl cr2 _ ((HK2.out.later hl.1).range 0 cr2 (by rw [List.drop_zero, List.take_length])) hu rfl (by rw [HL2.out]; exact info_rp)) ?_
                  simp only [Act.put, List.setIfInBounds_toArray, List.set_cons_zero, List.set_cons_succ]
                  iterate 2 (refine wpG_quiet (by rfl) (by rfl) (by rfl) (fun K hK => ?_); go_big_quiet_op; refine hK _ ?_; clear hK K)
                  refine wpG_run (by rfl) (by rfl) (.agg (rpc lj).toArray) (fun wx hl => exec_load 26 (.tmp 114) rfl b4 (j * 10) rfl (rpc lj) _ (HRQ.out wx (HI5.out.later hl.1)).2 hu rfl info_rp) ?_
                  simp only [Act.put, List.setIfInBounds_toArray, List.set_cons_zero, List.set_cons_succ]
                  refine wpG_call (by rfl) (by rfl) 14 #[.agg cr2.toArray, .agg (rpc lj).toArray] (.bool true) (by intro _; simp [go_sem]) (by kernel_rfl) (fun wx hl => HSM2.out wx hl.1) ?_
                  simp only [Act.put, List.setIfInBounds_toArray, List.set_cons_zero, List.set_cons_succ]
                  iterate 3 (refine wpG_quiet (by rfl) (by rfl) (by rfl) (fun K hK => ?_); go_big_quiet_op; refine hK _ ?_; clear hK K)
                  refine wpG_run (by rfl) (by rfl) (.agg cr4.toArray) (fun wx hl => exec_load 26 (.tmp 10) rfl w4.heap.size 0 rfl cr4 _ ((HK4.out.later hl.1).range 0 cr4 (by rw [List.drop_zero, List.take_length])) hu rfl (by rw [HL4.out]; exact info_rp)) ?_
                  simp only [Act.put, List.setIfInBounds_toArray, List.set_cons_zero, List.set_cons_succ]
                  iterate 2 (refine wpG_quiet (by rfl) (by rfl) (by rfl) (fun K hK => ?_); go_big_quiet_op; refine hK _ ?_; clear hK K)
                  refine wpG_run (by rfl) (by rfl) (.agg (rpc lj).toArray) (fun wx hl => exec_load 26 (.tmp 122) rfl b4 (j * 10) rfl (rpc lj) _ (HRQ.out wx (HI5.out.later hl.1)).2 hu rfl info_rp) ?_
                  simp only [Act.put, List.setIfInBounds_toArray, List.set_cons_zero, List.set_cons_succ]
                  refine wpG_call (by rfl) (by rfl) 14 #[.agg cr4.toArray, .agg (rpc lj).toArray] (.bool true) (by intro _; simp [go_sem]) (by kernel_rfl) (fun wx hl => HSM4.out wx hl.1) ?_
                  simp only [Act.put, List.setIfInBounds_toArray, List.set_cons_zero, List.set_cons_succ]
                  iterate 2 (refine wpG_quiet (by rfl) (by rfl) (by rfl) (fun K hK => ?_); go_big_quiet_op; refine hK _ ?_; clear hK K)
                  refine wpG_nil fun w9 hl _ => ?_
                  have HI9 := Lib.hid (HI5.out.later hl)
                  clear hl
                  go_wp2_with fail
                  go_roundw
                  case rel => exact ⟨j + 1, by omega, by go_num, HI9⟩
                  case measure => simp [intOf]; omega
              · obtain rfl : j = 6 := by omega
                go_wp2_with fail
                go_roundw
                case rel => exact ⟨k + 1, by omega, by go_num, ⟨es, rs, ls, HI⟩⟩
                case measure => simp [intOf]; omega
          · have g2 : decide ((1 : Int) < ak) = false := decide_eq_false hk2
            clear hk1 hk2 RR6 HOK6 HLOW HK6
            go_wp2_with fail
            have HI7 := HI6
            clear k61 k68 kk6
            have HI := HI7
            clear HI6
            go_loopw [7] (fun d wr => ∃ j : Nat, j ≤ 6 ∧ d = .int .i64 (j : Int) ∧ Hid (LInv w g b4 wr es rs ls)) (fun d _ => 6 - (intOf d).toNat)
            case atStart => exact ⟨0, by omega, rfl, HI⟩
            case round =>
              clear HI
              obtain ⟨j, hj6, rfl, HI⟩ := hrel
              by_cases hjl : j < 6
              · have d0 : decide ((j : Int) < 6) = true := decide_eq_true (by omega)
                have hjl2 : j < ls.length := by rw [HI.out.ll]; exact hjl
                obtain ⟨lj, hgd⟩ : ∃ lj, lj = ls[j] := ⟨_, rfl⟩
                have RG := HI.out.range j hjl2
                have kq := RG 2 _ rfl
                have hnj : ¬ (6 : Int) ≤ (j : Int) := by omega
                have hnj2 : ¬ 6 ≤ j := by omega
                by_cases h0 : ls[j].rq = 0
                · rw [h0] at kq
                  clear RG h0 hgd
                  go_wp2_with fail
                  go_roundw
                  case rel => exact ⟨j + 1, by omega, by go_num, HI⟩
                  case measure => simp [intOf]; omega
                · obtain ⟨c7, r7⟩ := HI.out.asks j hjl2 h0
                  have hask := lask_any g es rs j ls[j].rq _ HI.out.lg
                  rw [c7, r7] at hask
                  have HASK1 := Lib.hid hask
                  have h00 : (ls[j].rq == 0) = false := by simpa using h0
                  have HRAB : Hid (rab ls[j] = rab lj) := Lib.hid (by rw [hgd])
                  have HOKL : Hid (∀ W, Below wr.heap.size wr W → okRp W lj) := Lib.hid (fun W hW => by
                    rw [hgd]
                    exact (HI.out.ok _ (List.getElem_mem hjl2)).1.later hW)
                  have HAGN : Hid (∀ W, LgAt W g es rs → Calls Try.prog 22 #[.pointer (some ⟨g, 0, none⟩), .int .i64 (j : Int), .int .i64 ls[j].rq] W (GivesAns W (rab ls[j]) 7)) := Lib.hid (fun W hW => by
                    have h9 := lask_any g es rs j ls[j].rq W hW
                    rwa [c7, r7] at h9)
                  have HRQ : Hid (∀ W, LInv w g b4 W es rs ls → W.cell? ⟨b4, j * 10 + 2, none⟩ = some (.int .i64 ls[j].rq) ∧ W.rangeAt b4 (j * 10) (rpc lj)) := Lib.hid (fun W hW => by
                    rw [hgd]
                    exact ⟨hW.range j hjl2 2 _ rfl, hW.range j hjl2⟩)
                  have HI1 := HI
                  clear c7 r7 hask h0 hgd RG
                  generalize ls[j].rq = q at *
                  generalize rab ls[j] = qq at *
                  go_wp2_with fail
                  refine HASK1.out.mono ?_
                  rintro e w2 ⟨r2, rfl, hok2, hab2, hfar2, hn2, hb2⟩
                  have hbb := HI1.out.be.trans (hb2.mono HI1.out.be.size)
                  obtain ⟨TH2, HN2, HBN2⟩ := new_rp w.heap.size w w2 (rpc r2) (rpc_len r2) hbb hbb.size
                  have hb2 := hb2.trans (HBN2.mono hb2.size)
                  have HI3 := Lib.hid (HI1.out.later hb2)
                  have HK2 := Lib.hid HN2
                  have HSM2 : Hid (∀ W, Below ((w2.alloc (.cells #[.int .i64 0, .int .i64 0, .int .i64 0, .int .i64 0, .int .i64 0, .int .i64 0, .int .i64 0, .int .i64 0, .slice none 0 0, .int .u32 0] 26)).setCells w2.heap.size 0 (rpc r2)).heap.size ((w2.alloc (.cells #[.int .i64 0, .int .i64 0, .int .i64 0, .int .i64 0, .int .i64 0, .int .i64 0, .int .i64 0, .int .i64 0, .slice none 0 0, .int .u32 0] 26)).setCells w2.heap.size 0 (rpc r2)) W → Calls Try.prog 14 #[.agg (rpc r2).toArray, .agg (rpc lj).toArray] W fun e w' => e = .returned (.bool true) ∧ Below W.heap.size W w') := Lib.hid (fun W hW => by
                    have := rlsame_any r2 lj W ((hok2.later HBN2).later hW) (HOKL.out W (hb2.trans (hW.mono hb2.size))) hn2
                    rw [decide_eq_true (hab2.trans HRAB.out)] at this
                    exact this)
                  have hone2 := all_oneCell_toArray (rpc_one r2)
                  have HL2 := Lib.hid (rpc_len r2)
                  generalize rpc r2 = cr2 at *
                  obtain ⟨W3, hW3⟩ : ∃ W3, W3 = (w2.alloc (.cells #[.int .i64 0, .int .i64 0, .int .i64 0, .int .i64 0, .int .i64 0, .int .i64 0, .int .i64 0, .int .i64 0, .slice none 0 0, .int .u32 0] 26)).setCells w2.heap.size 0 cr2 := ⟨_, rfl⟩
                  rw [← hW3] at HI3 HK2 HSM2
                  have HOKL := Lib.hid (fun W (hW : Below W3.heap.size W3 W) => HOKL.out W (by
                    rw [hW3] at hW
                    exact hb2.trans (hW.mono hb2.size)))
                  have HW3 := Lib.hid hW3
                  clear hok2 hab2 hfar2 hn2 hb2 hbb HN2 HBN2 hW3
                  have kq3 := (HRQ.out _ HI3.out).1
                  have HASK3 := Lib.hid (HAGN.out _ HI3.out.lg)
                  clear kq
                  go_wp2_with (first
                    | (refine wpList_store_mid rfl 26 (.tmp 8) (.tmp 93) rfl w2.heap.size 0 cr2.toArray rfl rfl (by simpa [HL2.out] using TH2) (by simpa [HL2.out] using info_rp) hone2 ?_
                       rw [← HW3.out])
                    | fail)
                  refine HASK3.out.mono ?_
                  rintro e w4 ⟨r4, rfl, hok4, hab4, hfar4, hn4, hb4⟩
                  have hbb := HI3.out.be.trans (hb4.mono HI3.out.be.size)
                  obtain ⟨TH4, HN4, HBN4⟩ := new_rp w.heap.size w w4 (rpc r4) (rpc_len r4) hbb hbb.size
                  have hb2 := hb4.trans (HBN4.mono hb4.size)
                  have HI5 := Lib.hid (HI3.out.later hb2)
                  have HK4 := Lib.hid HN4
                  have HSM4 : Hid (∀ W, Below ((w4.alloc (.cells #[.int .i64 0, .int .i64 0, .int .i64 0, .int .i64 0, .int .i64 0, .int .i64 0, .int .i64 0, .int .i64 0, .slice none 0 0, .int .u32 0] 26)).setCells w4.heap.size 0 (rpc r4)).heap.size ((w4.alloc (.cells #[.int .i64 0, .int .i64 0, .int .i64 0, .int .i64 0, .int .i64 0, .int .i64 0, .int .i64 0, .int .i64 0, .slice none 0 0, .int .u32 0] 26)).setCells w4.heap.size 0 (rpc r4)) W → Calls Try.prog 14 #[.agg (rpc r4).toArray, .agg (rpc lj).toArray] W fun e w' => e = .returned (.bool true) ∧ Below W.heap.size W w') := Lib.hid (fun W hW => by
                    have := rlsame_any r4 lj W ((hok4.later HBN4).later hW) (HOKL.out W (hb2.trans (hW.mono hb2.size))) hn4
                    rw [decide_eq_true (hab4.trans HRAB.out)] at this
                    exact this)
                  have hone4 := all_oneCell_toArray (rpc_one r4)
                  have HL4 := Lib.hid (rpc_len r4)
                  generalize rpc r4 = cr4 at *
                  obtain ⟨W5, hW5⟩ : ∃ W5, W5 = (w4.alloc (.cells #[.int .i64 0, .int .i64 0, .int .i64 0, .int .i64 0, .int .i64 0, .int .i64 0, .int .i64 0, .int .i64 0, .slice none 0 0, .int .u32 0] 26)).setCells w4.heap.size 0 cr4 := ⟨_, rfl⟩
                  rw [← hW5] at HI5 HK4 HSM4
                  have HOKL := Lib.hid (fun W (hW : Below W5.heap.size W5 W) => HOKL.out W (by
                    rw [hW5] at hW
                    exact hb2.trans (hW.mono hb2.size)))
                  have HW5 := Lib.hid hW5
                  clear hok4 hab4 hfar4 hn4 hb4 hbb HN4 HBN4 hW5
                  have HK2 := Lib.hid (HK2.out.later hb2)
                  have HSM2 := Lib.hid (fun W hW => HSM2.out W (hb2.trans (Below.mono hW hb2.size)))
                  rw [← HW5.out] at HK2 HSM2
                  have HRG5 := Lib.hid (HRQ.out _ HI5.out).2
                  clear kq3 hb2
                  go_wp2_with (first
                    | (refine wpList_store_mid rfl 26 (.tmp 10) (.tmp 103) rfl w4.heap.size 0 cr4.toArray rfl rfl (by simpa [HL4.out] using TH4) (by simpa [HL4.out] using info_rp) hone4 ?_
                       rw [← HW5.out])
                    | fail)
                  refine wp_region_steady [] 128 (by kernel_rfl) (by kernel_rfl) (by kernel_rfl) (by rfl) ?_
                  iterate 7 (refine wpG_quiet (by rfl) (by rfl) (by rfl) (fun K hK => ?_); go_big_quiet_op; refine hK _ ?_; clear hK K)
                  refine wpG_run (by rfl) (by rfl) (.agg cr2.toArray) (fun wx hl => exec_load 26 (.tmp 8) rfl w2.heap.size 0 rfl cr2 _ ((HK2.out.later hl.1).range 0 cr2 (by rw [List.drop_zero, List.take_length])) hu rfl (by rw [HL2.out]; exact info_rp)) ?_
                  simp only [Act.put, List.setIfInBounds_toArray, List.set_cons_zero, List.set_cons_succ]
                  iterate 2 (refine wpG_quiet (by rfl) (by rfl) (by rfl) (fun K hK => ?_); go_big_quiet_op; refine hK _ ?_; clear hK K)
                  refine wpG_run (by rfl) (by rfl) (.agg (rpc lj).toArray) (fun wx hl => exec_load 26 (.tmp 114) rfl b4 (j * 10) rfl (rpc lj) _ (HRQ.out wx (HI5.out.later hl.1)).2 hu rfl info_rp) ?_
                  simp only [Act.put, List.setIfInBounds_toArray, List.set_cons_zero, List.set_cons_succ]
                  refine wpG_call (by rfl) (by rfl) 14 #[.agg cr2.toArray, .agg (rpc lj).toArray] (.bool true) (by intro _; simp [go_sem]) (by kernel_rfl) (fun wx hl => HSM2.out wx hl.1) ?_
                  simp only [Act.put, List.setIfInBounds_toArray, List.set_cons_zero, List.set_cons_succ]
                  iterate 3 (refine wpG_quiet (by rfl) (by rfl) (by rfl) (fun K hK => ?_); go_big_quiet_op; refine hK _ ?_; clear hK K)
                  refine wpG_run (by rfl) (by rfl) (.agg cr4.toArray) (fun wx hl => exec_load 26 (.tmp 10) rfl w4.heap.size 0 rfl cr4 _ ((HK4.out.later hl.1).range 0 cr4 (by rw [List.drop_zero, List.take_length])) hu rfl (by rw [HL4.out]; exact info_rp)) ?_
                  simp only [Act.put, List.setIfInBounds_toArray, List.set_cons_zero, List.set_cons_succ]
                  iterate 2 (refine wpG_quiet (by rfl) (by rfl) (by rfl) (fun K hK => ?_); go_big_quiet_op; refine hK _ ?_; clear hK K)
                  refine wpG_run (by rfl) (by rfl) (.agg (rpc lj).toArray) (fun wx hl => exec_load 26 (.tmp 122) rfl b4 (j * 10) rfl (rpc lj) _ (HRQ.out wx (HI5.out.later hl.1)).2 hu rfl info_rp) ?_
                  simp only [Act.put, List.setIfInBounds_toArray, List.set_cons_zero, List.set_cons_succ]
                  refine wpG_call (by rfl) (by rfl) 14 #[.agg cr4.toArray, .agg (rpc lj).toArray] (.bool true) (by intro _; simp [go_sem]) (by kernel_rfl) (fun wx hl => HSM4.out wx hl.1) ?_
                  simp only [Act.put, List.setIfInBounds_toArray, List.set_cons_zero, List.set_cons_succ]
                  iterate 2 (refine wpG_quiet (by rfl) (by rfl) (by rfl) (fun K hK => ?_); go_big_quiet_op; refine hK _ ?_; clear hK K)
                  refine wpG_nil fun w9 hl _ => ?_
                  have HI9 := Lib.hid (HI5.out.later hl)
                  clear hl
                  go_wp2_with fail
                  go_roundw
                  case rel => exact ⟨j + 1, by omega, by go_num, HI9⟩
                  case measure => simp [intOf]; omega
              · obtain rfl : j = 6 := by omega
                go_wp2_with fail
                go_roundw
                case rel => exact ⟨k + 1, by omega, by go_num, ⟨es, rs, ls, HI⟩⟩
                case measure => simp [intOf]; omega
    · by_cases hkn : k < n
      · have d0 : decide ((k : Int) < (n : Int)) = true := decide_eq_true (by omega)
        have d2 : decide ((k : Int) < 200) = false := decide_eq_false (by omega)
        go_wp2_with fail
        refine (lg_awake _).mono ?_
        rintro e wa ⟨rfl, hba⟩
        have HBA := Lib.hid (HI.out.be.trans (hba.mono HI.out.be.size))
        clear hba
        go_wp2_with fail
        go_ret
        exact ⟨rfl, HBA.out⟩
      · have d0 : decide ((k : Int) < (n : Int)) = false := decide_eq_false (by omega)
        go_wp2_with fail
        refine (lg_awake _).mono ?_
        rintro e wa ⟨rfl, hba⟩
        have HBA := Lib.hid (HI.out.be.trans (hba.mono HI.out.be.size))
        clear hba
        go_wp2_with fail
        go_ret
        exact ⟨rfl, HBA.out⟩
end Go.Proofs.Ytadmaalhhigbeaa

/- Ledger: what the frame gives of an answer, and of a list of acts. -/
namespace Go.Proofs.Ytadmaalhhigbeaa
set_option linter.unusedVariables false
open Go Go.RowKit Go.Deep Go.ChangeShapes Go.WideShapes Go.ChangeAt

instance : Inhabited Rp := ⟨zrp⟩
instance : Inhabited Ac := ⟨⟨0, zrp⟩⟩
section
variable {H : Type} {enc : TypeId × Value → H} {W : World}
set_option maxRecDepth 100000 in
theorem trod_nodes {fuel : Nat} {cs : List Value} {x : DataW H × List MemPlace} (hf : DataW.trod enc Try.prog W 0 (fun _ => true) true fuel 23 cs = some x) :
    ∃ A n c, ∃ l : List Nd, cs = [.slice A n c] ∧ n ≤ c ∧ c ≤ maxLen ∧ l.length = n ∧ (∀ z ∈ l, okNd z) ∧ Sees W W.heap.size A (ncs l) := by
  have hlt := DataW.trod_lt fuel _ _ _ hf
  have c5 : Try.prog.cellsOf 71 = 5 := by kernel_rfl
  rcases open_slice Try.underlying23 hf with ⟨hcs, hx⟩ | ⟨x, n, c, m, fu, D, Pl, hcs, hb, hl, hm, hmm, hx, hcell⟩
  · exact ⟨none, 0, 0, [], hcs, Nat.le_refl _, by simp [maxLen], rfl, by simp, Sees.nil_⟩
  · simp only [if_true] at hmm
    subst hmm
    have each : ∀ i, i < n → ∃ z : Nd, (∀ j u, (ncells z)[j]? = some u → W.cell? (x.add (i * 5 + j)) = some u) ∧ okNd z := fun i hi => by
      obtain ⟨cs', h1, h2⟩ := hcell i (by omega)
      obtain ⟨z, rfl, ok⟩ := trod_node h2
      refine ⟨z, fun j u hj => ?_, ok⟩
      rw [c5] at h1
      obtain ⟨_, hlen, hc⟩ := World.cells?_some h1
      have hj5 : j < 5 := by
        have := (List.getElem?_eq_some_iff.1 hj).1
        rwa [ncells_len] at this
      have e1 := hc j hj5
      rw [add_add] at e1
      rw [e1, hj]
    obtain ⟨f, hf2⟩ := choose_lt (α := Nd) each
    have hlen : ((List.range n).map f).length = n := by simp
    refine ⟨some x, n, m, (List.range n).map f, hcs, hl, hm, hlen, fun z hz => ?_, fun hpos => ?_⟩
    · obtain ⟨i, hi, rfl⟩ := List.mem_map.1 hz
      exact (hf2 i (List.mem_range.1 hi)).2
    · rw [ncs_len, hlen] at hpos
      have h0 := (hf2 0 (by omega)).1 0 _ rfl
      obtain ⟨b, off, spot⟩ := x
      have hspot : spot = none := by simpa [Addr.add] using World.cell?_spot h0
      subst hspot
      refine ⟨b, off, rfl, ?_, fun j hj => ?_⟩
      · rw [hx] at hlt
        have := hlt (.cell b off) (by simp [MemPlace.row, c5]; omega)
        simpa [MemPlace.block] using this
      · have hj2 := hj
        rw [ncs_len, hlen] at hj2
        have hk : j / 5 < ((List.range n).map f).length := by rw [hlen]; omega
        have h3 : (ncells ((List.range n).map f)[j / 5])[j % 5]? = some (ncs ((List.range n).map f))[j] := by
          have h4 := ncs_get _ (j / 5) hk
          rw [← h4, List.getElem?_take, if_pos (by omega), List.getElem?_drop, show 5 * (j / 5) + j % 5 = j by omega, List.getElem?_eq_getElem hj]
        have h5 := (hf2 (j / 5) (by omega)).1 (j % 5) _ (by simpa using h3)
        rw [show j / 5 * 5 + j % 5 = j by omega, add_at] at h5
        exact h5

theorem list10 {β : Type} {l : List β} {a b c d e f g h i j : β} (hl : l.length = 10) (h0 : (l.drop 0).take 1 = [a]) (h1 : (l.drop 1).take 1 = [b]) (h2 : (l.drop 2).take 1 = [c]) (h3 : (l.drop 3).take 1 = [d]) (h4 : (l.drop 4).take 1 = [e])
    (h5 : (l.drop 5).take 1 = [f]) (h6 : (l.drop 6).take 1 = [g]) (h7 : (l.drop 7).take 1 = [h]) (h8 : (l.drop 8).take 1 = [i]) (h9 : (l.drop 9).take 1 = [j]) : l = [a, b, c, d, e, f, g, h, i, j] := by
  match l, hl with
  | [x0, x1, x2, x3, x4, x5, x6, x7, x8, x9], _ => simp at h0 h1 h2 h3 h4 h5 h6 h7 h8 h9; rw [h0, h1, h2, h3, h4, h5, h6, h7, h8, h9]
theorem trod_struct10 {P : Program} {w : World} {base : Nat} {spare : Nat → Bool} {held : Bool} {t : TypeId} {f0 f1 f2 f3 f4 f5 f6 f7 f8 f9 : Field} {fuel : Nat} {cs : List Value} {x : DataW H × List MemPlace} (ht : P.underlying t = some (.struct #[f0, f1, f2, f3, f4, f5, f6, f7, f8, f9])) (h : DataW.trod enc P w base spare held fuel t cs = some x) :
    ∃ y0 y1 y2 y3 y4 y5 y6 y7 y8 y9 n, cs.length = P.cellsOf t ∧ DataW.trod enc P w base spare held n f0.type ((cs.drop f0.offset).take (P.cellsOf f0.type)) = some y0 ∧ DataW.trod enc P w base spare held n f1.type ((cs.drop f1.offset).take (P.cellsOf f1.type)) = some y1 ∧ DataW.trod enc P w base spare held n f2.type ((cs.drop f2.offset).take (P.cellsOf f2.type)) = some y2 ∧ DataW.trod enc P w base spare held n f3.type ((cs.drop f3.offset).take (P.cellsOf f3.type)) = some y3 ∧ DataW.trod enc P w base spare held n f4.type ((cs.drop f4.offset).take (P.cellsOf f4.type)) = some y4 ∧ DataW.trod enc P w base spare held n f5.type ((cs.drop f5.offset).take (P.cellsOf f5.type)) = some y5 ∧ DataW.trod enc P w base spare held n f6.type ((cs.drop f6.offset).take (P.cellsOf f6.type)) = some y6 ∧ DataW.trod enc P w base spare held n f7.type ((cs.drop f7.offset).take (P.cellsOf f7.type)) = some y7 ∧ DataW.trod enc P w base spare held n f8.type ((cs.drop f8.offset).take (P.cellsOf f8.type)) = some y8 ∧ DataW.trod enc P w base spare held n f9.type ((cs.drop f9.offset).take (P.cellsOf f9.type)) = some y9 := by
  obtain ⟨xs, n, _, rfl, hl, hlen, hf⟩ := DataW.trod_struct ht h
  match xs, hlen with
  | [y0, y1, y2, y3, y4, y5, y6, y7, y8, y9], _ => exact ⟨y0, y1, y2, y3, y4, y5, y6, y7, y8, y9, n, hl, by simpa using hf 0 f0 rfl, by simpa using hf 1 f1 rfl, by simpa using hf 2 f2 rfl, by simpa using hf 3 f3 rfl, by simpa using hf 4 f4 rfl, by simpa using hf 5 f5 rfl, by simpa using hf 6 f6 rfl, by simpa using hf 7 f7 rfl, by simpa using hf 8 f8 rfl, by simpa using hf 9 f9 rfl⟩
set_option maxRecDepth 100000 in
theorem trod_rp {fuel : Nat} {cs : List Value} {x : DataW H × List MemPlace} (h : DataW.trod enc Try.prog W 0 (fun _ => true) true fuel 26 cs = some x) : ∃ r : Rp, cs = rpc r ∧ okRp W r := by
  obtain ⟨y0, y1, y2, y3, y4, y5, y6, y7, y8, y9, n, hl, g0, g1, g2, g3, g4, g5, g6, g7, g8, g9⟩ := trod_struct10 Try.underlying26 h
  have c1 : Try.prog.cellsOf 3 = 1 := by kernel_rfl
  have c2 : Try.prog.cellsOf 22 = 1 := by kernel_rfl
  have c3 : Try.prog.cellsOf 23 = 1 := by kernel_rfl
  have c4 : Try.prog.cellsOf 24 = 1 := by kernel_rfl
  have c10 : Try.prog.cellsOf 26 = 10 := by kernel_rfl
  rw [c10] at hl
  simp only [c1] at g0 g1 g2 g4 g5 g6 g7
  simp only [c2] at g3
  simp only [c3] at g8
  simp only [c4] at g9
  obtain ⟨a0, e0, _, _⟩ := DataW.trod_int Try.underlying3 g0
  obtain ⟨a1, e1, _, _⟩ := DataW.trod_int Try.underlying3 g1
  obtain ⟨a2, e2, _, _⟩ := DataW.trod_int Try.underlying3 g2
  obtain ⟨a3, e3, _, _⟩ := DataW.trod_int Try.underlying22 g3
  obtain ⟨a4, e4, _, _⟩ := DataW.trod_int Try.underlying3 g4
  obtain ⟨a5, e5, _, _⟩ := DataW.trod_int Try.underlying3 g5
  obtain ⟨a6, e6, _, _⟩ := DataW.trod_int Try.underlying3 g6
  obtain ⟨a7, e7, _, _⟩ := DataW.trod_int Try.underlying3 g7
  obtain ⟨A, nn, c, l, e8, hnc, hcm, hln, _, hs⟩ := trod_nodes g8
  obtain ⟨a9, e9, _, w9⟩ := DataW.trod_int Try.underlying24 g9
  obtain ⟨m, rfl⟩ := u32_wf w9
  exact ⟨⟨a0, a1, a2, a3, a4, a5, a6, a7, A, nn, c, l, m⟩, list10 hl e0 e1 e2 e3 e4 e5 e6 e7 e8 e9, ⟨hln, hnc, hcm, hs⟩⟩
set_option maxRecDepth 100000 in
theorem trod_ac {fuel : Nat} {cs : List Value} {x : DataW H × List MemPlace} (h : DataW.trod enc Try.prog W 0 (fun _ => true) true fuel 50 cs = some x) : ∃ a : Ac, cs = acc30 a ∧ okRp W a.r := by
  obtain ⟨y0, y1, m, _, hl, h0, h1⟩ := trod_struct2 Try.underlying50 h
  have c1 : Try.prog.cellsOf 3 = 1 := by kernel_rfl
  have c10 : Try.prog.cellsOf 26 = 10 := by kernel_rfl
  have c11 : Try.prog.cellsOf 50 = 11 := by kernel_rfl
  rw [c11] at hl
  simp only [c1] at h0
  simp only [c10] at h1
  obtain ⟨a, e0, _, w0⟩ := DataW.trod_int Try.underlying3 h0
  obtain ⟨r, e1, ok⟩ := trod_rp h1
  refine ⟨⟨a, r⟩, ?_, ok⟩
  have e2 : cs.take 1 = [.int .i64 a] := by simpa using e0
  have e3 : cs.drop 1 = rpc r := by
    rw [← e1, List.take_of_length_le (by rw [List.length_drop]; omega)]
  rw [← List.take_append_drop 1 cs, e2, e3]
  rfl
set_option maxRecDepth 100000 in
theorem open_acs30 {r : Reach} {base : Nat} {v : Value} {d : DataW H} {ps : List MemPlace}
    (hv : Value.okWide Try.prog W r base 44 v) (h : DataW.Trod enc Try.prog W 0 (fun _ => true) true 44 v d ps) :
    ∃ A n c, ∃ l : List Ac, v = .slice A n c ∧ SeesA W A n c l := by
  obtain ⟨A, n, c, l, e, hnc, hcm, hln, hok, hs⟩ := open_rows (f := acc30) (sz := 11) (ok := fun a => okRp W a.r) Try.underlying44 (by kernel_rfl) (by decide) (fun _ _ => rfl) (fun n cs x h => trod_ac h) hv h
  exact ⟨A, n, c, l, e, hln, hnc, hcm, hs, hok⟩
end
end Go.Proofs.Ytadmaalhhigbeaa

/- Ledger: rows as they lie; New and Rows of the document. -/
namespace Go.Proofs.Ytadmaalhhigbeaa
set_option linter.unusedVariables false
set_option linter.unusedSimpArgs false
open Go Go.RowKit ValM

/-- A row as it lies. -/
structure Rw where
  last : Int
  ep : Int
  r : Rp
def rwc (x : Rw) : List Value := .int .i64 x.last :: .int .i64 x.ep :: rpc x.r
theorem rwc_len (l : List Rw) : ∀ x ∈ l, (rwc x).length = 12 := fun _ _ => rfl
theorem rwc_one (x : Rw) : ∀ v ∈ rwc x, v.oneCell' = true := by
  intro v hv
  simp only [rwc, List.mem_cons] at hv
  rcases hv with rfl | rfl | hv
  · rfl
  · rfl
  · exact rpc_one x.r v hv
structure SeesRw (w : World) (A : Option Addr) (n c : Nat) (l : List Rw) : Prop where
  len : l.length = n
  cap : n ≤ c
  max : c ≤ maxLen
  see : Sees w w.heap.size A (rws rwc l)
  ok : ∀ x ∈ l, okRp w x.r ∧ x.r.n ≤ 65536
theorem SeesRw.later {w w' : World} {A : Option Addr} {n c : Nat} {l : List Rw} (h : SeesRw w A n c l) (hb : Below w.heap.size w w') : SeesRw w' A n c l :=
  ⟨h.len, h.cap, h.max, (h.see.below hb).more hb.size, fun x hx => ⟨(h.ok x hx).1.later hb, (h.ok x hx).2⟩⟩
theorem SeesRw.get {w : World} {A : Option Addr} {n c : Nat} {l : List Rw} (h : SeesRw w A n c l) (k : Nat) (hk : k < l.length) :
    ∃ b o, A = some ⟨b, o, none⟩ ∧ b < w.heap.size ∧ ∀ W, Below w.heap.size w W → W.cell? ⟨b, o + k * 12, none⟩ = some (.int .i64 l[k].last) ∧ W.cell? ⟨b, o + k * 12 + 1, none⟩ = some (.int .i64 l[k].ep) ∧ W.rangeAt b (o + k * 12 + 2) (rpc l[k].r) ∧ okRp W l[k].r := by
  obtain ⟨b, o, e, hb, _⟩ := sees_rw (f := rwc) (sz := 12) (rwc_len l) h.see (by decide) k hk
  refine ⟨b, o, e, hb, fun W hW => ?_⟩
  obtain ⟨b', o', e', _, hr⟩ := sees_rw (f := rwc) (sz := 12) (rwc_len l) ((h.later hW).see) (by decide) k hk
  rw [e] at e'
  cases e'
  refine ⟨hr 0 _ rfl, hr 1 _ rfl, fun j v hj => ?_, (h.ok _ (List.getElem_mem hk)).1.later hW⟩
  rw [show o + k * 12 + 2 + j = o + k * 12 + (j + 2) by omega]
  exact hr (j + 2) v (by simpa [rwc] using hj)
abbrev Wq := Int × Int × Rq
def wab (x : Rw) : Wq := (x.last, x.ep, rab x.r)
def wabs (l : List Rw) : List Wq := l.map wab
theorem wabs_len (l : List Rw) : (wabs l).length = l.length := by simp [wabs]
theorem wabs_ne {l m : List Rw} (k : Nat) (hk : k < l.length) (hm : k < m.length) (h : wab l[k] ≠ wab m[k]) : wabs l ≠ wabs m := fun e => h (by
  have h1 : (wabs l)[k]'(by rw [wabs_len]; exact hk) = (wabs m)[k]'(by rw [wabs_len]; exact hm) := by simp only [e]
  simpa [wabs] using h1)
theorem wabs_eq {l m : List Rw} (hl : l.length = m.length) (h : ∀ k (hk : k < l.length) (hm : k < m.length), wab l[k] = wab m[k]) : wabs l = wabs m :=
  List.ext_getElem (by rw [wabs_len, wabs_len, hl]) (fun k h1 h2 => by simpa [wabs] using h k (by simpa [wabs] using h1) (by simpa [wabs] using h2))
noncomputable instance (l m : List Rw) : Decidable (wabs l = wabs m) := Classical.propDecidable _
def GivesRw (w : World) (L : List Wq) (e : Ending) (w' : World) : Prop := ∃ A n c l, e = .returned (.slice A n c) ∧ SeesRw w' A n c l ∧ wabs l = L ∧ Below w.heap.size w w'
theorem info_rw : ∃ i0, Try.prog.info? 62 = some i0 ∧ i0.zero = some (.agg #[.int .i64 0, .int .i64 0, .int .i64 0, .int .i64 0, .int .i64 0, .int .i64 0, .int .i64 0, .int .i64 0, .int .i64 0, .int .i64 0, .slice none 0 0, .int .u32 0]) ∧ i0.size = 12 ∧ i0.bytes = 112 := by
  have h : (Try.prog.info? 62).map (fun i => (i.zero, i.size, i.bytes)) = some (some (.agg #[.int .i64 0, .int .i64 0, .int .i64 0, .int .i64 0, .int .i64 0, .int .i64 0, .int .i64 0, .int .i64 0, .int .i64 0, .int .i64 0, .slice none 0 0, .int .u32 0]), 12, 112) := by kernel_rfl
  cases hi : Try.prog.info? 62 with
  | none => rw [hi] at h; cases h
  | some i0 =>
    rw [hi] at h
    simp only [Option.map_some, Option.some.injEq, Prod.mk.injEq] at h
    exact ⟨i0, rfl, h.1, h.2.1, h.2.2⟩

set_option maxRecDepth 100000 in
set_option maxHeartbeats 6400000 in
theorem rrows_any (A : Option Addr) (n c : Nat) (l : List Rw) (A' : Option Addr) (n' c' : Nat) (l' : List Rw) (w : World) (h : SeesRw w A n c l) (h' : SeesRw w A' n' c' l') (hz : n ≤ 65536) :
    Calls Try.prog 28 #[.slice A n c, .slice A' n' c'] w fun e w' => e = .returned (.bool (decide (wabs l = wabs l'))) ∧ Below w.heap.size w w' := by
  have hu := Try.underlying26
  have HB0 := Lib.hid (Below.refl w.heap.size w)
  obtain ⟨RR, hRR⟩ : ∃ RR, RR = decide (wabs l = wabs l') := ⟨_, rfl⟩
  rw [← hRR]
  have HRR := Lib.hid hRR
  clear hRR
  by_cases hnn : n = n'
  · subst hnn
    have b0 : ((n : Int) != (n : Int)) = false := by simp
    have HS := Lib.hid h
    have HS' := Lib.hid h'
    have HLL : Hid (l.length = l'.length) := Lib.hid (by rw [h.len, h'.len])
    have HN := Lib.hid h.len
    clear h h'
    go_enter Try.func28, Try.ntmps28
    go_wp2_with fail
    go_loopw [5] (fun i wr => ∃ k : Nat, k ≤ n ∧ i = .int .i64 (k : Int) ∧ Hid (∀ j (hj : j < l.length) (hj' : j < l'.length), j < k → wab l[j] = wab l'[j]) ∧ Hid (Below w.heap.size w wr)) (fun i _ => n - (intOf i).toNat)
    case atStart => exact ⟨0, by omega, rfl, Lib.hid (fun j _ _ hj => absurd hj (by omega)), HB0⟩
    case round =>
      clear HB0
      obtain ⟨k, hk, rfl, HP, HB⟩ := hrel
      by_cases hlt : k < n
      · have d0 : decide ((k : Int) < (n : Int)) = true := decide_eq_true (by omega)
        have hkl : k < l.length := by rw [HN.out]; exact hlt
        have hkl' : k < l'.length := by rw [← HLL.out]; exact hkl
        have hnk : ¬ n ≤ k := by omega
        obtain ⟨b, o, rfl, _, hg⟩ := HS.out.get k hkl
        obtain ⟨b', o', rfl, _, hg'⟩ := HS'.out.get k hkl'
        have HG := Lib.hid hg
        have HG' := Lib.hid hg'
        have HSM := Lib.hid (fun W (hW : Below w.heap.size w W) => rlsame_any l[k].r l'[k].r W (hg W hW).2.2.2 (hg' W hW).2.2.2 (HS.out.ok _ (List.getElem_mem hkl)).2)
        have HBW : Hid (∀ W, Le wr W → Below w.heap.size w W) := Lib.hid (fun W hl => HB.out.trans (Below.mono hl HB.out.size))
        have HNX : Hid (wab l[k] = wab l'[k] → Hid (∀ j (hj : j < l.length) (hj' : j < l'.length), j < k + 1 → wab l[j] = wab l'[j])) := Lib.hid (fun e => Lib.hid (fun j hj hj' hjk => by
          by_cases ej : j = k
          · subst ej; exact e
          · exact HP.out j hj hj' (by omega)))
        have HNO : Hid (wab l[k] ≠ wab l'[k] → RR = false) := Lib.hid (fun e => by rw [HRR.out]; exact decide_eq_false (wabs_ne k hkl hkl' e))
        unfold wab at HNX HNO
        clear hg hg' HP HS HS' HLL
        generalize l[k].last = x1 at *
        generalize l[k].ep = x2 at *
        generalize l[k].r = r1 at *
        generalize l'[k].last = y1 at *
        generalize l'[k].ep = y2 at *
        generalize l'[k].r = r2 at *
        have ca : ∀ kk : LW wr, kk.val.cell? ⟨b, o + k * 12, none⟩ = some (.int .i64 x1) := fun kk => (HG.out _ (HBW.out _ kk.le)).1
        have cb : ∀ kk : LW wr, kk.val.cell? ⟨b, o + k * 12 + 1, none⟩ = some (.int .i64 x2) := fun kk => (HG.out _ (HBW.out _ kk.le)).2.1
        have cc : ∀ kk : LW wr, kk.val.cell? ⟨b', o' + k * 12, none⟩ = some (.int .i64 y1) := fun kk => (HG'.out _ (HBW.out _ kk.le)).1
        have cd : ∀ kk : LW wr, kk.val.cell? ⟨b', o' + k * 12 + 1, none⟩ = some (.int .i64 y2) := fun kk => (HG'.out _ (HBW.out _ kk.le)).2.1
        go_wp2_with fail
        by_cases h1 : x1 = y1
        · have e1 : (x1 != y1) = false := by simp [h1]
          by_cases h2 : x2 = y2
          · have e2 : (x2 != y2) = false := by simp [h2]
            by_cases h3 : rab r1 = rab r2
            · rw [decide_eq_true h3] at HSM
              have HX := HNX.out (by rw [h1, h2, h3])
              clear h1 h2 h3 HNX HNO
              refine wp_region_steady [] 55 (by kernel_rfl) (by kernel_rfl) (by kernel_rfl) (by rfl) ?_
              iterate 29 (refine wpG_quiet (by rfl) (by rfl) (by rfl) (fun K hK => ?_); go_big_quiet_op; refine hK _ ?_; clear hK K)
              refine wpG_run (by rfl) (by rfl) (.agg (rpc r1).toArray) (fun wx hl => exec_load 26 (.tmp 45) rfl b (o + k * 12 + 2) rfl (rpc r1) _ (HG.out wx (HBW.out wx hl.1)).2.2.1 hu rfl info_rp) ?_
              simp only [Act.put, List.setIfInBounds_toArray, List.set_cons_zero, List.set_cons_succ]
              iterate 4 (refine wpG_quiet (by rfl) (by rfl) (by rfl) (fun K hK => ?_); go_big_quiet_op; refine hK _ ?_; clear hK K)
              refine wpG_run (by rfl) (by rfl) (.agg (rpc r2).toArray) (fun wx hl => exec_load 26 (.tmp 50) rfl b' (o' + k * 12 + 2) rfl (rpc r2) _ (HG'.out wx (HBW.out wx hl.1)).2.2.1 hu rfl info_rp) ?_
              simp only [Act.put, List.setIfInBounds_toArray, List.set_cons_zero, List.set_cons_succ]
              refine wpG_call (by rfl) (by rfl) 14 #[.agg (rpc r1).toArray, .agg (rpc r2).toArray] (.bool true) (by intro _; simp [go_sem]) (by kernel_rfl) (fun wx hl => HSM.out wx (HBW.out wx hl.1)) ?_
              simp only [Act.put, List.setIfInBounds_toArray, List.set_cons_zero, List.set_cons_succ]
              iterate 2 (refine wpG_quiet (by rfl) (by rfl) (by rfl) (fun K hK => ?_); go_big_quiet_op; refine hK _ ?_; clear hK K)
              refine wpG_nil fun w9 hl _ => ?_
              have HB9 := Lib.hid (HBW.out w9 hl)
              clear ca cb cc cd hl
              go_wp2_with fail
              go_roundw
              case rel => exact ⟨k + 1, by omega, by go_num, HX, HB9⟩
              case measure => simp [intOf]; omega
            · rw [decide_eq_false h3] at HSM
              have HNE := HNO.out (fun e => h3 (by injection e with _ e; injection e))
              clear h1 h2 h3 HNX HNO
              refine wp_region_steady [] 55 (by kernel_rfl) (by kernel_rfl) (by kernel_rfl) (by rfl) ?_
              iterate 29 (refine wpG_quiet (by rfl) (by rfl) (by rfl) (fun K hK => ?_); go_big_quiet_op; refine hK _ ?_; clear hK K)
              refine wpG_run (by rfl) (by rfl) (.agg (rpc r1).toArray) (fun wx hl => exec_load 26 (.tmp 45) rfl b (o + k * 12 + 2) rfl (rpc r1) _ (HG.out wx (HBW.out wx hl.1)).2.2.1 hu rfl info_rp) ?_
              simp only [Act.put, List.setIfInBounds_toArray, List.set_cons_zero, List.set_cons_succ]
              iterate 4 (refine wpG_quiet (by rfl) (by rfl) (by rfl) (fun K hK => ?_); go_big_quiet_op; refine hK _ ?_; clear hK K)
              refine wpG_run (by rfl) (by rfl) (.agg (rpc r2).toArray) (fun wx hl => exec_load 26 (.tmp 50) rfl b' (o' + k * 12 + 2) rfl (rpc r2) _ (HG'.out wx (HBW.out wx hl.1)).2.2.1 hu rfl info_rp) ?_
              simp only [Act.put, List.setIfInBounds_toArray, List.set_cons_zero, List.set_cons_succ]
              refine wpG_call (by rfl) (by rfl) 14 #[.agg (rpc r1).toArray, .agg (rpc r2).toArray] (.bool false) (by intro _; simp [go_sem]) (by kernel_rfl) (fun wx hl => HSM.out wx (HBW.out wx hl.1)) ?_
              simp only [Act.put, List.setIfInBounds_toArray, List.set_cons_zero, List.set_cons_succ]
              iterate 2 (refine wpG_quiet (by rfl) (by rfl) (by rfl) (fun K hK => ?_); go_big_quiet_op; refine hK _ ?_; clear hK K)
              refine wpG_nil fun w9 hl _ => ?_
              have HB9 := Lib.hid (HBW.out w9 hl)
              clear ca cb cc cd hl
              go_wp2_with fail
              go_ret
              (try rw [HNE])
              exact ⟨rfl, HB9.out⟩
          · have e2 : (x2 != y2) = true := by simp [h2]
            have HNE := HNO.out (fun e => h2 (by injection e with _ e; injection e))
            clear h1 h2 HNX HNO HSM
            refine wp_region_steady [] 55 (by kernel_rfl) (by kernel_rfl) (by kernel_rfl) (by rfl) ?_
            iterate 25 (refine wpG_quiet (by rfl) (by rfl) (by rfl) (fun K hK => ?_); go_big_quiet_op; refine hK _ ?_; clear hK K)
            iterate 12 (refine wpG_skip (by rfl) ?_; simp only [Act.put, List.setIfInBounds_toArray, List.set_cons_zero, List.set_cons_succ])
            iterate 1 (refine wpG_quiet (by rfl) (by rfl) (by rfl) (fun K hK => ?_); go_big_quiet_op; refine hK _ ?_; clear hK K)
            refine wpG_nil fun w9 hl _ => ?_
            have HB9 := Lib.hid (HBW.out w9 hl)
            clear ca cb cc cd hl
            go_wp2_with fail
            go_ret
            (try rw [HNE])
            exact ⟨rfl, HB9.out⟩
        · have e1 : (x1 != y1) = true := by simp [h1]
          have HNE := HNO.out (fun e => h1 (by injection e))
          clear h1 HNX HNO HSM
          refine wp_region_steady [] 55 (by kernel_rfl) (by kernel_rfl) (by kernel_rfl) (by rfl) ?_
          iterate 12 (refine wpG_quiet (by rfl) (by rfl) (by rfl) (fun K hK => ?_); go_big_quiet_op; refine hK _ ?_; clear hK K)
          iterate 11 (refine wpG_skip (by rfl) ?_; simp only [Act.put, List.setIfInBounds_toArray, List.set_cons_zero, List.set_cons_succ])
          iterate 2 (refine wpG_quiet (by rfl) (by rfl) (by rfl) (fun K hK => ?_); go_big_quiet_op; refine hK _ ?_; clear hK K)
          iterate 12 (refine wpG_skip (by rfl) ?_; simp only [Act.put, List.setIfInBounds_toArray, List.set_cons_zero, List.set_cons_succ])
          iterate 1 (refine wpG_quiet (by rfl) (by rfl) (by rfl) (fun K hK => ?_); go_big_quiet_op; refine hK _ ?_; clear hK K)
          refine wpG_nil fun w9 hl _ => ?_
          have HB9 := Lib.hid (HBW.out w9 hl)
          clear ca cb cc cd hl
          go_wp2_with fail
          go_ret
          (try rw [HNE])
          exact ⟨rfl, HB9.out⟩
      · obtain rfl : k = n := by omega
        have HEQ : RR = true := by
          rw [HRR.out]
          exact decide_eq_true (wabs_eq HLL.out (fun j hj hj' => HP.out j hj hj' (by rw [← HN.out]; exact hj)))
        go_wp2_with fail
        go_ret
        (try rw [HEQ])
        exact ⟨rfl, HB.out⟩
  · have b0 : ((n : Int) != (n' : Int)) = true := by simp; omega
    have HNE : RR = false := by
      rw [HRR.out]
      exact decide_eq_false (fun e => hnn (by rw [← h.len, ← h'.len, ← wabs_len l, e, wabs_len]))
    rw [HNE]
    clear h h' hnn HNE HRR
    go_enter Try.func28, Try.ntmps28
    go_wp2_with fail
    go_ret
    exact ⟨rfl, HB0.out⟩
end Go.Proofs.Ytadmaalhhigbeaa

/- Ledger: New and Ask of the document. -/
namespace Go.Proofs.Ytadmaalhhigbeaa
set_option linter.unusedVariables false
set_option linter.unusedSimpArgs false
open Go Go.RowKit ValM

/-- Rows as an answer, in memory of the call's own. -/
def GivesRl (w : World) (l : List Rw) (e : Ending) (w' : World) : Prop := ∃ A n c, e = .returned (.slice A n c) ∧ SeesRw w' A n c l ∧ (∀ ad, A = some ad → w.heap.size ≤ ad.block) ∧ Below w.heap.size w w'
def zrw : Rw := ⟨0, 0, zrp⟩
def zws (k : Nat) : List Rw := List.replicate k zrw
theorem zws_next (k : Nat) : rws rwc (zws k) ++ [.int .i64 0, .int .i64 0, .int .i64 0, .int .i64 0, .int .i64 0, .int .i64 0, .int .i64 0, .int .i64 0, .int .i64 0, .int .i64 0, .slice none 0 0, .int .u32 0] = rws rwc (zws (k + 1)) := by
  unfold zws
  rw [List.replicate_succ', rws_append, rws_one]
  rfl
set_option maxRecDepth 100000 in
set_option maxHeartbeats 3200000 in
theorem rlnew_any (w : World) : Calls Try.prog 21 #[] w (GivesRl w (zws 6)) := by
  obtain ⟨i1, ji, jz0, jz1, jz2⟩ := info_rw
  have HROW0 := Lib.hid (row_lit w w.heap.size 62 12 0 #[] (Nat.le_refl _) (by simp [maxLen]) rfl)
  have HB0 := Lib.hid (below_a1 w (.cells #[] 62))
  have HFIN : Hid (∀ W A c, Below w.heap.size w W → W.ownsRow w.heap.size 62 12 (.slice A 6 c) 6 (rws rwc (zws 6)) → GivesRl w (zws 6) (.returned (.slice A 6 c)) W) := Lib.hid (fun W A c hb hr => by
    have hc := row_capm hr
    refine ⟨A, 6, c, rfl, ⟨rfl, hc.1, hc.2, row_sees hr, fun x hx => ?_⟩, fun ad e => (World.ownsRow.lt hr ad.block (by rw [e]; rfl)).1, hb⟩
    have : x = zrw := List.eq_of_mem_replicate hx
    subst this
    exact ⟨okRp.zero _, by simp [zrw, zrp]⟩)
  have HONE : Hid (∀ u ∈ ([.int .i64 0, .int .i64 0, .int .i64 0, .int .i64 0, .int .i64 0, .int .i64 0, .int .i64 0, .int .i64 0, .int .i64 0, .int .i64 0, .slice none 0 0, .int .u32 0] : List Value), u.oneCell' = true) := Lib.hid (rwc_one zrw)
  have HNX := Lib.hid zws_next
  go_enter Try.func21, Try.ntmps21
  go_wp2_with fail
  go_loopw [2, 1] (fun i v wr => ∃ k : Nat, k ≤ 6 ∧ i = .int .i64 (k : Int) ∧ (∃ A1 c1, v = .slice A1 k c1 ∧ Hid (wr.ownsRow w.heap.size 62 12 v k (rws rwc (zws k)))) ∧ Hid (Below w.heap.size w wr)) (fun i _ _ => 6 - (intOf i).toNat)
  case atStart => exact ⟨0, by omega, rfl, ⟨_, _, rfl, HROW0⟩, HB0⟩
  case round =>
    clear HROW0 HB0
    obtain ⟨k, hk, rfl, ⟨A1, c1, rfl, HR⟩, HB⟩ := hrel
    by_cases hlt : k < 6
    · have d0 : decide ((k : Int) < 6) = true := decide_eq_true (by omega)
      have HX := Lib.hid (HNX.out k)
      have hlw := below_a1 wr (.cells #[.int .i64 0, .int .i64 0, .int .i64 0, .int .i64 0, .int .i64 0, .int .i64 0, .int .i64 0, .int .i64 0, .int .i64 0, .int .i64 0, .slice none 0 0, .int .u32 0] 62)
      have HLW := Lib.hid (HB.out.trans (hlw.mono HB.out.size))
      have HR5 := Lib.hid (row_later HR.out hlw)
      have FIN : Blk (wr.alloc (.cells #[.int .i64 0, .int .i64 0, .int .i64 0, .int .i64 0, .int .i64 0, .int .i64 0, .int .i64 0, .int .i64 0, .int .i64 0, .int .i64 0, .slice none 0 0, .int .u32 0] 62)) wr.heap.size [.int .i64 0, .int .i64 0, .int .i64 0, .int .i64 0, .int .i64 0, .int .i64 0, .int .i64 0, .int .i64 0, .int .i64 0, .int .i64 0, .slice none 0 0, .int .u32 0] := Blk.new wr [.int .i64 0, .int .i64 0, .int .i64 0, .int .i64 0, .int .i64 0, .int .i64 0, .int .i64 0, .int .i64 0, .int .i64 0, .int .i64 0, .slice none 0 0, .int .u32 0] 62
      have HSEE : Hid (Sees (wr.alloc (.cells #[.int .i64 0, .int .i64 0, .int .i64 0, .int .i64 0, .int .i64 0, .int .i64 0, .int .i64 0, .int .i64 0, .int .i64 0, .int .i64 0, .slice none 0 0, .int .u32 0] 62)) (wr.alloc (.cells #[.int .i64 0, .int .i64 0, .int .i64 0, .int .i64 0, .int .i64 0, .int .i64 0, .int .i64 0, .int .i64 0, .int .i64 0, .int .i64 0, .slice none 0 0, .int .u32 0] 62)).heap.size (some ⟨wr.heap.size, 0, none⟩) [.int .i64 0, .int .i64 0, .int .i64 0, .int .i64 0, .int .i64 0, .int .i64 0, .int .i64 0, .int .i64 0, .int .i64 0, .int .i64 0, .slice none 0 0, .int .u32 0]) := Lib.hid (fun _ => ⟨wr.heap.size, 0, rfl, FIN.lt, fun j hj => by rw [Nat.zero_add]; exact FIN.cell (List.getElem?_eq_getElem hj)⟩)
      have HBS := Lib.hid HLW.out.size
      clear hlw FIN HNX HFIN
      go_wp2_with (first
        | (at_builtin
           refine wpList_appk _ rfl (.tmp 8) (.tmp 10) 47 rfl w.heap.size 62 i1 _ 12 112 Try.underlying47 ji jz0 jz1 jz2 rfl (by decide) (.slice A1 k c1) k (rws rwc (zws k)) rfl HR5.out _ (some ⟨wr.heap.size, 0, none⟩) 1 [.int .i64 0, .int .i64 0, .int .i64 0, .int .i64 0, .int .i64 0, .int .i64 0, .int .i64 0, .int .i64 0, .int .i64 0, .int .i64 0, .slice none 0 0, .int .u32 0] 1 rfl rfl HSEE.out HONE.out (by unfold maxLen; omega) (by omega) HBS.out ?_
           intro A6 c6 w6 hr6 hb6 hg6 hat6
           rw [HX.out] at hr6
           have HR6 := Lib.hid hr6
           have HB6 := Lib.hid (HLW.out.trans hb6)
           clear hr6 hb6 hg6 hat6)
        | fail)
      go_roundw
      case rel => exact ⟨k + 1, by omega, by go_num, ⟨A6, c6, rfl, HR6⟩, HB6⟩
      case measure => simp [intOf]; omega
    · obtain rfl : k = 6 := by omega
      go_wp2_with fail
      go_ret
      exact HFIN.out _ _ _ HB.out HR.out

/-- The document's code of an answer to a request, by rows. -/
def wcod (L : List Wq) (dv rq : Int) : Int := if ¬ ((0 ≤ dv ∧ dv < 6) ∧ (1 ≤ rq ∧ rq ≤ 1099511627776)) then 1 else if rq < (L.getD dv.toNat (0, 0, zrq)).1 then 13 else if rq = (L.getD dv.toNat (0, 0, zrq)).1 then 7 else 0
def wres (L : List Wq) (dv rq : Int) : Rq := if wcod L dv rq = 7 then (L.getD dv.toNat (0, 0, zrq)).2.2 else zrq
def GivesAnsD (w : World) (q : Rq) (code : Int) (e : Ending) (w' : World) : Prop := ∃ r, e = .returned (.tuple #[.agg (rpc r).toArray, .int .i64 code]) ∧ okRp w' r ∧ rab r = q ∧ r.n ≤ 65536 ∧ Below w.heap.size w w'
theorem wcod_arg {L : List Wq} {dv rq : Int} (h : ¬ ((0 ≤ dv ∧ dv < 6) ∧ (1 ≤ rq ∧ rq ≤ 1099511627776))) : wcod L dv rq = 1 ∧ wres L dv rq = zrq := by
  have e : wcod L dv rq = 1 := if_pos h
  exact ⟨e, by unfold wres; rw [e]; rfl⟩
theorem wcod_at {l : List Rw} {k : Nat} {rq : Int} (hk : k < l.length) (h6 : k < 6) (h : 1 ≤ rq ∧ rq ≤ 1099511627776) :
    (rq < l[k].last → wcod (wabs l) k rq = 13 ∧ wres (wabs l) k rq = zrq) ∧ (rq = l[k].last → wcod (wabs l) k rq = 7 ∧ wres (wabs l) k rq = rab l[k].r) ∧ (l[k].last < rq → wcod (wabs l) k rq = 0 ∧ wres (wabs l) k rq = zrq) := by
  have hg : (wabs l).getD ((k : Int)).toNat (0, 0, zrq) = wab l[k] := by simp [hk, wabs]
  have hn : ¬ ¬ ((0 ≤ (k : Int) ∧ (k : Int) < 6) ∧ (1 ≤ rq ∧ rq ≤ 1099511627776)) := fun x => x ⟨by omega, h⟩
  refine ⟨fun h1 => ?_, fun h1 => ?_, fun h1 => ?_⟩
  · have e : wcod (wabs l) k rq = 13 := by unfold wcod; rw [if_neg hn, hg, if_pos (by exact h1)]
    exact ⟨e, by unfold wres; rw [e]; rfl⟩
  · have e : wcod (wabs l) k rq = 7 := by unfold wcod; rw [if_neg hn, hg, if_neg (by show ¬ rq < l[k].last; omega), if_pos (by exact h1)]
    exact ⟨e, by unfold wres; rw [if_pos e, hg]; rfl⟩
  · have e : wcod (wabs l) k rq = 0 := by unfold wcod; rw [if_neg hn, hg, if_neg (by show ¬ rq < l[k].last; omega), if_neg (by show ¬ rq = l[k].last; omega)]
    exact ⟨e, by unfold wres; rw [e]; rfl⟩
theorem zero_ansD {w w' : World} (hb : Below w.heap.size w w') (code : Int) : GivesAnsD w zrq code (.returned (.tuple #[.agg #[.int .i64 0, .int .i64 0, .int .i64 0, .int .i64 0, .int .i64 0, .int .i64 0, .int .i64 0, .int .i64 0, .slice none 0 0, .int .u32 0], .int .i64 code])) w' :=
  ⟨zrp, rfl, okRp.zero _, rfl, by simp [zrp], hb⟩

set_option maxRecDepth 100000 in
set_option maxHeartbeats 3200000 in
theorem rlask_any (A : Option Addr) (n c : Nat) (l : List Rw) (dv rq : Int) (w : World) (h : SeesRw w A n c l) (h6n : n = 6) :
    Calls Try.prog 23 #[.slice A n c, .int .i64 dv, .int .i64 rq] w (GivesAnsD w (wres (wabs l) dv rq) (wcod (wabs l) dv rq)) := by
  have hu := Try.underlying26
  have HB0 := Lib.hid (below_a1 w (.cells #[.int .i64 0, .int .i64 0, .int .i64 0, .int .i64 0, .int .i64 0, .int .i64 0, .int .i64 0, .int .i64 0, .slice none 0 0, .int .u32 0] 26))
  have HK : Hid (Blk (w.alloc (.cells #[.int .i64 0, .int .i64 0, .int .i64 0, .int .i64 0, .int .i64 0, .int .i64 0, .int .i64 0, .int .i64 0, .slice none 0 0, .int .u32 0] 26)) w.heap.size [.int .i64 0, .int .i64 0, .int .i64 0, .int .i64 0, .int .i64 0, .int .i64 0, .int .i64 0, .int .i64 0, .slice none 0 0, .int .u32 0]) := Lib.hid (Blk.new w [.int .i64 0, .int .i64 0, .int .i64 0, .int .i64 0, .int .i64 0, .int .i64 0, .int .i64 0, .int .i64 0, .slice none 0 0, .int .u32 0] 26)
  by_cases hbad : (0 ≤ dv ∧ dv < 6) ∧ (1 ≤ rq ∧ rq ≤ 1099511627776)
  · have d1 : decide (dv < 0) = false := decide_eq_false (by omega)
    have d2 : decide (6 ≤ dv) = false := decide_eq_false (by omega)
    have d3 : decide (rq < 1) = false := decide_eq_false (by omega)
    have d4 : decide (1099511627776 < rq) = false := decide_eq_false (by omega)
    obtain ⟨k, rfl⟩ : ∃ k : Nat, dv = (k : Int) := ⟨dv.toNat, by omega⟩
    have h6 : k < 6 := by omega
    have hk : k < l.length := by rw [h.len, h6n]; exact h6
    obtain ⟨a1, a2, a3⟩ := wcod_at hk h6 hbad.2
    obtain ⟨b, o, e, _, hg⟩ := h.get k hk
    subst e
    have hq := (hg _ HB0.out).1
    have RG := (hg _ HB0.out).2.2.1
    have HOK := Lib.hid (fun W hW => (hg W hW).2.2.2)
    have hnn := (h.ok _ (List.getElem_mem hk)).2
    have hblt : b < w.heap.size := World.block_lt_of_cell? _ _ (hg w (Below.refl _ _)).1
    have hnk : ¬ n ≤ k := by omega
    by_cases hlt : rq < l[k].last
    · obtain ⟨e1, e2⟩ := a1 hlt
      rw [e1, e2]
      have d5 : decide (rq < l[k].last) = true := decide_eq_true hlt
      clear a1 a2 a3 e1 e2 hlt hbad RG HOK hg hnn h
      generalize l[k].last = q at *
      go_enter Try.func23, Try.ntmps23
      go_wp2_with fail
      exact bodyPost_ret (v := .tuple #[.agg #[.int .i64 0, .int .i64 0, .int .i64 0, .int .i64 0, .int .i64 0, .int .i64 0, .int .i64 0, .int .i64 0, .slice none 0 0, .int .u32 0], .int .i64 13]) (results_blk_tmp (p := 7) (q := 6) rfl _ _ w.heap.size [.int .i64 0, .int .i64 0, .int .i64 0, .int .i64 0, .int .i64 0, .int .i64 0, .int .i64 0, .int .i64 0, .slice none 0 0, .int .u32 0] _ _ rfl rfl HK.out hu rfl info_rp) rfl (zero_ansD HB0.out 13)
    · have d5 : decide (rq < l[k].last) = false := decide_eq_false hlt
      by_cases heq : rq = l[k].last
      · obtain ⟨e1, e2⟩ := a2 heq
        rw [e1, e2]
        have d6 : (rq == l[k].last) = true := by simp [heq]
        have B6 := HK.out
        have TH := B6.there 0 10 (by simp)
        have HFIN : Hid (GivesAnsD w (rab l[k].r) 7 (.returned (.tuple #[.agg (rpc l[k].r).toArray, .int .i64 7])) ((w.alloc (.cells #[.int .i64 0, .int .i64 0, .int .i64 0, .int .i64 0, .int .i64 0, .int .i64 0, .int .i64 0, .int .i64 0, .slice none 0 0, .int .u32 0] 26)).setCells w.heap.size 0 (rpc l[k].r))) := Lib.hid (by
          have hb : Below w.heap.size w ((w.alloc (.cells #[.int .i64 0, .int .i64 0, .int .i64 0, .int .i64 0, .int .i64 0, .int .i64 0, .int .i64 0, .int .i64 0, .slice none 0 0, .int .u32 0] 26)).setCells w.heap.size 0 (rpc l[k].r)) := below_sets (Nat.le_refl _) _ _ HB0.out
          exact ⟨_, rfl, HOK.out _ hb, rfl, hnn, hb⟩)
        have hone := all_oneCell_toArray (rpc_one l[k].r)
        have HL := Lib.hid (rpc_len l[k].r)
        have FIN := B6.sets (rpc l[k].r) 0 (by simp [rpc])
        have FIN2 : Blk ((w.alloc (.cells #[.int .i64 0, .int .i64 0, .int .i64 0, .int .i64 0, .int .i64 0, .int .i64 0, .int .i64 0, .int .i64 0, .slice none 0 0, .int .u32 0] 26)).setCells w.heap.size 0 (rpc l[k].r)) w.heap.size (rpc l[k].r) := by
          have h3 := FIN
          rw [List.take_zero, List.nil_append, List.drop_eq_nil_of_le (by simp [rpc]), List.append_nil] at h3
          exact h3
        clear a1 a2 a3 e1 e2 hlt hbad heq HOK hg hnn h B6 FIN
        generalize rpc l[k].r = cr at *
        generalize rab l[k].r = qq at *
        generalize l[k].last = q at *
        go_enter Try.func23, Try.ntmps23
        go_wp2_with (first
          | (refine wpList_load_mid rfl 26 (.tmp 41) rfl b (o + k * 12 + 2) rfl cr _ RG hu rfl (by rw [HL.out]; exact info_rp) ?_
             simp only [Act.put, List.setIfInBounds_toArray, List.set_cons_zero, List.set_cons_succ])
          | (refine wpList_store_mid rfl 26 (.tmp 6) (.tmp 42) rfl w.heap.size 0 cr.toArray rfl rfl (by simpa [HL.out] using TH) (by simpa [HL.out] using info_rp) hone ?_)
          | fail)
        exact bodyPost_ret (v := .tuple #[.agg cr.toArray, .int .i64 7]) (results_blk_tmp (p := 7) (q := 6) rfl _ _ w.heap.size cr _ _ rfl rfl FIN2 hu rfl (by rw [HL.out]; exact info_rp)) rfl HFIN.out
      · obtain ⟨e1, e2⟩ := a3 (by omega)
        rw [e1, e2]
        have d6 : (rq == l[k].last) = false := by simp [heq]
        clear a1 a2 a3 e1 e2 hlt hbad heq RG HOK hg hnn h
        generalize l[k].last = q at *
        go_enter Try.func23, Try.ntmps23
        go_wp2_with fail
        exact bodyPost_ret (v := .tuple #[.agg #[.int .i64 0, .int .i64 0, .int .i64 0, .int .i64 0, .int .i64 0, .int .i64 0, .int .i64 0, .int .i64 0, .slice none 0 0, .int .u32 0], .int .i64 0]) (results_blk_tmp (p := 7) (q := 6) rfl _ _ w.heap.size [.int .i64 0, .int .i64 0, .int .i64 0, .int .i64 0, .int .i64 0, .int .i64 0, .int .i64 0, .int .i64 0, .slice none 0 0, .int .u32 0] _ _ rfl rfl HK.out hu rfl info_rp) rfl (zero_ansD HB0.out 0)
  · obtain ⟨e1, e2⟩ := wcod_arg (L := wabs l) (dv := dv) (rq := rq) hbad
    rw [e1, e2]
    by_cases c1 : dv < 0
    · have d1 : decide (dv < 0) = true := decide_eq_true c1
      clear h e1 e2 hbad
      go_enter Try.func23, Try.ntmps23
      go_wp2_with fail
      exact bodyPost_ret (v := .tuple #[.agg #[.int .i64 0, .int .i64 0, .int .i64 0, .int .i64 0, .int .i64 0, .int .i64 0, .int .i64 0, .int .i64 0, .slice none 0 0, .int .u32 0], .int .i64 1]) (results_blk_tmp (p := 7) (q := 6) rfl _ _ w.heap.size [.int .i64 0, .int .i64 0, .int .i64 0, .int .i64 0, .int .i64 0, .int .i64 0, .int .i64 0, .int .i64 0, .slice none 0 0, .int .u32 0] _ _ rfl rfl HK.out hu rfl info_rp) rfl (zero_ansD HB0.out 1)
    · have d1 : decide (dv < 0) = false := decide_eq_false c1
      by_cases c2 : 6 ≤ dv
      · have d2 : decide (6 ≤ dv) = true := decide_eq_true c2
        clear h e1 e2 hbad
        go_enter Try.func23, Try.ntmps23
        go_wp2_with fail
        exact bodyPost_ret (v := .tuple #[.agg #[.int .i64 0, .int .i64 0, .int .i64 0, .int .i64 0, .int .i64 0, .int .i64 0, .int .i64 0, .int .i64 0, .slice none 0 0, .int .u32 0], .int .i64 1]) (results_blk_tmp (p := 7) (q := 6) rfl _ _ w.heap.size [.int .i64 0, .int .i64 0, .int .i64 0, .int .i64 0, .int .i64 0, .int .i64 0, .int .i64 0, .int .i64 0, .slice none 0 0, .int .u32 0] _ _ rfl rfl HK.out hu rfl info_rp) rfl (zero_ansD HB0.out 1)
      · have d2 : decide (6 ≤ dv) = false := decide_eq_false c2
        by_cases c3 : rq < 1
        · have d3 : decide (rq < 1) = true := decide_eq_true c3
          clear h e1 e2 hbad
          go_enter Try.func23, Try.ntmps23
          go_wp2_with fail
          exact bodyPost_ret (v := .tuple #[.agg #[.int .i64 0, .int .i64 0, .int .i64 0, .int .i64 0, .int .i64 0, .int .i64 0, .int .i64 0, .int .i64 0, .slice none 0 0, .int .u32 0], .int .i64 1]) (results_blk_tmp (p := 7) (q := 6) rfl _ _ w.heap.size [.int .i64 0, .int .i64 0, .int .i64 0, .int .i64 0, .int .i64 0, .int .i64 0, .int .i64 0, .int .i64 0, .slice none 0 0, .int .u32 0] _ _ rfl rfl HK.out hu rfl info_rp) rfl (zero_ansD HB0.out 1)
        · have d3 : decide (rq < 1) = false := decide_eq_false c3
          have d4 : decide (1099511627776 < rq) = true := decide_eq_true (by omega)
          clear h e1 e2 hbad
          go_enter Try.func23, Try.ntmps23
          go_wp2_with fail
          exact bodyPost_ret (v := .tuple #[.agg #[.int .i64 0, .int .i64 0, .int .i64 0, .int .i64 0, .int .i64 0, .int .i64 0, .int .i64 0, .int .i64 0, .slice none 0 0, .int .u32 0], .int .i64 1]) (results_blk_tmp (p := 7) (q := 6) rfl _ _ w.heap.size [.int .i64 0, .int .i64 0, .int .i64 0, .int .i64 0, .int .i64 0, .int .i64 0, .int .i64 0, .int .i64 0, .slice none 0 0, .int .u32 0] _ _ rfl rfl HK.out hu rfl info_rp) rfl (zero_ansD HB0.out 1)

end Go.Proofs.Ytadmaalhhigbeaa

/- Ledger: Note of the document. -/
namespace Go.Proofs.Ytadmaalhhigbeaa
set_option linter.unusedVariables false
set_option linter.unusedSimpArgs false
open Go Go.RowKit ValM

noncomputable def wnote (L : List Wq) (r : Rp) : List Wq := if rok r ∧ wcod L r.dv r.rq = 0 then L.set r.dv.toNat (r.rq, (L.getD r.dv.toNat (0, 0, zrq)).2.1, rab r) else L
def GivesRlB (w : World) (l : List Rw) (b : Bool) (e : Ending) (w' : World) : Prop := ∃ A c, e = .returned (.tuple #[.slice A 6 c, .bool b]) ∧ SeesRw w' A 6 c l ∧ (∀ ad, A = some ad → w.heap.size ≤ ad.block) ∧ Below w.heap.size w w'
theorem row_addr30 {w : World} {base : Nat} {e : TypeId} {sz n c : Nat} {A : Option Addr} {xs : List Value} (h : w.ownsRow base e sz (.slice A n c) n xs) (hn : 0 < n) : ∃ g, A = some ⟨g, 0, none⟩ := by
  rcases h.2 with ⟨e, h0⟩ | ⟨g, cap, cur, e, _⟩
  · omega
  · injection e with e1 _ _
    exact ⟨g, e1⟩
theorem run_rowag (a b kd dv rq cd id vr sq ep : Int) (A : Option Addr) (n c : Nat) (m : Int) (w : World) : (Instr.build 62 #[(0, .int .i64 a), (1, .int .i64 b), (2, .agg #[.int .i64 kd, .int .i64 dv, .int .i64 rq, .int .i64 cd, .int .i64 id, .int .i64 vr, .int .i64 sq, .int .i64 ep, .slice A n c, .int .u32 m])]).run Try.prog w = .ok (.agg #[.int .i64 a, .int .i64 b, .int .i64 kd, .int .i64 dv, .int .i64 rq, .int .i64 cd, .int .i64 id, .int .i64 vr, .int .i64 sq, .int .i64 ep, .slice A n c, .int .u32 m]) w := by kernel_rfl

set_option maxRecDepth 100000 in
set_option maxHeartbeats 3200000 in
theorem rlnote_no (A : Option Addr) (c : Nat) (l : List Rw) (r : Rp) (w : World) (h : SeesRw w A 6 c l) (hr : okRp w r) (hn : r.n ≤ 65536) (hno : ¬ (rok r ∧ wcod (wabs l) r.dv r.rq = 0)) :
    Calls Try.prog 24 #[.slice A 6 c, .agg (rpc r).toArray] w fun e w' => e = .returned (.tuple #[.slice A 6 c, .bool false]) ∧ Below w.heap.size w w' := by
  have hu := Try.underlying26
  have HB0 := Lib.hid (below_a1 w (.cells (rpc r).toArray 26))
  have HCK := Lib.hid (rlcheck30_any r _ (hr.later HB0.out) hn)
  have HS := Lib.hid h
  by_cases hrk : rok r
  · rw [decide_eq_true hrk] at HCK
    have h0 : wcod (wabs l) r.dv r.rq ≠ 0 := fun e => hno ⟨hrk, e⟩
    have HAS := Lib.hid (fun W (hW : Below w.heap.size w W) => rlask_any A 6 c l r.dv r.rq W (h.later hW) rfl)
    have b0 : (wcod (wabs l) r.dv r.rq != 0) = true := by simpa using h0
    skip
    clear h0 hno hrk h hr
    generalize wcod (wabs l) r.dv r.rq = ac at *
    generalize wres (wabs l) r.dv r.rq = qq at *
    obtain ⟨kd, dv, rq, cd, id, vr, sq, ep, Af, nf, cf, f, ms⟩ := r
    dsimp only [rpc] at HB0 HCK HAS ⊢
    go_enter Try.func24, Try.ntmps24
    go_wp2_with fail
    refine HCK.out.mono ?_
    rintro e w3 ⟨rfl, hb3⟩
    have HB3 := Lib.hid (HB0.out.trans (hb3.mono HB0.out.size))
    have HK3 := Lib.hid ((Blk.new w _ _).later hb3)
    have kx1 := HK3.out.cell (j := 1) rfl
    have kx2 := HK3.out.cell (j := 2) rfl
    have HA := Lib.hid (HAS.out w3 HB3.out)
    clear hb3 hn
    go_wp2_with fail
    refine HA.out.mono ?_
    rintro e w2 ⟨rr, rfl, hok, hab, hn2, hb2⟩
    have hb2' := HB3.out.trans (hb2.mono HB3.out.size)
    obtain ⟨TH, HN, HBN⟩ := new_rp w.heap.size w w2 (rpc rr) (rpc_len rr) hb2' hb2'.size
    have HB4 := Lib.hid (hb2'.trans (HBN.mono hb2'.size))
    have KB := (HK3.out.later hb2).later HBN
    have hone := all_oneCell_toArray (rpc_one rr)
    have HL := Lib.hid (rpc_len rr)
    generalize rpc rr = cr at *
    obtain ⟨W4, hW4⟩ : ∃ W4, W4 = (w2.alloc (.cells #[.int .i64 0, .int .i64 0, .int .i64 0, .int .i64 0, .int .i64 0, .int .i64 0, .int .i64 0, .int .i64 0, .slice none 0 0, .int .u32 0] 26)).setCells w2.heap.size 0 cr := ⟨_, rfl⟩
    rw [← hW4] at HB4 KB
    have HW4 := Lib.hid hW4
    have HKB := Lib.hid KB
    clear hok hab hn2 hb2 hb2' HN HBN hW4 KB
    go_wp2_with (first
      | (refine wpList_store_mid rfl 26 (.tmp 6) (.tmp 20) rfl w2.heap.size 0 cr.toArray rfl rfl (by simpa [HL.out] using TH) (by simpa [HL.out] using info_rp) hone ?_; rw [← HW4.out]; clear TH hone)
      | fail)
    go_ret2
    exact ⟨rfl, HB4.out⟩
  · rw [decide_eq_false hrk] at HCK
    skip
    clear hno hrk h hr
    obtain ⟨kd, dv, rq, cd, id, vr, sq, ep, Af, nf, cf, f, ms⟩ := r
    dsimp only [rpc] at HB0 HCK ⊢
    go_enter Try.func24, Try.ntmps24
    go_wp2_with fail
    refine HCK.out.mono ?_
    rintro e w3 ⟨rfl, hb3⟩
    have HB3 := Lib.hid (HB0.out.trans (hb3.mono HB0.out.size))
    have HK3 := Lib.hid ((Blk.new w _ _).later hb3)
    clear hb3
    go_wp2_with fail
    go_ret2
    exact ⟨rfl, HB3.out⟩

theorem exec_rowag {a : Act} {op : Oper} {w : World} (x y z : Operand) (ho : op.op = .build 62 #[(0, x), (1, y), (2, z)]) (u v kd dv rq cd id vr sq ep : Int) (A : Option Addr) (n c : Nat) (m : Int) (hx : a.eval x = .int .i64 u) (hy : a.eval y = .int .i64 v)
    (hz : a.eval z = .agg #[.int .i64 kd, .int .i64 dv, .int .i64 rq, .int .i64 cd, .int .i64 id, .int .i64 vr, .int .i64 sq, .int .i64 ep, .slice A n c, .int .u32 m]) :
    (execOp a.eval op).run Try.prog w = .ok (.value (.agg #[.int .i64 u, .int .i64 v, .int .i64 kd, .int .i64 dv, .int .i64 rq, .int .i64 cd, .int .i64 id, .int .i64 vr, .int .i64 sq, .int .i64 ep, .slice A n c, .int .u32 m])) w := by
  unfold execOp
  simp only [ho, List.map_toArray, List.map_cons, List.map_nil, hx, hy, hz, Sem.run_bind, run_rowag, Result.andThen_ok, Sem.run_pure]
set_option maxRecDepth 100000 in
set_option maxHeartbeats 3200000 in
theorem rlnote_yes (A : Option Addr) (c : Nat) (l : List Rw) (r : Rp) (w : World) (h : SeesRw w A 6 c l) (hr : okRp w r) (hn : r.n ≤ 65536) (hrk : rok r) (h0 : wcod (wabs l) r.dv r.rq = 0) :
    Calls Try.prog 24 #[.slice A 6 c, .agg (rpc r).toArray] w (GivesRlB w (l.set r.dv.toNat ⟨r.rq, (l.getD r.dv.toNat ⟨0, 0, zrp⟩).ep, r⟩) true) := by
  have hu := Try.underlying26
  have HB0 := Lib.hid (below_a1 w (.cells (rpc r).toArray 26))
  have HCK := Lib.hid (rlcheck30_any r _ (hr.later HB0.out) hn)
  have HS := Lib.hid h
  rw [decide_eq_true hrk] at HCK
  have HAS := Lib.hid (fun W (hW : Below w.heap.size w W) => rlask_any A 6 c l r.dv r.rq W (h.later hW) rfl)
  rw [h0] at HAS
  have hd := hrk.2.1
  obtain ⟨k, hk⟩ : ∃ k : Nat, r.dv = (k : Int) := ⟨r.dv.toNat, by omega⟩
  have hk6 : k < 6 := by omega
  have hkl : k < l.length := by rw [h.len]; exact hk6
  obtain ⟨b, o, e, _, hg⟩ := h.get k hkl
  have HKE := Lib.hid (fun W hW => (hg W hW).2.1)
  have hge : (l.getD r.dv.toNat ⟨0, 0, zrp⟩).ep = l[k].ep := by
    rw [hk]
    simp [hkl]
  rw [hge, hk, show ((k : Int)).toNat = k by simp]
  obtain ⟨i1, ji, jz0, jz1, jz2⟩ := info_rw
  have HFIN : Hid (∀ (W : World) (g6 c6 : Nat), Below w.heap.size w W → W.ownsRow w.heap.size 62 12 (.slice (some ⟨g6, 0, none⟩) 6 c6) 6 (rws rwc l) → GivesRlB w (l.set k ⟨r.rq, l[k].ep, r⟩) true (.returned (.tuple #[.slice (some ⟨g6, 0, none⟩) 6 c6, .bool true])) (W.setCells g6 (k * 12) (rwc ⟨r.rq, l[k].ep, r⟩))) := Lib.hid (fun W g6 c6 hb hr6 => by
    obtain ⟨r1, r2, r3⟩ := row_sets (f := rwc) (sz := 12) (rwc_len l) hr6 h.len k hk6 ⟨r.rq, l[k].ep, r⟩ rfl
    have hB : Below w.heap.size w (W.setCells g6 (k * 12) (rwc ⟨r.rq, l[k].ep, r⟩)) := below_sets r3 _ _ hb
    have hc := row_capm r1
    refine ⟨_, c6, rfl, ⟨by rw [List.length_set]; exact h.len, hc.1, hc.2, row_sees r1, fun x hx => ?_⟩, fun ad e => (World.ownsRow.lt r1 ad.block (by rw [e]; rfl)).1, hB⟩
    rcases List.mem_or_eq_of_mem_set hx with hx | rfl
    · exact ⟨(h.ok x hx).1.later hB, (h.ok x hx).2⟩
    · exact ⟨hr.later hB, hn⟩)
  have HTH : Hid (∀ (W : World) (g6 c6 : Nat), W.ownsRow w.heap.size 62 12 (.slice (some ⟨g6, 0, none⟩) 6 c6) 6 (rws rwc l) → W.there g6 (k * 12) 12) := Lib.hid (fun W g6 c6 hr6 => (row_sets (f := rwc) (sz := 12) (rwc_len l) hr6 h.len k hk6 ⟨r.rq, l[k].ep, r⟩ rfl).2.1)
  have HSEE := Lib.hid (fun W (hW : Below w.heap.size w W) => (h.later hW).see)
  have HLEN : Hid ((rws rwc l).length = 6 * 12) := Lib.hid (by rw [rws_len _ (rwc_len l), h.len])
  have HONE : Hid (∀ u ∈ rws rwc l, u.oneCell' = true) := Lib.hid (rws_all (fun y _ => rwc_one y))
  generalize wres (wabs l) r.dv r.rq = qq at *
  generalize l[k].ep = q at *
  obtain ⟨L2, hL2⟩ : ∃ L2, L2 = l.set k ⟨r.rq, q, r⟩ := ⟨_, rfl⟩
  rw [← hL2] at HFIN ⊢
  clear h0 hrk hd h hg hge hr hL2
  subst e
  obtain ⟨kd, dv, rq, cd, id, vr, sq, ep, Af, nf, cf, f, ms⟩ := r
  dsimp only at hk
  subst hk
  dsimp only [rpc, rwc] at HB0 HCK HAS HFIN ⊢
  have hnk : ¬ (6 : Int) ≤ (k : Int) := by omega
  have hnk2 : ¬ 6 ≤ k := by omega
  go_enter Try.func24, Try.ntmps24
  go_wp2_with fail
  refine HCK.out.mono ?_
  rintro e w3 ⟨rfl, hb3⟩
  have HB3 := Lib.hid (HB0.out.trans (hb3.mono HB0.out.size))
  have HK3 := Lib.hid ((Blk.new w _ _).later hb3)
  have kx1 := HK3.out.cell (j := 1) rfl
  have kx2 := HK3.out.cell (j := 2) rfl
  have HA := Lib.hid (HAS.out w3 HB3.out)
  clear hb3 hn
  go_wp2_with fail
  refine HA.out.mono ?_
  rintro e w2 ⟨rr, rfl, hok, hab, hn2, hb2⟩
  have hb2' := HB3.out.trans (hb2.mono HB3.out.size)
  obtain ⟨TH, HN, HBN⟩ := new_rp w.heap.size w w2 (rpc rr) (rpc_len rr) hb2' hb2'.size
  have HB4 := Lib.hid (hb2'.trans (HBN.mono hb2'.size))
  have KB := (HK3.out.later hb2).later HBN
  have hone := all_oneCell_toArray (rpc_one rr)
  have HL := Lib.hid (rpc_len rr)
  generalize rpc rr = cr at *
  obtain ⟨W4, hW4⟩ : ∃ W4, W4 = (w2.alloc (.cells #[.int .i64 0, .int .i64 0, .int .i64 0, .int .i64 0, .int .i64 0, .int .i64 0, .int .i64 0, .int .i64 0, .slice none 0 0, .int .u32 0] 26)).setCells w2.heap.size 0 cr := ⟨_, rfl⟩
  rw [← hW4] at HB4 KB
  have HW4 := Lib.hid hW4
  have HKB := Lib.hid KB
  clear hok hab hn2 hb2 hb2' HN HBN hW4 KB
  have HB5 := Lib.hid (HB4.out.alloc HB4.out.size (.cells #[] 62))
  have HROW0 := Lib.hid (row_lit W4 w.heap.size 62 12 0 #[] HB4.out.size (by simp [maxLen]) rfl)
  have HK5 := Lib.hid (HKB.out.alloc (.cells #[] 62))
  have HSE5 := Lib.hid (HSEE.out _ HB5.out)
  have HBS := Lib.hid HB5.out.size
  have HNE4 : Hid ((Value.slice (some ⟨W4.heap.size, 0, none⟩) 0 0).ownBlock ≠ some w.heap.size) := Lib.hid (fun e => by
    have e2 : W4.heap.size = w.heap.size := by simpa [Value.ownBlock] using e
    have := HKB.out.lt
    omega)
  clear kx1 kx2 HSEE HA HAS HCK HB0 HB3 HK3
  go_wp2_with (first
    | (refine wpList_store_mid rfl 26 (.tmp 6) (.tmp 20) rfl w2.heap.size 0 cr.toArray rfl rfl (by simpa [HL.out] using TH) (by simpa [HL.out] using info_rp) hone ?_; rw [← HW4.out]; clear TH hone)
    | (at_builtin
       refine wpList_appk _ rfl (.tmp 25) (.tmp 26) 47 rfl w.heap.size 62 i1 _ 12 112 Try.underlying47 ji jz0 jz1 jz2 rfl (by decide) (.slice (some ⟨W4.heap.size, 0, none⟩) 0 0) 0 [] rfl HROW0.out _ (some ⟨b, o, none⟩) c (rws rwc l) 6 rfl HLEN.out HSE5.out HONE.out (by unfold maxLen; omega) (by omega) HBS.out ?_
       intro A6 c6 w6 hr6 hb6 hg6 hat6
       rw [Nat.zero_add, List.nil_append] at hr6
       obtain ⟨g6, e6⟩ := row_addr30 hr6 (by omega)
       subst e6
       have HB6 := Lib.hid (HB5.out.trans hb6)
       have HR6 := Lib.hid hr6
       have HK6 := Lib.hid (HK5.out.kept hg6 HNE4.out)
       clear hr6 hb6 hg6 hat6)
    | fail)
  have ca : ∀ kk : LW w6, kk.val.cell? ⟨w.heap.size, 1, none⟩ = some (.int .i64 (k : Int)) := fun kk => (HK6.out.later kk.le).cell (j := 1) rfl
  have cb : ∀ kk : LW w6, kk.val.cell? ⟨w.heap.size, 2, none⟩ = some (.int .i64 rq) := fun kk => (HK6.out.later kk.le).cell (j := 2) rfl
  have cc : ∀ kk : LW w6, kk.val.cell? ⟨b, o + k * 12 + 1, none⟩ = some (.int .i64 q) := fun kk => HKE.out _ (HB6.out.trans (Below.mono kk.le HB6.out.size))
  refine wp_region_tail [] 43 14 (by kernel_rfl) (by kernel_rfl) (by kernel_rfl) (by rfl) ?_
  simp only [List.take_succ_cons, List.take_zero, List.drop_succ_cons, List.drop_zero]
  iterate 11 (refine wpG_quiet (by rfl) (by rfl) (by rfl) (fun K hK => ?_); go_big_quiet_op; refine hK _ ?_; clear hK K)
  refine wpG_run (by rfl) (by rfl) (.agg #[.int .i64 kd, .int .i64 (k : Int), .int .i64 rq, .int .i64 cd, .int .i64 id, .int .i64 vr, .int .i64 sq, .int .i64 ep, .slice Af nf cf, .int .u32 (ms.toNat : Int)]) (fun wx hl => exec_load 26 (.tmp 3) rfl w.heap.size 0 rfl [.int .i64 kd, .int .i64 (k : Int), .int .i64 rq, .int .i64 cd, .int .i64 id, .int .i64 vr, .int .i64 sq, .int .i64 ep, .slice Af nf cf, .int .u32 (ms.toNat : Int)] _ ((HK6.out.later hl.1).range 0 _ rfl) hu rfl info_rp) ?_
  simp only [Act.put, List.setIfInBounds_toArray, List.set_cons_zero, List.set_cons_succ]
  refine wpG_run (by rfl) (by rfl) (.agg #[.int .i64 rq, .int .i64 q, .int .i64 kd, .int .i64 (k : Int), .int .i64 rq, .int .i64 cd, .int .i64 id, .int .i64 vr, .int .i64 sq, .int .i64 ep, .slice Af nf cf, .int .u32 (ms.toNat : Int)]) (fun wx hl => exec_rowag (.tmp 32) (.tmp 38) (.tmp 39) rfl _ _ _ _ _ _ _ _ _ _ _ _ _ _ rfl rfl rfl) ?_
  simp only [Act.put, List.setIfInBounds_toArray, List.set_cons_zero, List.set_cons_succ]
  iterate 1 (refine wpG_quiet (by rfl) (by rfl) (by rfl) (fun K hK => ?_); go_big_quiet_op; refine hK _ ?_; clear hK K)
  refine wpG_nil fun wx hl _ => ?_
  have HBX : Hid (Below w.heap.size w wx) := Lib.hid (HB6.out.trans (Below.mono hl HB6.out.size))
  have HRX := row_later HR6.out hl
  have F1 := Lib.hid (HFIN.out wx g6 c6 HBX.out HRX)
  have TH6 := HTH.out wx g6 c6 HRX
  clear ca cb cc hl HRX HFIN HTH HK6 HR6 HB6 HBX
  refine wpList_store_mid rfl 62 (.tmp 41) (.tmp 40) rfl g6 (k * 12) #[.int .i64 rq, .int .i64 q, .int .i64 kd, .int .i64 (k : Int), .int .i64 rq, .int .i64 cd, .int .i64 id, .int .i64 vr, .int .i64 sq, .int .i64 ep, .slice Af nf cf, .int .u32 (ms.toNat : Int)] (by rfl) (by rfl) TH6 (by kernel_rfl) (by kernel_rfl) ?_
  clear TH6
  go_wp2_with fail
  go_ret2
  exact F1.out
end Go.Proofs.Ytadmaalhhigbeaa

/- Ledger: Raise of the document. -/
namespace Go.Proofs.Ytadmaalhhigbeaa
set_option linter.unusedVariables false
set_option linter.unusedSimpArgs false
open Go Go.RowKit ValM

def wcode (L : List Wq) (dv : Int) : Int := if (0 ≤ dv ∧ dv < 6) ∧ (L.getD dv.toNat (0, 0, zrq)).2.1 < 1099511627776 then (L.getD dv.toNat (0, 0, zrq)).2.1 + 1 else 0
def wraise (L : List Wq) (dv : Int) : List Wq := if (0 ≤ dv ∧ dv < 6) ∧ (L.getD dv.toNat (0, 0, zrq)).2.1 < 1099511627776 then L.set dv.toNat ((L.getD dv.toNat (0, 0, zrq)).1, (L.getD dv.toNat (0, 0, zrq)).2.1 + 1, (L.getD dv.toNat (0, 0, zrq)).2.2) else L
def wrl (l : List Rw) (dv : Int) : List Rw := if (0 ≤ dv ∧ dv < 6) ∧ (l.getD dv.toNat ⟨0, 0, zrp⟩).ep < 1099511627776 then l.set dv.toNat ⟨(l.getD dv.toNat ⟨0, 0, zrp⟩).last, (l.getD dv.toNat ⟨0, 0, zrp⟩).ep + 1, (l.getD dv.toNat ⟨0, 0, zrp⟩).r⟩ else l
def GivesRlI (w : World) (A0 : Option Addr) (l : List Rw) (i : Int) (e : Ending) (w' : World) : Prop := ∃ A c, e = .returned (.tuple #[.slice A 6 c, .int .i64 i]) ∧ SeesRw w' A 6 c l ∧ (A = A0 ∨ ∀ ad, A = some ad → w.heap.size ≤ ad.block) ∧ Below w.heap.size w w'
theorem rws_ep (l : List Rw) (k : Nat) (hk : k < l.length) (e : Int) : (rws rwc l).set (k * 12 + 1) (.int .i64 e) = rws rwc (l.set k ⟨l[k].last, e, l[k].r⟩) := by
  have h1 := rws_put rwc 12 l (rwc_len l) k hk l[k]
  rw [List.set_getElem_self] at h1
  have h2 := rws_put rwc 12 l (rwc_len l) k hk ⟨l[k].last, e, l[k].r⟩
  have hl : (rws rwc l).length = l.length * 12 := rws_len _ (rwc_len l)
  have ht : ((rws rwc l).take (k * 12)).length = k * 12 := by rw [List.length_take, hl]; omega
  rw [← h2]
  conv => lhs; rw [← h1]
  rw [List.append_assoc, List.append_assoc, List.set_append_right _ _ (by omega), ht, show k * 12 + 1 - k * 12 = 1 by omega, List.set_append_left _ _ (by show 1 < 12; omega)]
  rfl
/-- A row's epoch is stored anew, in a row of the call's own. -/
theorem row_ep {w : World} {base g n c : Nat} {l : List Rw} (h : w.ownsRow base 62 12 (.slice (some ⟨g, 0, none⟩) n c) n (rws rwc l)) (hn : l.length = n) (k : Nat) (hk : k < l.length) (e : Int) :
    (w.setCell ⟨g, k * 12 + 1, none⟩ (.int .i64 e)).ownsRow base 62 12 (.slice (some ⟨g, 0, none⟩) n c) n (rws rwc (l.set k ⟨l[k].last, e, l[k].r⟩)) ∧ w.cell? ⟨g, k * 12 + 1, none⟩ = some (.int .i64 l[k].ep) ∧ w.frozen? ⟨g, k * 12 + 1, none⟩ = false ∧ base ≤ g ∧ g < w.heap.size := by
  have hlt := World.ownsRow.lt h g rfl
  have hl : (rws rwc l).length = l.length * 12 := rws_len _ (rwc_len l)
  have hc := h.cells (g := g) rfl
  rcases h.2 with ⟨e1, _⟩ | ⟨g', cap, cur, e1, h1, h2, h3, h4, h5, h6⟩
  · cases e1
  · injection e1 with e2 _ e3
    injection e2 with e2
    injection e2 with e2
    subst e2 e3
    have hB : BT w g cur.toList 62 := by unfold BT; rw [Array.toArray_toList]; exact h2
    have hB2 := hB.set (k * 12 + 1) (.int .i64 e)
    refine ⟨⟨by rw [rws_len _ (rwc_len _), List.length_set, hn], .inr ⟨g, c, _, rfl, h1, hB2, h3, h4, ?_, ?_⟩⟩, ?_, hB.blk.frozen _, hlt⟩
    · simp only [List.size_toArray, List.length_set, Array.length_toList]
      exact h5
    · show (cur.toList.set (k * 12 + 1) (.int .i64 e)).take (n * 12) = _
      rw [List.take_set, h6, rws_ep l k hk e]
    · have := hc (k * 12 + 1) (.int .i64 l[k].ep) (by
        have := rws_at (f := rwc) (sz := 12) l (rwc_len l) k hk 1 _ rfl
        exact this)
      rw [Addr.add_lit, Nat.zero_add] at this
      exact this

set_option maxRecDepth 100000 in
set_option maxHeartbeats 3200000 in
theorem rlraise_any (A : Option Addr) (c : Nat) (l : List Rw) (dv : Int) (w : World) (h : SeesRw w A 6 c l) (he : ∀ x ∈ l, 0 ≤ x.ep) :
    Calls Try.prog 26 #[.slice A 6 c, .int .i64 dv] w (GivesRlI w A (wrl l dv) (wcode (wabs l) dv)) := by
  by_cases hd : 0 ≤ dv ∧ dv < 6
  · have d1 : decide (dv < 0) = false := decide_eq_false (by omega)
    have d2 : decide (6 ≤ dv) = false := decide_eq_false (by omega)
    obtain ⟨k, rfl⟩ : ∃ k : Nat, dv = (k : Int) := ⟨dv.toNat, by omega⟩
    have hk6 : k < 6 := by omega
    have hkl : k < l.length := by rw [h.len]; exact hk6
    have hge : (wabs l).getD ((k : Int)).toNat (0, 0, zrq) = wab l[k] := by simp [hkl, wabs]
    have hnk : ¬ (6 : Int) ≤ (k : Int) := by omega
    have hnk2 : ¬ 6 ≤ k := by omega
    obtain ⟨b, o, e, _, hg⟩ := h.get k hkl
    subst e
    have kc := (hg w (Below.refl _ _)).2.1
    by_cases hlt : l[k].ep < 1099511627776
    · have e1 : wcode (wabs l) k = l[k].ep + 1 := by unfold wcode; rw [hge, if_pos ⟨hd, hlt⟩]; rfl
      have hgl : l.getD ((k : Int)).toNat ⟨0, 0, zrp⟩ = l[k] := by simp [hkl]
      have e2 : wrl l k = l.set k ⟨l[k].last, l[k].ep + 1, l[k].r⟩ := by unfold wrl; rw [hgl, if_pos ⟨hd, hlt⟩]; simp
      rw [e1, e2]
      have hep := he _ (List.getElem_mem hkl)
      have d3 : decide (1099511627776 ≤ l[k].ep) = false := decide_eq_false (by omega)
      have hw1 : IntKind.i64.wrap (l[k].ep + 1) = l[k].ep + 1 := by rw [IntKind.wrap_i64]; omega
      obtain ⟨i1, ji, jz0, jz1, jz2⟩ := info_rw
      have HB5 := Lib.hid (below_a1 w (.cells #[] 62))
      have HROW0 := Lib.hid (row_lit w w.heap.size 62 12 0 #[] (Nat.le_refl _) (by simp [maxLen]) rfl)
      have HSE5 := Lib.hid (h.later HB5.out).see
      have HBS := Lib.hid HB5.out.size
      have HLEN : Hid ((rws rwc l).length = 6 * 12) := Lib.hid (by rw [rws_len _ (rwc_len l), h.len])
      have HONE : Hid (∀ u ∈ rws rwc l, u.oneCell' = true) := Lib.hid (rws_all (fun y _ => rwc_one y))
      have HROW : Hid (∀ (W : World) (g6 c6 : Nat), Below w.heap.size w W → W.ownsRow w.heap.size 62 12 (.slice (some ⟨g6, 0, none⟩) 6 c6) 6 (rws rwc l) →
          W.cell? ⟨g6, k * 12 + 1, none⟩ = some (.int .i64 l[k].ep) ∧ W.frozen? ⟨g6, k * 12 + 1, none⟩ = false ∧ g6 < W.heap.size ∧ (W.setCell ⟨g6, k * 12 + 1, none⟩ (.int .i64 (l[k].ep + 1))).cell? ⟨g6, k * 12 + 1, none⟩ = some (.int .i64 (l[k].ep + 1)) ∧ ∀ W2, Below (W.setCell ⟨g6, k * 12 + 1, none⟩ (.int .i64 (l[k].ep + 1))).heap.size (W.setCell ⟨g6, k * 12 + 1, none⟩ (.int .i64 (l[k].ep + 1))) W2 → GivesRlI w (some ⟨b, o, none⟩) (l.set k ⟨l[k].last, l[k].ep + 1, l[k].r⟩) (l[k].ep + 1) (.returned (.tuple #[.slice (some ⟨g6, 0, none⟩) 6 c6, .int .i64 (l[k].ep + 1)])) W2) := Lib.hid (fun W g6 c6 hb hr6 => by
        obtain ⟨r1, r2, r3, r4, r5⟩ := row_ep hr6 h.len k hkl (l[k].ep + 1)
        have hnew : (W.setCell ⟨g6, k * 12 + 1, none⟩ (.int .i64 (l[k].ep + 1))).cell? ⟨g6, k * 12 + 1, none⟩ = some (.int .i64 (l[k].ep + 1)) := by
          obtain ⟨_, q2, _⟩ := row_ep r1 (by rw [List.length_set]; exact h.len) k (by rw [List.length_set]; exact hkl) 0
          rw [q2]
          simp
        refine ⟨r2, r3, r5, hnew, fun W2 hW2 => ?_⟩
        have hB := (Below.setCell hb (p := ⟨g6, k * 12 + 1, none⟩) r4 (.int .i64 (l[k].ep + 1)))
        have hB2 := hB.trans (hW2.mono hB.size)
        have r6 := row_later r1 hW2
        have hc := row_capm r6
        refine ⟨_, c6, rfl, ⟨by rw [List.length_set]; exact h.len, hc.1, hc.2, row_sees r6, fun x hx => ?_⟩, .inr (fun ad e => (World.ownsRow.lt r6 ad.block (by rw [e]; rfl)).1), hB2⟩
        rcases List.mem_or_eq_of_mem_set hx with hx | rfl
        · exact ⟨(h.ok x hx).1.later hB2, (h.ok x hx).2⟩
        · exact ⟨(h.ok _ (List.getElem_mem hkl)).1.later hB2, (h.ok _ (List.getElem_mem hkl)).2⟩)
      obtain ⟨L2, hL2⟩ : ∃ L2, L2 = l.set k ⟨l[k].last, l[k].ep + 1, l[k].r⟩ := ⟨_, rfl⟩
      rw [← hL2] at HROW ⊢
      clear e1 e2 h he hg hge hlt hd hep hL2
      generalize l[k].ep = q at *
      go_enter Try.func26, Try.ntmps26
      go_wp2_with (first
        | (at_builtin
           refine wpList_appk _ rfl (.tmp 22) (.tmp 23) 47 rfl w.heap.size 62 i1 _ 12 112 Try.underlying47 ji jz0 jz1 jz2 rfl (by decide) (.slice (some ⟨w.heap.size, 0, none⟩) 0 0) 0 [] rfl HROW0.out _ (some ⟨b, o, none⟩) c (rws rwc l) 6 rfl HLEN.out HSE5.out HONE.out (by unfold maxLen; omega) (by omega) HBS.out ?_
           intro A6 c6 w6 hr6 hb6 hg6 hat6
           rw [Nat.zero_add, List.nil_append] at hr6
           obtain ⟨g6, e6⟩ := row_addr30 hr6 (by omega)
           subst e6
           obtain ⟨kc6, kz6, klt, kn6, hfin⟩ := HROW.out w6 g6 c6 (HB5.out.trans hb6) hr6
           have HFIN := Lib.hid hfin
           clear hr6 hb6 hg6 hat6 hfin)
        | fail)
      have ca : ∀ kk : LW (w6.setCell ⟨g6, k * 12 + 1, none⟩ (.int .i64 (q + 1))), kk.val.cell? ⟨g6, k * 12 + 1, none⟩ = some (.int .i64 (q + 1)) := fun kk => by
        rw [kk.le.cell (p := ⟨g6, k * 12 + 1, none⟩) (by simp [World.setCell]; exact klt)]
        exact kn6
      refine wp_region_steady [] 41 (by kernel_rfl) (by kernel_rfl) (by kernel_rfl) (by rfl) ?_
      iterate 8 (refine wpG_quiet (by rfl) (by rfl) (by rfl) (fun K hK => ?_); go_big_quiet_op; refine hK _ ?_; clear hK K)
      refine wpG_nil fun w9 hl _ => ?_
      have HF := Lib.hid (HFIN.out w9 hl)
      clear ca hl HFIN HROW kc6 kz6 kn6
      go_wp2_with fail
      go_ret2
      exact HF.out
    · have e1 : wcode (wabs l) k = 0 := by unfold wcode; rw [hge, if_neg (fun x => hlt x.2)]
      have hgl : l.getD ((k : Int)).toNat ⟨0, 0, zrp⟩ = l[k] := by simp [hkl]
      have e2 : wrl l k = l := by unfold wrl; rw [hgl, if_neg (fun x => hlt x.2)]
      rw [e1, e2]
      have d3 : decide (1099511627776 ≤ l[k].ep) = true := decide_eq_true (by omega)
      have HFIN : Hid (GivesRlI w (some ⟨b, o, none⟩) l 0 (.returned (.tuple #[.slice (some ⟨b, o, none⟩) 6 c, .int .i64 0])) w) := Lib.hid ⟨_, c, rfl, h, .inl rfl, Below.refl _ _⟩
      clear e1 e2 h he hg hge hlt hd
      generalize l[k].ep = q at *
      go_enter Try.func26, Try.ntmps26
      go_wp2_with fail
      go_ret2
      exact HFIN.out
  · have e1 : wcode (wabs l) dv = 0 := by unfold wcode; rw [if_neg (fun x => hd x.1)]
    have e2 : wrl l dv = l := by unfold wrl; rw [if_neg (fun x => hd x.1)]
    rw [e1, e2]
    have HFIN : Hid (GivesRlI w A l 0 (.returned (.tuple #[.slice A 6 c, .int .i64 0])) w) := Lib.hid ⟨A, c, rfl, h, .inl rfl, Below.refl _ _⟩
    by_cases c1 : dv < 0
    · have d1 : decide (dv < 0) = true := decide_eq_true c1
      clear h he e1 e2 hd
      go_enter Try.func26, Try.ntmps26
      go_wp2_with fail
      go_ret2
      exact HFIN.out
    · have d1 : decide (dv < 0) = false := decide_eq_false c1
      have d2 : decide (6 ≤ dv) = true := decide_eq_true (by omega)
      clear h he e1 e2 hd
      go_enter Try.func26, Try.ntmps26
      go_wp2_with fail
      go_ret2
      exact HFIN.out

end Go.Proofs.Ytadmaalhhigbeaa

/- Ledger: Data. -/
namespace Go.Proofs.Ytadmaalhhigbeaa
set_option linter.unusedVariables false
set_option linter.unusedSimpArgs false
open Go Go.RowKit ValM

/-- A row's answer, its filter apart from a row of rows. -/
def aptR (v : Value) (r : Rp) : Prop := ∀ ad, r.A = some ad → 0 < r.n → v.ownBlock ≠ some ad.block
theorem okRp.grownR {w w' : World} {v : Value} {r : Rp} (h : okRp w r) (hf : aptR v r) (hg : w.grownBy w' v.ownBlock) : okRp w' r := by
  refine ⟨h.len, h.cap, h.max, fun hx => ?_⟩
  obtain ⟨b, o', e, hb, hc⟩ := h.see hx
  refine ⟨b, o', e, Nat.lt_of_lt_of_le hb hg.size, fun j hj => ?_⟩
  have hne := hf ⟨b, o', none⟩ e (h.pos hx)
  rw [World.cell?_of_block (a := ⟨b, o' + j, none⟩) (hg.block b hb (fun e => hne e.symm))]
  exact hc j hj
theorem aptR.grown {w : World} {v v' : Value} {r : Rp} (hf : aptR v r) (ho : okRp w r) (hat : v'.ownBlock = v.ownBlock ∨ v'.ownBlock = some w.heap.size) : aptR v' r := fun ad e hn => by
  rcases hat with h | h
  · rw [h]; exact hf ad e hn
  · rw [h]
    intro e2
    injection e2 with e2
    have := ho.low w.heap.size (Nat.le_refl _) ad e hn
    omega
def relAgR (B : Nat) (x e : Int) (q : Rq) : Rel where
  rel v w := ∃ r, v = .agg (rwc ⟨x, e, r⟩).toArray ∧ okRp w r ∧ rab r = q ∧ (∀ ad, r.A = some ad → B ≤ ad.block) ∧ r.n ≤ 65536
  mono := fun v w w' h ⟨r, e, ho, hq⟩ => ⟨r, e, ho.later h, hq⟩
  real := fun w ⟨_, e, _⟩ => by cases e
def relG1R (B : Nat) (x e : Int) (q : Rq) : Rel where
  rel v w := ∃ g r, v = .slice (some ⟨g, 0, none⟩) 1 1 ∧ Blk w g (rwc ⟨x, e, r⟩) ∧ okRp w r ∧ rab r = q ∧ (∀ ad, r.A = some ad → B ≤ ad.block) ∧ r.n ≤ 65536
  mono := fun v w w' h ⟨g, r, e, hb, ho, hq⟩ => ⟨g, r, e, hb.later h, ho.later h, hq⟩
  real := fun w ⟨_, _, e, _⟩ => by cases e
theorem agR_gives {a : Act} {op : Oper} (B : Nat) (x y z : Operand) (u v : Int) (q : Rq) (ho : op.op = .build 62 #[(0, x), (1, y), (2, z)]) (hx : a.eval x = .int .i64 u) (hy : a.eval y = .int .i64 v) (w : World) (hz : (relRp B q).rel (a.eval z) w) : gives Try.prog op a (relAgR B u v q).rel w := by
  obtain ⟨r, e, h⟩ := hz
  unfold gives
  obtain ⟨kd, dv, rq, cd, id, vr, sq, ep, A, n, c, f, ms⟩ := r
  rw [exec_rowag x y z ho u v kd dv rq cd id vr sq ep A n c (ms.toNat : Int) hx hy e]
  exact ⟨Le.refl _, _, rfl, h⟩
theorem run_g1R (x e : Int) (r : Rp) (w : World) : (Instr.buildSlice 47 1 #[(0, .agg (rwc ⟨x, e, r⟩).toArray)]).run Try.prog w = .ok (.slice (some ⟨w.heap.size, 0, none⟩) 1 1) (w.alloc (.cells (rwc ⟨x, e, r⟩).toArray 62)) := by
  obtain ⟨kd, dv, rq, cd, id, vr, sq, ep, A, n, c, f, ms⟩ := r
  kernel_rfl
theorem g1R_gives {a : Act} {op : Oper} (B : Nat) (y : Operand) (x e : Int) (q : Rq) (ho : op.op = .buildSlice 47 1 #[(0, y)]) (w : World) (h1 : (relAgR B x e q).rel (a.eval y) w) : gives Try.prog op a (relG1R B x e q).rel w := by
  obtain ⟨r, er, hok, hq⟩ := h1
  unfold gives execOp
  simp only [ho, List.map_toArray, List.map_cons, List.map_nil, er, Sem.run_bind, run_g1R x e r, Result.andThen_ok, Sem.run_pure]
  have hb := below_a1 w (.cells (rwc ⟨x, e, r⟩).toArray 62)
  exact ⟨hb, _, r, rfl, Blk.new w (rwc ⟨x, e, r⟩) _, hok.later hb, hq⟩
/-- What a ledger holds, as rows. -/
def labs (es : List Int) (rs : List Rp) : List Wq := (rs.zip es).map (fun x => (x.1.rq, x.2, rab x.1))
theorem labs_next (es : List Int) (rs : List Rp) (k : Nat) (hr : k < rs.length) (he : k < es.length) : (labs es rs).take k ++ [(rs[k].rq, es[k], rab rs[k])] = (labs es rs).take (k + 1) := by
  have hl : k < (labs es rs).length := by unfold labs; rw [List.length_map, List.length_zip]; omega
  rw [List.take_succ_eq_append_getElem hl]
  simp [labs]

set_option maxRecDepth 100000 in
set_option maxHeartbeats 3200000 in
theorem lgdata_any (g : Nat) (es : List Int) (rs : List Rp) (w : World) (h : LgAt w g es rs) :
    Calls Try.prog 29 #[.pointer (some ⟨g, 0, none⟩)] w (GivesRw w (labs es rs)) := by
  have hu := Try.underlying26
  obtain ⟨i1, ji, jz0, jz1, jz2⟩ := info_rw
  have HH := Lib.hid h
  have HROW0 := Lib.hid (World.ownsRow_nil w w.heap.size 62 12)
  have HB0 := Lib.hid (Below.refl w.heap.size w)
  have HALL : Hid ((labs es rs).take 6 = labs es rs) := Lib.hid (List.take_of_length_le (by unfold labs; rw [List.length_map, List.length_zip, h.lr, h.le]; omega))
  have HNX := Lib.hid (fun k hr he => labs_next es rs k hr he)
  clear h
  go_enter Try.func29, Try.ntmps29
  go_wp2_with fail
  go_loopw [7, 3] (fun i v wr => ∃ k : Nat, k ≤ 6 ∧ i = .int .i64 (k : Int) ∧ (∃ A1 c1 l, v = .slice A1 k c1 ∧ Hid (wr.ownsRow w.heap.size 62 12 v k (rws rwc l)) ∧ Hid (l.length = k) ∧ Hid (wabs l = (labs es rs).take k) ∧ Hid (∀ x ∈ l, okRp wr x.r ∧ x.r.n ≤ 65536 ∧ aptR v x.r)) ∧ Hid (Below w.heap.size w wr)) (fun i _ _ => 6 - (intOf i).toNat)
  case atStart => exact ⟨0, by omega, rfl, ⟨_, _, [], rfl, HROW0, Lib.hid rfl, Lib.hid rfl, Lib.hid (by simp)⟩, HB0⟩
  case round =>
    clear HROW0 HB0
    obtain ⟨k, hk, rfl, ⟨A1, c1, l, rfl, HR, HLN, HWA, HOK⟩, HB⟩ := hrel
    by_cases hlt : k < 6
    · have d0 : decide ((k : Int) < 6) = true := decide_eq_true (by omega)
      have hkr : k < rs.length := by rw [HH.out.lr]; exact hlt
      have hke : k < es.length := by rw [HH.out.le]; exact hlt
      have HX := Lib.hid (HNX.out k hkr hke)
      have HC : Hid (∀ W, Below w.heap.size w W → W.cell? ⟨g, 6 + k * 10 + 2, none⟩ = some (.int .i64 rs[k].rq) ∧ W.cell? ⟨g, k, none⟩ = some (.int .i64 es[k]) ∧ W.rangeAt g (6 + k * 10) (rpc rs[k]) ∧ okRp W rs[k]) := Lib.hid (fun W hW => ⟨(HH.out.later hW).cell k hkr 2 _ rfl, (HH.out.later hW).epoch k hke, (HH.out.later hW).range k hkr, ((HH.out.later hW).ok _ (List.getElem_mem hkr)).1⟩)
      have hrn := (HH.out.ok _ (List.getElem_mem hkr)).2.2
      have HCP := Lib.hid (fun W (hW : Below w.heap.size w W) => copied_any rs[k] W (HC.out W hW).2.2.2 hrn)
      have hnk : ¬ (6 : Int) ≤ (k : Int) := by omega
      have hnk2 : ¬ 6 ≤ k := by omega
      clear hrn HNX
      generalize hrk : rs[k] = rk at *
      generalize hek : es[k] = ek at *
      clear hrk hek
      have HBW : Hid (∀ W, Le wr W → Below w.heap.size w W) := Lib.hid (fun W hl => HB.out.trans (Below.mono hl HB.out.size))
      have ca : ∀ kk : LW wr, kk.val.cell? ⟨g, 6 + k * 10 + 2, none⟩ = some (.int .i64 rk.rq) := fun kk => (HC.out _ (HBW.out _ kk.le)).1
      go_wp2_with fail
      refine wp_region_tail [(30, relRp wr.heap.size (rab rk)), (31, relAgR wr.heap.size rk.rq ek (rab rk)), (32, relG1R wr.heap.size rk.rq ek (rab rk))] 36 23 (by kernel_rfl) (by kernel_rfl) (by kernel_rfl) (by rfl) ?_
      simp only [List.take_succ_cons, List.take_zero, List.drop_succ_cons, List.drop_zero]
      iterate 13 (refine wpG_quiet (by rfl) (by rfl) (by rfl) (fun K hK => ?_); go_big_quiet_op; refine hK _ ?_; clear hK K)
      refine wpG_call (by rfl) (by rfl) 58 #[.pointer (some ⟨g, k, none⟩)] (.int .i64 ek) (by intro _; simp [go_sem]) (by kernel_rfl) (fun wx hl => (aload_any ⟨g, k, none⟩ ek wx (HC.out wx (HBW.out wx hl.1)).2.1).mono (by rintro e w9 ⟨rfl, rfl⟩; exact ⟨rfl, Below.refl _ _⟩)) ?_
      simp only [Act.put, List.setIfInBounds_toArray, List.set_cons_zero, List.set_cons_succ]
      iterate 5 (refine wpG_quiet (by rfl) (by rfl) (by rfl) (fun K hK => ?_); go_big_quiet_op; refine hK _ ?_; clear hK K)
      refine wpG_run (by rfl) (by rfl) (.agg (rpc rk).toArray) (fun wx hl => exec_load 26 (.tmp 28) rfl g (6 + k * 10) rfl (rpc rk) _ (HC.out wx (HBW.out wx hl.1)).2.2.1 hu rfl info_rp) ?_
      simp only [Act.put, List.setIfInBounds_toArray, List.set_cons_zero, List.set_cons_succ]
      refine wpG_calls (relRp wr.heap.size (rab rk)) (by rfl) (by rfl) 57 #[.agg (rpc rk).toArray] (by intro _; simp [go_sem]) (fun wx hl => (HCP.out wx (HBW.out wx hl.1)).mono ?_) ?_
      · rintro e w5 ⟨r5, rfl, a1, a2, a3, a4, a5⟩
        exact ⟨_, rfl, a5, r5, rfl, a1, a2, (fun ad e => Nat.le_trans hl.1.size (a3 ad e)), a4⟩
      rintro _ ⟨_, _, _, ⟨r5, rfl, _⟩⟩
      simp only [Act.put, List.setIfInBounds_toArray, List.set_cons_zero, List.set_cons_succ]
      refine wpG_open (relAgR wr.heap.size rk.rq ek (rab rk)) (by rfl) (by rfl) (fun wx hl => agR_gives wr.heap.size (.tmp 17) (.tmp 23) (.tmp 30) rk.rq ek (rab rk) rfl rfl rfl wx (hl.2 30 _ (by simp [Op.operands]) rfl (by intro h; cases h))) ?_
      rintro _ ⟨_, _, _, ⟨r6, rfl, _⟩⟩
      simp only [Act.put, List.setIfInBounds_toArray, List.set_cons_zero, List.set_cons_succ]
      refine wpG_open (relG1R wr.heap.size rk.rq ek (rab rk)) (by rfl) (by rfl) (fun wx hl => g1R_gives wr.heap.size (.tmp 31) rk.rq ek (rab rk) rfl wx (hl.2 31 _ (by simp [Op.operands]) rfl (by intro h; cases h))) ?_
      rintro _ ⟨_, _, _, ⟨g7, r7, rfl, _⟩⟩
      simp only [Act.put, List.setIfInBounds_toArray, List.set_cons_zero, List.set_cons_succ]
      refine wpG_nil fun wx hl hS => ?_
      obtain ⟨_, g8, r8, e8, hb8, hok8, hab8, hfar8, hn8⟩ := hS
      cases e8
      have hsee : Sees wx wx.heap.size (some ⟨g7, 0, none⟩) (rwc ⟨rk.rq, ek, r8⟩) := fun _ => ⟨g7, 0, rfl, hb8.lt, fun j hj => by rw [Nat.zero_add]; exact hb8.cell (List.getElem?_eq_getElem hj)⟩
      have hbx := HBW.out wx hl
      have hrw := row_later HR.out hl
      refine wpList_appk _ rfl (.tmp 10) (.tmp 32) 47 rfl w.heap.size 62 i1 _ 12 112 Try.underlying47 ji jz0 jz1 jz2 (by rfl) (by decide) (.slice A1 k c1) k (rws rwc l) (by rfl) hrw wx.heap.size (some ⟨g7, 0, none⟩) 1 (rwc ⟨rk.rq, ek, r8⟩) 1 (by rfl) (by rfl) hsee (rwc_one _) (by unfold maxLen; omega) (by omega) hbx.size ?_
      intro A6 c6 w6 hr6 hb6 hg6 hat6
      have e6 : rws rwc l ++ rwc ⟨rk.rq, ek, r8⟩ = rws rwc (l ++ [⟨rk.rq, ek, r8⟩]) := by rw [rws_append, rws_one]
      rw [e6] at hr6
      have HR6 := Lib.hid hr6
      have HB6 := Lib.hid (hbx.trans hb6)
      have HLN6 : Hid ((l ++ [(⟨rk.rq, ek, r8⟩ : Rw)]).length = k + 1) := Lib.hid (by rw [List.length_append, HLN.out]; rfl)
      have HWA6 : Hid (wabs (l ++ [(⟨rk.rq, ek, r8⟩ : Rw)]) = (labs es rs).take (k + 1)) := Lib.hid (by
        rw [← HX.out, ← HWA.out]
        unfold wabs
        rw [List.map_append]
        simp [wab, hab8])
      have HOK6 : Hid (∀ x ∈ l ++ [(⟨rk.rq, ek, r8⟩ : Rw)], okRp w6 x.r ∧ x.r.n ≤ 65536 ∧ aptR (.slice A6 (k + 1) c6) x.r) := Lib.hid (fun x hx => by
        rw [List.mem_append, List.mem_singleton] at hx
        rcases hx with hx | rfl
        · obtain ⟨a, b, c⟩ := HOK.out x hx
          exact ⟨(a.later hl).grownR c hg6, b, c.grown (a.later hl) hat6⟩
        · have c : aptR (.slice A1 k c1) r8 := fun ad e _ e2 => by
            have h1 := (World.ownsRow.lt HR.out _ e2).2
            have h2 := hfar8 ad e
            omega
          exact ⟨hok8.grownR c hg6, hn8, c.grown hok8 hat6⟩)
      clear hr6 hb6 hg6 hat6 hrw hsee hbx hb8 hok8 hab8 hfar8 hn8 e6 hl ca HBW HCP HC
      go_wp2_with fail
      go_roundw
      case rel => exact ⟨k + 1, by omega, by go_num, ⟨A6, c6, l ++ [⟨rk.rq, ek, r8⟩], rfl, HR6, HLN6, HWA6, HOK6⟩, HB6⟩
      case measure => simp [intOf]; omega
    · obtain rfl : k = 6 := by omega
      rw [HALL.out] at HWA
      go_wp2_with fail
      go_ret
      have hc := row_capm HR.out
      exact ⟨A1, 6, c1, l, rfl, ⟨HLN.out, hc.1, hc.2, row_sees HR.out, fun x hx => ⟨(HOK.out x hx).1, (HOK.out x hx).2.1⟩⟩, HWA.out, HB.out⟩
end Go.Proofs.Ytadmaalhhigbeaa

/- Ledger: the calls of no ledger. -/
namespace Go.Proofs.Ytadmaalhhigbeaa
set_option linter.unusedVariables false
set_option linter.unusedSimpArgs false
open Go Go.RowKit ValM

set_option maxRecDepth 100000 in
set_option maxHeartbeats 1600000 in
theorem lgask_nil (dv rq : Int) (w : World) : Calls Try.prog 22 #[.pointer none, .int .i64 dv, .int .i64 rq] w (GivesAns w zrq 14) := by
  have hu := Try.underlying26
  have HB0 := Lib.hid (below_a1 w (.cells #[.int .i64 0, .int .i64 0, .int .i64 0, .int .i64 0, .int .i64 0, .int .i64 0, .int .i64 0, .int .i64 0, .slice none 0 0, .int .u32 0] 26))
  have HK : Hid (Blk (w.alloc (.cells #[.int .i64 0, .int .i64 0, .int .i64 0, .int .i64 0, .int .i64 0, .int .i64 0, .int .i64 0, .int .i64 0, .slice none 0 0, .int .u32 0] 26)) w.heap.size [.int .i64 0, .int .i64 0, .int .i64 0, .int .i64 0, .int .i64 0, .int .i64 0, .int .i64 0, .int .i64 0, .slice none 0 0, .int .u32 0]) := Lib.hid (Blk.new w [.int .i64 0, .int .i64 0, .int .i64 0, .int .i64 0, .int .i64 0, .int .i64 0, .int .i64 0, .int .i64 0, .slice none 0 0, .int .u32 0] 26)
  go_enter Try.func22, Try.ntmps22
  go_wp2_with fail
  exact bodyPost_ret (v := .tuple #[.agg #[.int .i64 0, .int .i64 0, .int .i64 0, .int .i64 0, .int .i64 0, .int .i64 0, .int .i64 0, .int .i64 0, .slice none 0 0, .int .u32 0], .int .i64 14]) (results_blk_tmp (p := 7) (q := 6) rfl _ _ w.heap.size [.int .i64 0, .int .i64 0, .int .i64 0, .int .i64 0, .int .i64 0, .int .i64 0, .int .i64 0, .int .i64 0, .slice none 0 0, .int .u32 0] _ _ rfl rfl HK.out hu rfl info_rp) rfl (zero_ans HB0.out 14)
set_option maxRecDepth 100000 in
set_option maxHeartbeats 1600000 in
theorem lgraise_nil (dv : Int) (w : World) : Calls Try.prog 27 #[.pointer none, .int .i64 dv] w fun e w' => e = .returned (.int .i64 0) ∧ w = w' := by
  go_enter Try.func27, Try.ntmps27
  go_wp2_with fail
  go_ret
  exact ⟨rfl, rfl⟩
set_option maxRecDepth 100000 in
set_option maxHeartbeats 1600000 in
theorem lgdata_nil (w : World) : Calls Try.prog 29 #[.pointer none] w fun e w' => e = .returned (.slice none 0 0) ∧ w = w' := by
  go_enter Try.func29, Try.ntmps29
  go_wp2_with fail
  go_ret
  exact ⟨rfl, rfl⟩
set_option maxRecDepth 100000 in
set_option maxHeartbeats 1600000 in
theorem lgnote_nil (r : Rp) (w : World) : Calls Try.prog 25 #[.pointer none, .agg (rpc r).toArray] w fun e w' => e = .returned (.bool false) ∧ Below w.heap.size w w' := by
  have hu := Try.underlying26
  have HB0 := Lib.hid (below_a1 w (.cells (rpc r).toArray 26))
  obtain ⟨kd, dv, rq, cd, id, vr, sq, ep, A, n, c, f, ms⟩ := r
  dsimp only [rpc] at *
  go_enter Try.func25, Try.ntmps25
  go_wp2_with fail
  refine (lgask_nil _ _ _).mono ?_
  rintro e w2 ⟨rr, rfl, hok, hab, hfar, hn2, hb2⟩
  have hb2' := HB0.out.trans (hb2.mono HB0.out.size)
  obtain ⟨TH, HN, HBN⟩ := new_rp w.heap.size w w2 (rpc rr) (rpc_len rr) hb2' hb2'.size
  have HB3 := Lib.hid (hb2'.trans (HBN.mono hb2'.size))
  have hone := all_oneCell_toArray (rpc_one rr)
  have HL := Lib.hid (rpc_len rr)
  generalize rpc rr = cr at *
  obtain ⟨W3, hW3⟩ : ∃ W3, W3 = (w2.alloc (.cells #[.int .i64 0, .int .i64 0, .int .i64 0, .int .i64 0, .int .i64 0, .int .i64 0, .int .i64 0, .int .i64 0, .slice none 0 0, .int .u32 0] 26)).setCells w2.heap.size 0 cr := ⟨_, rfl⟩
  rw [← hW3] at HB3
  have HW3 := Lib.hid hW3
  clear hok hab hfar hn2 hb2 hb2' HN HBN hW3
  go_wp2_with (first
    | (refine wpList_store_mid rfl 26 (.tmp 5) (.tmp 14) rfl w2.heap.size 0 cr.toArray rfl rfl (by simpa [HL.out] using TH) (by simpa [HL.out] using info_rp) hone ?_; rw [← HW3.out]; clear TH hone)
    | fail)
  go_ret
  exact ⟨rfl, HB3.out⟩
end Go.Proofs.Ytadmaalhhigbeaa

/- Ledger: LedgerPlays: the rows outlive a change of the ledger's block. -/
namespace Go.Proofs.Ytadmaalhhigbeaa
set_option linter.unusedVariables false
set_option linter.unusedSimpArgs false
open Go Go.RowKit ValM

theorem SeesRw.grown {w w' : World} {g : Nat} {A : Option Addr} {n c : Nat} {l : List Rw} (h : SeesRw w A n c l) (hA : ∀ ad, A = some ad → ad.block ≠ g) (hf : ∀ x ∈ l, farRp g x.r) (hg : w.grownBy w' (some g)) : SeesRw w' A n c l := by
  refine ⟨h.len, h.cap, h.max, fun hx => ?_, fun x hx => ⟨(h.ok x hx).1.grown (hf x hx) hg, (h.ok x hx).2⟩⟩
  obtain ⟨b, o, e, hb, hc⟩ := h.see hx
  refine ⟨b, o, e, Nat.lt_of_lt_of_le hb hg.size, fun j hj => ?_⟩
  have hne : b ≠ g := hA ⟨b, o, none⟩ e
  rw [World.cell?_of_block (a := ⟨b, o + j, none⟩) (hg.block b hb (by intro e; injection e with e; exact hne e))]
  exact hc j hj
/-- A ledger and the document's rows, side by side. -/
structure PInv (w0 : World) (g : Nat) (w : World) (es : List Int) (rs : List Rp) (A : Option Addr) (c : Nat) (l : List Rw) : Prop where
  lg : LgAt w g es rs
  sr : SeesRw w A 6 c l
  eq : wabs l = labs es rs
  hA : ∀ ad, A = some ad → ad.block ≠ g
  fr : ∀ x ∈ l, farRp g x.r
  be : Below w0.heap.size w0 w
  hg : w0.heap.size ≤ g
section
variable {w0 w w' : World} {g : Nat} {es es' : List Int} {rs rs' : List Rp} {A A' : Option Addr} {c c' : Nat} {l l' : List Rw}
theorem PInv.later (h : PInv w0 g w es rs A c l) (hb : Below w.heap.size w w') : PInv w0 g w' es rs A c l :=
  ⟨h.lg.later hb, h.sr.later hb, h.eq, h.hA, h.fr, h.be.trans (hb.mono h.be.size), h.hg⟩
/-- The program's ledger changes: the document's rows stay as they lie. -/
theorem PInv.rows (h : PInv w0 g w es rs A c l) (hg : w.grownBy w' (some g)) : SeesRw w' A 6 c l ∧ Below w0.heap.size w0 w' :=
  ⟨h.sr.grown h.hA h.fr hg, h.be.grown hg h.be.size (fun k e => by cases e; exact h.hg)⟩
end
end Go.Proofs.Ytadmaalhhigbeaa

/- Ledger: LedgerPlays: the ledger and the rows answer alike. -/
namespace Go.Proofs.Ytadmaalhhigbeaa
set_option linter.unusedVariables false
set_option linter.unusedSimpArgs false
open Go Go.RowKit ValM

theorem gd_in {α : Type} (l : List α) (d : α) {k : Nat} (hk : k < l.length) : l.getD k d = l[k] := by simp [List.getD_eq_getElem?_getD, hk]
theorem gd_out {α : Type} (l : List α) (d : α) {k : Nat} (hk : l.length ≤ k) : l.getD k d = d := by simp [List.getD_eq_getElem?_getD, List.getElem?_eq_none hk]
theorem labs_len {es : List Int} {rs : List Rp} (hl : rs.length = es.length) : (labs es rs).length = rs.length := by simp [labs, hl]
theorem labs_getD {es : List Int} {rs : List Rp} (hl : rs.length = es.length) (k : Nat) : (labs es rs).getD k (0, 0, zrq) = ((rs.getD k zrp).rq, es.getD k 0, rab (rs.getD k zrp)) := by
  by_cases hk : k < rs.length
  · have he : k < es.length := by omega
    have hz : k < (labs es rs).length := by rw [labs_len hl]; exact hk
    rw [gd_in _ _ hz, gd_in _ _ hk, gd_in _ _ he]
    simp [labs]
  · have h1 : (labs es rs).getD k (0, 0, zrq) = (0, 0, zrq) := gd_out _ _ (by rw [labs_len hl]; omega)
    have h2 : rs.getD k zrp = zrp := gd_out _ _ (by omega)
    have h3 : es.getD k 0 = 0 := gd_out _ _ (by omega)
    rw [h1, h2, h3]
    rfl
theorem acod_wcod {es : List Int} {rs : List Rp} (hl : rs.length = es.length) (dv rq : Int) : acod rs dv rq = wcod (labs es rs) dv rq := by
  unfold acod wcod
  rw [labs_getD hl]
theorem ares_wres {es : List Int} {rs : List Rp} (hl : rs.length = es.length) (dv rq : Int) : ares rs dv rq = wres (labs es rs) dv rq := by
  unfold ares wres
  rw [acod_wcod hl, labs_getD hl]
theorem rcode_wcode {es : List Int} {rs : List Rp} (hl : rs.length = es.length) (dv : Int) : rcode es dv = wcode (labs es rs) dv := by
  unfold rcode wcode
  rw [labs_getD hl]
theorem labs_set_r {es : List Int} {rs : List Rp} (hl : rs.length = es.length) (k : Nat) (r : Rp) : labs es (rs.set k r) = (labs es rs).set k (r.rq, es.getD k 0, rab r) := by
  apply List.ext_getElem
  · simp [labs]
  · intro j h1 h2
    have hj : j < es.length := by simp [labs] at h1; omega
    by_cases hk : k = j
    · subst hk
      simp [labs, hj]
    · simp [labs, List.getElem_set, hk]
theorem labs_set_e {es : List Int} {rs : List Rp} (hl : rs.length = es.length) (k : Nat) (e : Int) : labs (es.set k e) rs = (labs es rs).set k ((rs.getD k zrp).rq, e, rab (rs.getD k zrp)) := by
  apply List.ext_getElem
  · simp [labs]
  · intro j h1 h2
    have hj : j < rs.length := by simp [labs] at h1; omega
    by_cases hk : k = j
    · subst hk
      simp [labs, hj]
    · simp [labs, List.getElem_set, hk]
theorem res_wraise {es : List Int} {rs : List Rp} (hl : rs.length = es.length) (dv : Int) : labs (res es dv) rs = wraise (labs es rs) dv := by
  unfold res wraise
  rw [labs_getD hl]
  split
  · rw [labs_set_e hl]
  · rfl
theorem res_len (es : List Int) (dv : Int) : (res es dv).length = es.length := by unfold res; split <;> simp
theorem wabs_getD (l : List Rw) (k : Nat) : (wabs l).getD k (0, 0, zrq) = wab (l.getD k ⟨0, 0, zrp⟩) := by
  by_cases hk : k < l.length
  · rw [gd_in _ _ (by rw [wabs_len]; exact hk), gd_in _ _ hk]
    simp [wabs]
  · rw [gd_out _ _ (by rw [wabs_len]; omega), gd_out _ _ (by omega)]
    rfl
theorem wabs_set (l : List Rw) (k : Nat) (x : Rw) : wabs (l.set k x) = (wabs l).set k (wab x) := by simp [wabs, List.map_set]
theorem wabs_wrl (l : List Rw) (dv : Int) : wabs (wrl l dv) = wraise (wabs l) dv := by
  unfold wrl wraise
  rw [wabs_getD]
  show wabs (if (0 ≤ dv ∧ dv < 6) ∧ (l.getD dv.toNat ⟨0, 0, zrp⟩).ep < 1099511627776 then _ else _) = if (0 ≤ dv ∧ dv < 6) ∧ (l.getD dv.toNat ⟨0, 0, zrp⟩).ep < 1099511627776 then _ else _
  split
  · rw [wabs_set]; rfl
  · rfl
end Go.Proofs.Ytadmaalhhigbeaa

/- Ledger: LedgerPlays: the steps of the ledger and the rows. -/
namespace Go.Proofs.Ytadmaalhhigbeaa
set_option linter.unusedVariables false
set_option linter.unusedSimpArgs false
open Go Go.RowKit ValM

section
variable {w0 w w1 w2 : World} {g : Nat} {es : List Int} {rs : List Rp} {A A' : Option Addr} {c c' : Nat} {l : List Rw}
theorem PInv.hl (h : PInv w0 g w es rs A c l) : rs.length = es.length := by rw [h.lg.lr, h.lg.le]
theorem PInv.at (h : PInv w0 g w es rs A c l) (k : Nat) : (l.getD k ⟨0, 0, zrp⟩).last = (rs.getD k zrp).rq ∧ (l.getD k ⟨0, 0, zrp⟩).ep = es.getD k 0 ∧ rab (l.getD k ⟨0, 0, zrp⟩).r = rab (rs.getD k zrp) := by
  have h1 := wabs_getD l k
  rw [h.eq, labs_getD h.hl] at h1
  simp only [wab, Prod.mk.injEq] at h1
  exact ⟨h1.1.symm, h1.2.1.symm, h1.2.2.symm⟩
theorem PInv.ep (h : PInv w0 g w es rs A c l) : ∀ x ∈ l, 0 ≤ x.ep := by
  intro x hx
  obtain ⟨k, hk, rfl⟩ := List.mem_iff_getElem.1 hx
  have h1 := (h.at k).2.1
  rw [gd_in _ _ hk] at h1
  rw [h1]
  have hke : k < es.length := by have := h.sr.len; have := h.lg.le; omega
  rw [gd_in _ _ hke]
  exact (h.lg.er _ (List.getElem_mem hke)).1
theorem mem_set_or {α : Type} {l : List α} {k : Nat} {x y : α} (h : y ∈ l.set k x) : y ∈ l ∨ y = x := List.mem_or_eq_of_mem_set h
theorem PInv.note (h : PInv w0 g w es rs A c l) {r r' : Rp} {k : Nat} (hlg : LgAt w1 g es (rs.set k r')) (he : rab r' = rab r) (hgr : w.grownBy w1 (some g)) (hfr : farRp g r)
    (hs : SeesRw w2 A' 6 c' (l.set k ⟨r.rq, (l.getD k ⟨0, 0, zrp⟩).ep, r⟩)) (hA : ∀ ad, A' = some ad → w1.heap.size ≤ ad.block) (hb : Below w1.heap.size w1 w2) :
    PInv w0 g w2 es (rs.set k r') A' c' (l.set k ⟨r.rq, (l.getD k ⟨0, 0, zrp⟩).ep, r⟩) := by
  have h1 := (h.rows hgr).2
  refine ⟨hlg.later hb, hs, ?_, fun ad e => ?_, fun x hx => ?_, h1.trans (hb.mono h1.size), h.hg⟩
  · rw [wabs_set, labs_set_r h.hl, h.eq, he, rab_rq he, (h.at k).2.1.symm]
    rfl
  · have := hA ad e
    have := hlg.lt
    omega
  · rcases mem_set_or hx with hx | rfl
    · exact h.fr x hx
    · exact hfr
theorem PInv.raise (h : PInv w0 g w es rs A c l) {dv : Int} (hlg : LgAt w1 g (res es dv) rs) (hgr : w.grownBy w1 (some g))
    (hs : SeesRw w2 A' 6 c' (wrl l dv)) (hA : A' = A ∨ ∀ ad, A' = some ad → w1.heap.size ≤ ad.block) (hb : Below w1.heap.size w1 w2) :
    PInv w0 g w2 (res es dv) rs A' c' (wrl l dv) := by
  have h1 := (h.rows hgr).2
  refine ⟨hlg.later hb, hs, ?_, fun ad e => ?_, fun x hx => ?_, h1.trans (hb.mono h1.size), h.hg⟩
  · rw [wabs_wrl, res_wraise h.hl, h.eq]
  · rcases hA with rfl | hA
    · exact h.hA ad e
    · have := hA ad e
      have := hlg.lt
      omega
  · unfold wrl at hx
    split at hx
    · rename_i hd
      rcases mem_set_or hx with hx | rfl
      · exact h.fr x hx
      · by_cases hk : dv.toNat < l.length
        · rw [gd_in _ _ hk]
          exact h.fr l[dv.toNat] (List.getElem_mem hk)
        · rw [gd_out _ _ (by omega)]
          exact farRp.zero g
    · exact h.fr x hx
/-- The document's Note first, then the program's. -/
theorem PInv.noted (h : PInv w0 g w es rs A c l) {r r' : Rp} {k : Nat} (hfr : farRp g r)
    (hs : SeesRw w1 A' 6 c' (l.set k ⟨r.rq, (l.getD k ⟨0, 0, zrp⟩).ep, r⟩)) (hA : ∀ ad, A' = some ad → w.heap.size ≤ ad.block) (hb : Below w.heap.size w w1)
    (hlg : LgAt w2 g es (rs.set k r')) (he : rab r' = rab r) (hgr : w1.grownBy w2 (some g)) :
    PInv w0 g w2 es (rs.set k r') A' c' (l.set k ⟨r.rq, (l.getD k ⟨0, 0, zrp⟩).ep, r⟩) := by
  have hA2 : ∀ ad, A' = some ad → ad.block ≠ g := fun ad e => by
    have := hA ad e
    have := h.lg.lt
    omega
  have hf2 : ∀ x ∈ l.set k ⟨r.rq, (l.getD k ⟨0, 0, zrp⟩).ep, r⟩, farRp g x.r := fun x hx => by
    rcases mem_set_or hx with hx | rfl
    · exact h.fr x hx
    · exact hfr
  have hb1 := h.be.trans (hb.mono h.be.size)
  refine ⟨hlg, hs.grown hA2 hf2 hgr, ?_, hA2, hf2, hb1.grown hgr hb1.size (fun k e => by cases e; exact h.hg), h.hg⟩
  rw [wabs_set, labs_set_r h.hl, h.eq, he, rab_rq he, (h.at k).2.1.symm]
  rfl
/-- The document's Raise first, then the program's. -/
theorem PInv.raised (h : PInv w0 g w es rs A c l) {dv : Int} (hs : SeesRw w1 A' 6 c' (wrl l dv)) (hA : A' = A ∨ ∀ ad, A' = some ad → w.heap.size ≤ ad.block) (hb : Below w.heap.size w w1)
    (hlg : LgAt w2 g (res es dv) rs) (hgr : w1.grownBy w2 (some g)) :
    PInv w0 g w2 (res es dv) rs A' c' (wrl l dv) := by
  have hA2 : ∀ ad, A' = some ad → ad.block ≠ g := fun ad e => by
    rcases hA with rfl | hA
    · exact h.hA ad e
    · have := hA ad e
      have := h.lg.lt
      omega
  have hf2 : ∀ x ∈ wrl l dv, farRp g x.r := fun x hx => by
    unfold wrl at hx
    split at hx
    · rcases mem_set_or hx with hx | rfl
      · exact h.fr x hx
      · by_cases hk : dv.toNat < l.length
        · rw [gd_in _ _ hk]
          exact h.fr l[dv.toNat] (List.getElem_mem hk)
        · rw [gd_out _ _ (by omega)]
          exact farRp.zero g
    · exact h.fr x hx
  have hb1 := h.be.trans (hb.mono h.be.size)
  refine ⟨hlg, hs.grown hA2 hf2 hgr, ?_, hA2, hf2, hb1.grown hgr hb1.size (fun k e => by cases e; exact h.hg), h.hg⟩
  rw [wabs_wrl, res_wraise h.hl, h.eq]
theorem PInv.new (hlg : LgAt w1 g (List.replicate 6 0) (List.replicate 6 zrp)) (hs : SeesRw w2 A 6 c (zws 6)) (hA : ∀ ad, A = some ad → w1.heap.size ≤ ad.block) (hb : Below w1.heap.size w1 w2) (h0 : Below w0.heap.size w0 w1) (hg : w0.heap.size ≤ g) :
    PInv w0 g w2 (List.replicate 6 0) (List.replicate 6 zrp) A c (zws 6) := by
  refine ⟨hlg.later hb, hs, rfl, fun ad e => ?_, fun x hx => ?_, h0.trans (hb.mono h0.size), hg⟩
  · have := hA ad e
    have := hlg.lt
    omega
  · rw [List.eq_of_mem_replicate hx]
    exact farRp.zero g
end
end Go.Proofs.Ytadmaalhhigbeaa

/- Ledger: which rows may be loaded. -/
namespace Go.Proofs.Ytadmaalhhigbeaa
set_option linter.unusedVariables false
set_option linter.unusedSimpArgs false
open Go Go.RowKit ValM

/-- May a device's row be loaded? -/
def wok (k : Int) (x : Rw) : Prop := (0 ≤ x.last ∧ x.last ≤ 1099511627776) ∧ (0 ≤ x.ep ∧ x.ep ≤ 1099511627776) ∧ (x.last = 0 → rab x.r = rab zrp) ∧ (¬ x.last = 0 → rok x.r ∧ x.r.dv = k ∧ x.r.rq = x.last)
noncomputable instance (k : Int) (x : Rw) : Decidable (wok k x) := Classical.propDecidable _
def wright (l : List Rw) : Prop := l.length = 6 ∧ ∀ j (hj : j < l.length), wok (j : Int) l[j]
noncomputable instance (l : List Rw) : Decidable (wright l) := Classical.propDecidable _
theorem wok.rq {k : Int} {x : Rw} (h : wok k x) : x.r.rq = x.last := by
  by_cases h0 : x.last = 0
  · rw [h0, rab_rq (h.2.2.1 h0)]; rfl
  · exact (h.2.2.2 h0).2.2

theorem wok_lin (k : Int) (last ep1 : Int) (r : Rp) (ro : Int) (hro : ro = 1 ↔ rok r) : wok k ⟨last, ep1, r⟩ ↔ (0 ≤ last ∧ last ≤ 1099511627776) ∧ (0 ≤ ep1 ∧ ep1 ≤ 1099511627776) ∧ (last = 0 → (r.kd = 0 ∧ r.dv = 0 ∧ r.rq = 0 ∧ r.cd = 0 ∧ r.id = 0 ∧ r.vr = 0 ∧ r.sq = 0 ∧ r.ep = 0 ∧ r.f.length = 0 ∧ r.ms.toNat = 0)) ∧ (¬ last = 0 → ro = 1 ∧ r.dv = k ∧ r.rq = last) := by
  unfold wok
  rw [zero_iff, hro]
set_option maxRecDepth 100000 in
set_option maxHeartbeats 3200000 in
theorem lgrow_any (k : Int) (x : Rw) (w : World) (h : okRp w x.r) (hz : x.r.n ≤ 65536) :
    Calls Try.prog 60 #[.int .i64 k, .agg (rwc x).toArray] w fun e w' => e = .returned (.bool (decide (wok k x))) ∧ Below w.heap.size w w' := by
  have hu := Try.underlying26
  obtain ⟨last, ep1, r⟩ := x
  have HB1 := Lib.hid (below_a1 w (.cells (rwc ⟨last, ep1, r⟩).toArray 62))
  have HK := Lib.hid (Blk.new w (rwc ⟨last, ep1, r⟩) 62)
  have HZ := Lib.hid (fun W (hW : Below w.heap.size w W) => lsame_any r zrp W (h.later hW) (okRp.zero W) hz)
  rw [show decide (rab r = rab zrp) = decide (r.kd = 0 ∧ r.dv = 0 ∧ r.rq = 0 ∧ r.cd = 0 ∧ r.id = 0 ∧ r.vr = 0 ∧ r.sq = 0 ∧ r.ep = 0 ∧ r.f.length = 0 ∧ r.ms.toNat = 0) from decide_eq_decide.2 (zero_iff _)] at HZ
  have HZ : Hid (∀ W, Below w.heap.size w W → Calls Try.prog 13 #[.agg (rpc r).toArray, .agg #[.int .i64 0, .int .i64 0, .int .i64 0, .int .i64 0, .int .i64 0, .int .i64 0, .int .i64 0, .int .i64 0, .slice none 0 0, .int .u32 0]] W (fun e w' => e = .returned (.bool (decide (r.kd = 0 ∧ r.dv = 0 ∧ r.rq = 0 ∧ r.cd = 0 ∧ r.id = 0 ∧ r.vr = 0 ∧ r.sq = 0 ∧ r.ep = 0 ∧ r.f.length = 0 ∧ r.ms.toNat = 0))) ∧ Below W.heap.size W w')) := HZ
  have HC := Lib.hid (fun W (hW : Below w.heap.size w W) => lcheck30_any r W (h.later hW) hz)
  obtain ⟨ro, hro, hr2⟩ : ∃ ro : Int, (ro = 1 ↔ rok r) ∧ decide (rok r) = decide (ro = 1) := by
    by_cases hk : rok r
    · exact ⟨1, ⟨fun _ => hk, fun _ => rfl⟩, by simp [hk]⟩
    · exact ⟨0, ⟨fun e => absurd e (by decide), fun e => absurd e hk⟩, by simp [hk]⟩
  rw [hr2] at HC
  have HR : Hid (decide (wok k ⟨last, ep1, r⟩) = decide ((0 ≤ last ∧ last ≤ 1099511627776) ∧ (0 ≤ ep1 ∧ ep1 ≤ 1099511627776) ∧ (last = 0 → (r.kd = 0 ∧ r.dv = 0 ∧ r.rq = 0 ∧ r.cd = 0 ∧ r.id = 0 ∧ r.vr = 0 ∧ r.sq = 0 ∧ r.ep = 0 ∧ r.f.length = 0 ∧ r.ms.toNat = 0)) ∧ (¬ last = 0 → ro = 1 ∧ r.dv = k ∧ r.rq = last))) := Lib.hid (decide_eq_decide.2 (wok_lin k last ep1 r ro hro))
  generalize decide (wok k ⟨last, ep1, r⟩) = R at *
  clear h hro hr2
  obtain ⟨kd, dv, rq, cd, id, vr, sq, ep, A, n, c, f, ms⟩ := r
  dsimp only [rpc, rwc, zrp] at HB1 HK HZ HC HR ⊢
  generalize f.length = fl at *
  clear hz
  go_enter Try.func60, Try.ntmps60
  go_wp2_with fail
  repeat' (with_reducible refine (lgnum_any _ _).mono ?_; rintro e wx ⟨rfl, rfl⟩; go_wp2_with fail)
  all_goals (try (
    with_reducible refine (HZ.out _ HB1.out).mono ?_
    rintro e w5 ⟨rfl, hb5⟩
    have HB5 := Lib.hid (HB1.out.trans (hb5.mono HB1.out.size))
    clear hb5
    go_wp2_with fail))
  all_goals (try (
    with_reducible refine (HC.out _ HB1.out).mono ?_
    rintro e w5 ⟨rfl, hb5⟩
    have HB5 := Lib.hid (HB1.out.trans (hb5.mono HB1.out.size))
    have kx0 := (HK.out.later hb5).cell (j := 0) rfl
    have kx3 := (HK.out.later hb5).cell (j := 3) rfl
    have kx4 := (HK.out.later hb5).cell (j := 4) rfl
    clear hb5
    go_wp2_with fail))
  all_goals
    go_ret
    refine ⟨?_, by first | exact HB5.out | exact HB1.out⟩
    show Ending.returned (Value.bool _) = _
    rw [HR.out]
    refine congrArg (fun b => Ending.returned (Value.bool b)) (Bool.eq_iff_iff.2 ?_)
    simp only [decide_eq_true_eq, Bool.and_eq_true, Bool.or_eq_true, Bool.not_eq_true', decide_eq_false_iff_not, Bool.false_eq_true, beq_iff_eq, false_iff, true_iff]
    (try simp only [bne_iff_ne, ne_eq, bne_eq_false_iff_eq, beq_iff_eq, beq_eq_false_iff_ne, Bool.not_eq_true', Bool.not_eq_false', decide_eq_true_eq, decide_eq_false_iff_not] at *)
    omega
end Go.Proofs.Ytadmaalhhigbeaa

/- Ledger: which rows may be loaded, by the document. -/
namespace Go.Proofs.Ytadmaalhhigbeaa
set_option linter.unusedVariables false
set_option linter.unusedSimpArgs false
open Go Go.RowKit ValM

theorem SeesRw.row {w : World} {A : Option Addr} {n c : Nat} {l : List Rw} (h : SeesRw w A n c l) (k : Nat) (hk : k < l.length) :
    ∃ b o, A = some ⟨b, o, none⟩ ∧ b < w.heap.size ∧ ∀ W, Below w.heap.size w W → W.rangeAt b (o + k * 12) (rwc l[k]) := by
  obtain ⟨b, o, e, hb, _⟩ := sees_rw (f := rwc) (sz := 12) (rwc_len l) h.see (by decide) k hk
  refine ⟨b, o, e, hb, fun W hW => ?_⟩
  obtain ⟨b', o', e', _, hr⟩ := sees_rw (f := rwc) (sz := 12) (rwc_len l) ((h.later hW).see) (by decide) k hk
  rw [e] at e'
  cases e'
  exact hr
/-- A store of a whole struct into a new block: what comes of it. -/
theorem new_st (B : Nat) (w0 w : World) (cz cr : List Value) (t : TypeId) (hc : cr.length = cz.length) (hb : Below B w0 w) (hB : B ≤ w.heap.size) :
    (w.alloc (.cells cz.toArray t)).there w.heap.size 0 cz.length ∧ Blk ((w.alloc (.cells cz.toArray t)).setCells w.heap.size 0 cr) w.heap.size cr ∧ Below w.heap.size w ((w.alloc (.cells cz.toArray t)).setCells w.heap.size 0 cr) := by
  have h1 := Blk.new w cz t
  have h2 := h1.sets cr 0 (by rw [hc]; simp)
  rw [List.take_zero, List.nil_append, List.drop_eq_nil_of_le (by rw [hc]; simp), List.append_nil] at h2
  exact ⟨h1.there 0 _ (by simp), h2, below_sets (Nat.le_refl _) _ _ (below_a1 _ _)⟩
theorem info_row : (Try.prog.info? 62).map (·.size) = some 12 := by kernel_rfl

set_option maxRecDepth 100000 in
set_option maxHeartbeats 6400000 in
theorem rright_any (A : Option Addr) (n c : Nat) (l : List Rw) (w : World) (h : SeesRw w A n c l) :
    Calls Try.prog 31 #[.slice A n c] w fun e w' => e = .returned (.bool (decide (wright l))) ∧ Below w.heap.size w w' := by
  have hu := Try.underlying26
  have huw := Try.underlying62
  have HB0 := Lib.hid (Below.refl w.heap.size w)
  obtain ⟨R, hR⟩ : ∃ R, R = decide (wright l) := ⟨_, rfl⟩
  rw [← hR]
  have HR := Lib.hid hR
  clear hR
  have hHn := h.len
  by_cases h6 : n = 6
  · subst h6
    have HS := Lib.hid h
    have HN := Lib.hid hHn
    have HNO : Hid (∀ j (hj : j < l.length), ¬ wok (j : Int) l[j] → R = false) := Lib.hid (fun j hj hno => by rw [HR.out]; exact decide_eq_false (fun hw => hno (hw.2 j hj)))
    have HYES : Hid ((∀ j (hj : j < l.length), wok (j : Int) l[j]) → R = true) := Lib.hid (fun ha => by rw [HR.out]; exact decide_eq_true ⟨HN.out, ha⟩)
    clear h hHn HR
    go_enter Try.func31, Try.ntmps31
    go_wp2_with fail
    go_loopw [3] (fun i wr => ∃ k : Nat, k ≤ 6 ∧ i = .int .i64 (k : Int) ∧ Hid (∀ j (hj : j < l.length), j < k → wok (j : Int) l[j]) ∧ Hid (Below w.heap.size w wr)) (fun i _ => 6 - (intOf i).toNat)
    case atStart => exact ⟨0, by omega, rfl, Lib.hid (fun j _ hj => absurd hj (by omega)), HB0⟩
    case round =>
      clear HB0
      obtain ⟨k, hk, rfl, HP, HB⟩ := hrel
      by_cases hlt : k < 6
      · have d0 : decide ((k : Int) < 6) = true := decide_eq_true (by omega)
        have hkl : k < l.length := by rw [HN.out]; exact hlt
        have hnk : ¬ 6 ≤ k := by omega
        obtain ⟨b, o, rfl, _, hg⟩ := HS.out.row k hkl
        have RG := hg wr HB.out
        have hokr := HS.out.ok _ (List.getElem_mem hkl)
        have HNX : Hid (wok (k : Int) l[k] → Hid (∀ j (hj : j < l.length), j < k + 1 → wok (j : Int) l[j])) := Lib.hid (fun e => Lib.hid (fun j hj hjk => by
          by_cases ej : j = k
          · subst ej; exact e
          · exact HP.out j hj (by omega)))
        have HNOk := Lib.hid (HNO.out k hkl)
        clear HP hg HNO HYES
        generalize l[k] = x at *
        obtain ⟨TH6, HN6, HBN6⟩ := new_st w.heap.size w wr [.int .i64 0, .int .i64 0, .int .i64 0, .int .i64 0, .int .i64 0, .int .i64 0, .int .i64 0, .int .i64 0, .int .i64 0, .int .i64 0, .slice none 0 0, .int .u32 0] (rwc x) 62 rfl HB.out HB.out.size
        obtain ⟨b6, hb6⟩ : ∃ b6, b6 = wr.heap.size := ⟨_, rfl⟩
        obtain ⟨W6, hW6⟩ : ∃ W6, W6 = (wr.alloc (.cells #[.int .i64 0, .int .i64 0, .int .i64 0, .int .i64 0, .int .i64 0, .int .i64 0, .int .i64 0, .int .i64 0, .int .i64 0, .int .i64 0, .slice none 0 0, .int .u32 0] 62)).setCells wr.heap.size 0 (rwc x) := ⟨_, rfl⟩
        rw [← hW6] at HN6 HBN6
        rw [← hb6] at HN6
        have HB6 := Lib.hid (HB.out.trans (HBN6.mono HB.out.size))
        have hok6 := hokr.1.later HB6.out
        have HW6 := Lib.hid hW6
        have HB6E := Lib.hid hb6
        have HONE := Lib.hid (all_oneCell_toArray (rwc_one x))
        have RR2 := HN6.range 2 (rpc x.r) rfl
        have HK6 := Lib.hid HN6
        have HSM := Lib.hid (rlsame_any x.r zrp W6 hok6 (okRp.zero W6) hokr.2)
        have HSM : Hid (Calls Try.prog 14 #[.agg (rpc x.r).toArray, .agg #[.int .i64 0, .int .i64 0, .int .i64 0, .int .i64 0, .int .i64 0, .int .i64 0, .int .i64 0, .int .i64 0, .slice none 0 0, .int .u32 0]] W6 fun e w' => e = .returned (.bool (decide (rab x.r = rab zrp))) ∧ Below W6.heap.size W6 w') := HSM
        have HCK := Lib.hid (rlcheck30_any x.r W6 hok6 hokr.2)
        clear hW6 HN6 HBN6 hok6 hb6 hokr HB
        obtain ⟨last, ep1, r⟩ := x
        dsimp only at HSM HCK RR2
        have k60 := HK6.out.cell (j := 0) rfl
        have k61 := HK6.out.cell (j := 1) rfl
        have k63 := HK6.out.cell (j := 3) rfl
        have k64 := HK6.out.cell (j := 4) rfl
        by_cases h1 : last < 0
        · have HNE := Lib.hid (HNOk.out (fun hw => absurd hw.1.1 (by show ¬ (0 ≤ last); omega)))
          have e1 : decide (last < 0) = true := decide_eq_true (by omega)
          go_wp2_with (first
            | (refine wpList_load_mid rfl 62 (.tmp 16) rfl b (o + k * 12) rfl (rwc ⟨last, ep1, r⟩) _ RG huw rfl info_row ?_
               simp only [Act.put, List.setIfInBounds_toArray, List.set_cons_zero, List.set_cons_succ])
            | (refine wpList_store_as rfl 62 (.tmp 4) (.tmp 17) rfl wr.heap.size 0 (rwc ⟨last, ep1, r⟩).toArray rfl rfl TH6 info_row HONE.out W6 HW6.out ?_
               rw [← HB6E.out])
            | (refine wpList_load_g (by rfl) 26 (.tmp 40) rfl b6 2 rfl (rpc r) _ RR2 hu rfl info_rp ?_
               simp only [Act.put, List.setIfInBounds_toArray, List.set_cons_zero, List.set_cons_succ])
            | (refine wpList_load_g (by rfl) 26 (.tmp 51) rfl b6 2 rfl (rpc r) _ RR2 hu rfl info_rp ?_
               simp only [Act.put, List.setIfInBounds_toArray, List.set_cons_zero, List.set_cons_succ])
            | fail)
          go_ret
          (try rw [HNE.out])
          exact ⟨rfl, HB6.out⟩
        · by_cases h2 : 1099511627776 < last
          · have HNE := Lib.hid (HNOk.out (fun hw => absurd hw.1.2 (by show ¬ (last ≤ 1099511627776); omega)))
            have e1 : decide (last < 0) = false := decide_eq_false (by omega)
            have e2 : decide (1099511627776 < last) = true := decide_eq_true (by omega)
            go_wp2_with (first
              | (refine wpList_load_mid rfl 62 (.tmp 16) rfl b (o + k * 12) rfl (rwc ⟨last, ep1, r⟩) _ RG huw rfl info_row ?_
                 simp only [Act.put, List.setIfInBounds_toArray, List.set_cons_zero, List.set_cons_succ])
              | (refine wpList_store_as rfl 62 (.tmp 4) (.tmp 17) rfl wr.heap.size 0 (rwc ⟨last, ep1, r⟩).toArray rfl rfl TH6 info_row HONE.out W6 HW6.out ?_
                 rw [← HB6E.out])
              | (refine wpList_load_g (by rfl) 26 (.tmp 40) rfl b6 2 rfl (rpc r) _ RR2 hu rfl info_rp ?_
                 simp only [Act.put, List.setIfInBounds_toArray, List.set_cons_zero, List.set_cons_succ])
              | (refine wpList_load_g (by rfl) 26 (.tmp 51) rfl b6 2 rfl (rpc r) _ RR2 hu rfl info_rp ?_
                 simp only [Act.put, List.setIfInBounds_toArray, List.set_cons_zero, List.set_cons_succ])
              | fail)
            go_ret
            (try rw [HNE.out])
            exact ⟨rfl, HB6.out⟩
          · by_cases h3 : ep1 < 0
            · have HNE := Lib.hid (HNOk.out (fun hw => absurd hw.2.1.1 (by show ¬ (0 ≤ ep1); omega)))
              have e1 : decide (last < 0) = false := decide_eq_false (by omega)
              have e2 : decide (1099511627776 < last) = false := decide_eq_false (by omega)
              have e3 : decide (ep1 < 0) = true := decide_eq_true (by omega)
              go_wp2_with (first
                | (refine wpList_load_mid rfl 62 (.tmp 16) rfl b (o + k * 12) rfl (rwc ⟨last, ep1, r⟩) _ RG huw rfl info_row ?_
                   simp only [Act.put, List.setIfInBounds_toArray, List.set_cons_zero, List.set_cons_succ])
                | (refine wpList_store_as rfl 62 (.tmp 4) (.tmp 17) rfl wr.heap.size 0 (rwc ⟨last, ep1, r⟩).toArray rfl rfl TH6 info_row HONE.out W6 HW6.out ?_
                   rw [← HB6E.out])
                | (refine wpList_load_g (by rfl) 26 (.tmp 40) rfl b6 2 rfl (rpc r) _ RR2 hu rfl info_rp ?_
                   simp only [Act.put, List.setIfInBounds_toArray, List.set_cons_zero, List.set_cons_succ])
                | (refine wpList_load_g (by rfl) 26 (.tmp 51) rfl b6 2 rfl (rpc r) _ RR2 hu rfl info_rp ?_
                   simp only [Act.put, List.setIfInBounds_toArray, List.set_cons_zero, List.set_cons_succ])
                | fail)
              go_ret
              (try rw [HNE.out])
              exact ⟨rfl, HB6.out⟩
            · by_cases h4 : 1099511627776 < ep1
              · have HNE := Lib.hid (HNOk.out (fun hw => absurd hw.2.1.2 (by show ¬ (ep1 ≤ 1099511627776); omega)))
                have e1 : decide (last < 0) = false := decide_eq_false (by omega)
                have e2 : decide (1099511627776 < last) = false := decide_eq_false (by omega)
                have e3 : decide (ep1 < 0) = false := decide_eq_false (by omega)
                have e4 : decide (1099511627776 < ep1) = true := decide_eq_true (by omega)
                go_wp2_with (first
                  | (refine wpList_load_mid rfl 62 (.tmp 16) rfl b (o + k * 12) rfl (rwc ⟨last, ep1, r⟩) _ RG huw rfl info_row ?_
                     simp only [Act.put, List.setIfInBounds_toArray, List.set_cons_zero, List.set_cons_succ])
                  | (refine wpList_store_as rfl 62 (.tmp 4) (.tmp 17) rfl wr.heap.size 0 (rwc ⟨last, ep1, r⟩).toArray rfl rfl TH6 info_row HONE.out W6 HW6.out ?_
                     rw [← HB6E.out])
                  | (refine wpList_load_g (by rfl) 26 (.tmp 40) rfl b6 2 rfl (rpc r) _ RR2 hu rfl info_rp ?_
                     simp only [Act.put, List.setIfInBounds_toArray, List.set_cons_zero, List.set_cons_succ])
                  | (refine wpList_load_g (by rfl) 26 (.tmp 51) rfl b6 2 rfl (rpc r) _ RR2 hu rfl info_rp ?_
                     simp only [Act.put, List.setIfInBounds_toArray, List.set_cons_zero, List.set_cons_succ])
                  | fail)
                go_ret
                (try rw [HNE.out])
                exact ⟨rfl, HB6.out⟩
              · by_cases h5 : last = 0
                · by_cases h6 : rab r = rab zrp
                  · have HX := HNX.out ⟨⟨by show 0 ≤ last; omega, by show last ≤ 1099511627776; omega⟩, ⟨by show 0 ≤ ep1; omega, by show ep1 ≤ 1099511627776; omega⟩, fun _ => h6, fun hn => absurd h5 hn⟩
                    rw [decide_eq_true h6] at HSM
                    clear HNX HNOk
                    have e1 : decide (last < 0) = false := decide_eq_false (by omega)
                    have e2 : decide (1099511627776 < last) = false := decide_eq_false (by omega)
                    have e3 : decide (ep1 < 0) = false := decide_eq_false (by omega)
                    have e4 : decide (1099511627776 < ep1) = false := decide_eq_false (by omega)
                    have f0 : (last == 0) = true := by simp [h5]
                    have f1 : decide (0 < last) = false := decide_eq_false (by omega)
                    go_wp2_with (first
                      | (refine wpList_load_mid rfl 62 (.tmp 16) rfl b (o + k * 12) rfl (rwc ⟨last, ep1, r⟩) _ RG huw rfl info_row ?_
                         simp only [Act.put, List.setIfInBounds_toArray, List.set_cons_zero, List.set_cons_succ])
                      | (refine wpList_store_as rfl 62 (.tmp 4) (.tmp 17) rfl wr.heap.size 0 (rwc ⟨last, ep1, r⟩).toArray rfl rfl TH6 info_row HONE.out W6 HW6.out ?_
                         rw [← HB6E.out])
                      | (refine wpList_load_g (by rfl) 26 (.tmp 40) rfl b6 2 rfl (rpc r) _ RR2 hu rfl info_rp ?_
                         simp only [Act.put, List.setIfInBounds_toArray, List.set_cons_zero, List.set_cons_succ])
                      | (refine wpList_load_g (by rfl) 26 (.tmp 51) rfl b6 2 rfl (rpc r) _ RR2 hu rfl info_rp ?_
                         simp only [Act.put, List.setIfInBounds_toArray, List.set_cons_zero, List.set_cons_succ])
                      | fail)
                    refine HSM.out.mono ?_
                    rintro e w7 ⟨rfl, hb7⟩
                    have HB7 := Lib.hid (HB6.out.trans (hb7.mono HB6.out.size))
                    have k70 := (HK6.out.later hb7).cell (j := 0) rfl
                    clear hb7 HSM HCK
                    go_wp2_with fail
                    go_roundw
                    case rel => exact ⟨k + 1, by omega, by go_num, HX, HB7⟩
                    case measure => simp [intOf]; omega
                  · rw [decide_eq_false h6] at HSM
                    have HNE := Lib.hid (HNOk.out (fun hw => h6 (hw.2.2.1 h5)))
                    have e1 : decide (last < 0) = false := decide_eq_false (by omega)
                    have e2 : decide (1099511627776 < last) = false := decide_eq_false (by omega)
                    have e3 : decide (ep1 < 0) = false := decide_eq_false (by omega)
                    have e4 : decide (1099511627776 < ep1) = false := decide_eq_false (by omega)
                    have f0 : (last == 0) = true := by simp [h5]
                    have f1 : decide (0 < last) = false := decide_eq_false (by omega)
                    go_wp2_with (first
                      | (refine wpList_load_mid rfl 62 (.tmp 16) rfl b (o + k * 12) rfl (rwc ⟨last, ep1, r⟩) _ RG huw rfl info_row ?_
                         simp only [Act.put, List.setIfInBounds_toArray, List.set_cons_zero, List.set_cons_succ])
                      | (refine wpList_store_as rfl 62 (.tmp 4) (.tmp 17) rfl wr.heap.size 0 (rwc ⟨last, ep1, r⟩).toArray rfl rfl TH6 info_row HONE.out W6 HW6.out ?_
                         rw [← HB6E.out])
                      | (refine wpList_load_g (by rfl) 26 (.tmp 40) rfl b6 2 rfl (rpc r) _ RR2 hu rfl info_rp ?_
                         simp only [Act.put, List.setIfInBounds_toArray, List.set_cons_zero, List.set_cons_succ])
                      | (refine wpList_load_g (by rfl) 26 (.tmp 51) rfl b6 2 rfl (rpc r) _ RR2 hu rfl info_rp ?_
                         simp only [Act.put, List.setIfInBounds_toArray, List.set_cons_zero, List.set_cons_succ])
                      | fail)
                    refine HSM.out.mono ?_
                    rintro e w7 ⟨rfl, hb7⟩
                    have HB7 := Lib.hid (HB6.out.trans (hb7.mono HB6.out.size))
                    have k70 := (HK6.out.later hb7).cell (j := 0) rfl
                    clear hb7 HSM HCK
                    go_wp2_with fail
                    go_ret
                    (try rw [HNE.out])
                    exact ⟨rfl, HB7.out⟩
                · by_cases h6 : rok r
                  · rw [decide_eq_true h6] at HCK
                    by_cases h7 : r.dv = (k : Int)
                    · have f2 : (r.dv != (k : Int)) = false := by simp [h7]
                      by_cases h8 : r.rq = last
                      · have f3 : (r.rq != last) = false := by simp [h8]
                        have HX := HNX.out ⟨⟨by show 0 ≤ last; omega, by show last ≤ 1099511627776; omega⟩, ⟨by show 0 ≤ ep1; omega, by show ep1 ≤ 1099511627776; omega⟩, fun h => absurd h h5, fun _ => ⟨h6, h7, h8⟩⟩
                        clear HNX HNOk h7 h8
                        have e1 : decide (last < 0) = false := decide_eq_false (by omega)
                        have e2 : decide (1099511627776 < last) = false := decide_eq_false (by omega)
                        have e3 : decide (ep1 < 0) = false := decide_eq_false (by omega)
                        have e4 : decide (1099511627776 < ep1) = false := decide_eq_false (by omega)
                        have f0 : (last == 0) = false := by simp [h5]
                        have f1 : decide (0 < last) = true := decide_eq_true (by omega)
                        go_wp2_with (first
                          | (refine wpList_load_mid rfl 62 (.tmp 16) rfl b (o + k * 12) rfl (rwc ⟨last, ep1, r⟩) _ RG huw rfl info_row ?_
                             simp only [Act.put, List.setIfInBounds_toArray, List.set_cons_zero, List.set_cons_succ])
                          | (refine wpList_store_as rfl 62 (.tmp 4) (.tmp 17) rfl wr.heap.size 0 (rwc ⟨last, ep1, r⟩).toArray rfl rfl TH6 info_row HONE.out W6 HW6.out ?_
                             rw [← HB6E.out])
                          | (refine wpList_load_g (by rfl) 26 (.tmp 40) rfl b6 2 rfl (rpc r) _ RR2 hu rfl info_rp ?_
                             simp only [Act.put, List.setIfInBounds_toArray, List.set_cons_zero, List.set_cons_succ])
                          | (refine wpList_load_g (by rfl) 26 (.tmp 51) rfl b6 2 rfl (rpc r) _ RR2 hu rfl info_rp ?_
                             simp only [Act.put, List.setIfInBounds_toArray, List.set_cons_zero, List.set_cons_succ])
                          | fail)
                        refine HCK.out.mono ?_
                        rintro e w7 ⟨rfl, hb7⟩
                        have HB7 := Lib.hid (HB6.out.trans (hb7.mono HB6.out.size))
                        have k70 := (HK6.out.later hb7).cell (j := 0) rfl
                        have k73 := (HK6.out.later hb7).cell (j := 3) rfl
                        have k74 := (HK6.out.later hb7).cell (j := 4) rfl
                        clear hb7 HSM HCK
                        go_wp2_with fail
                        go_roundw
                        case rel => exact ⟨k + 1, by omega, by go_num, HX, HB7⟩
                        case measure => simp [intOf]; omega
                      · have f3 : (r.rq != last) = true := by simp [h8]
                        have HNE := Lib.hid (HNOk.out (fun hw => h8 (hw.2.2.2 h5).2.2))
                        clear h7
                        have e1 : decide (last < 0) = false := decide_eq_false (by omega)
                        have e2 : decide (1099511627776 < last) = false := decide_eq_false (by omega)
                        have e3 : decide (ep1 < 0) = false := decide_eq_false (by omega)
                        have e4 : decide (1099511627776 < ep1) = false := decide_eq_false (by omega)
                        have f0 : (last == 0) = false := by simp [h5]
                        have f1 : decide (0 < last) = true := decide_eq_true (by omega)
                        go_wp2_with (first
                          | (refine wpList_load_mid rfl 62 (.tmp 16) rfl b (o + k * 12) rfl (rwc ⟨last, ep1, r⟩) _ RG huw rfl info_row ?_
                             simp only [Act.put, List.setIfInBounds_toArray, List.set_cons_zero, List.set_cons_succ])
                          | (refine wpList_store_as rfl 62 (.tmp 4) (.tmp 17) rfl wr.heap.size 0 (rwc ⟨last, ep1, r⟩).toArray rfl rfl TH6 info_row HONE.out W6 HW6.out ?_
                             rw [← HB6E.out])
                          | (refine wpList_load_g (by rfl) 26 (.tmp 40) rfl b6 2 rfl (rpc r) _ RR2 hu rfl info_rp ?_
                             simp only [Act.put, List.setIfInBounds_toArray, List.set_cons_zero, List.set_cons_succ])
                          | (refine wpList_load_g (by rfl) 26 (.tmp 51) rfl b6 2 rfl (rpc r) _ RR2 hu rfl info_rp ?_
                             simp only [Act.put, List.setIfInBounds_toArray, List.set_cons_zero, List.set_cons_succ])
                          | fail)
                        refine HCK.out.mono ?_
                        rintro e w7 ⟨rfl, hb7⟩
                        have HB7 := Lib.hid (HB6.out.trans (hb7.mono HB6.out.size))
                        have k70 := (HK6.out.later hb7).cell (j := 0) rfl
                        have k73 := (HK6.out.later hb7).cell (j := 3) rfl
                        have k74 := (HK6.out.later hb7).cell (j := 4) rfl
                        clear hb7 HSM HCK
                        go_wp2_with fail
                        go_ret
                        (try rw [HNE.out])
                        exact ⟨rfl, HB7.out⟩
                    · have f2 : (r.dv != (k : Int)) = true := by simp [h7]
                      have HNE := Lib.hid (HNOk.out (fun hw => h7 (hw.2.2.2 h5).2.1))
                      have e1 : decide (last < 0) = false := decide_eq_false (by omega)
                      have e2 : decide (1099511627776 < last) = false := decide_eq_false (by omega)
                      have e3 : decide (ep1 < 0) = false := decide_eq_false (by omega)
                      have e4 : decide (1099511627776 < ep1) = false := decide_eq_false (by omega)
                      have f0 : (last == 0) = false := by simp [h5]
                      have f1 : decide (0 < last) = true := decide_eq_true (by omega)
                      go_wp2_with (first
                        | (refine wpList_load_mid rfl 62 (.tmp 16) rfl b (o + k * 12) rfl (rwc ⟨last, ep1, r⟩) _ RG huw rfl info_row ?_
                           simp only [Act.put, List.setIfInBounds_toArray, List.set_cons_zero, List.set_cons_succ])
                        | (refine wpList_store_as rfl 62 (.tmp 4) (.tmp 17) rfl wr.heap.size 0 (rwc ⟨last, ep1, r⟩).toArray rfl rfl TH6 info_row HONE.out W6 HW6.out ?_
                           rw [← HB6E.out])
                        | (refine wpList_load_g (by rfl) 26 (.tmp 40) rfl b6 2 rfl (rpc r) _ RR2 hu rfl info_rp ?_
                           simp only [Act.put, List.setIfInBounds_toArray, List.set_cons_zero, List.set_cons_succ])
                        | (refine wpList_load_g (by rfl) 26 (.tmp 51) rfl b6 2 rfl (rpc r) _ RR2 hu rfl info_rp ?_
                           simp only [Act.put, List.setIfInBounds_toArray, List.set_cons_zero, List.set_cons_succ])
                        | fail)
                      refine HCK.out.mono ?_
                      rintro e w7 ⟨rfl, hb7⟩
                      have HB7 := Lib.hid (HB6.out.trans (hb7.mono HB6.out.size))
                      have k70 := (HK6.out.later hb7).cell (j := 0) rfl
                      have k73 := (HK6.out.later hb7).cell (j := 3) rfl
                      have k74 := (HK6.out.later hb7).cell (j := 4) rfl
                      clear hb7 HSM HCK
                      go_wp2_with fail
                      go_ret
                      (try rw [HNE.out])
                      exact ⟨rfl, HB7.out⟩
                  · rw [decide_eq_false h6] at HCK
                    have HNE := Lib.hid (HNOk.out (fun hw => h6 (hw.2.2.2 h5).1))
                    have e1 : decide (last < 0) = false := decide_eq_false (by omega)
                    have e2 : decide (1099511627776 < last) = false := decide_eq_false (by omega)
                    have e3 : decide (ep1 < 0) = false := decide_eq_false (by omega)
                    have e4 : decide (1099511627776 < ep1) = false := decide_eq_false (by omega)
                    have f0 : (last == 0) = false := by simp [h5]
                    have f1 : decide (0 < last) = true := decide_eq_true (by omega)
                    go_wp2_with (first
                      | (refine wpList_load_mid rfl 62 (.tmp 16) rfl b (o + k * 12) rfl (rwc ⟨last, ep1, r⟩) _ RG huw rfl info_row ?_
                         simp only [Act.put, List.setIfInBounds_toArray, List.set_cons_zero, List.set_cons_succ])
                      | (refine wpList_store_as rfl 62 (.tmp 4) (.tmp 17) rfl wr.heap.size 0 (rwc ⟨last, ep1, r⟩).toArray rfl rfl TH6 info_row HONE.out W6 HW6.out ?_
                         rw [← HB6E.out])
                      | (refine wpList_load_g (by rfl) 26 (.tmp 40) rfl b6 2 rfl (rpc r) _ RR2 hu rfl info_rp ?_
                         simp only [Act.put, List.setIfInBounds_toArray, List.set_cons_zero, List.set_cons_succ])
                      | (refine wpList_load_g (by rfl) 26 (.tmp 51) rfl b6 2 rfl (rpc r) _ RR2 hu rfl info_rp ?_
                         simp only [Act.put, List.setIfInBounds_toArray, List.set_cons_zero, List.set_cons_succ])
                      | fail)
                    refine HCK.out.mono ?_
                    rintro e w7 ⟨rfl, hb7⟩
                    have HB7 := Lib.hid (HB6.out.trans (hb7.mono HB6.out.size))
                    have k70 := (HK6.out.later hb7).cell (j := 0) rfl
                    have k73 := (HK6.out.later hb7).cell (j := 3) rfl
                    have k74 := (HK6.out.later hb7).cell (j := 4) rfl
                    clear hb7 HSM HCK
                    go_wp2_with fail
                    go_ret
                    (try rw [HNE.out])
                    exact ⟨rfl, HB7.out⟩
      · obtain rfl : k = 6 := by omega
        have HEQ := HYES.out (fun j hj => HP.out j hj (by rw [← HN.out]; exact hj))
        go_wp2_with fail
        go_ret
        (try rw [HEQ])
        exact ⟨rfl, HB.out⟩
  · have b0 : ((n : Int) != 6) = true := by simp; omega
    have HNE : R = false := by
      rw [HR.out]
      exact decide_eq_false (fun e => h6 (by rw [← hHn, e.1]))
    rw [HNE]
    clear h hHn h6 HNE HR
    go_enter Try.func31, Try.ntmps31
    go_wp2_with fail
    go_ret
    exact ⟨rfl, HB0.out⟩
end Go.Proofs.Ytadmaalhhigbeaa

/- Ledger: Load. -/
namespace Go.Proofs.Ytadmaalhhigbeaa
set_option linter.unusedVariables false
set_option linter.unusedSimpArgs false
open Go Go.RowKit ValM

set_option maxRecDepth 100000 in
set_option maxHeartbeats 1600000 in
theorem astore_any (a : Addr) (d : Int) (u : Value) (w : World) (hc : w.cell? a = some u) (hz : w.frozen? a = false) :
    Calls Try.prog 61 #[.pointer (some a), .int .i64 d] w fun e w' => e = .returned (.tuple #[]) ∧ w.setCell a (.int .i64 d) = w' := by
  have hl := run_call_store (P := Try.prog) Try.func88 (by kernel_rfl) (by kernel_rfl) (by kernel_rfl) (by kernel_rfl) (k := .i64) (y := d) hc hz
  obtain ⟨b, o, sp⟩ := a
  go_enter Try.func61, Try.ntmps61
  go_wp2
  go_end0
  exact ⟨rfl, rfl⟩
structure LdInv (w0 : World) (g : Nat) (l : List Rw) (k : Nat) (w : World) (es : List Int) (rs : List Rp) : Prop where
  lg : LgAt w g es rs
  al : ∀ j (hj : j < l.length), j < k → es.getD j 0 = l[j].ep ∧ rab (rs.getD j zrp) = rab l[j].r ∧ wok (j : Int) l[j]
  be : Below w0.heap.size w0 w
theorem LdInv.next {w0 w w' : World} {g k : Nat} {l : List Rw} {es : List Int} {rs : List Rp} (h : LdInv w0 g l k w es rs) (hk : k < l.length) (h6 : k < 6) {r' : Rp} (hlg : LgAt w' g (es.set k l[k].ep) (rs.set k r')) (hr : rab r' = rab l[k].r) (hw : wok (k : Int) l[k]) (hb : Below w0.heap.size w0 w') :
    LdInv w0 g l (k + 1) w' (es.set k l[k].ep) (rs.set k r') := by
  refine ⟨hlg, fun j hj hjk => ?_, hb⟩
  have he := h.lg.le
  have hr6 := h.lg.lr
  by_cases e : j = k
  · subst e
    rw [List.getD_eq_getElem?_getD, List.getD_eq_getElem?_getD, List.getElem?_set_self (by omega), List.getElem?_set_self (by omega)]
    exact ⟨rfl, hr, hw⟩
  · have := h.al j hj (by omega)
    rw [List.getD_eq_getElem?_getD, List.getD_eq_getElem?_getD] at this
    rw [List.getD_eq_getElem?_getD, List.getD_eq_getElem?_getD, List.getElem?_set_ne (by omega), List.getElem?_set_ne (by omega)]
    exact this
theorem LdInv.done {w0 w : World} {g : Nat} {l : List Rw} {es : List Int} {rs : List Rp} (h : LdInv w0 g l 6 w es rs) (hl : l.length = 6) : labs es rs = wabs l ∧ wright l := by
  have he := h.lg.le
  have hr6 := h.lg.lr
  refine ⟨?_, hl, fun j hj => (h.al j hj (by omega)).2.2⟩
  refine List.ext_getElem (by unfold labs wabs; rw [List.length_map, List.length_zip, List.length_map]; omega) (fun j h1 h2 => ?_)
  have hj : j < l.length := by rw [wabs_len] at h2; exact h2
  obtain ⟨a, b, c⟩ := h.al j hj (by omega)
  have hje : j < es.length := by omega
  have hjr : j < rs.length := by omega
  rw [gd_in _ _ hje] at a
  rw [gd_in _ _ hjr] at b
  have c2 := c.rq
  rw [← rab_rq b] at c2
  simp only [labs, wabs, wab, List.getElem_map, List.getElem_zip]
  rw [a, b, c2]
def GivesLd (w : World) (l : List Rw) (e : Ending) (w' : World) : Prop :=
  (wright l ∧ ∃ g es rs, e = .returned (.tuple #[.pointer (some ⟨g, 0, none⟩), .bool true]) ∧ LgAt w' g es rs ∧ labs es rs = wabs l ∧ w.heap.size ≤ g ∧ Below w.heap.size w w') ∨
  (¬ wright l ∧ e = .returned (.tuple #[.pointer none, .bool false]) ∧ Below w.heap.size w w')

set_option maxRecDepth 100000 in
set_option maxHeartbeats 6400000 in
theorem load30_any (A : Option Addr) (n c : Nat) (l : List Rw) (w : World) (h : SeesRw w A n c l) :
    Calls Try.prog 30 #[.slice A n c] w (GivesLd w l) := by
  have hu := Try.underlying26
  have huw := Try.underlying62
  have hHn := h.len
  by_cases h6 : n = 6
  · subst h6
    have HS := Lib.hid h
    have HN := Lib.hid hHn
    clear h hHn
    go_enter Try.func30, Try.ntmps30
    go_wp2_with fail
    refine (lgnew_any _).mono ?_
    rintro e w1 ⟨g, rfl, h1, hg1, hb1⟩
    have HI0 : Hid (LdInv w g l 0 w1 zes zrs) := Lib.hid ⟨h1, fun j _ hj => absurd hj (by omega), hb1⟩
    have HG := Lib.hid hg1
    clear h1 hg1 hb1
    go_wp2_with fail
    go_loopw [13] (fun i wr => ∃ k : Nat, k ≤ 6 ∧ i = .int .i64 (k : Int) ∧ ∃ es rs, Hid (LdInv w g l k wr es rs)) (fun i _ => 6 - (intOf i).toNat)
    case atStart => exact ⟨0, by omega, rfl, _, _, HI0⟩
    case round =>
      clear HI0
      obtain ⟨k, hk, rfl, es, rs, HI⟩ := hrel
      by_cases hlt : k < 6
      · have d0 : decide ((k : Int) < 6) = true := decide_eq_true (by omega)
        have hkl : k < l.length := by rw [HN.out]; exact hlt
        have hnk : ¬ 6 ≤ k := by omega
        obtain ⟨b, o, rfl, _, hg⟩ := HS.out.row k hkl
        have RG := hg wr HI.out.be
        have hokr := HS.out.ok _ (List.getElem_mem hkl)
        have hHNX := fun {w' : World} {r' : Rp} => HI.out.next (w' := w') hkl hlt (r' := r')
        have HNX : Hid (∀ w' r', LgAt w' g (es.set k l[k].ep) (rs.set k r') → rab r' = rab l[k].r → wok (k : Int) l[k] → Below w.heap.size w w' → LdInv w g l (k + 1) w' (es.set k l[k].ep) (rs.set k r')) := Lib.hid (fun w' r' a b c d => HI.out.next hkl hlt a b c d)
        have HNOk : Hid (¬ wok (k : Int) l[k] → ¬ wright l) := Lib.hid (fun hno hw => hno (hw.2 k hkl))
        clear hg hHNX
        generalize l[k] = x at *
        have hlow : farRp g x.r := hokr.1.low g HG.out
        have hHB := HI.out.be
        obtain ⟨TH6, HN6, HBN6⟩ := new_st w.heap.size w wr [.int .i64 0, .int .i64 0, .int .i64 0, .int .i64 0, .int .i64 0, .int .i64 0, .int .i64 0, .int .i64 0, .int .i64 0, .int .i64 0, .slice none 0 0, .int .u32 0] (rwc x) 62 rfl hHB hHB.size
        obtain ⟨b6, hb6⟩ : ∃ b6, b6 = wr.heap.size := ⟨_, rfl⟩
        obtain ⟨W6, hW6⟩ : ∃ W6, W6 = (wr.alloc (.cells #[.int .i64 0, .int .i64 0, .int .i64 0, .int .i64 0, .int .i64 0, .int .i64 0, .int .i64 0, .int .i64 0, .int .i64 0, .int .i64 0, .slice none 0 0, .int .u32 0] 62)).setCells wr.heap.size 0 (rwc x) := ⟨_, rfl⟩
        have hgb : g < wr.heap.size := HI.out.lg.lt
        rw [← hW6] at HN6 HBN6
        rw [← hb6] at HN6 hgb
        have HB6 := Lib.hid (hHB.trans (HBN6.mono hHB.size))
        have HL6 := Lib.hid (HI.out.lg.later HBN6)
        have hok6 := hokr.1.later HB6.out
        have HW6 := Lib.hid hW6
        have HB6E := Lib.hid hb6
        have HONE := Lib.hid (all_oneCell_toArray (rwc_one x))
        have RR0 := HN6.range 0 (rwc x) rfl
        have HK6 := Lib.hid HN6
        have HRW := Lib.hid (lgrow_any (k : Int) x W6 hok6 hokr.2)
        have HCPW : Hid (∀ W, Below w.heap.size w W → Calls Try.prog 57 #[.agg (rpc x.r).toArray] W (GivesRp W (rab x.r))) := Lib.hid (fun W hW => copied_any x.r W (hokr.1.later hW) hokr.2)
        have HGB := Lib.hid hgb
        clear hW6 HN6 HBN6 hok6 hb6 hokr HI hHB hgb hlow
        by_cases hw : wok (k : Int) x
        · rw [decide_eq_true hw] at HRW
          have HWOK := Lib.hid hw
          clear HNOk hw
          go_wp2_with (first
            | (refine wpList_load_mid rfl 62 (.tmp 16) rfl b (o + k * 12) rfl (rwc x) _ RG huw rfl info_row ?_
               simp only [Act.put, List.setIfInBounds_toArray, List.set_cons_zero, List.set_cons_succ])
            | (refine wpList_store_as rfl 62 (.tmp 6) (.tmp 17) rfl wr.heap.size 0 (rwc x).toArray rfl rfl TH6 info_row HONE.out W6 HW6.out ?_
               rw [← HB6E.out])
            | (refine wpList_load_mid rfl 62 (.tmp 6) rfl b6 0 rfl (rwc x) _ RR0 huw rfl info_row ?_
               simp only [Act.put, List.setIfInBounds_toArray, List.set_cons_zero, List.set_cons_succ])
            | fail)
          refine HRW.out.mono ?_
          rintro e w7 ⟨rfl, hb7⟩
          have HB7 := Lib.hid (HB6.out.trans (hb7.mono HB6.out.size))
          have HK7 := Lib.hid (HK6.out.later hb7)
          have HL7 := Lib.hid (HL6.out.later hb7)
          clear hb7 HRW HB6 HK6 HL6 RR0 RG TH6 HW6 HB6E HONE
          obtain ⟨last, ep1, r⟩ := x
          dsimp only at HCPW HNX
          have ca : ∀ kk : LW w7, kk.val.cell? ⟨b6, 1, none⟩ = some (.int .i64 ep1) := fun kk => (HK7.out.later kk.le).cell (j := 1) rfl
          have hnk2 : ¬ (6 : Int) ≤ (k : Int) := by omega
          go_wp2_with fail
          refine wp_region_tail [] 40 7 (by kernel_rfl) (by kernel_rfl) (by kernel_rfl) (by rfl) ?_
          simp only [List.take_succ_cons, List.take_zero, List.drop_succ_cons, List.drop_zero]
          iterate 7 (refine wpG_quiet (by rfl) (by rfl) (by rfl) (fun K hK => ?_); go_big_quiet_op; refine hK _ ?_; clear hK K)
          refine wpG_nil fun wx hl _ => ?_
          have HB8 := Lib.hid (HB7.out.trans (Below.mono hl HB7.out.size))
          have HK8 := Lib.hid (HK7.out.later hl)
          have HL8 := Lib.hid (HL7.out.later hl)
          clear ca hl HB7 HK7 HL7
          have hke : k < es.length := by rw [HL8.out.le]; exact hlt
          have hst := astore_any ⟨g, k, none⟩ ep1 _ wx (HL8.out.epoch k hke) (HL8.out.blk.blk.frozen k)
          have HST := Lib.hid hst
          have hl9 := HL8.out.raise k hke ep1 HWOK.out.2.1
          have hk9 := HK8.out.setOther (b := g) k (.int .i64 ep1) (by have := HGB.out; omega)
          have hb9 := HB8.out.setCell (p := ⟨g, k, none⟩) HG.out (.int .i64 ep1)
          obtain ⟨W9, hW9⟩ : ∃ W9, W9 = wx.setCell ⟨g, k, none⟩ (.int .i64 ep1) := ⟨_, rfl⟩
          rw [← hW9] at hl9 hk9 hb9
          have HL9 := Lib.hid hl9
          have HK9 := Lib.hid hk9
          have HB9 := Lib.hid hb9
          have HW9 := Lib.hid hW9
          clear hst hl9 hk9 hb9 hW9 HB8 HK8 HL8
          go_wp2_with fail
          refine HST.out.mono ?_
          rintro e w9 ⟨rfl, rfl⟩
          rw [← HW9.out]
          clear HST HW9
          go_wp2_with fail
          refine wp_region_tail [(34, relRp W9.heap.size (rab r))] 40 8 (by kernel_rfl) (by kernel_rfl) (by kernel_rfl) (by rfl) ?_
          simp only [List.take_succ_cons, List.take_zero, List.drop_succ_cons, List.drop_zero]
          iterate 3 (refine wpG_quiet (by rfl) (by rfl) (by rfl) (fun K hK => ?_); go_big_quiet_op; refine hK _ ?_; clear hK K)
          refine wpG_run (by rfl) (by rfl) (.agg (rpc r).toArray) (fun wx hl => exec_load 26 (.tmp 32) rfl b6 2 rfl (rpc r) _ ((HK9.out.later hl.1).range 2 (rpc r) rfl) hu rfl info_rp) ?_
          simp only [Act.put, List.setIfInBounds_toArray, List.set_cons_zero, List.set_cons_succ]
          refine wpG_calls (relRp W9.heap.size (rab r)) (by rfl) (by rfl) 57 #[.agg (rpc r).toArray] (by intro _; simp [go_sem]) (fun wx hl => (HCPW.out wx (HB9.out.trans (Below.mono hl.1 HB9.out.size))).mono ?_) ?_
          · rintro e w5 ⟨r5, rfl, a1, a2, a3, a4, a5⟩
            exact ⟨_, rfl, a5, r5, rfl, a1, a2, (fun ad e => Nat.le_trans hl.1.size (a3 ad e)), a4⟩
          rintro _ ⟨_, _, _, ⟨r5, rfl, _⟩⟩
          simp only [Act.put, List.setIfInBounds_toArray, List.set_cons_zero, List.set_cons_succ]
          iterate 3 (refine wpG_quiet (by rfl) (by rfl) (by rfl) (fun K hK => ?_); go_big_quiet_op; refine hK _ ?_; clear hK K)
          refine wpG_nil fun wy hl hS => ?_
          obtain ⟨_, r6, e6, ho, hab, hfar, hn6⟩ := hS
          have e7 : rpc r5 = rpc r6 := by
            have := e6
            simpa using this
          have hby := HB9.out.trans (Below.mono hl HB9.out.size)
          have hLy := HL9.out.later hl
          have hgf : farRp g r6 := fun ad e _ => by
            have h1 := hfar ad e
            have h2 := HL9.out.lt
            omega
          have hkr : k < rs.length := by rw [HL9.out.lr]; exact hlt
          have HF := Lib.hid (HNX.out _ r6 (hLy.put k hkr r6 ho hgf hn6) hab HWOK.out (below_sets HG.out _ _ hby))
          have TH5 := hLy.there k hkr
          have hone5 := all_oneCell_toArray (rpc_one r5)
          have HL5 := Lib.hid (rpc_len r5)
          rw [← e7] at HF
          clear e6 ho hfar hn6 hby hgf hl hLy HNX HCPW HK9 HL9 HB9
          generalize rpc r5 = c5 at *
          refine wpList_store_mid rfl 26 (.tmp 37) (.tmp 34) rfl g (6 + k * 10) c5.toArray (by rfl) (by rfl) (by simpa [HL5.out] using TH5) (by simpa [HL5.out] using info_rp) hone5 ?_
          clear e7 TH5 hone5 HL5
          go_wp2_with fail
          go_roundw
          case rel => exact ⟨k + 1, by omega, by go_num, _, _, HF⟩
          case measure => simp [intOf]; omega
        · rw [decide_eq_false hw] at HRW
          have HNE := Lib.hid (HNOk.out hw)
          clear hw HNOk HNX HCPW
          go_wp2_with (first
            | (refine wpList_load_mid rfl 62 (.tmp 16) rfl b (o + k * 12) rfl (rwc x) _ RG huw rfl info_row ?_
               simp only [Act.put, List.setIfInBounds_toArray, List.set_cons_zero, List.set_cons_succ])
            | (refine wpList_store_as rfl 62 (.tmp 6) (.tmp 17) rfl wr.heap.size 0 (rwc x).toArray rfl rfl TH6 info_row HONE.out W6 HW6.out ?_
               rw [← HB6E.out])
            | (refine wpList_load_mid rfl 62 (.tmp 6) rfl b6 0 rfl (rwc x) _ RR0 huw rfl info_row ?_
               simp only [Act.put, List.setIfInBounds_toArray, List.set_cons_zero, List.set_cons_succ])
            | fail)
          refine HRW.out.mono ?_
          rintro e w7 ⟨rfl, hb7⟩
          have HB7 := Lib.hid (HB6.out.trans (hb7.mono HB6.out.size))
          clear hb7
          go_wp2_with fail
          go_ret2
          exact .inr ⟨HNE.out, rfl, HB7.out⟩
      · obtain rfl : k = 6 := by omega
        have hd := HI.out.done HN.out
        have HD := Lib.hid hd
        clear hd
        go_wp2_with fail
        go_ret2
        exact .inl ⟨HD.out.2, g, es, rs, rfl, HI.out.lg, HD.out.1, HG.out, HI.out.be⟩
  · have b0 : ((n : Int) != 6) = true := by simp; omega
    have HNE : Hid (¬ wright l) := Lib.hid (fun e => h6 (by rw [← hHn, e.1]))
    clear h hHn h6
    go_enter Try.func30, Try.ntmps30
    go_wp2_with fail
    go_ret2
    exact .inr ⟨HNE.out, rfl, Below.refl _ _⟩
end Go.Proofs.Ytadmaalhhigbeaa

/- Ledger: LedgerLoads' walk. -/
namespace Go.Proofs.Ytadmaalhhigbeaa
set_option linter.unusedVariables false
set_option linter.unusedSimpArgs false
open Go Go.RowKit ValM

/-- Rows as they lie, with filters of any size. -/
structure SeesWd (w : World) (A : Option Addr) (n c : Nat) (l : List Rw) : Prop where
  len : l.length = n
  cap : n ≤ c
  max : c ≤ maxLen
  see : Sees w w.heap.size A (rws rwc l)
  ok : ∀ x ∈ l, okRp w x.r
theorem SeesWd.later {w w' : World} {A : Option Addr} {n c : Nat} {l : List Rw} (h : SeesWd w A n c l) (hb : Below w.heap.size w w') : SeesWd w' A n c l :=
  ⟨h.len, h.cap, h.max, (h.see.below hb).more hb.size, fun x hx => (h.ok x hx).later hb⟩
theorem SeesWd.row {w : World} {A : Option Addr} {n c : Nat} {l : List Rw} (h : SeesWd w A n c l) (k : Nat) (hk : k < l.length) :
    ∃ b o, A = some ⟨b, o, none⟩ ∧ b < w.heap.size ∧ ∀ W, Below w.heap.size w W → W.rangeAt b (o + k * 12) (rwc l[k]) := by
  obtain ⟨b, o, e, hb, _⟩ := sees_rw (f := rwc) (sz := 12) (rwc_len l) h.see (by decide) k hk
  refine ⟨b, o, e, hb, fun W hW => ?_⟩
  obtain ⟨b', o', e', _, hr⟩ := sees_rw (f := rwc) (sz := 12) (rwc_len l) ((h.later hW).see) (by decide) k hk
  rw [e] at e'
  cases e'
  exact hr
theorem small_n {w : World} {r : Rp} (h : okRp w r) (hb : lbig r.f = false) : r.n ≤ 65536 := by
  unfold lbig at hb
  rw [Bool.or_eq_false_iff] at hb
  have h1 := of_decide_eq_false hb.1
  rw [← h.len]
  omega
theorem SeesWd.small {w : World} {A : Option Addr} {n c : Nat} {l : List Rw} (h : SeesWd w A n c l) (hs : ∀ j (hj : j < l.length), lbig l[j].r.f = false) : SeesRw w A n c l :=
  ⟨h.len, h.cap, h.max, h.see, fun x hx => ⟨h.ok x hx, by
    obtain ⟨j, hj, rfl⟩ := List.mem_iff_getElem.1 hx
    exact small_n (h.ok _ hx) (hs j hj)⟩⟩
theorem PInv.loaded {w0 w1 w2 : World} {g c : Nat} {A : Option Addr} {l : List Rw} {es : List Int} {rs : List Rp} (h0 : SeesRw w0 A 6 c l) (h1 : Below w0.heap.size w0 w1) (hlg : LgAt w2 g es rs) (he : labs es rs = wabs l) (hg : w1.heap.size ≤ g) (h2 : Below w1.heap.size w1 w2) :
    PInv w0 g w2 es rs A c l := by
  have hb := h1.trans (h2.mono h1.size)
  have hgg : w0.heap.size ≤ g := Nat.le_trans h1.size hg
  refine ⟨hlg, h0.later hb, he.symm, fun ad e => ?_, fun x hx => (h0.ok x hx).1.low g hgg, hb, hgg⟩
  obtain ⟨b, o, e2, hlt, _⟩ := h0.get 0 (by rw [h0.len]; decide)
  rw [e] at e2
  cases e2
  show b ≠ g
  omega

set_option maxRecDepth 100000 in
set_option maxHeartbeats 6400000 in
theorem walk_lloads (A : Option Addr) (n c : Nat) (l : List Rw) (r : Rp) (w : World) (h : SeesWd w A n c l) (hr : okRp w r) :
    Calls Try.prog 5 #[.slice A n c, .agg (rpc r).toArray] w fun e w' => e = .returned (.bool true) ∧ Below w.heap.size w w' := by
  have hu := Try.underlying26
  obtain ⟨W0, hW0⟩ : ∃ W0, W0 = w.alloc (.cells (rpc r).toArray 26) := ⟨_, rfl⟩
  have HB0 : Hid (Below w.heap.size w W0) := Lib.hid (by rw [hW0]; exact below_a1 _ _)
  have HK0 : Hid (Blk W0 w.heap.size (rpc r)) := Lib.hid (by rw [hW0]; exact Blk.new _ _ _)
  have HS := Lib.hid h
  have HN := Lib.hid h.len
  have HR := Lib.hid hr
  have HLG := Lib.hid (nlarge_any r.A r.n r.c r.f W0 W0.heap.size hr.len (hr.later HB0.out).see)
  obtain ⟨kd, dv, rq, cd, id, vr, sq, ep, FA, fn, fc, f, ms⟩ := r
  dsimp only [rpc] at hW0 HK0 HLG ⊢
  have HW0 := Lib.hid hW0
  clear h hr hW0
  by_cases h20 : 20 < n
  · have d20 : decide ((20 : Int) < (n : Int)) = true := decide_eq_true (by omega)
    clear h20 HLG
    go_enter Try.func5, Try.ntmps5
    go_wp2_with fail
    rw [← HW0.out]
    refine (lg_awake _).mono ?_
    rintro e wa ⟨rfl, hba⟩
    have HBA := Lib.hid (HB0.out.trans (hba.mono HB0.out.size))
    clear hba
    go_wp2_with fail
    go_ret
    exact ⟨rfl, HBA.out⟩
  · have d20 : decide ((20 : Int) < (n : Int)) = false := decide_eq_false (by omega)
    go_enter Try.func5, Try.ntmps5
    go_wp2_with fail
    rw [← HW0.out]
    refine HLG.out.mono ?_
    rintro e w1 ⟨rfl, rfl⟩
    clear HLG
    by_cases hbig : lbig f = true
    · rw [hbig]
      clear hbig
      go_wp2_with fail
      refine (lg_awake _).mono ?_
      rintro e wa ⟨rfl, hba⟩
      have HBA := Lib.hid (HB0.out.trans (hba.mono HB0.out.size))
      clear hba
      go_wp2_with fail
      go_ret
      exact ⟨rfl, HBA.out⟩
    · have hbig : lbig f = false := by simpa using hbig
      rw [hbig]
      have hnf : fn ≤ 65536 := small_n HR.out hbig
      clear hbig
      go_wp2_with fail
      go_loopw [5] (fun i wr => ∃ k : Nat, k ≤ n ∧ i = .int .i64 (k : Int) ∧ Hid (∀ j (hj : j < l.length), j < k → lbig l[j].r.f = false) ∧ Hid (Below W0.heap.size W0 wr)) (fun i _ => n - (intOf i).toNat)
      case atStart => exact ⟨0, by omega, rfl, Lib.hid (fun j _ hj => absurd hj (by omega)), Lib.hid (Below.refl _ _)⟩
      case round =>
        obtain ⟨k, hk, rfl, HP, HB⟩ := hrel
        have HBW := Lib.hid (HB0.out.trans (HB.out.mono HB0.out.size))
        have d1 : decide ((k : Int) < (n : Int)) = decide (k < n) := decide_eq_decide.2 (by omega)
        by_cases hlt : k < n
        · have d0 : decide ((k : Int) < (n : Int)) = true := decide_eq_true (by omega)
          have hkl : k < l.length := by rw [HN.out]; exact hlt
          have hnk : ¬ n ≤ k := by omega
          obtain ⟨b, o, rfl, _, hg⟩ := HS.out.row k hkl
          have hokr := (HS.out.ok _ (List.getElem_mem hkl)).later HBW.out
          have kc := hg wr HBW.out 10 (.slice l[k].r.A l[k].r.n l[k].r.c) rfl
          have HLG := Lib.hid (nlarge_any l[k].r.A l[k].r.n l[k].r.c l[k].r.f wr wr.heap.size hokr.len hokr.see)
          have HNX : Hid (lbig l[k].r.f = false → Hid (∀ j (hj : j < l.length), j < k + 1 → lbig l[j].r.f = false)) := Lib.hid (fun e => Lib.hid (fun j hj hjk => by
            by_cases ej : j = k
            · subst ej; exact e
            · exact HP.out j hj (by omega)))
          clear hg hokr HP
          generalize l[k].r = x at *
          go_wp2_with fail
          refine HLG.out.mono ?_
          rintro e w2 ⟨rfl, rfl⟩
          clear HLG
          by_cases hbig : lbig x.f = true
          · rw [hbig]
            clear hbig
            go_wp2_with fail
            refine (lg_awake _).mono ?_
            rintro e wa ⟨rfl, hba⟩
            have HBA := Lib.hid (HBW.out.trans (hba.mono HBW.out.size))
            clear hba
            go_wp2_with fail
            go_ret
            exact ⟨rfl, HBA.out⟩
          · have hbig : lbig x.f = false := by simpa using hbig
            rw [hbig]
            have HX := HNX.out hbig
            clear hbig HNX kc
            go_wp2_with fail
            go_roundw
            case rel => exact ⟨k + 1, by omega, by go_num, HX, HB⟩
            case measure => simp [intOf]; omega
        · have hs := (HS.out.later HBW.out).small (fun j hj => HP.out j hj (by have := HN.out; omega))
          have hs0 := HS.out.small (fun j hj => HP.out j hj (by have := HN.out; omega))
          have HSR := Lib.hid hs
          have HSR0 := Lib.hid hs0
          have d0 : decide ((k : Int) < (n : Int)) = false := decide_eq_false (by omega)
          clear hs hs0 HP hk
          go_wp2_with fail
          refine (load30_any A n c l _ HSR.out).mono ?_
          rintro e w2 hld
          rcases hld with ⟨hri, g, es, rs, rfl, hlg, hlab, hgw, hb2⟩ | ⟨hri, rfl, hb2⟩
          · have HB2 := Lib.hid (HBW.out.trans (hb2.mono HBW.out.size))
            have hn6 : n = 6 := by have := hri.1; have := HN.out; omega
            subst hn6
            have HI2 := Lib.hid (PInv.loaded HSR0.out HBW.out hlg hlab hgw hb2)
            have HK2 := Lib.hid ((HK0.out.later HB.out).later hb2)
            have hrt := rright_any A 6 c l w2 (HSR.out.later hb2)
            rw [decide_eq_true hri] at hrt
            have HRT := Lib.hid hrt
            clear hlg hlab hgw hb2 hrt hri HB
            go_wp2_with fail
            refine HRT.out.mono ?_
            rintro e w3 ⟨rfl, hb3⟩
            have HI3 := Lib.hid (HI2.out.later hb3)
            have HK3 := Lib.hid (HK2.out.later hb3)
            clear hb3 HRT HI2 HK2
            go_wp2_with fail
            refine (lgdata_any g es rs _ HI3.out.lg).mono ?_
            rintro e wd ⟨AD, nd, cdd, ld, rfl, hsd, hld, hbd⟩
            obtain rfl : nd = 6 := by
              have h1 := congrArg List.length hld
              rw [wabs_len, labs_len HI3.out.hl, HI3.out.lg.lr, hsd.len] at h1
              exact h1
            have HI4 := Lib.hid (HI3.out.later hbd)
            have HK4 := Lib.hid (HK3.out.later hbd)
            have hrw := rrows_any AD 6 cdd ld A 6 c l wd hsd HI4.out.sr (by omega)
            rw [decide_eq_true (hld.trans HI4.out.eq.symm)] at hrw
            have HRW := Lib.hid hrw
            clear hrw hsd hld hbd HI3 HK3
            go_wp2_with fail
            refine HRW.out.mono ?_
            rintro e we ⟨rfl, hbe⟩
            have HI5 := Lib.hid (HI4.out.later hbe)
            have hk5 := HK4.out.later hbe
            have RG5 := hk5.range 0 [.int .i64 kd, .int .i64 dv, .int .i64 rq, .int .i64 cd, .int .i64 id, .int .i64 vr, .int .i64 sq, .int .i64 ep, .slice FA fn fc, .int .u32 (ms.toNat : Int)] rfl
            have HK5 := Lib.hid hk5
            clear hbe HRW HI4 HK4 hk5
            by_cases hnote : acod rs dv rq = 0 ∧ rok ⟨kd, dv, rq, cd, id, vr, sq, ep, FA, fn, fc, f, ms⟩
            · have HNL := Lib.hid (rlnote_yes A c l ⟨kd, dv, rq, cd, id, vr, sq, ep, FA, fn, fc, f, ms⟩ we HI5.out.sr (HR.out.later HI5.out.be) hnf hnote.2 (by rw [HI5.out.eq, ← acod_wcod HI5.out.hl]; exact hnote.1))
              have HNT : Hid (∀ W, LgAt W g es rs → okRp W ⟨kd, dv, rq, cd, id, vr, sq, ep, FA, fn, fc, f, ms⟩ → Calls Try.prog 25 #[.pointer (some ⟨g, 0, none⟩), .agg #[.int .i64 kd, .int .i64 dv, .int .i64 rq, .int .i64 cd, .int .i64 id, .int .i64 vr, .int .i64 sq, .int .i64 ep, .slice FA fn fc, .int .u32 (ms.toNat : Int)]] W fun e w' => e = .returned (.bool true) ∧ (∃ r', rab r' = rab ⟨kd, dv, rq, cd, id, vr, sq, ep, FA, fn, fc, f, ms⟩ ∧ LgAt w' g es (rs.set dv.toNat r') ∧ ∀ ad, r'.A = some ad → W.heap.size ≤ ad.block) ∧ W.grownBy w' (some g)) := Lib.hid (fun W h1 h2 => lgnote_yes g es rs ⟨kd, dv, rq, cd, id, vr, sq, ep, FA, fn, fc, f, ms⟩ W h1 h2 hnf hnote.1 hnote.2)
              clear hnote
              go_wp2_with (first
                | (refine wpList_load_g (by rfl) 26 (.tmp 3) rfl w.heap.size 0 rfl [.int .i64 kd, .int .i64 dv, .int .i64 rq, .int .i64 cd, .int .i64 id, .int .i64 vr, .int .i64 sq, .int .i64 ep, .slice FA fn fc, .int .u32 (ms.toNat : Int)] _ RG5 hu rfl info_rp ?_
                   simp only [Act.put, List.setIfInBounds_toArray, List.set_cons_zero, List.set_cons_succ])
                | fail)
              refine HNL.out.mono ?_
              rintro e w7 ⟨A5, c5, rfl, hs5, hA5, hb5⟩
              have HNT := Lib.hid (HNT.out w7 (HI5.out.lg.later hb5) ((HR.out.later HI5.out.be).later hb5))
              have RG7 := (HK5.out.later hb5).range 0 [.int .i64 kd, .int .i64 dv, .int .i64 rq, .int .i64 cd, .int .i64 id, .int .i64 vr, .int .i64 sq, .int .i64 ep, .slice FA fn fc, .int .u32 (ms.toNat : Int)] rfl
              have HNX : Hid (∀ w8 r', LgAt w8 g es (rs.set dv.toNat r') → rab r' = rab ⟨kd, dv, rq, cd, id, vr, sq, ep, FA, fn, fc, f, ms⟩ → w7.grownBy w8 (some g) → PInv w g w8 es (rs.set dv.toNat r') A5 c5 (l.set dv.toNat ⟨rq, (l.getD dv.toNat ⟨0, 0, zrp⟩).ep, ⟨kd, dv, rq, cd, id, vr, sq, ep, FA, fn, fc, f, ms⟩⟩)) := Lib.hid (fun w8 r' h8 he hg8 => HI5.out.noted (r := ⟨kd, dv, rq, cd, id, vr, sq, ep, FA, fn, fc, f, ms⟩) (HR.out.low g HI5.out.hg) hs5 hA5 hb5 h8 he hg8)
              clear hs5 hA5 hb5 HNL HK5 RG5
              go_wp2_with (first
                | (refine wpList_load_g (by rfl) 26 (.tmp 3) rfl w.heap.size 0 rfl [.int .i64 kd, .int .i64 dv, .int .i64 rq, .int .i64 cd, .int .i64 id, .int .i64 vr, .int .i64 sq, .int .i64 ep, .slice FA fn fc, .int .u32 (ms.toNat : Int)] _ RG7 hu rfl info_rp ?_
                   simp only [Act.put, List.setIfInBounds_toArray, List.set_cons_zero, List.set_cons_succ])
                | fail)
              refine HNT.out.mono ?_
              rintro e w8 ⟨rfl, ⟨r', hab', h8, hfar'⟩, hg8⟩
              have HI7 := Lib.hid (HNX.out w8 r' h8 hab' hg8)
              clear h8 hg8 HNX HNT RG7 hab' hfar'
              clear HSR HSR0 HN HS
              generalize rs.set dv.toNat r' = rs at *
              generalize l.set dv.toNat ⟨rq, (l.getD dv.toNat ⟨0, 0, zrp⟩).ep, ⟨kd, dv, rq, cd, id, vr, sq, ep, FA, fn, fc, f, ms⟩⟩ = l at *
              clear HI5
              go_wp2_with fail
              refine (lgdata_any g es rs _ HI7.out.lg).mono ?_
              rintro e wd ⟨AD, nd, cdd, ld, rfl, hsd, hld, hbd⟩
              obtain rfl : nd = 6 := by
                have h1 := congrArg List.length hld
                rw [wabs_len, labs_len HI7.out.hl, HI7.out.lg.lr, hsd.len] at h1
                exact h1
              have HI8 := Lib.hid (HI7.out.later hbd)
              have hrw := rrows_any AD 6 cdd ld A5 6 c5 l wd hsd HI8.out.sr (by omega)
              rw [decide_eq_true (hld.trans HI8.out.eq.symm)] at hrw
              have HRW := Lib.hid hrw
              clear hrw hsd hld hbd HI7
              go_wp2_with fail
              refine HRW.out.mono ?_
              rintro e we ⟨rfl, hbe⟩
              have HI9 := Lib.hid (HI8.out.later hbe)
              clear hbe HRW HI8
              go_wp2_with fail
              refine (lg_awake _).mono ?_
              rintro e wa ⟨rfl, hba⟩
              have HBA := Lib.hid (HI9.out.be.trans (hba.mono HI9.out.be.size))
              clear hba
              go_wp2_with fail
              go_ret
              exact ⟨rfl, HBA.out⟩
            · have HNL := Lib.hid (rlnote_no A c l ⟨kd, dv, rq, cd, id, vr, sq, ep, FA, fn, fc, f, ms⟩ we HI5.out.sr (HR.out.later HI5.out.be) hnf (by rw [HI5.out.eq, ← acod_wcod HI5.out.hl]; exact fun h => hnote ⟨h.2, h.1⟩))
              have HNT : Hid (∀ W, LgAt W g es rs → okRp W ⟨kd, dv, rq, cd, id, vr, sq, ep, FA, fn, fc, f, ms⟩ → Calls Try.prog 25 #[.pointer (some ⟨g, 0, none⟩), .agg #[.int .i64 kd, .int .i64 dv, .int .i64 rq, .int .i64 cd, .int .i64 id, .int .i64 vr, .int .i64 sq, .int .i64 ep, .slice FA fn fc, .int .u32 (ms.toNat : Int)]] W fun e w' => e = .returned (.bool false) ∧ Below W.heap.size W w') := Lib.hid (fun W h1 h2 => lgnote_no g es rs ⟨kd, dv, rq, cd, id, vr, sq, ep, FA, fn, fc, f, ms⟩ W h1 h2 hnf hnote)
              clear hnote
              go_wp2_with (first
                | (refine wpList_load_g (by rfl) 26 (.tmp 3) rfl w.heap.size 0 rfl [.int .i64 kd, .int .i64 dv, .int .i64 rq, .int .i64 cd, .int .i64 id, .int .i64 vr, .int .i64 sq, .int .i64 ep, .slice FA fn fc, .int .u32 (ms.toNat : Int)] _ RG5 hu rfl info_rp ?_
                   simp only [Act.put, List.setIfInBounds_toArray, List.set_cons_zero, List.set_cons_succ])
                | fail)
              refine HNL.out.mono ?_
              rintro e w7 ⟨rfl, hb5⟩
              have HNT := Lib.hid (HNT.out w7 (HI5.out.lg.later hb5) ((HR.out.later HI5.out.be).later hb5))
              have RG7 := (HK5.out.later hb5).range 0 [.int .i64 kd, .int .i64 dv, .int .i64 rq, .int .i64 cd, .int .i64 id, .int .i64 vr, .int .i64 sq, .int .i64 ep, .slice FA fn fc, .int .u32 (ms.toNat : Int)] rfl
              have HI6 := Lib.hid (HI5.out.later hb5)
              clear hb5 HNL HK5 RG5 HI5
              go_wp2_with (first
                | (refine wpList_load_g (by rfl) 26 (.tmp 3) rfl w.heap.size 0 rfl [.int .i64 kd, .int .i64 dv, .int .i64 rq, .int .i64 cd, .int .i64 id, .int .i64 vr, .int .i64 sq, .int .i64 ep, .slice FA fn fc, .int .u32 (ms.toNat : Int)] _ RG7 hu rfl info_rp ?_
                   simp only [Act.put, List.setIfInBounds_toArray, List.set_cons_zero, List.set_cons_succ])
                | fail)
              refine HNT.out.mono ?_
              rintro e w8 ⟨rfl, hb8⟩
              have HI7 := Lib.hid (HI6.out.later hb8)
              clear hb8 HNT RG7 HI6
              go_wp2_with fail
              refine (lgdata_any g es rs _ HI7.out.lg).mono ?_
              rintro e wd ⟨AD, nd, cdd, ld, rfl, hsd, hld, hbd⟩
              obtain rfl : nd = 6 := by
                have h1 := congrArg List.length hld
                rw [wabs_len, labs_len HI7.out.hl, HI7.out.lg.lr, hsd.len] at h1
                exact h1
              have HI8 := Lib.hid (HI7.out.later hbd)
              have hrw := rrows_any AD 6 cdd ld A 6 c l wd hsd HI8.out.sr (by omega)
              rw [decide_eq_true (hld.trans HI8.out.eq.symm)] at hrw
              have HRW := Lib.hid hrw
              clear hrw hsd hld hbd HI7
              go_wp2_with fail
              refine HRW.out.mono ?_
              rintro e we ⟨rfl, hbe⟩
              have HI9 := Lib.hid (HI8.out.later hbe)
              clear hbe HRW HI8
              go_wp2_with fail
              refine (lg_awake _).mono ?_
              rintro e wa ⟨rfl, hba⟩
              have HBA := Lib.hid (HI9.out.be.trans (hba.mono HI9.out.be.size))
              clear hba
              go_wp2_with fail
              go_ret
              exact ⟨rfl, HBA.out⟩
          · have HB2 := Lib.hid (HBW.out.trans (hb2.mono HBW.out.size))
            have hrt := rright_any A n c l w2 (HSR.out.later hb2)
            rw [decide_eq_false hri] at hrt
            have HRT := Lib.hid hrt
            clear hb2 hrt hri
            go_wp2_with fail
            refine HRT.out.mono ?_
            rintro e w3 ⟨rfl, hb3⟩
            have HB3 := Lib.hid (HB2.out.trans (hb3.mono HB2.out.size))
            clear hb3 HRT
            go_wp2_with fail
            refine (lg_awake _).mono ?_
            rintro e wa ⟨rfl, hba⟩
            have HBA := Lib.hid (HB3.out.trans (hba.mono HB3.out.size))
            clear hba
            go_wp2_with fail
            go_ret
            exact ⟨rfl, HBA.out⟩
end Go.Proofs.Ytadmaalhhigbeaa

/- Ledger: what the frame gives of rows, and of an answer. -/
namespace Go.Proofs.Ytadmaalhhigbeaa
set_option linter.unusedVariables false
open Go Go.RowKit Go.Deep Go.ChangeShapes Go.WideShapes Go.ChangeAt

instance : Inhabited Rw := ⟨⟨0, 0, zrp⟩⟩

section
variable {H : Type} {enc : TypeId × Value → H} {W : World}
set_option maxRecDepth 100000 in
theorem open_rp30 {r : Reach} {base : Nat} {v : Value} {d : DataW H} {ps : List MemPlace}
    (hv : Value.okWide Try.prog W r base 26 v) (h : DataW.Trod enc Try.prog W 0 (fun _ => true) true 26 v d ps) :
    ∃ a : Rp, v = .agg (rpc a).toArray ∧ okRp W a := by
  simp only [Value.okWide, Try.underlying26] at hv
  obtain ⟨cs, rfl, hrest⟩ := hv
  obtain ⟨fuel, hf⟩ := h
  obtain ⟨a, e, ok⟩ := trod_rp (cs := cs.toList) (by simpa [Value.cells] using hf)
  exact ⟨a, by rw [← e], ok⟩
set_option maxRecDepth 100000 in
theorem trod_rw {fuel : Nat} {cs : List Value} {x : DataW H × List MemPlace} (h : DataW.trod enc Try.prog W 0 (fun _ => true) true fuel 62 cs = some x) : ∃ a : Rw, cs = rwc a ∧ okRp W a.r := by
  obtain ⟨y0, y1, y2, m, _, hl, h0, h1, h2⟩ := Go.Deep.trod_struct3 Try.underlying62 h
  have c1 : Try.prog.cellsOf 3 = 1 := by kernel_rfl
  have c10 : Try.prog.cellsOf 26 = 10 := by kernel_rfl
  have c12 : Try.prog.cellsOf 62 = 12 := by kernel_rfl
  rw [c12] at hl
  simp only [c1] at h0 h1
  simp only [c10] at h2
  obtain ⟨a, e0, _, _⟩ := DataW.trod_int Try.underlying3 h0
  obtain ⟨b, e1, _, _⟩ := DataW.trod_int Try.underlying3 h1
  obtain ⟨r, e2, ok⟩ := trod_rp h2
  refine ⟨⟨a, b, r⟩, ?_, ok⟩
  match cs, hl with
  | z0 :: z1 :: zs, hl =>
    have f0 : z0 = .int .i64 a := by simpa using e0
    have f1 : z1 = .int .i64 b := by simpa using e1
    have f2 : zs = rpc r := by
      have hz : zs.length = 10 := by simpa using hl
      have e3 : zs.take 10 = rpc r := by simpa using e2
      rwa [List.take_of_length_le (by omega)] at e3
    rw [f0, f1, f2]
    rfl
set_option maxRecDepth 100000 in
theorem open_rws30 {r : Reach} {base : Nat} {v : Value} {d : DataW H} {ps : List MemPlace}
    (hv : Value.okWide Try.prog W r base 47 v) (h : DataW.Trod enc Try.prog W 0 (fun _ => true) true 47 v d ps) :
    ∃ A n c, ∃ l : List Rw, v = .slice A n c ∧ SeesWd W A n c l := by
  obtain ⟨A, n, c, l, e, hnc, hcm, hln, hok, hs⟩ := open_rows (f := rwc) (sz := 12) (ok := fun a => okRp W a.r) Try.underlying47 (by kernel_rfl) (by decide) (fun _ _ => rfl) (fun n cs x h => trod_rw h) hv h
  exact ⟨A, n, c, l, e, hln, hnc, hcm, hs, hok⟩
end
end Go.Proofs.Ytadmaalhhigbeaa

/- LedgerLoads: which rows may be loaded, and what they are then, is the document's: for every input. No condition. -/
namespace Go.Proofs.Ytadmaalhhigbeaa
set_option linter.unusedVariables false
open Go.ChangeShapes Go.WideShapes Go.ChangeAt Go.RowKit

set_option maxRecDepth 100000 in
theorem ledgerLoads_lifted (os : Os) (started : os.Started) (H : Type) (enc : TypeId × Value → H) :
    ReturnsInHanded {} Try.checked os 5 .any (Rows.ledgerLoadsSpec.pre6 enc Try.prog Try.f5 Rows.ledgerLoadsRow.domain false)
      (Rows.ledgerLoadsSpec.post enc Try.prog Try.f5 false true false false) := by
  refine returnsInHanded_of_change (C := Try.checked) own started (by kernel_rfl) Try.func5
    (ChangeSpec.witness6 (enc := enc) (C := Try.checked) false ⟨#[], #[.slice none 0 0, .agg #[.int .i64 0, .int .i64 0, .int .i64 0, .int .i64 0, .int .i64 0, .int .i64 0, .int .i64 0, .int .i64 0, .slice none 0 0, .int .u32 0]], []⟩ 8 (by kernel_rfl) (by kernel_rfl) (by kernel_rfl) (by kernel_rfl)) ?_
  intro W base args ds gs before hval hW _ _
  have hW' := hW
  obtain ⟨p, q, hA, hV, rfl, hfz, hnd⟩ := hW
  rw [Try.params5] at hA hval
  obtain ⟨v0, vs0, d0, ds0, p0, q0, hargs, rfl, rfl, h0, r0⟩ := trodAll_cons hA
  obtain ⟨v1, vs1, d1, ds1, p1, q1, rfl, rfl, rfl, h1, r1⟩ := trodAll_cons r0
  obtain ⟨rfl, rfl, rfl⟩ := trodAll_nil r1
  obtain rfl : args = #[v0, v1] := by cases args; simp_all
  obtain ⟨A0, n0, c0, l0, rfl, hs0⟩ := open_rws30 (hval 0 47 v0 rfl rfl) h0
  obtain ⟨a1, rfl, hs1⟩ := open_rp30 (hval 1 26 v1 rfl rfl) h1
  refine (walk_lloads A0 n0 c0 l0 a1 W hs0 hs1).mono fun e W' ⟨he, hb⟩ => ?_
  subst he
  exact ⟨_, rfl, law_post laidOut (by intro t ht; revert t ht; decide +kernel) rfl rfl boolT rfl hW' hb⟩

theorem LedgerLoads_holds : Rows.LedgerLoadsSaid :=
  OpenClaim.holds_of_wide 5 Try.f5 rfl rfl rfl rfl rfl rfl rfl ⟨rfl, rfl, rfl, rfl, rfl⟩ rfl rfl rfl rfl rfl (by kernel_rfl) Try.func5 (by kernel_rfl)
    (of_decide_eq_true (by kernel_rfl)) (by unfold Func.isWrapper; first | (rw [if_pos (by decide +kernel)]; kernel_rfl) | (rw [if_neg (by decide +kernel)]; exact ⟨rfl, rfl⟩))
    (fun os started H enc _ => ledgerLoads_lifted os started H enc)
end Go.Proofs.Ytadmaalhhigbeaa
