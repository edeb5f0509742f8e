/- Ledger: the ledger as it lies; New, copied. -/
import Derived.Test.YtadmaalhhigbeaaW8
import Derived.Test.YtadmaalhhigbeaaW4
import Derived.Test.YtadmaalhhigbeaaW20
import Derived.Laws.LoneSync
namespace Go.Proofs.Ytadmaalhhigbeaa
set_option linter.unusedVariables false
set_option linter.unusedSimpArgs false
open Go Go.RowKit ValM

theorem row_capm {w : World} {base : Nat} {e : TypeId} {size n c : Nat} {A : Option Addr} {xs : List Value} (h : w.ownsRow base e size (.slice A n c) n xs) : n ≤ c ∧ c ≤ maxLen := by
  rcases h.2 with ⟨e, h0⟩ | ⟨g, cap, cur, e, hx⟩
  · cases e; exact ⟨by omega, by simp [maxLen]⟩
  · cases e; exact ⟨hx.2.2.1, hx.2.2.2.1⟩
/-- An answer's filter lies in another block. -/
def farRp (g : Nat) (r : Rp) : Prop := ∀ ad, r.A = some ad → 0 < r.n → ad.block ≠ g
theorem okRp.pos {w : World} {r : Rp} (h : okRp w r) (hx : 0 < (ncs r.f).length) : 0 < r.n := by
  rw [ncs_len] at hx
  have := h.len
  omega
theorem farRp.zero (g : Nat) : farRp g zrp := fun ad e _ => by cases e
theorem okRp.store {w : World} {g o : Nat} {vs : List Value} {r : Rp} (h : okRp w r) (hf : farRp g r) : okRp (w.setCells g o vs) r := by
  refine ⟨h.len, h.cap, h.max, fun hx => ?_⟩
  obtain ⟨b, o', e, hb, hc⟩ := h.see hx
  refine ⟨b, o', e, by rw [size_sets]; exact hb, fun j hj => ?_⟩
  rw [World.cell?_setCells_out g vs o w ⟨b, o' + j, none⟩ (fun h2 _ => absurd h2 (hf ⟨b, o', none⟩ e (h.pos hx)))]
  exact hc j hj
/-- A ledger: what it has counted of epochs, and each device's last answer. -/
structure LgAt (w : World) (g : Nat) (es : List Int) (rs : List Rp) : Prop where
  blk : BT w g (es.map (Value.int .i64) ++ rws rpc rs) 99
  le : es.length = 6
  lr : rs.length = 6
  er : ∀ e ∈ es, 0 ≤ e ∧ e ≤ 1099511627776
  ok : ∀ r ∈ rs, okRp w r ∧ farRp g r ∧ r.n ≤ 65536
theorem LgAt.later {w w' : World} {g : Nat} {es : List Int} {rs : List Rp} (h : LgAt w g es rs) (hb : Below w.heap.size w w') : LgAt w' g es rs :=
  ⟨h.blk.later hb, h.le, h.lr, h.er, fun r hr => ⟨(h.ok r hr).1.later hb, (h.ok r hr).2⟩⟩
theorem LgAt.lt {w : World} {g : Nat} {es : List Int} {rs : List Rp} (h : LgAt w g es rs) : g < w.heap.size := h.blk.lt
theorem lg_es (es : List Int) (rs : List Rp) (k : Nat) (hk : k < es.length) : (es.map (Value.int .i64) ++ rws rpc rs)[k]? = some (.int .i64 es[k]) := by
  rw [List.getElem?_append_left (by simpa using hk)]
  simp [hk]
theorem lg_rs (es : List Int) (rs : List Rp) (he : es.length = 6) (k : Nat) (hk : k < rs.length) (j : Nat) (v : Value) (hj : (rpc rs[k])[j]? = some v) : (es.map (Value.int .i64) ++ rws rpc rs)[6 + k * 10 + j]? = some v := by
  rw [List.getElem?_append_right (by simp; omega)]
  have := rws_at (f := rpc) (sz := 10) rs (fun x _ => rpc_len x) k hk j v hj
  rw [← this]
  congr 1
  simp
  omega
theorem LgAt.cell {w : World} {g : Nat} {es : List Int} {rs : List Rp} (h : LgAt w g es rs) (k : Nat) (hk : k < rs.length) (j : Nat) (v : Value) (hj : (rpc rs[k])[j]? = some v) : w.cell? ⟨g, 6 + k * 10 + j, none⟩ = some v :=
  h.blk.blk.cell (lg_rs es rs h.le k hk j v hj)
theorem LgAt.range {w : World} {g : Nat} {es : List Int} {rs : List Rp} (h : LgAt w g es rs) (k : Nat) (hk : k < rs.length) : w.rangeAt g (6 + k * 10) (rpc rs[k]) := fun j v hj => h.cell k hk j v hj
theorem LgAt.epoch {w : World} {g : Nat} {es : List Int} {rs : List Rp} (h : LgAt w g es rs) (k : Nat) (hk : k < es.length) : w.cell? ⟨g, k, none⟩ = some (.int .i64 es[k]) :=
  h.blk.blk.cell (lg_es es rs k hk)
theorem LgAt.there {w : World} {g : Nat} {es : List Int} {rs : List Rp} (h : LgAt w g es rs) (k : Nat) (hk : k < rs.length) : w.there g (6 + k * 10) 10 :=
  h.blk.blk.there _ _ (by rw [List.length_append, List.length_map, rws_len _ (fun x _ => rpc_len x), h.le, h.lr]; have := h.lr; omega)

def zes : List Int := [0, 0, 0, 0, 0, 0]
def zrs : List Rp := [zrp, zrp, zrp, zrp, zrp, zrp]
set_option maxRecDepth 100000 in
set_option maxHeartbeats 1600000 in
theorem lgnew_any (w : World) : Calls Try.prog 20 #[] w fun e w' => ∃ g, e = .returned (.pointer (some ⟨g, 0, none⟩)) ∧ LgAt w' g zes zrs ∧ w.heap.size ≤ g ∧ Below w.heap.size w w' := by
  go_enter Try.func20, Try.ntmps20
  go_wp2_with fail
  go_ret
  refine ⟨_, rfl, ⟨BT.new w (zes.map (Value.int .i64) ++ rws rpc zrs) _, rfl, rfl, by simp [zes], fun r hr => ?_⟩, Nat.le_refl _, below_a1 _ _⟩
  have : r = zrp := by simp [zrs] at hr; exact hr
  subst this
  exact ⟨okRp.zero _, farRp.zero _, by simp [zrp]⟩

/-- An answer with its filter in memory of the call's own. -/
def GivesRp (w : World) (q : Rq) (e : Ending) (w' : World) : Prop := ∃ r, e = .returned (.agg (rpc r).toArray) ∧ okRp w' r ∧ rab r = q ∧ (∀ ad, r.A = some ad → w.heap.size ≤ ad.block) ∧ r.n ≤ 65536 ∧ Below w.heap.size w w'
set_option maxRecDepth 100000 in
set_option maxHeartbeats 3200000 in
theorem copied_any (r : Rp) (w : World) (h : okRp w r) (hz : r.n ≤ 65536) : Calls Try.prog 57 #[.agg (rpc r).toArray] w (GivesRp w (rab r)) := by
  have hu := Try.underlying26
  have HC := Lib.hid (fun W (hW : Below w.heap.size w W) => clone_nodes r.A r.n r.c r.f W (h.later hW).len (h.later hW).see hz)
  have hln := h.len
  obtain ⟨kd, dv, rq, cd, id, vr, sq, ep, A, n, c, f, ms⟩ := r
  dsimp only [rpc] at *
  clear h
  go_enter Try.func57, Try.ntmps57
  go_wp2_with fail
  refine (HC.out _ (below_a2 _ _ _)).mono ?_
  rintro e w3 ⟨A3, c3, rfl, hr3, hb3⟩
  have HB3 := Lib.hid ((below_a2 _ _ _).trans (hb3.mono (below_a2 _ _ _).size))
  have B1 : Blk w3 w.heap.size [.int .i64 kd, .int .i64 dv, .int .i64 rq, .int .i64 cd, .int .i64 id, .int .i64 vr, .int .i64 sq, .int .i64 ep, .slice A n c, .int .u32 (ms.toNat : Int)] := ((Blk.new w _ _).alloc _).later hb3
  have B2 : Blk w3 (w.heap.size + 1) [.int .i64 0, .int .i64 0, .int .i64 0, .int .i64 0, .int .i64 0, .int .i64 0, .int .i64 0, .int .i64 0, .slice none 0 0, .int .u32 0] := by
    have h2 := (Blk.new (w.alloc _) [.int .i64 0, .int .i64 0, .int .i64 0, .int .i64 0, .int .i64 0, .int .i64 0, .int .i64 0, .int .i64 0, .slice none 0 0, .int .u32 0] _).later hb3
    rw [show (w.alloc _).heap.size = w.heap.size + 1 by simp] at h2
    exact h2
  have hcap := row_capm hr3
  have hsee := row_sees hr3
  have hfar : ∀ ad, A3 = some ad → w.heap.size ≤ ad.block := fun ad e => Nat.le_trans (by simp; omega) (World.ownsRow.lt hr3 ad.block (by rw [e]; rfl)).1
  obtain ⟨n3, hn3⟩ : ∃ n3, n3 = f.length := ⟨_, rfl⟩
  rw [← hn3] at hr3 hcap ⊢
  have B3 := B1.set 8 (.slice A3 n3 c3)
  have B4 := (B2.setOther (b := w.heap.size) 8 (.slice A3 n3 c3) (by omega))
  have RG := B3.range 0 [.int .i64 kd, .int .i64 dv, .int .i64 rq, .int .i64 cd, .int .i64 id, .int .i64 vr, .int .i64 sq, .int .i64 ep, .slice A3 n3 c3, .int .u32 (ms.toNat : Int)] rfl
  have TH := B4.there 0 10 (by simp)
  have k8 := B1.cell (j := 8) rfl
  have z8 := B1.frozen 8
  have FIN := B4.sets [.int .i64 kd, .int .i64 dv, .int .i64 rq, .int .i64 cd, .int .i64 id, .int .i64 vr, .int .i64 sq, .int .i64 ep, .slice A3 n3 c3, .int .u32 (ms.toNat : Int)] 0 (by simp)
  have hne : ∀ ad, A3 = some ad → ad.block ≠ w.heap.size ∧ ad.block ≠ w.heap.size + 1 := fun ad e => by
    have h1 := (World.ownsRow.lt hr3 ad.block (by rw [e]; rfl)).1
    simp at h1
    omega
  have HFIN : Hid (GivesRp w (rab ⟨kd, dv, rq, cd, id, vr, sq, ep, A, n, c, f, ms⟩) (.returned (.agg #[.int .i64 kd, .int .i64 dv, .int .i64 rq, .int .i64 cd, .int .i64 id, .int .i64 vr, .int .i64 sq, .int .i64 ep, .slice A3 n3 c3, .int .u32 (ms.toNat : Int)])) ((w3.setCell ⟨w.heap.size, 8, none⟩ (.slice A3 n3 c3)).setCells (w.heap.size + 1) 0 [.int .i64 kd, .int .i64 dv, .int .i64 rq, .int .i64 cd, .int .i64 id, .int .i64 vr, .int .i64 sq, .int .i64 ep, .slice A3 n3 c3, .int .u32 (ms.toNat : Int)])) := Lib.hid (by
    have h1 : okRp w3 ⟨kd, dv, rq, cd, id, vr, sq, ep, A3, n3, c3, f, ms⟩ := ⟨hn3.symm, hcap.1, hcap.2, hsee⟩
    have h2 := okRp.store (g := w.heap.size) (o := 8) (vs := [.slice A3 n3 c3]) h1 (fun ad e _ => (hne ad e).1)
    have h3 := okRp.store (g := w.heap.size + 1) (o := 0) (vs := [.int .i64 kd, .int .i64 dv, .int .i64 rq, .int .i64 cd, .int .i64 id, .int .i64 vr, .int .i64 sq, .int .i64 ep, .slice A3 n3 c3, .int .u32 (ms.toNat : Int)]) h2 (fun ad e _ => (hne ad e).2)
    exact ⟨_, rfl, h3, rfl, hfar, by show n3 ≤ 65536; omega, below_sets (by omega) _ _ (HB3.out.setCell (by simp) _)⟩)
  clear hr3 hb3 hfar hne hsee hcap B1 B2 B3 B4 HC hn3 hln
  go_wp2_with (first
    | (refine wpList_load_mid rfl 26 (.tmp 1) rfl w.heap.size 0 rfl [.int .i64 kd, .int .i64 dv, .int .i64 rq, .int .i64 cd, .int .i64 id, .int .i64 vr, .int .i64 sq, .int .i64 ep, .slice A3 n3 c3, .int .u32 (ms.toNat : Int)] _ RG hu rfl info_rp ?_
       simp only [Act.put, List.setIfInBounds_toArray, List.set_cons_zero, List.set_cons_succ])
    | (refine wpList_store_mid rfl 26 (.tmp 2) (.tmp 7) rfl (w.heap.size + 1) 0 #[.int .i64 kd, .int .i64 dv, .int .i64 rq, .int .i64 cd, .int .i64 id, .int .i64 vr, .int .i64 sq, .int .i64 ep, .slice A3 n3 c3, .int .u32 (ms.toNat : Int)] rfl rfl TH info_rp (by kernel_rfl) ?_)
    | fail)
  exact bodyPost_ret (v := .agg #[.int .i64 kd, .int .i64 dv, .int .i64 rq, .int .i64 cd, .int .i64 id, .int .i64 vr, .int .i64 sq, .int .i64 ep, .slice A3 n3 c3, .int .u32 (ms.toNat : Int)]) (results_blk (q := 2) rfl _ _ (w.heap.size + 1) [.int .i64 kd, .int .i64 dv, .int .i64 rq, .int .i64 cd, .int .i64 id, .int .i64 vr, .int .i64 sq, .int .i64 ep, .slice A3 n3 c3, .int .u32 (ms.toNat : Int)] _ rfl FIN hu rfl info_rp) rfl HFIN.out
end Go.Proofs.Ytadmaalhhigbeaa
