/- Ledger: LedgerOnce: what holds round and round. -/
import Derived.Test.YtadmaalhhigbeaaW33
namespace Go.Proofs.Ytadmaalhhigbeaa
set_option linter.unusedVariables false
set_option linter.unusedSimpArgs false
open Go Go.RowKit ValM

theorem okRp.grown {w w' : World} {g : Nat} {r : Rp} (h : okRp w r) (hf : farRp g r) (hg : w.grownBy w' (some g)) : okRp w' r := by
  refine ⟨h.len, h.cap, h.max, fun hx => ?_⟩
  obtain ⟨b, o', e, hb, hc⟩ := h.see hx
  refine ⟨b, o', e, Nat.lt_of_lt_of_le hb hg.size, fun j hj => ?_⟩
  have hne : b ≠ g := hf ⟨b, o', none⟩ e (h.pos hx)
  rw [World.cell?_of_block (a := ⟨b, o' + j, none⟩) (hg.block b hb (by intro e; injection e with e; exact hne e))]
  exact hc j hj
theorem LgAt.far {w : World} {g b o : Nat} {vs : List Value} {es : List Int} {rs : List Rp} (h : LgAt w g es rs) (hb : b ≠ g) (hf : ∀ r ∈ rs, farRp b r) : LgAt (w.setCells b o vs) g es rs :=
  ⟨h.blk.other hb vs o, h.le, h.lr, h.er, fun r hr => ⟨(h.ok r hr).1.store (hf r hr), (h.ok r hr).2⟩⟩
def rmay (r : Rp) : Prop := r.rq = 0 ∨ (1 ≤ r.rq ∧ r.rq ≤ 1099511627776)
structure LInv (w0 : World) (g b4 : Nat) (w : World) (es : List Int) (rs ls : List Rp) : Prop where
  lg : LgAt w g es rs
  l4 : Blk w b4 (rws rpc ls)
  ll : ls.length = 6
  eq : rs.map rab = ls.map rab
  ok : ∀ r ∈ ls, okRp w r ∧ farRp g r ∧ farRp b4 r ∧ r.n ≤ 65536 ∧ rmay r
  f4 : ∀ r ∈ rs, farRp b4 r
  be : Below w0.heap.size w0 w
  hg : w0.heap.size ≤ g
  h4 : g < b4
section
variable {w0 w w' : World} {g b4 : Nat} {es : List Int} {rs ls : List Rp}
theorem LInv.later (h : LInv w0 g b4 w es rs ls) (hb : Below w.heap.size w w') : LInv w0 g b4 w' es rs ls :=
  ⟨h.lg.later hb, h.l4.later hb, h.ll, h.eq, fun r hr => ⟨(h.ok r hr).1.later hb, (h.ok r hr).2⟩, h.f4, h.be.trans (hb.mono h.be.size), h.hg, h.h4⟩
theorem LInv.at_ (h : LInv w0 g b4 w es rs ls) (d : Nat) (hd : d < ls.length) : ∃ (hr : d < rs.length), rab rs[d] = rab ls[d] := by
  have hl : rs.length = ls.length := by have := congrArg List.length h.eq; simpa using this
  refine ⟨by omega, ?_⟩
  have h1 : (rs.map rab)[d]'(by simpa using (by omega : d < rs.length)) = (ls.map rab)[d]'(by simpa using hd) := by simp only [h.eq]
  simpa using h1
theorem LInv.range (h : LInv w0 g b4 w es rs ls) (d : Nat) (hd : d < ls.length) : w.rangeAt b4 (d * 10) (rpc ls[d]) := fun j v hj =>
  h.l4.cell (rws_at ls (fun x _ => rpc_len x) d hd j v hj)
theorem LInv.there (h : LInv w0 g b4 w es rs ls) (d : Nat) (hd : d < ls.length) : w.there b4 (d * 10) 10 :=
  h.l4.there _ _ (by rw [rws_len _ (fun x _ => rpc_len x)]; omega)
theorem LInv.raise (h : LInv w0 g b4 w es rs ls) {es' : List Int} (h' : LgAt w' g es' rs) (hg : w.grownBy w' (some g)) : LInv w0 g b4 w' es' rs ls :=
  ⟨h', h.l4.kept hg (by intro e; injection e with e; have := h.h4; omega), h.ll, h.eq, fun r hr => ⟨(h.ok r hr).1.grown (h.ok r hr).2.1 hg, (h.ok r hr).2⟩, h.f4,
    h.be.trans (below_grown hg h.be.size (fun k e => by injection e with e; have := h.hg; omega)), h.hg, h.h4⟩
/-- Note, and what is noted beside it. -/
theorem LInv.note (h : LInv w0 g b4 w es rs ls) (hg : w.grownBy w' (some g)) (k : Nat) (hk : k < ls.length) (r r' : Rp) (h' : LgAt w' g es (rs.set k r')) (hab : rab r' = rab r) (hf' : ∀ ad, r'.A = some ad → w.heap.size ≤ ad.block)
    {w9 : World} (hl : Below w'.heap.size w' w9) (ho : okRp w r) (hf : farRp g r) (hf4 : farRp b4 r) (hn : r.n ≤ 65536) (hr : rmay r) : LInv w0 g b4 (w9.setCells b4 (k * 10) (rpc r)) es (rs.set k r') (ls.set k r) := by
  have hb4 := h.l4.lt
  have h44 := h.h4
  have hf4' : ∀ x ∈ rs.set k r', farRp b4 x := fun x hx => by
    rcases List.mem_or_eq_of_mem_set hx with hx | rfl
    · exact h.f4 x hx
    · intro ad e _; have := hf' ad e; omega
  have hk4 : Blk w9 b4 (rws rpc ls) := (h.l4.kept hg (by intro e; injection e with e; omega)).later hl
  refine ⟨(h'.later hl).far (by omega) hf4', ?_, by rw [List.length_set]; exact h.ll, ?_, fun x hx => ?_, hf4', ?_, h.hg, h.h4⟩
  · have h2 := hk4.sets (rpc r) (k * 10) (by rw [rws_len _ (fun x _ => rpc_len x), rpc_len]; omega)
    rw [rpc_len, rws_put rpc 10 ls (fun x _ => rpc_len x) k hk r] at h2
    exact h2
  · rw [List.map_set, List.map_set, h.eq, hab]
  · have h3 : ∀ x, okRp w x → farRp g x → farRp b4 x → okRp (w9.setCells b4 (k * 10) (rpc r)) x := fun x a b c => ((a.grown b hg).later hl).store c
    rcases List.mem_or_eq_of_mem_set hx with hx | rfl
    · obtain ⟨a, b, c, d⟩ := h.ok x hx
      exact ⟨h3 x a b c, b, c, d⟩
    · exact ⟨h3 _ ho hf hf4, hf, hf4, hn, hr⟩
  · have h5 := h.be.trans (below_grown hg h.be.size (fun k e => by injection e with e; have := h.hg; omega))
    exact below_sets (by have := h.hg; omega) _ _ (h5.trans (hl.mono h5.size))
/-- What a request that was noted is answered. -/
theorem LInv.asks (h : LInv w0 g b4 w es rs ls) (d : Nat) (hd : d < ls.length) (h0 : ls[d].rq ≠ 0) : acod rs d ls[d].rq = 7 ∧ ares rs d ls[d].rq = rab ls[d] := by
  obtain ⟨hr, e⟩ := h.at_ d hd
  have hm := (h.ok _ (List.getElem_mem hd)).2.2.2.2
  have hq : rs[d].rq = ls[d].rq := rab_rq e
  obtain ⟨_, a2, _⟩ := acod_at (rs := rs) (k := d) (rq := ls[d].rq) hr (by have := h.ll; omega) (by rcases hm with hm | hm; exact absurd hm h0; exact hm)
  rw [← e]
  exact a2 hq.symm
/-- A request that is noted is above the one before. -/
theorem LInv.above (h : LInv w0 g b4 w es rs ls) (r : Rp) (h0 : acod rs r.dv r.rq = 0) : ∃ k : Nat, r.dv = (k : Int) ∧ ∃ (hk : k < ls.length), ls[k].rq < r.rq := by
  by_cases h1 : (0 ≤ r.dv ∧ r.dv < 6) ∧ (1 ≤ r.rq ∧ r.rq ≤ 1099511627776)
  · obtain ⟨k, hk⟩ : ∃ k : Nat, r.dv = (k : Int) := ⟨r.dv.toNat, by omega⟩
    have hkl : k < ls.length := by rw [h.ll]; omega
    obtain ⟨hr, e⟩ := h.at_ k hkl
    refine ⟨k, hk, hkl, ?_⟩
    rw [← rab_rq e]
    rw [hk] at h0
    obtain ⟨a1, a2, _⟩ := acod_at (rs := rs) (k := k) (rq := r.rq) hr (by omega) h1.2
    by_cases c1 : r.rq < rs[k].rq
    · rw [(a1 c1).1] at h0; simp at h0
    · by_cases c2 : r.rq = rs[k].rq
      · rw [(a2 c2).1] at h0; simp at h0
      · omega
  · rw [(acod_arg h1).1] at h0; simp at h0
end
theorem okRp.low {w : World} {r : Rp} (h : okRp w r) (g : Nat) (hg : w.heap.size ≤ g) : farRp g r := fun ad e hn => by
  obtain ⟨b, o, e2, hb, _⟩ := h.see (by rw [ncs_len, h.len]; omega)
  rw [e] at e2
  injection e2 with e2
  subst e2
  show b ≠ g
  omega
theorem wpList_store_as {P : Program} {ops : Array Oper} {rest : List Oper} {op : Oper} {a : Act} {w : World} {Q : Exit → Act → World → Prop} (hgd : op.guard = none) (ty : TypeId) (x y : Operand) (ho : op.op = .store ty x y)
    (b o : Nat) (cells : Array Value) (hx : a.eval x = .pointer (some ⟨b, o, none⟩)) (hy : a.eval y = .agg cells)
    (ht : w.there b o cells.size) (hi : (P.info? ty).map (·.size) = some cells.size) (h1 : cells.all (·.oneCell') = true) (W3 : World) (hW : W3 = w.setCells b o cells.toList)
    (h : wpList P ops Q rest (a.put op.dst undef) W3) : wpList P ops Q (op :: rest) a w :=
  wpList_store_mid hgd ty x y ho b o cells hx hy ht hi h1 (by rw [← hW]; exact h)
/-- An act as it lies. -/
structure Ac where
  k : Int
  r : Rp
def acc30 (a : Ac) : List Value := .int .i64 a.k :: rpc a.r
theorem acc30_len (l : List Ac) : ∀ x ∈ l, (acc30 x).length = 11 := fun _ _ => rfl
structure SeesA (w : World) (A : Option Addr) (n c : Nat) (l : List Ac) : Prop where
  len : l.length = n
  cap : n ≤ c
  max : c ≤ maxLen
  see : Sees w w.heap.size A (rws acc30 l)
  ok : ∀ a ∈ l, okRp w a.r
theorem SeesA.get {w : World} {A : Option Addr} {n c : Nat} {l : List Ac} (h : SeesA w A n c l) (k : Nat) (hk : k < l.length) :
    ∃ b o, A = some ⟨b, o, none⟩ ∧ b < w.heap.size ∧ ∀ W, Below w.heap.size w W → W.cell? ⟨b, o + k * 11, none⟩ = some (.int .i64 l[k].k) ∧ W.rangeAt b (o + k * 11 + 1) (rpc l[k].r) := by
  obtain ⟨b, o, e, hb, _⟩ := sees_rw (f := acc30) (sz := 11) (acc30_len l) h.see (by decide) k hk
  refine ⟨b, o, e, hb, fun W hW => ?_⟩
  obtain ⟨b', o', e', _, hr⟩ := sees_rw (f := acc30) (sz := 11) (acc30_len l) ((h.see.below hW).more hW.size) (by decide) k hk
  rw [e] at e'
  cases e'
  refine ⟨hr 0 _ rfl, fun j v hj => ?_⟩
  rw [show o + k * 11 + 1 + j = o + k * 11 + (j + 1) by omega]
  exact hr (j + 1) v (by simpa [acc30] using hj)
end Go.Proofs.Ytadmaalhhigbeaa
