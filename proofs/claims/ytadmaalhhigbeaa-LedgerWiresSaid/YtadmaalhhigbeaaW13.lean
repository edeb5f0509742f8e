/- OctetBack: what was put is read, whatever stands behind it: for every input. No condition. -/
import Derived.Test.YtadmaalhhigbeaaW12
import Derived.Test.YtadmaalhhigbeaaW9
import Derived.Test.YtadmaalhhigbeaaW2
import Derived.Test.YtadmaalhhigbeaaW1
import Derived.Test.YtadmaalhhigbeaaW11
namespace Go.Proofs.Ytadmaalhhigbeaa
set_option linter.unusedVariables false
open Go.ChangeShapes Go.WideShapes Go.ChangeAt Go.RowKit OctM
open Go.ChangeMaps (open_string shut_string)

theorem num_put (pre rest : List UInt8) (n : Nat) (most : Int) (hn : n ≤ 1099511627776) (hm : (n : Int) ≤ most) :
    numOut (pre ++ (enc n ++ rest)) pre.length 0 most = (n, pre.length + (enc n).length, 0) := by
  unfold numOut
  rw [List.drop_left, scan_put n hn]
  rw [if_neg (by simp), if_neg (by simp), if_neg (by simp; omega)]
theorem str_put (pre t rest : List UInt8) (most : Int) (hn : t.length ≤ 1099511627776) (hm : (t.length : Int) ≤ most) :
    strOut (pre ++ (enc t.length ++ (t ++ rest))) pre.length 0 most = (t, pre.length + (enc t.length).length + t.length, 0) := by
  unfold strOut
  rw [num_put pre (t ++ rest) t.length most hn hm]
  rw [if_neg (by simp), if_neg (by simp), if_neg (by simp; omega)]
  have e1 : pre ++ (enc t.length ++ (t ++ rest)) = (pre ++ enc t.length) ++ (t ++ rest) := by simp
  have e2 : pre.length + (enc t.length).length = (pre ++ enc t.length).length := by simp
  simp only [e1, e2, List.drop_left, List.take_left]
theorem flag_put (pre rest : List UInt8) (b : Bool) :
    flagOut (pre ++ (enc (truth b) ++ rest)) pre.length 0 = (b, pre.length + (enc (truth b)).length, 0) := by
  unfold flagOut
  rw [num_put pre rest (truth b) 1099511627776 (by cases b <;> simp [truth]) (by cases b <;> simp [truth])]
  rw [if_neg (by simp), if_neg (by cases b <;> simp [truth])]
  cases b <;> simp [truth]

theorem awake_num : numOut [128, 0] 0 0 9 = (0, 0, 3) := by
  simp [numOut, scan]
theorem enc300 : enc (held 300) = [172, 2] := by
  rw [show held 300 = 300 from by simp [held]; rfl, enc_high (by omega), enc_low (by omega)]
  rfl

theorem Rd.below {w w' : World} {base g : Nat} {l : List UInt8} {at_ : Nat} {err : Int} (h : Rd w base g l at_ err) (hb : Below w.heap.size w w') : Rd w' base g l at_ err := by
  have hg := h.block.2
  obtain ⟨A, c, h1, h2, h3, h4⟩ := h
  refine ⟨A, c, h1, h2, ?_, h4.below (hb.mono (Nat.le_of_lt hg))⟩
  refine ⟨h3.1, ?_⟩
  rcases h3.2 with ⟨hv, _⟩ | ⟨g', cap, cur, hv, hb', hh, h5⟩
  · cases hv
  · have e1 : g = g' := by injection hv with hv; injection hv with hv; injection hv
    subst e1
    exact .inr ⟨g, cap, cur, hv, hb', by rw [hb.block g hg]; exact hh, h5⟩

theorem sees_on {w w' : World} {A : Option Addr} {xs : List Value} (h : Sees w w.heap.size A xs) (hb : Below w.heap.size w w') : Sees w' w'.heap.size A xs := (h.below hb).more hb.size
theorem on_below {w w1 w2 : World} (h : Below w.heap.size w w1) (h2 : Below w1.heap.size w1 w2) : Below w.heap.size w w2 := h.trans (h2.mono h.size)
theorem grown_on {w w1 w2 : World} {base g : Nat} {l : List UInt8} {a : Nat} {e : Int} (h : Below w.heap.size w w1) (hr : Rd w1 base g l a e) (hb : w.heap.size ≤ base) (hg : w1.grownBy w2 (some g)) : Below w.heap.size w w2 :=
  h.grown hg h.size (fun k hk => by cases hk; have := hr.block.1; omega)

end Go.Proofs.Ytadmaalhhigbeaa

/- A list of pairs of integers that comes in: what the frame gives of it. -/
namespace Go.Proofs.Ytadmaalhhigbeaa
set_option linter.unusedVariables false
open Go.ChangeShapes Go.WideShapes Go.ChangeAt Go.RowKit

/-- A slice of pairs, seen as a list. -/
def SeesP (w : World) (B : Nat) (A : Option Addr) (l : List (Int × Int)) : Prop :=
  0 < l.length → ∃ b o, A = some ⟨b, o, none⟩ ∧ b < B ∧ ∀ j (hj : j < l.length), w.cell? ⟨b, o + j * 2, none⟩ = some (.int .i64 l[j].1) ∧ w.cell? ⟨b, o + j * 2 + 1, none⟩ = some (.int .i64 l[j].2)
theorem SeesP.below {w w' : World} {B : Nat} {A : Option Addr} {l : List (Int × Int)} (h : SeesP w B A l) (hb : Below B w w') : SeesP w' B A l := fun h0 => by
  obtain ⟨b, o, e, hlt, hc⟩ := h h0
  exact ⟨b, o, e, hlt, fun j hj => ⟨(hb.cell (p := ⟨b, o + j * 2, none⟩) hlt).trans (hc j hj).1, (hb.cell (p := ⟨b, o + j * 2 + 1, none⟩) hlt).trans (hc j hj).2⟩⟩

/-- The pair that a datum is. -/
def pairOf {H : Type} : DataW H → Int × Int
  | .agg [.lit (.int _ a), .lit (.int _ b)] => (a, b)
  | _ => (0, 0)
theorem open_pairs {H : Type} {enc : TypeId × Value → H} {P : Program} {t e : TypeId} {f0 f1 : Field} {W : World} {v : Value} {d : DataW H} {ps : List MemPlace}
    (ht : P.underlying t = some (.slice e)) (hs : P.underlying e = some (.struct #[f0, f1])) (hC : P.cellsOf e = 2)
    (h0 : P.underlying f0.type = some (.int .i64)) (o0 : f0.offset = 0) (c0 : P.cellsOf f0.type = 1) (h1 : P.underlying f1.type = some (.int .i64)) (o1 : f1.offset = 1) (c1 : P.cellsOf f1.type = 1)
    {r : Reach} {base : Nat} (hv : Value.okWide P W r base t v) (h : DataW.Trod enc P W 0 (fun _ => true) true t v d ps) :
    ∃ A n c, ∃ l : List (Int × Int), v = .slice A n c ∧ n ≤ c ∧ c ≤ maxLen ∧ l.length = n ∧ SeesP W W.heap.size A l := by
  obtain ⟨A, n, c, rfl⟩ := okWide_slice ht hv
  obtain ⟨fuel, hf⟩ := h
  have hlt := DataW.trod_lt fuel _ _ _ hf
  rcases DataW.trod_slice ht hf with ⟨hcs, hx⟩ | ⟨x, len, cap, elems, rest, m, _, hcs, hx, hb, hl, hm, hlen, hel, _⟩
  · simp [Value.cells] at hcs
    obtain ⟨rfl, rfl, rfl⟩ := hcs
    exact ⟨none, 0, 0, [], rfl, Nat.le_refl _, by simp [maxLen], rfl, fun h => absurd h (by simp)⟩
  · simp [Value.cells] at hcs
    obtain ⟨rfl, rfl, rfl⟩ := hcs
    refine ⟨some x, n, c, elems.map (fun y => pairOf y.1), rfl, hl, hm, by simp [hlen], fun hpos => ?_⟩
    have each : ∀ j (hj : j < n), ∃ a b, elems[j]? = some (.agg [.lit (.int .i64 a), .lit (.int .i64 b)], []) ∧ W.cell? ((x.add (j * 2)).add 0) = some (.int .i64 a) ∧ W.cell? ((x.add (j * 2)).add 1) = some (.int .i64 b) := by
      intro j hj
      have hE := hel j hj
      have hg : elems[j]? = some (elems[j]'(by omega)) := List.getElem?_eq_getElem (by omega)
      rw [hg, hC, Option.bind_eq_some_iff] at hE
      obtain ⟨cs', hcs', hy⟩ := hE
      obtain ⟨y0, y1, k, hxx, hcl, t0, t1⟩ := trod_struct2 hs hy
      rw [o0, c0] at t0
      rw [o1, c1] at t1
      obtain ⟨a, e0, ex0, _⟩ := DataW.trod_int h0 t0
      obtain ⟨b, e1, ex1, _⟩ := DataW.trod_int h1 t1
      rw [hC] at hcl
      match cs', hcl with
      | [u0, u1], _ =>
        simp at e0 e1
        subst e0 e1
        have hc := World.cells?_some hcs'
        exact ⟨a, b, by rw [hg, hxx, ex0, ex1]; rfl, hc.2.2 0 (by omega), hc.2.2 1 (by omega)⟩
    have hpn : 0 < n := by simpa [hlen] using hpos
    obtain ⟨a0, b0, _, hz0, _⟩ := each 0 hpn
    obtain ⟨bk, off, spot⟩ := x
    have hspot : spot = none := by simpa [Addr.add] using World.cell?_spot hz0
    subst hspot
    refine ⟨bk, off, rfl, ?_, fun j hj => ?_⟩
    · simp only [Prod.mk.injEq] at hx
      obtain ⟨_, rfl⟩ := hx
      have := hlt (.cell bk off) (by simp [MemPlace.row, hC]; omega)
      simpa [MemPlace.block] using this
    · simp [hlen] at hj
      obtain ⟨a, b, he, ha, hb'⟩ := each j hj
      rw [add_at, add_at, Nat.add_zero] at ha
      rw [add_at, add_at] at hb'
      have hg : elems[j]? = some (elems[j]'(by omega)) := List.getElem?_eq_getElem (by omega)
      rw [hg, Option.some.injEq] at he
      rw [ha, hb']
      simp [he, pairOf]
end Go.Proofs.Ytadmaalhhigbeaa

/- Two readers beside one another: the program's, and the document's, at the same place. -/
namespace Go.Proofs.Ytadmaalhhigbeaa
set_option linter.unusedVariables false
open Go.ChangeShapes Go.WideShapes Go.ChangeAt Go.RowKit OctM

theorem grown_none {w w' : World} (h : Below w.heap.size w w') (row : Option Nat) : w.grownBy w' row := ⟨h.os, h.tape, h.output, h.size, fun k hk _ => h.block k hk⟩
theorem Own.laterO {w w' : World} {base : Nat} {e : TypeId} {v : Value} {xs : List Value} (h : Own w base e v xs) (hb : Below w.heap.size w w') : Own w' base e v xs := by
  refine h.kept (grown_none hb none) ?_
  rcases v.ownBlock with _ | g
  · exact .inl rfl
  · exact .inr (by simp)
theorem Rd.later {w w' : World} {base g : Nat} {l : List UInt8} {a : Nat} {e : Int} (h : Rd w base g l a e) (hb : Below w.heap.size w w') : Rd w' base g l a e := by
  have hg := h.block.2
  obtain ⟨A, c, h1, h2, h3, h4⟩ := h
  exact ⟨A, c, h1, h2, h3.laterO hb, h4.below (hb.mono (Nat.le_of_lt hg))⟩
theorem Rr.later {w w' : World} {base g : Nat} {l : List UInt8} {e : Int} (h : Rr w base g l e) (hb : Below w.heap.size w w') : Rr w' base g l e := Own.laterO h hb
theorem Rr.block {w : World} {base g : Nat} {l : List UInt8} {e : Int} (h : Rr w base g l e) : base ≤ g ∧ g < w.heap.size := Own.lt h g rfl
theorem Rd.other {w w' : World} {base g m : Nat} {l : List UInt8} {a : Nat} {e : Int} (h : Rd w base g l a e) (hg : w.grownBy w' (some m)) (hm : g < m) : Rd w' base g l a e := by
  have hlt := h.block.2
  obtain ⟨A, c, h1, h2, h3, h4⟩ := h
  exact ⟨A, c, h1, h2, h3.kept hg (.inr (by simp [Value.ownBlock]; omega)), h4.grown hg (Nat.le_of_lt hlt) (fun k hk => by cases hk; omega)⟩
theorem Rr.other {w w' : World} {base g m : Nat} {l : List UInt8} {e : Int} (h : Rr w base g l e) (hg : w.grownBy w' (some m)) (hm : m < g) : Rr w' base g l e :=
  Own.kept h hg (.inr (by simp [Value.ownBlock]; omega))

/-- Both readers, and what was there before them as it was. -/
def Two (W w : World) (gr gm : Nat) (l : List UInt8) (a : Nat) (e : Int) (l' : List UInt8) (e' : Int) : Prop :=
  Rd w W.heap.size gr l a e ∧ Rr w W.heap.size gm l' e' ∧ gr < gm ∧ Below W.heap.size W w
theorem Two.later {W w w' : World} {gr gm : Nat} {l : List UInt8} {a : Nat} {e : Int} {l' : List UInt8} {e' : Int} (h : Two W w gr gm l a e l' e') (hb : Below w.heap.size w w') : Two W w' gr gm l a e l' e' :=
  ⟨h.1.later hb, h.2.1.later hb, h.2.2.1, on_below h.2.2.2 hb⟩
theorem Two.drewN {W w : World} {gr gm : Nat} {l : List UInt8} {a : Nat} {e : Int} {l' : List UInt8} {e' : Int} (h : Two W w gr gm l a e l' e') (k : Nat) : Two W (w.drewN k) gr gm l a e l' e' :=
  h.later (below_drewN (Below.refl _ _) k)
theorem Two.first {W w w' : World} {gr gm : Nat} {l : List UInt8} {a a2 : Nat} {e e2 : Int} {l' : List UInt8} {e' : Int} (h : Two W w gr gm l a e l' e') (hr : Rd w' W.heap.size gr l a2 e2) (hg : w.grownBy w' (some gr)) : Two W w' gr gm l a2 e2 l' e' :=
  ⟨hr, h.2.1.other hg h.2.2.1, h.2.2.1, h.2.2.2.grown hg h.2.2.2.size (fun k hk => by cases hk; exact h.1.block.1)⟩
theorem Two.second {W w w' : World} {gr gm : Nat} {l : List UInt8} {a : Nat} {e : Int} {l' l2 : List UInt8} {e' e2 : Int} (h : Two W w gr gm l a e l' e') (hr : Rr w' W.heap.size gm l2 e2) (hg : w.grownBy w' (some gm)) : Two W w' gr gm l a e l2 e2 :=
  ⟨h.1.other hg h.2.2.1, hr, h.2.2.1, h.2.2.2.grown hg h.2.2.2.size (fun k hk => by cases hk; exact h.2.1.block.1)⟩

/-- Both at the same place. -/
def Same2 (W w : World) (gr gm : Nat) (l : List UInt8) (a : Nat) (e : Int) : Prop := Two W w gr gm l a e (l.drop a) e ∧ a ≤ l.length ∧ l.length ≤ 4000

theorem strOut_at (l : List UInt8) (a : Nat) (e m : Int) (h : a ≤ l.length) : (strOut l a e m).2.1 ≤ l.length := by
  have h2 := numOut_at l a 0 m h
  unfold strOut
  split
  · exact h
  · split
    · assumption
    · split
      · exact h
      · simp; omega
theorem flagOut_at (l : List UInt8) (a : Nat) (e : Int) (h : a ≤ l.length) : (flagOut l a e).2.1 ≤ l.length := by
  have h2 := numOut_at l a 0 1099511627776 h
  unfold flagOut
  split
  · exact h
  · split
    · exact h
    · assumption
end Go.Proofs.Ytadmaalhhigbeaa

/- Two readers beside one another: each read, by one and by the other. -/
namespace Go.Proofs.Ytadmaalhhigbeaa
set_option linter.unusedVariables false
open Go.RowKit OctM

section
variable {W w : World} {gr gm : Nat} {l : List UInt8} {a : Nat} {e : Int} {l' : List UInt8} {e' : Int}
theorem two_num1 (y : Int) (T : Two W w gr gm l a e l' e') (ha : a ≤ l.length) (hm : l.length ≤ 4000) :
    Calls Try.prog 50 #[.pointer (some ⟨gr, 0, none⟩), .int .i64 y] w fun x w' => x = .returned (.int .i64 ((numOut l a e y).1 : Nat)) ∧ Two W w' gr gm l (numOut l a e y).2.1 (numOut l a e y).2.2 l' e' :=
  (rd_num _ gr l a e y w T.1 ha (by omega)).mono fun x w' h => ⟨h.1, T.first h.2.1 h.2.2⟩
theorem two_num2 (y : Int) {a2 : Nat} {e2 : Int} (T : Two W w gr gm l a2 e2 (l.drop a) e) (hm : l.length ≤ 4000) :
    Calls Try.prog 53 #[.pointer (some ⟨gm, 0, none⟩), .int .i64 y] w fun x w' => x = .returned (.int .i64 ((numOut l a e y).1 : Nat)) ∧ Two W w' gr gm l a2 e2 (l.drop (numOut l a e y).2.1) (numOut l a e y).2.2 :=
  (rr_num _ gm (l.drop a) e y w T.2.1 (by simp; omega)).mono fun x w' h => by
    rw [same_num] at h
    exact ⟨h.1, T.second h.2.1 h.2.2⟩
theorem two_str1 (y : Int) (T : Two W w gr gm l a e l' e') (ha : a ≤ l.length) (hm : l.length ≤ 4000) :
    Calls Try.prog 104 #[.pointer (some ⟨gr, 0, none⟩), .int .i64 y] w fun x w' => x = .returned (.string (str (strOut l a e y).1)) ∧ Two W w' gr gm l (strOut l a e y).2.1 (strOut l a e y).2.2 l' e' :=
  (rd_str _ gr l a e y w T.1 ha (by omega)).mono fun x w' h => ⟨h.1, T.first h.2.1 h.2.2⟩
theorem two_str2 (y : Int) {a2 : Nat} {e2 : Int} (T : Two W w gr gm l a2 e2 (l.drop a) e) (ha : a ≤ l.length) (hm : l.length ≤ 4000) :
    Calls Try.prog 105 #[.pointer (some ⟨gm, 0, none⟩), .int .i64 y] w fun x w' => x = .returned (.string (str (strOut l a e y).1)) ∧ Two W w' gr gm l a2 e2 (l.drop (strOut l a e y).2.1) (strOut l a e y).2.2 :=
  (rr_str _ gm (l.drop a) e y w T.2.1 (by simp; omega)).mono fun x w' h => by
    rw [same_str _ _ _ _ ha] at h
    exact ⟨h.1, T.second h.2.1 h.2.2⟩
theorem two_fail1 (y : Int) (T : Two W w gr gm l a e l' e') :
    Calls Try.prog 51 #[.pointer (some ⟨gr, 0, none⟩), .int .i64 y] w fun x w' => x = .returned (.tuple #[]) ∧ Two W w' gr gm l a (failOut e y) l' e' :=
  (rd_fail _ gr l a e y w T.1).mono fun x w' h => ⟨h.1, T.first h.2.1 h.2.2⟩
theorem two_fail2 (y : Int) (T : Two W w gr gm l a e l' e') :
    Calls Try.prog 54 #[.pointer (some ⟨gm, 0, none⟩), .int .i64 y] w fun x w' => x = .returned (.tuple #[]) ∧ Two W w' gr gm l a e l' (failOut e' y) :=
  (rr_fail _ gm l' e' y w T.2.1).mono fun x w' h => ⟨h.1, T.second h.2.1 h.2.2⟩
theorem drewN_below (w : World) (k : Nat) : Below w.heap.size w (w.drewN k) := below_drewN (Below.refl _ _) k
theorem two_left (T : Two W w gr gm l a e l' e') (ha : a ≤ l.length) (hm : l.length ≤ 4000) (q : Nat) (hq : q = l.length - a) :
    Calls Try.prog 19 #[.pointer (some ⟨gr, 0, none⟩)] w fun x w' => x = .returned (.int .i64 (q : Int)) ∧ Below w.heap.size w w' :=
  (rd_left _ gr l a e w T.1 ha (by omega)).mono fun x w' ⟨h, k, hk⟩ => ⟨by rw [h, hq]; congr 2; omega, hk ▸ drewN_below w k⟩
theorem two_err (T : Two W w gr gm l a e l' e') :
    Calls Try.prog 18 #[.pointer (some ⟨gr, 0, none⟩)] w fun x w' => x = .returned (.int .i64 e) ∧ Below w.heap.size w w' :=
  (rd_err _ gr l a e w T.1).mono fun x w' ⟨h, hk⟩ => ⟨h, hk ▸ Below.refl _ _⟩
theorem octx2_cells (T : Two W w gr gm l a e l' e') : w.cell? ⟨gm, 0, none⟩ = some (.string (str l')) ∧ w.cell? ⟨gm, 1, none⟩ = some (.int .i64 e') := ⟨T.2.1.facts.1, T.2.1.facts.2.1⟩
end
end Go.Proofs.Ytadmaalhhigbeaa

/- What memory becomes where a call writes its own blocks; a result that lies in a block: general. -/
namespace Go.Proofs.Ytadmaalhhigbeaa
set_option linter.unusedVariables false
open Go Go.RowKit

theorem tok_results {P : Program} {fn : Func} {q : Tmp} {ty : TypeId} (h : fn.results = #[.cell q ty]) (tmps : Array Value) (w : World) (g : Nat) (cs : List Value) (d : TypeDesc)
    (hq : tmps.getD q undef = .pointer (some ⟨g, 0, none⟩)) (hB : Blk w g cs)
    (hu : P.underlying ty = some d) (hd : (match d with | .struct _ | .array _ _ => true | _ => false) = true) (hi : (P.info? ty).map (·.size) = some cs.length) :
    (results fn tmps).run P w = .ok (.agg cs.toArray) w := by
  obtain ⟨t, hB⟩ := hB
  exact results_cell_row h tmps w g t cs.toArray (0, 0) d hq hB hu hd (by simpa using hi)
theorem grown_set1 (w : World) (b j : Nat) (v : Value) : w.grownBy (w.setCell ⟨b, j, none⟩ v) (some b) :=
  ⟨rfl, rfl, rfl, by simp [World.setCell], fun k _ hk => Below.heap_setCell _ _ _ k (fun e => hk (by rw [e]))⟩
theorem Blk.wholeT {w : World} {g : Nat} {cs ds : List Value} (h : Blk w g cs) (hl : ds.length = cs.length) : Blk (w.setCells g 0 ds) g ds := by
  have h2 := h.sets ds 0 (by omega)
  rw [List.take_zero, List.nil_append, List.drop_eq_nil_of_le (by omega), List.append_nil] at h2
  exact h2
theorem grown_sets4 (b : Nat) : ∀ (vs : List Value) (o : Nat) (w : World), w.grownBy (w.setCells b o vs) (some b)
  | [], _, w => World.grownBy.refl w _
  | v :: vs, o, w => (grown_set1 w b o v).trans (grown_sets4 b vs (o + 1) _)
theorem grown_new {a b c : World} {row : Option Nat} {m : Nat} (h : a.grownBy b row) (k : b.grownBy c (some m)) (hm : a.heap.size ≤ m) : a.grownBy c row :=
  ⟨k.os.trans h.os, k.tape.trans h.tape, k.output.trans h.output, Nat.le_trans h.size k.size, fun i hi hr => (k.block i (Nat.lt_of_lt_of_le hi h.size) (by simp; omega)).trans (h.block i hi hr)⟩

end Go.Proofs.Ytadmaalhhigbeaa

/- Values as they are read of bytes: the program's. -/
namespace Go.Proofs.Ytadmaalhhigbeaa
set_option linter.unusedVariables false
open Go Go.RowKit OctM

def valEnd (k n : Int) (s : List UInt8) (a : Nat) (e : Int) : V3 × Nat × Int := (if e = 0 then (k, n, str s) else zv, a, e)
/-- What is read of bytes: the value, how far, the error. -/
def valOut (l : List UInt8) (a : Nat) (e : Int) : V3 × Nat × Int :=
  if (numOut l a e 2).1 = 1 then valEnd 1 ((numOut l (numOut l a e 2).2.1 (numOut l a e 2).2.2 1099511627776).1 : Nat) [] (numOut l (numOut l a e 2).2.1 (numOut l a e 2).2.2 1099511627776).2.1 (numOut l (numOut l a e 2).2.1 (numOut l a e 2).2.2 1099511627776).2.2
  else if (numOut l a e 2).1 = 2 then valEnd 2 0 (strOut l (numOut l a e 2).2.1 (numOut l a e 2).2.2 24).1 (strOut l (numOut l a e 2).2.1 (numOut l a e 2).2.2 24).2.1 (strOut l (numOut l a e 2).2.1 (numOut l a e 2).2.2 24).2.2
  else valEnd ((numOut l a e 2).1 : Nat) 0 [] (numOut l a e 2).2.1 (numOut l a e 2).2.2
theorem valOut_at (l : List UInt8) (a : Nat) (e : Int) (h : a ≤ l.length) : (valOut l a e).2.1 ≤ l.length := by
  unfold valOut valEnd
  split
  · exact numOut_at _ _ _ _ (numOut_at _ _ _ _ h)
  · split
    · exact strOut_at _ _ _ _ (numOut_at _ _ _ _ h)
    · exact numOut_at _ _ _ _ h
theorem valEnd_no {k n : Int} {s : List UInt8} {a : Nat} {e : Int} (h : (e != 0) = true) : valEnd k n s a e = (zv, a, e) := by
  unfold valEnd
  rw [if_neg (by simpa using h)]
theorem valEnd_yes {k n : Int} {s : List UInt8} {a : Nat} {e : Int} (h : (e != 0) = false) : valEnd k n s a e = ((k, n, str s), a, e) := by
  unfold valEnd
  rw [if_pos (by simpa using h)]
theorem vcells_all (v : V3) : (vcells v).toArray.all (·.oneCell') = true := by
  refine all_oneCell_toArray fun u hu => ?_
  simp only [vcells, List.mem_cons, List.not_mem_nil, or_false] at hu
  rcases hu with rfl | rfl | rfl <;> rfl
set_option maxRecDepth 100000 in
set_option maxHeartbeats 3200000 in
theorem rd_value0 (base g : Nat) (l : List UInt8) (a : Nat) (e : Int) (w : World) (h : Rd w base g l a e) (ha : a ≤ l.length) (hm : l.length ≤ 4000) (hc : (numOut l a e 2).1 ≠ 1 ∧ (numOut l a e 2).1 ≠ 2) (T : V3 × Nat × Int) (hT : T = valEnd ((numOut l a e 2).1 : Nat) 0 [] (numOut l a e 2).2.1 (numOut l a e 2).2.2) :
    Calls Try.prog 99 #[.pointer (some ⟨g, 0, none⟩)] w fun x w' => x = .returned (.agg (vcells T.1).toArray) ∧ Rd w' base g l T.2.1 T.2.2 ∧ w.grownBy w' (some g) := by
  have hg := h.block.2
  have A1 := numOut_at l a e 2 ha
  have H1 : Hid (∀ wx, Rd wx base g l a e → Calls Try.prog 50 #[.pointer (some ⟨g, 0, none⟩), .int .i64 2] wx fun x w' => x = .returned (.int .i64 ((numOut l a e 2).1 : Nat)) ∧ Rd w' base g l (numOut l a e 2).2.1 (numOut l a e 2).2.2 ∧ wx.grownBy w' (some g)) := Lib.hid fun wx hx => rd_num base g l a e 2 wx hx ha (by omega)
  obtain ⟨r1, hr1⟩ : ∃ r, r = numOut l a e 2 := ⟨_, rfl⟩
  rw [← hr1] at H1 A1 hT hc
  obtain ⟨v1, a1, e1⟩ := r1
  simp only at H1 A1 hT hc
  obtain ⟨k, hk⟩ : ∃ k : Int, k = (v1 : Int) := ⟨_, rfl⟩
  rw [← hk] at H1 hT
  have t1 : (k == 1) = false := by rw [hk]; simp; omega
  have t2 : (k == 2) = false := by rw [hk]; simp; omega
  have HK : Hid (k = k) := Lib.hid rfl
  clear hk
  have HE : Hid (∀ wx, Rd wx base g l a1 e1 → Calls Try.prog 18 #[.pointer (some ⟨g, 0, none⟩)] wx fun x w' => x = .returned (.int .i64 e1) ∧ wx = w') := Lib.hid fun wx hx => rd_err base g l a1 e1 wx hx
  have HT := Lib.hid hT
  clear hr1 hT hc A1 ha hm
  have B2 := Blk.new w (vcells zv) 69
  have R0 := h.later ((Below.refl w.heap.size w).alloc (Nat.le_refl _) (.cells (vcells zv).toArray 69))
  have G0 := World.grownBy_alloc w (.cells (vcells zv).toArray 69) (some g)
  have hu := Try.underlying69
  clear h
  have hne : (some g : Option Nat) ≠ some w.heap.size := by simp; omega
  obtain ⟨be, hbe⟩ : ∃ b, b = (e1 != 0) := ⟨_, rfl⟩
  have ke : (e1 != 0) = be := hbe.symm
  clear hbe
  go_enter Try.func99, Try.ntmps99
  go_wp2_with fail
  refine (H1.out _ R0).mono ?_
  rintro x w2 ⟨rfl, R2, G2⟩
  replace B2 := B2.kept G2 hne
  have GG := G0.trans G2
  clear R0 G0 G2
  have B3 := Blk.new w2 (vcells zv) 69
  have T3 := B3.there 0 3 (Nat.le_refl _)
  have S3 := B3.wholeT (ds := (vcells (k, 0, ⟨#[]⟩))) rfl
  have LE3 : Le w2 (World.setCells (w2.alloc (.cells (vcells zv).toArray 69)) w2.heap.size 0 (vcells (k, 0, ⟨#[]⟩))) := below_sets (Nat.le_refl _) _ 0 ((Below.refl w2.heap.size w2).alloc (Nat.le_refl _) _)
  have O3 : ((vcells (k, 0, ⟨#[]⟩))).toArray.all (·.oneCell') = true := vcells_all _
  have hsz := GG.size
  clear B3
  obtain ⟨g3, hg3⟩ : ∃ z, z = w2.heap.size := ⟨_, rfl⟩
  have hb2 := B2.lt
  rw [← hg3] at T3 S3 LE3 hsz hb2
  have HG3 := Lib.hid hg3
  clear hg3
  go_wp2_with (first
    | (rw [← HG3.out]
       refine wpList_store_mid rfl 69 (.tmp 3) (.tmp 6) rfl g3 0 ((vcells (k, 0, ⟨#[]⟩))).toArray rfl rfl T3 info_val O3 ?_
       simp only [Act.put]
       generalize hw3 : World.setCells _ g3 0 ((vcells (k, 0, ⟨#[]⟩))).toArray.toList = w3
       have S3' : Blk w3 g3 (vcells (k, 0, ⟨#[]⟩)) := hw3 ▸ S3
       have LE3' : Le w2 w3 := hw3 ▸ LE3
       have q1 : w3.cell? ⟨g3, 0, none⟩ = some (.int .i64 k) := S3'.cell rfl
       clear hw3 T3 S3 LE3 O3)
    | fail)
  have hne3 : (some g : Option Nat) ≠ some g3 := by simp; omega
  have R3 := R2.later LE3'
  replace B2 := B2.later LE3'
  replace GG := GG.trans (grown_none LE3' _)
  clear R2 LE3' q1
  refine (HE.out _ R3).mono ?_
  rintro x w9 ⟨rfl, rfl⟩
  have S8 := S3'
  have R8 := R3
  have B8 := B2
  have G8 := GG
  clear S3' R3 B2 GG
  cases be
  · have T8 := B8.there 0 3 (Nat.le_refl _)
    have FIN := B8.wholeT (ds := (vcells (k, 0, ⟨#[]⟩))) rfl
    have O8 : ((vcells (k, 0, ⟨#[]⟩))).toArray.all (·.oneCell') = true := vcells_all _
    have RG := S8.range 0 (vcells (k, 0, ⟨#[]⟩)) rfl
    have R9 := R8.other (grown_sets4 w.heap.size (vcells (k, 0, ⟨#[]⟩)) 0 w3) (by omega)
    have G9 := grown_new G8 (grown_sets4 w.heap.size (vcells (k, 0, ⟨#[]⟩)) 0 w3) (by omega)
    clear S8 R8 B8 G8
    go_wp2_with (first
      | (refine wpList_load_mid rfl 69 (.tmp 3) rfl g3 0 rfl (vcells (k, 0, ⟨#[]⟩)) _ RG hu rfl info_val ?_)
      | (refine wpList_store_mid rfl 69 (.tmp 2) (.tmp 23) rfl w.heap.size 0 ((vcells (k, 0, ⟨#[]⟩))).toArray rfl rfl T8 info_val O8 ?_)
      | fail)
    exact bodyPost_ret (v := .agg ((vcells (k, 0, ⟨#[]⟩))).toArray) (tok_results (q := 2) rfl _ _ w.heap.size _ _ rfl FIN hu rfl info_val) rfl ⟨by rw [HT.out, valEnd_yes ke]; rfl, by rw [HT.out, valEnd_yes ke]; exact R9, G9⟩
  · have T8 := B8.there 0 3 (Nat.le_refl _)
    have FIN := B8.wholeT (ds := (vcells zv)) rfl
    have O8 : ((vcells zv)).toArray.all (·.oneCell') = true := vcells_all _
    have RG := S8.range 0 (vcells (k, 0, ⟨#[]⟩)) rfl
    have R9 := R8.other (grown_sets4 w.heap.size (vcells zv) 0 w3) (by omega)
    have G9 := grown_new G8 (grown_sets4 w.heap.size (vcells zv) 0 w3) (by omega)
    clear S8 R8 B8 G8
    go_wp2_with (first
      | (refine wpList_load_mid rfl 69 (.tmp 3) rfl g3 0 rfl (vcells (k, 0, ⟨#[]⟩)) _ RG hu rfl info_val ?_)
      | (refine wpList_store_mid rfl 69 (.tmp 2) (.tmp 22) rfl w.heap.size 0 ((vcells zv)).toArray rfl rfl T8 info_val O8 ?_)
      | fail)
    exact bodyPost_ret (v := .agg ((vcells zv)).toArray) (tok_results (q := 2) rfl _ _ w.heap.size _ _ rfl FIN hu rfl info_val) rfl ⟨by rw [HT.out, valEnd_no ke], by rw [HT.out, valEnd_no ke]; exact R9, G9⟩
set_option maxRecDepth 100000 in
set_option maxHeartbeats 3200000 in
theorem rd_value1 (base g : Nat) (l : List UInt8) (a : Nat) (e : Int) (w : World) (h : Rd w base g l a e) (ha : a ≤ l.length) (hm : l.length ≤ 4000) (hc : (numOut l a e 2).1 = 1) (T : V3 × Nat × Int) (hT : T = valEnd 1 ((numOut l (numOut l a e 2).2.1 (numOut l a e 2).2.2 1099511627776).1 : Nat) [] (numOut l (numOut l a e 2).2.1 (numOut l a e 2).2.2 1099511627776).2.1 (numOut l (numOut l a e 2).2.1 (numOut l a e 2).2.2 1099511627776).2.2) :
    Calls Try.prog 99 #[.pointer (some ⟨g, 0, none⟩)] w fun x w' => x = .returned (.agg (vcells T.1).toArray) ∧ Rd w' base g l T.2.1 T.2.2 ∧ w.grownBy w' (some g) := by
  have hg := h.block.2
  have A1 := numOut_at l a e 2 ha
  have H1 : Hid (∀ wx, Rd wx base g l a e → Calls Try.prog 50 #[.pointer (some ⟨g, 0, none⟩), .int .i64 2] wx fun x w' => x = .returned (.int .i64 ((numOut l a e 2).1 : Nat)) ∧ Rd w' base g l (numOut l a e 2).2.1 (numOut l a e 2).2.2 ∧ wx.grownBy w' (some g)) := Lib.hid fun wx hx => rd_num base g l a e 2 wx hx ha (by omega)
  obtain ⟨r1, hr1⟩ : ∃ r, r = numOut l a e 2 := ⟨_, rfl⟩
  rw [← hr1] at H1 A1 hT hc
  obtain ⟨v1, a1, e1⟩ := r1
  simp only at H1 A1 hT hc
  have H2 : Hid (∀ wx, Rd wx base g l a1 e1 → Calls Try.prog 50 #[.pointer (some ⟨g, 0, none⟩), .int .i64 1099511627776] wx fun x w' => x = .returned (.int .i64 ((numOut l a1 e1 1099511627776).1 : Nat)) ∧ Rd w' base g l (numOut l a1 e1 1099511627776).2.1 (numOut l a1 e1 1099511627776).2.2 ∧ wx.grownBy w' (some g)) := Lib.hid fun wx hx => rd_num base g l a1 e1 1099511627776 wx hx A1 (by omega)
  obtain ⟨r2, hr2⟩ : ∃ r, r = numOut l a1 e1 1099511627776 := ⟨_, rfl⟩
  rw [← hr2] at H2 hT
  obtain ⟨v2, a5, e5⟩ := r2
  simp only at H2 hT
  obtain ⟨k, hk⟩ : ∃ k : Int, k = (v1 : Int) := ⟨_, rfl⟩
  rw [← hk] at H1
  obtain ⟨n, hn⟩ : ∃ n : Int, n = (v2 : Int) := ⟨_, rfl⟩
  rw [← hn] at H2 hT
  have t1 : (k == 1) = true := by rw [hk, hc]; rfl
  have t2 : (k == 2) = false := by rw [hk, hc]; rfl
  have HK : Hid (k = 1) := Lib.hid (by rw [hk, hc]; rfl)
  clear hk hn hr2
  have HE : Hid (∀ wx, Rd wx base g l a5 e5 → Calls Try.prog 18 #[.pointer (some ⟨g, 0, none⟩)] wx fun x w' => x = .returned (.int .i64 e5) ∧ wx = w') := Lib.hid fun wx hx => rd_err base g l a5 e5 wx hx
  have HT := Lib.hid hT
  clear hr1 hT hc A1 ha hm
  have B2 := Blk.new w (vcells zv) 69
  have R0 := h.later ((Below.refl w.heap.size w).alloc (Nat.le_refl _) (.cells (vcells zv).toArray 69))
  have G0 := World.grownBy_alloc w (.cells (vcells zv).toArray 69) (some g)
  have hu := Try.underlying69
  clear h
  have hne : (some g : Option Nat) ≠ some w.heap.size := by simp; omega
  obtain ⟨be, hbe⟩ : ∃ b, b = (e5 != 0) := ⟨_, rfl⟩
  have ke : (e5 != 0) = be := hbe.symm
  clear hbe
  go_enter Try.func99, Try.ntmps99
  go_wp2_with fail
  refine (H1.out _ R0).mono ?_
  rintro x w2 ⟨rfl, R2, G2⟩
  replace B2 := B2.kept G2 hne
  have GG := G0.trans G2
  clear R0 G0 G2
  have B3 := Blk.new w2 (vcells zv) 69
  have T3 := B3.there 0 3 (Nat.le_refl _)
  have S3 := B3.wholeT (ds := (vcells (k, 0, ⟨#[]⟩))) rfl
  have LE3 : Le w2 (World.setCells (w2.alloc (.cells (vcells zv).toArray 69)) w2.heap.size 0 (vcells (k, 0, ⟨#[]⟩))) := below_sets (Nat.le_refl _) _ 0 ((Below.refl w2.heap.size w2).alloc (Nat.le_refl _) _)
  have O3 : ((vcells (k, 0, ⟨#[]⟩))).toArray.all (·.oneCell') = true := vcells_all _
  have hsz := GG.size
  clear B3
  obtain ⟨g3, hg3⟩ : ∃ z, z = w2.heap.size := ⟨_, rfl⟩
  have hb2 := B2.lt
  rw [← hg3] at T3 S3 LE3 hsz hb2
  have HG3 := Lib.hid hg3
  clear hg3
  go_wp2_with (first
    | (rw [← HG3.out]
       refine wpList_store_mid rfl 69 (.tmp 3) (.tmp 6) rfl g3 0 ((vcells (k, 0, ⟨#[]⟩))).toArray rfl rfl T3 info_val O3 ?_
       simp only [Act.put]
       generalize hw3 : World.setCells _ g3 0 ((vcells (k, 0, ⟨#[]⟩))).toArray.toList = w3
       have S3' : Blk w3 g3 (vcells (k, 0, ⟨#[]⟩)) := hw3 ▸ S3
       have LE3' : Le w2 w3 := hw3 ▸ LE3
       have q1 : w3.cell? ⟨g3, 0, none⟩ = some (.int .i64 k) := S3'.cell rfl
       clear hw3 T3 S3 LE3 O3)
    | fail)
  have hne3 : (some g : Option Nat) ≠ some g3 := by simp; omega
  have R3 := R2.later LE3'
  replace B2 := B2.later LE3'
  replace GG := GG.trans (grown_none LE3' _)
  clear R2 LE3' q1
  refine (H2.out _ R3).mono ?_
  rintro x w5 ⟨rfl, R5, G5⟩
  replace B2 := B2.kept G5 hne
  have S5 := S3'.kept G5 hne3
  replace GG := GG.trans G5
  have f1 := S5.frozen 1
  have q1 : w5.cell? ⟨g3, 1, none⟩ = some (.int .i64 0) := S5.cell rfl
  have S8 : Blk (w5.setCell ⟨g3, 1, none⟩ (.int .i64 n)) g3 (vcells (k, n, ⟨#[]⟩)) := S5.set 1 _
  have R8 := R5.other (grown_set1 w5 g3 1 (.int .i64 n)) (by omega)
  have B8 := B2.setOther (b := g3) 1 (.int .i64 n) (by omega)
  have G8 := grown_new GG (grown_set1 w5 g3 1 (.int .i64 n)) hsz
  clear R3 R5 G5 B2 S3' S5 GG
  go_wp2_with fail
  obtain ⟨w8, hw8⟩ : ∃ z, z = w5.setCell ⟨g3, 1, none⟩ (.int .i64 n) := ⟨_, rfl⟩
  rw [← hw8] at S8 R8 B8 G8 ⊢
  clear hw8 f1 q1
  refine (HE.out _ R8).mono ?_
  rintro x w9 ⟨rfl, rfl⟩
  cases be
  · have T8 := B8.there 0 3 (Nat.le_refl _)
    have FIN := B8.wholeT (ds := (vcells (k, n, ⟨#[]⟩))) rfl
    have O8 : ((vcells (k, n, ⟨#[]⟩))).toArray.all (·.oneCell') = true := vcells_all _
    have RG := S8.range 0 (vcells (k, n, ⟨#[]⟩)) rfl
    have R9 := R8.other (grown_sets4 w.heap.size (vcells (k, n, ⟨#[]⟩)) 0 w8) (by omega)
    have G9 := grown_new G8 (grown_sets4 w.heap.size (vcells (k, n, ⟨#[]⟩)) 0 w8) (by omega)
    clear S8 R8 B8 G8
    go_wp2_with (first
      | (refine wpList_load_mid rfl 69 (.tmp 3) rfl g3 0 rfl (vcells (k, n, ⟨#[]⟩)) _ RG hu rfl info_val ?_)
      | (refine wpList_store_mid rfl 69 (.tmp 2) (.tmp 23) rfl w.heap.size 0 ((vcells (k, n, ⟨#[]⟩))).toArray rfl rfl T8 info_val O8 ?_)
      | fail)
    exact bodyPost_ret (v := .agg ((vcells (k, n, ⟨#[]⟩))).toArray) (tok_results (q := 2) rfl _ _ w.heap.size _ _ rfl FIN hu rfl info_val) rfl ⟨by rw [HT.out, valEnd_yes ke]; rw [HK.out]; rfl, by rw [HT.out, valEnd_yes ke]; exact R9, G9⟩
  · have T8 := B8.there 0 3 (Nat.le_refl _)
    have FIN := B8.wholeT (ds := (vcells zv)) rfl
    have O8 : ((vcells zv)).toArray.all (·.oneCell') = true := vcells_all _
    have RG := S8.range 0 (vcells (k, n, ⟨#[]⟩)) rfl
    have R9 := R8.other (grown_sets4 w.heap.size (vcells zv) 0 w8) (by omega)
    have G9 := grown_new G8 (grown_sets4 w.heap.size (vcells zv) 0 w8) (by omega)
    clear S8 R8 B8 G8
    go_wp2_with (first
      | (refine wpList_load_mid rfl 69 (.tmp 3) rfl g3 0 rfl (vcells (k, n, ⟨#[]⟩)) _ RG hu rfl info_val ?_)
      | (refine wpList_store_mid rfl 69 (.tmp 2) (.tmp 22) rfl w.heap.size 0 ((vcells zv)).toArray rfl rfl T8 info_val O8 ?_)
      | fail)
    exact bodyPost_ret (v := .agg ((vcells zv)).toArray) (tok_results (q := 2) rfl _ _ w.heap.size _ _ rfl FIN hu rfl info_val) rfl ⟨by rw [HT.out, valEnd_no ke], by rw [HT.out, valEnd_no ke]; exact R9, G9⟩
set_option maxRecDepth 100000 in
set_option maxHeartbeats 3200000 in
theorem rd_value2 (base g : Nat) (l : List UInt8) (a : Nat) (e : Int) (w : World) (h : Rd w base g l a e) (ha : a ≤ l.length) (hm : l.length ≤ 4000) (hc : (numOut l a e 2).1 = 2) (T : V3 × Nat × Int) (hT : T = valEnd 2 0 (strOut l (numOut l a e 2).2.1 (numOut l a e 2).2.2 24).1 (strOut l (numOut l a e 2).2.1 (numOut l a e 2).2.2 24).2.1 (strOut l (numOut l a e 2).2.1 (numOut l a e 2).2.2 24).2.2) :
    Calls Try.prog 99 #[.pointer (some ⟨g, 0, none⟩)] w fun x w' => x = .returned (.agg (vcells T.1).toArray) ∧ Rd w' base g l T.2.1 T.2.2 ∧ w.grownBy w' (some g) := by
  have hg := h.block.2
  have A1 := numOut_at l a e 2 ha
  have H1 : Hid (∀ wx, Rd wx base g l a e → Calls Try.prog 50 #[.pointer (some ⟨g, 0, none⟩), .int .i64 2] wx fun x w' => x = .returned (.int .i64 ((numOut l a e 2).1 : Nat)) ∧ Rd w' base g l (numOut l a e 2).2.1 (numOut l a e 2).2.2 ∧ wx.grownBy w' (some g)) := Lib.hid fun wx hx => rd_num base g l a e 2 wx hx ha (by omega)
  obtain ⟨r1, hr1⟩ : ∃ r, r = numOut l a e 2 := ⟨_, rfl⟩
  rw [← hr1] at H1 A1 hT hc
  obtain ⟨v1, a1, e1⟩ := r1
  simp only at H1 A1 hT hc
  have H2 : Hid (∀ wx, Rd wx base g l a1 e1 → Calls Try.prog 104 #[.pointer (some ⟨g, 0, none⟩), .int .i64 24] wx fun x w' => x = .returned (.string (str (strOut l a1 e1 24).1)) ∧ Rd w' base g l (strOut l a1 e1 24).2.1 (strOut l a1 e1 24).2.2 ∧ wx.grownBy w' (some g)) := Lib.hid fun wx hx => rd_str base g l a1 e1 24 wx hx A1 (by omega)
  obtain ⟨r2, hr2⟩ : ∃ r, r = strOut l a1 e1 24 := ⟨_, rfl⟩
  rw [← hr2] at H2 hT
  obtain ⟨v2, a5, e5⟩ := r2
  simp only at H2 hT
  obtain ⟨k, hk⟩ : ∃ k : Int, k = (v1 : Int) := ⟨_, rfl⟩
  rw [← hk] at H1
  have t1 : (k == 1) = false := by rw [hk, hc]; rfl
  have t2 : (k == 2) = true := by rw [hk, hc]; rfl
  have HK : Hid (k = 2) := Lib.hid (by rw [hk, hc]; rfl)
  obtain ⟨sv, hsv⟩ : ∃ sv, sv = str v2 := ⟨_, rfl⟩
  rw [← hsv] at H2
  have HSV := Lib.hid hsv
  clear hk hr2 hsv
  have HE : Hid (∀ wx, Rd wx base g l a5 e5 → Calls Try.prog 18 #[.pointer (some ⟨g, 0, none⟩)] wx fun x w' => x = .returned (.int .i64 e5) ∧ wx = w') := Lib.hid fun wx hx => rd_err base g l a5 e5 wx hx
  have HT := Lib.hid hT
  clear hr1 hT hc A1 ha hm
  have B2 := Blk.new w (vcells zv) 69
  have R0 := h.later ((Below.refl w.heap.size w).alloc (Nat.le_refl _) (.cells (vcells zv).toArray 69))
  have G0 := World.grownBy_alloc w (.cells (vcells zv).toArray 69) (some g)
  have hu := Try.underlying69
  clear h
  have hne : (some g : Option Nat) ≠ some w.heap.size := by simp; omega
  obtain ⟨be, hbe⟩ : ∃ b, b = (e5 != 0) := ⟨_, rfl⟩
  have ke : (e5 != 0) = be := hbe.symm
  clear hbe
  go_enter Try.func99, Try.ntmps99
  go_wp2_with fail
  refine (H1.out _ R0).mono ?_
  rintro x w2 ⟨rfl, R2, G2⟩
  replace B2 := B2.kept G2 hne
  have GG := G0.trans G2
  clear R0 G0 G2
  have B3 := Blk.new w2 (vcells zv) 69
  have T3 := B3.there 0 3 (Nat.le_refl _)
  have S3 := B3.wholeT (ds := (vcells (k, 0, ⟨#[]⟩))) rfl
  have LE3 : Le w2 (World.setCells (w2.alloc (.cells (vcells zv).toArray 69)) w2.heap.size 0 (vcells (k, 0, ⟨#[]⟩))) := below_sets (Nat.le_refl _) _ 0 ((Below.refl w2.heap.size w2).alloc (Nat.le_refl _) _)
  have O3 : ((vcells (k, 0, ⟨#[]⟩))).toArray.all (·.oneCell') = true := vcells_all _
  have hsz := GG.size
  clear B3
  obtain ⟨g3, hg3⟩ : ∃ z, z = w2.heap.size := ⟨_, rfl⟩
  have hb2 := B2.lt
  rw [← hg3] at T3 S3 LE3 hsz hb2
  have HG3 := Lib.hid hg3
  clear hg3
  go_wp2_with (first
    | (rw [← HG3.out]
       refine wpList_store_mid rfl 69 (.tmp 3) (.tmp 6) rfl g3 0 ((vcells (k, 0, ⟨#[]⟩))).toArray rfl rfl T3 info_val O3 ?_
       simp only [Act.put]
       generalize hw3 : World.setCells _ g3 0 ((vcells (k, 0, ⟨#[]⟩))).toArray.toList = w3
       have S3' : Blk w3 g3 (vcells (k, 0, ⟨#[]⟩)) := hw3 ▸ S3
       have LE3' : Le w2 w3 := hw3 ▸ LE3
       have q1 : w3.cell? ⟨g3, 0, none⟩ = some (.int .i64 k) := S3'.cell rfl
       clear hw3 T3 S3 LE3 O3)
    | fail)
  have hne3 : (some g : Option Nat) ≠ some g3 := by simp; omega
  have R3 := R2.later LE3'
  replace B2 := B2.later LE3'
  replace GG := GG.trans (grown_none LE3' _)
  clear R2 LE3' q1
  refine (H2.out _ R3).mono ?_
  rintro x w5 ⟨rfl, R5, G5⟩
  replace B2 := B2.kept G5 hne
  have S5 := S3'.kept G5 hne3
  replace GG := GG.trans G5
  have f1 := S5.frozen 2
  have q1 : w5.cell? ⟨g3, 2, none⟩ = some (.string ⟨#[]⟩) := S5.cell rfl
  have S8 : Blk (w5.setCell ⟨g3, 2, none⟩ (.string sv)) g3 (vcells (k, 0, sv)) := S5.set 2 _
  have R8 := R5.other (grown_set1 w5 g3 2 (.string sv)) (by omega)
  have B8 := B2.setOther (b := g3) 2 (.string sv) (by omega)
  have G8 := grown_new GG (grown_set1 w5 g3 2 (.string sv)) hsz
  clear R3 R5 G5 B2 S3' S5 GG
  go_wp2_with fail
  obtain ⟨w8, hw8⟩ : ∃ z, z = w5.setCell ⟨g3, 2, none⟩ (.string sv) := ⟨_, rfl⟩
  rw [← hw8] at S8 R8 B8 G8 ⊢
  clear hw8 f1 q1
  refine (HE.out _ R8).mono ?_
  rintro x w9 ⟨rfl, rfl⟩
  cases be
  · have T8 := B8.there 0 3 (Nat.le_refl _)
    have FIN := B8.wholeT (ds := (vcells (k, 0, sv))) rfl
    have O8 : ((vcells (k, 0, sv))).toArray.all (·.oneCell') = true := vcells_all _
    have RG := S8.range 0 (vcells (k, 0, sv)) rfl
    have R9 := R8.other (grown_sets4 w.heap.size (vcells (k, 0, sv)) 0 w8) (by omega)
    have G9 := grown_new G8 (grown_sets4 w.heap.size (vcells (k, 0, sv)) 0 w8) (by omega)
    clear S8 R8 B8 G8
    go_wp2_with (first
      | (refine wpList_load_mid rfl 69 (.tmp 3) rfl g3 0 rfl (vcells (k, 0, sv)) _ RG hu rfl info_val ?_)
      | (refine wpList_store_mid rfl 69 (.tmp 2) (.tmp 23) rfl w.heap.size 0 ((vcells (k, 0, sv))).toArray rfl rfl T8 info_val O8 ?_)
      | fail)
    exact bodyPost_ret (v := .agg ((vcells (k, 0, sv))).toArray) (tok_results (q := 2) rfl _ _ w.heap.size _ _ rfl FIN hu rfl info_val) rfl ⟨by rw [HT.out, valEnd_yes ke]; rw [HK.out, HSV.out], by rw [HT.out, valEnd_yes ke]; exact R9, G9⟩
  · have T8 := B8.there 0 3 (Nat.le_refl _)
    have FIN := B8.wholeT (ds := (vcells zv)) rfl
    have O8 : ((vcells zv)).toArray.all (·.oneCell') = true := vcells_all _
    have RG := S8.range 0 (vcells (k, 0, sv)) rfl
    have R9 := R8.other (grown_sets4 w.heap.size (vcells zv) 0 w8) (by omega)
    have G9 := grown_new G8 (grown_sets4 w.heap.size (vcells zv) 0 w8) (by omega)
    clear S8 R8 B8 G8
    go_wp2_with (first
      | (refine wpList_load_mid rfl 69 (.tmp 3) rfl g3 0 rfl (vcells (k, 0, sv)) _ RG hu rfl info_val ?_)
      | (refine wpList_store_mid rfl 69 (.tmp 2) (.tmp 22) rfl w.heap.size 0 ((vcells zv)).toArray rfl rfl T8 info_val O8 ?_)
      | fail)
    exact bodyPost_ret (v := .agg ((vcells zv)).toArray) (tok_results (q := 2) rfl _ _ w.heap.size _ _ rfl FIN hu rfl info_val) rfl ⟨by rw [HT.out, valEnd_no ke], by rw [HT.out, valEnd_no ke]; exact R9, G9⟩
theorem rd_value (base g : Nat) (l : List UInt8) (a : Nat) (e : Int) (w : World) (h : Rd w base g l a e) (ha : a ≤ l.length) (hm : l.length ≤ 4000) :
    Calls Try.prog 99 #[.pointer (some ⟨g, 0, none⟩)] w fun x w' => x = .returned (.agg (vcells (valOut l a e).1).toArray) ∧ Rd w' base g l (valOut l a e).2.1 (valOut l a e).2.2 ∧ w.grownBy w' (some g) := by
  by_cases c1 : (numOut l a e 2).1 = 1
  · exact rd_value1 base g l a e w h ha hm c1 _ (by unfold valOut; rw [if_pos c1])
  · by_cases c2 : (numOut l a e 2).1 = 2
    · exact rd_value2 base g l a e w h ha hm c2 _ (by unfold valOut; rw [if_neg c1, if_pos c2])
    · exact rd_value0 base g l a e w h ha hm ⟨c1, c2⟩ _ (by unfold valOut; rw [if_neg c1, if_neg c2])
end Go.Proofs.Ytadmaalhhigbeaa

/- Cards and patches as they are read of bytes: a number above 0; a field: the program's. -/
namespace Go.Proofs.Ytadmaalhhigbeaa
set_option linter.unusedVariables false
open Go Go.RowKit OctM

def abvOut (l : List UInt8) (a : Nat) (e m : Int) : Nat × Nat × Int :=
  ((numOut l a e m).1, (numOut l a e m).2.1, if (numOut l a e m).1 = 0 then failOut (numOut l a e m).2.2 3 else (numOut l a e m).2.2)
theorem abvOut_at (l : List UInt8) (a : Nat) (e m : Int) (h : a ≤ l.length) : (abvOut l a e m).2.1 ≤ l.length := numOut_at l a e m h
/-- What is read of bytes for a field: the value, how far, the error. -/
def fldOut (must : Bool) (l : List UInt8) (a : Nat) (e : Int) : V3 × Nat × Int :=
  ((valOut l a e).1, (valOut l a e).2.1, if must = true ∧ (valOut l a e).1.1 = 0 then failOut (valOut l a e).2.2 3 else (valOut l a e).2.2)
theorem fldOut_at (must : Bool) (l : List UInt8) (a : Nat) (e : Int) (h : a ≤ l.length) : (fldOut must l a e).2.1 ≤ l.length := valOut_at l a e h
/-- Block g, block c, and block g again are written; all else is new. -/
def Tri (g c : Nat) (w w' : World) : Prop := ∃ w1 w2, w.grownBy w1 (some g) ∧ w1.grownBy w2 (some c) ∧ w2.grownBy w' (some g)
section
variable {g c : Nat} {w w' : World}
theorem Tri.new {W0 : World} (t : Tri g c w w') (h : W0.grownBy w (some g)) (hc : W0.heap.size ≤ c) : W0.grownBy w' (some g) := by
  obtain ⟨w1, w2, t1, t2, t3⟩ := t
  exact (grown_new (h.trans t1) t2 hc).trans t3
theorem Own.other {base m : Nat} {e : TypeId} {v : Value} {xs : List Value} (h : Own w base e v xs) (hg : w.grownBy w' (some m)) (hm : m < base) : Own w' base e v xs := by
  refine h.kept hg ?_
  by_cases h0 : v.ownBlock = none
  · exact .inl h0
  · right
    intro he
    have := (h.lt _ he).1
    omega
theorem Tri.own {base : Nat} {e : TypeId} {v : Value} {xs : List Value} (t : Tri g c w w') (h : Own w base e v xs) (h1 : g < base) (h2 : c < base) : Own w' base e v xs := by
  obtain ⟨w1, w2, t1, t2, t3⟩ := t
  exact ((h.other t1 h1).other t2 h2).other t3 h1
theorem Tri.blk {b : Nat} {cs : List Value} (t : Tri g c w w') (h : Blk w b cs) (h1 : g ≠ b) (h2 : c ≠ b) : Blk w' b cs := by
  obtain ⟨w1, w2, t1, t2, t3⟩ := t
  exact ((h.kept t1 (by simpa using h1)).kept t2 (by simpa using h2)).kept t3 (by simpa using h1)
theorem Tri.size (t : Tri g c w w') : w.heap.size ≤ w'.heap.size := by
  obtain ⟨w1, w2, t1, t2, t3⟩ := t
  exact Nat.le_trans t1.size (Nat.le_trans t2.size t3.size)
theorem Blk.putField {pre : List Value} {f : List V3} (h : Blk w g (pre ++ fcells f)) (i : Nat) (hi : i < f.length) (v : V3) :
    Blk (w.setCells g (pre.length + i * 3) (vcells v)) g (pre ++ fcells (f.set i v)) := by
  have hl : (fcells f).length = 3 * f.length := fcells_len f
  have h2 := h.sets (vcells v) (pre.length + i * 3) (by rw [List.length_append, hl]; show _ + 3 ≤ _; omega)
  have e : (pre ++ fcells f).take (pre.length + i * 3) ++ vcells v ++ (pre ++ fcells f).drop (pre.length + i * 3 + (vcells v).length) = pre ++ fcells (f.set i v) := by
    rw [show (vcells v).length = 3 from rfl, List.take_append, List.drop_append, Nat.add_sub_cancel_left]
    rw [List.take_of_length_le (by omega), List.drop_eq_nil_of_le (by omega), List.nil_append, show pre.length + i * 3 + 3 - pre.length = 3 * i + 3 by omega, Nat.mul_comm i 3]
    rw [List.append_assoc, List.append_assoc, ← List.append_assoc ((fcells f).take _), fcells_set _ _ _ hi]
  rw [e] at h2
  exact h2
end

end Go.Proofs.Ytadmaalhhigbeaa
