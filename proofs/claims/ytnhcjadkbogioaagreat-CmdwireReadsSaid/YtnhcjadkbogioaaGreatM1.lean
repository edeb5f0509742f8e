/- A number's bytes: seven bits each, the lowest first; what taking one off bytes gives. Mathematics alone. -/
import Derived.Test.YtnhcjadkbogioaaGreatRows
import Derived.WalkKit
import Derived.ProofKit
import Derived.OpenShut
import Derived.ShutString
import Derived.ChangeOld
import Derived.Below
import Derived.Lib.Hide
import Derived.Outline
import Derived.OwnWalk
import Derived.Maps.AppendAt
import Derived.Laws.AppendOwnNone
import Derived.Laws.CopyOwn
import Derived.Deep.QuietTactic
import Derived.BigQuiet
import Derived.Laws.BytesArg
import Derived.WalkLawsBesides
import Derived.RegionTactic
import Derived.Laws.Bits128
import Derived.Lib.AppendStr
set_option linter.unusedVariables false
set_option maxHeartbeats 1600000
namespace Go.Proofs.YtnhcjadkbogioaaGreat.OctM
def enc (n : Nat) : List UInt8 := if n < 128 then [UInt8.ofNat n] else UInt8.ofNat (n % 128 + 128) :: enc (n / 128)
termination_by n
theorem enc_low {n : Nat} (h : n < 128) : enc n = [UInt8.ofNat n] := by rw [enc, if_pos h]
theorem enc_high {n : Nat} (h : ¬ n < 128) : enc n = UInt8.ofNat (n % 128 + 128) :: enc (n / 128) := by rw [enc, if_neg h]
theorem enc_len (k : Nat) : ∀ n, n < 128 ^ (k + 1) → (enc n).length ≤ k + 1 := by
  induction k with
  | zero => intro n h; rw [enc_low (by simpa using h)]; simp
  | succ k ih =>
    intro n h
    by_cases h1 : n < 128
    · rw [enc_low h1]; simp
    · rw [enc_high h1]
      have := ih (n / 128) (by rw [Nat.div_lt_iff_lt_mul (by omega)]; rw [Nat.pow_succ] at h; omega)
      simp; omega
theorem enc_pos (n : Nat) : 0 < (enc n).length := by
  by_cases h : n < 128
  · rw [enc_low h]; simp
  · rw [enc_high h]; simp
def held (n : Int) : Nat := (min (max n 0) 1099511627776).toNat
theorem held_le (n : Int) : held n ≤ 1099511627776 := by unfold held; omega
theorem held_self {n : Int} (h : 0 ≤ n) (h' : n ≤ 1099511627776) : ((held n : Nat) : Int) = n := by unfold held; omega
theorem held_len (n : Int) : (enc (held n)).length ≤ 6 := enc_len 5 _ (by have := held_le n; simp; omega)
def scan : List UInt8 → Nat → Nat → Nat × Nat × Nat
  | [], i, _ => if 6 ≤ i then (0, 0, 3) else (0, 0, 2)
  | c :: l, i, v => if i = 6 then (0, 0, 3) else if c.toNat < 128 then (if c.toNat = 0 ∧ 0 < i then (0, 0, 3) else (v + c.toNat % 128 * 128 ^ i, i + 1, 0)) else scan l (i + 1) (v + c.toNat % 128 * 128 ^ i)
theorem low_nat {n : Nat} (h' : n < 256) : (UInt8.ofNat n).toNat = n := by
  rw [UInt8.toNat_ofNat_of_lt']; simp [UInt8.size]; omega
def val (l : List UInt8) : Nat → Nat
  | 0 => 0
  | n + 1 => val l n + (l.getD n 0).toNat % 128 * 128 ^ n
theorem scan_run (l : List UInt8) : ∀ n, n ≤ 6 → n ≤ l.length → (∀ j, j < n → 128 ≤ (l.getD j 0).toNat) → scan l 0 0 = scan (l.drop n) n (val l n)
  | 0, _, _, _ => rfl
  | n + 1, h6, hl, ha => by
    rw [scan_run l n (by omega) (by omega) (fun j hj => ha j (by omega))]
    have hd : l.drop n = l[n] :: l.drop (n + 1) := List.drop_eq_getElem_cons (by omega)
    have hg : l.getD n 0 = l[n] := by simp [List.getD, List.getElem?_eq_getElem (show n < l.length by omega)]
    have h1 := ha n (by omega)
    rw [hg] at h1
    rw [hd, scan, if_neg (by omega), if_neg (by omega), val, hg]
def nextOut (l : List UInt8) (most : Int) : Nat × Nat × Nat :=
  if (scan l 0 0).2.2 ≠ 0 then (0, 0, (scan l 0 0).2.2)
  else if 1099511627776 < ((scan l 0 0).1 : Int) ∨ most < ((scan l 0 0).1 : Int) then (0, 0, 4)
  else scan l 0 0
theorem next_six (l : List UInt8) (most : Int) (hl : 6 ≤ l.length) (ha : ∀ j, j < 6 → 128 ≤ (l.getD j 0).toNat) : nextOut l most = (0, 0, 3) := by
  have h := scan_run l 6 (Nat.le_refl _) hl ha
  have h2 : scan (l.drop 6) 6 (val l 6) = (0, 0, 3) := by
    cases l.drop 6 with
    | nil => simp [scan]
    | cons c r => simp [scan]
  unfold nextOut
  rw [h, h2]; simp
theorem next_short (l : List UInt8) (most : Int) (hl : l.length < 6) (ha : ∀ j, j < l.length → 128 ≤ (l.getD j 0).toNat) : nextOut l most = (0, 0, 2) := by
  have h := scan_run l l.length (by omega) (Nat.le_refl _) ha
  rw [List.drop_length] at h
  have h2 : scan ([] : List UInt8) l.length (val l l.length) = (0, 0, 2) := by simp [scan]; omega
  unfold nextOut
  rw [h, h2]; simp
theorem next_low (l : List UInt8) (n : Nat) (h6 : n < 6) (hl : n < l.length) (ha : ∀ j, j < n → 128 ≤ (l.getD j 0).toNat) (hn : (l.getD n 0).toNat < 128) :
    scan l 0 0 = if (l.getD n 0).toNat = 0 ∧ 0 < n then (0, 0, 3) else (val l (n + 1), n + 1, 0) := by
  rw [scan_run l n (by omega) (by omega) ha]
  have hd : l.drop n = l[n] :: l.drop (n + 1) := List.drop_eq_getElem_cons hl
  have hg : l.getD n 0 = l[n] := by simp [List.getD, List.getElem?_eq_getElem hl]
  rw [hg] at hn ⊢
  rw [hd, scan, if_neg (by omega), if_pos hn, val, hg]
end Go.Proofs.YtnhcjadkbogioaaGreat.OctM
namespace Go.Proofs.YtnhcjadkbogioaaGreat
open Go.ChangeShapes Go.WideShapes Go.ChangeAt Go.RowKit
abbrev zA63 : Array Go.Value := #[.int .i64 0, .int .i64 0, .int .i64 0, .int .i64 0, .int .u32 0, .int .u32 0, .int .i64 0, .int .i64 0, .string ⟨#[]⟩, .int .i64 0, .int .i64 0, .string ⟨#[]⟩, .int .i64 0, .int .i64 0, .string ⟨#[]⟩, .int .i64 0, .int .i64 0, .string ⟨#[]⟩, .int .i64 0, .int .i64 0, .string ⟨#[]⟩, .int .i64 0, .int .i64 0, .string ⟨#[]⟩, .int .i64 0, .int .i64 0, .string ⟨#[]⟩, .int .i64 0, .int .i64 0, .string ⟨#[]⟩, .int .i64 0, .int .i64 0, .int .i64 0, .int .i64 0, .int .i64 0, .int .u32 0, .int .u32 0, .int .i64 0, .int .i64 0, .string ⟨#[]⟩, .int .i64 0, .int .i64 0, .string ⟨#[]⟩, .int .i64 0, .int .i64 0, .string ⟨#[]⟩, .int .i64 0, .int .i64 0, .string ⟨#[]⟩, .int .i64 0, .int .i64 0, .string ⟨#[]⟩, .int .i64 0, .int .i64 0, .string ⟨#[]⟩, .int .i64 0, .int .i64 0, .string ⟨#[]⟩, .int .i64 0, .int .i64 0, .string ⟨#[]⟩, .slice none 0 0, .int .u32 0]
theorem hid {p : Prop} (h : p) : Go.RowKit.Hid p := h
theorem pq4 : (∀ (a : Go.Act) (t : Go.Tmp) (v : Go.Value), a.put (some t) v = { a with tmps := a.tmps.setIfInBounds t v }) ∧ (∀ (a : Go.Act) (v : Go.Value), a.put none v = a) ∧ (∀ (l : List Go.Value) (i : Nat) (v : Go.Value), l.toArray.setIfInBounds i v = (l.set i v).toArray) ∧ (∀ (x v : Go.Value) (l : List Go.Value), (x :: l).set 0 v = v :: l) ∧ (∀ (x v : Go.Value) (l : List Go.Value) (n : Nat), (x :: l).set (n + 1) v = x :: l.set n v) := ⟨fun _ _ _ => rfl, fun _ _ => rfl, fun _ _ _ => List.setIfInBounds_toArray _ _ _, fun _ _ _ => rfl, fun _ _ _ _ => rfl⟩
open Go.ChangeMaps (open_string shut_string)
def Sees (w : World) (B : Nat) (A : Option Addr) (xs : List Value) : Prop :=
  0 < xs.length → ∃ b o, A = some ⟨b, o, none⟩ ∧ b < B ∧ ∀ j (h : j < xs.length), w.cell? ⟨b, o + j, none⟩ = some xs[j]
theorem add_at (b o j : Nat) : (⟨b, o, none⟩ : Addr).add j = ⟨b, o + j, none⟩ := by
  by_cases h : j = 0 <;> simp [Addr.add, h]
section
variable {w w' : World} {B B' : Nat} {A : Option Addr} {xs : List Value}
theorem Sees.nil_ : Sees w B A [] := fun h => absurd h (by simp)
theorem Sees.keep (h : Sees w B A xs) (hk : ∀ p : Addr, p.block < B → w'.cell? p = w.cell? p) : Sees w' B A xs := fun hx => by
  obtain ⟨b, o, e, hb, hc⟩ := h hx
  exact ⟨b, o, e, hb, fun j hj => (hk ⟨b, o + j, none⟩ hb).trans (hc j hj)⟩
theorem Sees.below (h : Sees w B A xs) (hb : Below B w w') : Sees w' B A xs := h.keep fun _ hp => hb.cell hp
theorem Sees.more (h : Sees w B A xs) (hB : B ≤ B') : Sees w B' A xs := fun hx => by
  obtain ⟨b, o, e, hb, hc⟩ := h hx
  exact ⟨b, o, e, by omega, hc⟩
theorem Sees.alloc (h : Sees w B A xs) (hB : B ≤ w.heap.size) (o : Obj) : Sees (w.alloc o) B A xs := h.keep fun p hp => World.cell?_alloc_lt w o p (by omega)
theorem Sees.drew (h : Sees w B A xs) : Sees w.drew B A xs := h
theorem Sees.drewN (h : Sees w B A xs) (k : Nat) : Sees (w.drewN k) B A xs := h
theorem Sees.setCell (h : Sees w B A xs) {p : Addr} (hB : B ≤ p.block) (u : Value) : Sees (w.setCell p u) B A xs :=
  h.keep fun q hq => World.cell?_setCell_other w p q u (fun e => by subst e; omega)
theorem Sees.grown {row : Option Nat} (h : Sees w B A xs) (hg : w.grownBy w' row) (hB : B ≤ w.heap.size) (hr : ∀ g, row = some g → B ≤ g) : Sees w' B A xs :=
  h.keep fun p hp => World.cell?_of_block (hg.block p.block (by omega) (fun e => by have := hr _ e.symm; omega))
theorem Sees.cut (h : Sees w B A xs) {k cap : Nat} (hc : xs.length ≤ cap) : Sees w B (if cap = k then A else A.map (·.add k)) (xs.drop k) := fun hx => by
  rw [List.length_drop] at hx
  obtain ⟨b, o, rfl, hb, hcell⟩ := h (by omega)
  rw [if_neg (by omega)]
  refine ⟨b, o + k, by simp [Addr.add], hb, fun j hj => ?_⟩
  rw [List.length_drop] at hj
  rw [Nat.add_assoc, hcell (k + j) (by omega)]
  simp
theorem Sees.take (h : Sees w B A xs) (k : Nat) : Sees w B A (xs.take k) := fun hx => by
  rw [List.length_take] at hx
  obtain ⟨b, o, e, hb, hc⟩ := h (by omega)
  exact ⟨b, o, e, hb, fun j hj => by rw [List.length_take] at hj; rw [hc j (by omega)]; simp⟩
theorem Sees.of_own {base : Nat} {e : TypeId} {n c : Nat} (h : w.ownsRow base e 1 (.slice A n c) n xs) : Sees w w.heap.size A xs := fun hx => by
  have hn : xs.length = n := by simpa using h.1
  rcases h.2 with ⟨_, h0, _⟩ | ⟨g, cap, cur, hv, _, hh, _⟩
  · omega
  have hA : A = some ⟨g, 0, none⟩ := by injection hv
  subst hA
  have hlt : g < w.heap.size := by
    rcases Nat.lt_or_ge g w.heap.size with h1 | h1
    · exact h1
    · rw [Array.getElem?_eq_none h1] at hh; cases hh
  exact ⟨g, 0, rfl, hlt, fun j hj => by
    have h1 := h.cells (g := g) rfl j _ (List.getElem?_eq_getElem hj)
    rw [add_at] at h1
    exact h1⟩
end
def bv (c : UInt8) : Value := .int .u8 (c.toNat : Int)
def bvs (l : List UInt8) : List Value := l.map bv
theorem bvs_length (l : List UInt8) : (bvs l).length = l.length := by simp [bvs]
def Own (w : World) (base : Nat) (e : TypeId) (v : Value) (xs : List Value) : Prop := w.ownsRow base e 1 v xs.length xs
section
variable {w w' : World} {base : Nat} {e : TypeId} {v : Value} {xs : List Value}
theorem Own.form (h : Own w base e v xs) : ∃ A c, v = .slice A xs.length c := by
  rcases h.2 with ⟨rfl, h0⟩ | ⟨g, cap, cur, rfl, _⟩
  · exact ⟨none, 0, by rw [h0]⟩
  · exact ⟨_, _, rfl⟩
theorem Own.sees {A : Option Addr} {n c : Nat} (h : Own w base e (.slice A n c) xs) : Sees w w.heap.size A xs := by
  obtain ⟨A', c', hv⟩ := h.form
  injection hv with h1 h2 h3
  subst h1 h2 h3
  exact Sees.of_own h
theorem Own.alloc (h : Own w base e v xs) (o : Obj) : Own (w.alloc o) base e v xs := World.ownsRow.alloc h o
theorem Own.drewN (h : Own w base e v xs) (k : Nat) : Own (w.drewN k) base e v xs := h
theorem Own.drew (h : Own w base e v xs) : Own w.drew base e v xs := h
theorem Own.kept {row : Option Nat} (h : Own w base e v xs) (hg : w.grownBy w' row) (hne : v.ownBlock = none ∨ v.ownBlock ≠ row) : Own w' base e v xs := World.ownsRow.kept h hg hne
theorem Own.lt (h : Own w base e v xs) : ∀ k, v.ownBlock = some k → base ≤ k ∧ k < w.heap.size := World.ownsRow.lt h
theorem Own.stored {g n c : Nat} (h : Own w base e (.slice (some ⟨g, 0, none⟩) n c) xs) (j : Nat) (u : Value) :
    Own (w.setCell ⟨g, j, none⟩ u) base e (.slice (some ⟨g, 0, none⟩) n c) (xs.set j u) ∧ Below base w (w.setCell ⟨g, j, none⟩ u) := by
  obtain ⟨A', c', hv⟩ := h.form
  injection hv with h1 h2 h3
  subst h2
  have := World.ownsRow.stored (h : w.ownsRow _ _ _ _ _ _) j u
  refine ⟨?_, (Below.refl _ _).setCell (h.lt g rfl).1 u⟩
  unfold Own
  rw [List.length_set]
  exact this.1
theorem Own.block {A : Option Addr} {n c : Nat} (h : Own w base e (.slice A n c) xs) (hn : 0 < n) : ∃ g, A = some ⟨g, 0, none⟩ ∧ base ≤ g ∧ g < w.heap.size := by
  rcases h.2 with ⟨hv, _⟩ | ⟨g, cap, cur, hv, _⟩
  · injection hv with h1 h2 h3; omega
  · injection hv with h1 h2 h3
    subst h1
    exact ⟨g, rfl, h.lt g rfl⟩
theorem Own.cell {g n c : Nat} (h : Own w base e (.slice (some ⟨g, 0, none⟩) n c) xs) (j : Nat) (hj : j < xs.length) : w.cell? ⟨g, j, none⟩ = some xs[j] := by
  have := World.ownsRow.cells (h : w.ownsRow _ _ _ _ _ _) (g := g) rfl j _ (List.getElem?_eq_getElem hj)
  rw [add_at, Nat.zero_add] at this
  exact this
theorem Own.frozen {g n c : Nat} (h : Own w base e (.slice (some ⟨g, 0, none⟩) n c) xs) (j : Nat) : w.frozen? ⟨g, j, none⟩ = false := by
  obtain ⟨A', c', hv⟩ := h.form
  injection hv with h1 h2 h3
  subst h2
  exact World.ownsRow.frozenAt (h : w.ownsRow _ _ _ _ _ _) j
theorem Own.cap {A : Option Addr} {n c : Nat} (h : Own w base e (.slice A n c) xs) : n ≤ c ∧ c ≤ maxLen := by
  rcases h.2 with ⟨hv, hz⟩ | ⟨g, cap, cur, hv, _, _, hnc, hcm, _⟩
  · injection hv with h1 h2 h3; subst h2 h3; simp
  · injection hv with h1 h2 h3; subst h3; rw [h2]; exact ⟨hnc, hcm⟩
theorem Own.lower {base' : Nat} (h : Own w base e v xs) (hb : base' ≤ base) : Own w base' e v xs := by
  refine ⟨h.1, ?_⟩
  rcases h.2 with h' | ⟨g, cap, cur, h1, h2, h3⟩
  · exact .inl h'
  · exact .inr ⟨g, cap, cur, h1, Nat.le_trans hb h2, h3⟩
theorem Own.nil_ (w : World) (base : Nat) (e : TypeId) : Own w base e (.slice none 0 0) [] := World.ownsRow_nil _ _ _ _
end
theorem run_app {P : Program} (w : World) (base : Nat) (t ty e : TypeId) (i : TypeInfo) (z : Value) (bytes : Nat) (ht : P.underlying t = some (.slice e)) (hi : P.info? e = some i) (hz : i.zero = some z)
    (hsize : i.size = 1) (hby : i.bytes = bytes) (hzs : z.cells.size = 1) (v : Value) (xs : List Value) (hown : Own w base e v xs)
    (B : Nat) (A : Option Addr) (c : Nat) (news : List Value) (hs : Sees w B A news) (h1 : ∀ u ∈ news, u.oneCell' = true)
    (h63 : xs.length + news.length ≤ maxLen) (hbytes : (xs.length + news.length) * bytes ≤ 140737488355328) (hbase : base ≤ w.heap.size) :
    ∃ A' c' w', (Builtin.append_ #[t, t] ty #[v, .slice A news.length c]).run P w = .ok (.slice A' (xs.length + news.length) c') w' ∧ Own w' base e (.slice A' (xs.length + news.length) c') (xs ++ news) ∧
      w.grownBy w' v.ownBlock ∧ ((Value.slice A' (xs.length + news.length) c').ownBlock = v.ownBlock ∨ (Value.slice A' (xs.length + news.length) c').ownBlock = some w.heap.size) := by
  obtain ⟨A0, c0, hv⟩ := hown.form
  rcases A with _ | ad
  · have hn : news = [] := by
      rcases news with _ | ⟨x, l⟩
      · rfl
      · obtain ⟨b, o, h, _⟩ := hs (by simp)
        cases h
    subst hn
    subst hv
    refine ⟨A0, c0, w, ?_, by simpa using hown, World.grownBy.refl w _, .inl (by simp)⟩
    rcases hown.2 with ⟨hv0, h0⟩ | ⟨g, cap, cur, hv0, _, _, hnc, _⟩
    · injection hv0 with h1' h2' h3'
      subst h1' h3'
      simp [Builtin.append_, run_underlying ht, sizeOf, typeInfo, hi, Builtin.lenOf, Builtin.firstCells, h0]
    · injection hv0 with h1' h2' h3'
      subst h1' h3'
      simp [Builtin.append_, run_underlying ht, sizeOf, typeInfo, hi, Builtin.lenOf, Builtin.firstCells, hnc, storeCells]
  · have hcells : ∀ j u, news[j]? = some u → w.cell? (ad.add j) = some u := by
      intro j u hu
      have hj : j < news.length := by
        rcases Nat.lt_or_ge j news.length with h | h
        · exact h
        · rw [List.getElem?_eq_none h] at hu; cases hu
      obtain ⟨b, o, h, _, hc⟩ := hs (by omega)
      injection h with h
      subst h
      rw [add_at, hc j hj, ← hu, List.getElem?_eq_getElem hj]
    obtain ⟨v', w', hrun, h2, h3, _, h5⟩ := run_append_own_at (P := P) w base t ty e i z 1 bytes ht hi hz hsize hby hzs (by omega) v xs.length xs hown ad news.length c news (by simp) hcells h1 h63 hbytes hbase
    have h2' : Own w' base e v' (xs ++ news) := by
      unfold Own; rw [List.length_append]; exact h2
    obtain ⟨A', c', hv'⟩ := h2'.form
    rw [List.length_append] at hv'
    subst hv'
    exact ⟨A', c', w', hrun, h2', h3, h5⟩
theorem wpList_app {P : Program} (w : World) {ops : Array Oper} {rest : List Oper} {o : Oper} {a : Act} {Q : Exit → Act → World → Prop} (hgd : o.guard = none) (s x : Operand) (t : TypeId)
    (ho : o.op = .call { callee := .builtin .append, args := #[s, x], argTypes := #[t, t] })
    (base : Nat) (e : TypeId) (i : TypeInfo) (z : Value) (bytes : Nat) (ht : P.underlying t = some (.slice e)) (hi : P.info? e = some i) (hz : i.zero = some z)
    (hsize : i.size = 1) (hby : i.bytes = bytes) (hzs : z.cells.size = 1) (v : Value) (xs : List Value) (nx : Nat) (hv : a.eval s = v) (hnx : xs.length = nx) (hown : Own w base e v xs)
    (B : Nat) (A : Option Addr) (c : Nat) (news : List Value) (n : Nat) (hx : a.eval x = .slice A n c) (hn : news.length = n) (hs : Sees w B A news) (h1 : ∀ u ∈ news, u.oneCell' = true)
    (h63 : nx + n ≤ maxLen) (hbytes : (nx + n) * bytes ≤ 140737488355328) (hbase : base ≤ w.heap.size)
    (h : ∀ A' c' w', Own w' base e (.slice A' (nx + n) c') (xs ++ news) → Below base w w' → w.grownBy w' v.ownBlock →
      ((Value.slice A' (nx + n) c').ownBlock = v.ownBlock ∨ (Value.slice A' (nx + n) c').ownBlock = some w.heap.size) →
      wpList P ops Q rest (a.put o.dst (.slice A' (nx + n) c')) w') : wpList P ops Q (o :: rest) a w := by
  subst hn
  subst hnx
  refine wpList_plain hgd fun K hK => ?_
  obtain ⟨A', c', w', hrun, h2, h3, h4⟩ := run_app (P := P) w base t o.type e i z bytes ht hi hz hsize hby hzs v xs hown B A c news hs h1 h63 hbytes hbase
  unfold Oper.wp execOp
  simp only [ho, resolve, invoke, builtin, Sem.run_bind, Sem.run_pure, Result.andThen_ok, List.map_toArray, List.map_cons, List.map_nil, hv, hx, hrun]
  exact hK _ _ (h A' c' w' h2 ((Below.refl _ _).grown h3 hbase (fun k hk => (hown.lt k hk).1)) h3 h4)
theorem cut_fact {P : Program} (t e : TypeId) (i : TypeInfo) (ht : P.underlying t = some (.slice e)) (hi : P.info? e = some i) (hsz : i.size = 1) {w : World} {B : Nat} {A : Option Addr} {xs : List Value} (h : Sees w B A xs)
    (n m k c : Nat) (K : Int) (kl : IntKind) (hn : xs.length = n) (hnk : n = m + k) (hK : K = (k : Int)) (hc : n ≤ c) :
    ∃ A2, (∀ wx, (Instr.slice t (.slice A n c) (some (.int kl K)) none none).run P wx = .ok (.slice A2 m (c - k)) wx) ∧ Sees w B A2 (xs.drop k) := by
  refine ⟨if c = k then A else A.map (·.add k), fun wx => ?_, h.cut (by omega)⟩
  have he : P.elem t = e := by simp [Program.elem, ht]
  have ht' : P.underlying t = some (.slice (P.elem t)) := by rw [he]; exact ht
  rw [run_slice_l wx t A n c ht' kl K (by omega) (by omega), he]
  have hm : n - k = m := by omega
  simp [sizeOf, typeInfo, hi, hsz, sliced, hK, hm]
theorem sees_lit (w : World) (arr : Array Value) (t : TypeId) (fr : Nat × Nat) (xs : List Value) (h : arr.toList = xs) : Sees (w.alloc (.cells arr t fr)) (w.heap.size + 1) (some ⟨w.heap.size, 0, none⟩) xs := fun _ => by
  refine ⟨w.heap.size, 0, rfl, by omega, fun j hj => ?_⟩
  have e1 : (w.alloc (.cells arr t fr)).heap[w.heap.size]? = some (.cells arr t fr) := heap_alloc_new w _
  subst h
  simp only [World.cell?, e1, Nat.zero_add]
  simp at hj
  simp [hj]
theorem drop_of_take {ys xs : List Value} {n k : Nat} (h : ys.take n = xs) : xs.drop k = (ys.drop k).take (n - k) := by subst h; rw [List.drop_take]
theorem madeCells_list (z : Value) (n : Nat) (hz : z.cells = #[z]) : (madeCells z.cells n).toList = List.replicate n z := by
  rw [hz, toList_madeCells_one]
theorem wpList_mk {P : Program} (w : World) {ops : Array Oper} {rest : List Oper} {o : Oper} {a : Act} {Q : Exit → Act → World → Prop}
    (hg : o.guard = none) (l c : Operand) (t : TypeId) (hop : o.op = Op.makeSlice t l c)
    (base : Nat) (e : TypeId) (i : TypeInfo) (z : Value) (h1 : P.underlying t = some (.slice e)) (h2 : P.info? e = some i) (h3 : i.zero = some z) (h4 : i.size = 1) (hz1 : z.cells = #[z])
    (kl kc : IntKind) (L C : Int) (n m : Nat) (hl : a.eval l = .int kl L) (hc : a.eval c = .int kc C) (hL : L = (n : Int)) (hC : C = (m : Int)) (hnm : n ≤ m) (b2 : i.bytes * m ≤ 281474976710656) (b3 : m ≤ maxLen) (b4 : base ≤ w.heap.size)
    (hK : ∀ w', Own w' base e (.slice (some ⟨w.heap.size, 0, none⟩) n m) (List.replicate n z) → Below base w w' → w.grownBy w' none → Hid (w'.heap.size = w.heap.size + 1) →
      wpList P ops Q rest (a.put o.dst (.slice (some ⟨w.heap.size, 0, none⟩) n m)) w') :
    wpList P ops Q (o :: rest) a w := by
  refine wpList_plain hg fun K hK' => ?_
  have h63' : (m : Int) ≤ 9223372036854775807 := by
    have h := b3
    simp [maxLen] at h
    omega
  have hb' : (i.bytes : Int) * (m : Int) ≤ 281474976710656 := by
    have h : ((i.bytes * m : Nat) : Int) ≤ 281474976710656 := by omega
    rwa [Int.natCast_mul] at h
  have hrun := run_make (P := P) w t e i z h1 h2 h3 kl kc n m (by omega) (by omega) hb' h63'
  simp only [Int.toNat_natCast, h4, Nat.mul_one] at hrun
  subst hL
  subst hC
  unfold Oper.wp
  simp [execOp, hop, hl, hc, hrun, Result.andThen]
  refine hK' _ _ (hK _ ?_ ((Below.refl _ _).alloc b4 _) (World.grownBy_alloc w _ none) (hid (by simp)))
  refine ⟨by simp, .inr ⟨w.heap.size, m, _, by simp, b4, heap_alloc_new w _, by simpa using hnm, b3, by simp [size_madeCells], ?_⟩⟩
  rw [madeCells_list z m hz1]
  simp [List.take_replicate, Nat.min_eq_left hnm]
theorem wpList_cp {P : Program} (w : World) {ops : Array Oper} {rest : List Oper} {o : Oper} {a : Act} {Q : Exit → Act → World → Prop} (hgd : o.guard = none) (d s : Operand) (t : TypeId)
    (ho : o.op = .call { callee := .builtin .copy, args := #[d, s], argTypes := #[t, t] })
    (base : Nat) (e : TypeId) (hu : P.underlying t = some (.slice e)) (hsz : (P.info? e).map (·.size) = some 1)
    (D : Option Addr) (n dc : Nat) (xs : List Value) (hd : a.eval d = .slice D n dc) (hnx : xs.length = n) (hown : Own w base e (.slice D n dc) xs)
    (B : Nat) (A : Option Addr) (m c : Nat) (news : List Value) (hx : a.eval s = .slice A m c) (hn : news.length = m) (hs : Sees w B A news) (h1 : ∀ u ∈ news, u.oneCell' = true)
    (h : ∀ w', Own w' base e (.slice D n dc) (news.take n ++ xs.drop m) → Below base w w' → w.grownBy w' (Value.slice D n dc).ownBlock → Hid (w'.heap.size = w.heap.size) → wpList P ops Q rest (a.put o.dst (goInt (Nat.min m n))) w') : wpList P ops Q (o :: rest) a w := by
  subst hn
  subst hnx
  by_cases h0 : Nat.min news.length xs.length = 0
  · have e1 : news.take xs.length ++ xs.drop news.length = xs := by
      simp only [Nat.min_def] at h0
      split at h0
      · rw [List.eq_nil_of_length_eq_zero h0]; simp
      · rw [List.eq_nil_of_length_eq_zero h0]; simp
    refine wpList_copy_nothing hgd d s t t ho e hu hsz D A xs.length dc news.length c hd hx h0 ?_
    rw [e1] at h
    have := h w hown (Below.refl _ _) (World.grownBy.refl w _) (hid rfl)
    rwa [h0] at this
  · have hpn : 0 < news.length := by
      rcases Nat.eq_zero_or_pos news.length with h' | h'
      · exact absurd (by rw [h']; exact Nat.zero_min _) h0
      · exact h'
    have hpx : 0 < xs.length := by
      rcases Nat.eq_zero_or_pos xs.length with h' | h'
      · exact absurd (by rw [h']; exact Nat.min_zero _) h0
      · exact h'
    rcases hown.2 with ⟨_, hz⟩ | ⟨g, cap, cur, hv, hbg, hg, hnc, hcm, hcs, htake⟩
    · omega
    · injection hv with e1 e2 e3
      subst e1 e3
      obtain ⟨b, off, rfl, hbB, hcell⟩ := hs hpn
      have hlen : (news.take xs.length).length = Nat.min news.length xs.length := by
        rw [List.length_take]; exact Nat.min_comm _ _
      have hle : Nat.min news.length xs.length ≤ xs.length := Nat.min_le_right _ _
      refine wpList_copy_own hgd d s t t ho e hu hsz g 0 xs.length dc ⟨b, off, none⟩ news.length c hd hx cur e hg (news.take xs.length) hlen ?_ ?_ ?_ ?_
      · intro j v hj
        have hjl : j < (news.take xs.length).length := by
          rcases Nat.lt_or_ge j (news.take xs.length).length with h' | h'
          · exact h'
          · rw [List.getElem?_eq_none h'] at hj; cases hj
        have hjn : j < news.length := by rw [hlen] at hjl; exact Nat.lt_of_lt_of_le hjl (Nat.min_le_left _ _)
        rw [add_at, hcell j hjn, ← hj, List.getElem?_take]
        rw [if_pos (by rw [hlen] at hjl; exact Nat.lt_of_lt_of_le hjl hle), List.getElem?_eq_getElem hjn]
      · rw [hlen]; omega
      · intro v hv'
        exact h1 v (List.mem_of_mem_take hv')
      · rw [hlen]
        refine h _ ?_ (below_setRow (Below.refl _ _) hbg _) ⟨rfl, rfl, rfl, by simp, fun k _ hk => setRow_other w g k _ (fun e => hk (by simp [Value.ownBlock, e]))⟩ (hid (by simp))
        have hl2 : (news.take xs.length ++ xs.drop news.length).length = xs.length := by
          simp only [List.length_append, List.length_take, List.length_drop]
          omega
        refine ⟨by simp, .inr ⟨g, dc, _, by rw [hl2], hbg, setRow_heap w g cur _ e _ hg, by rw [hl2]; exact hnc, hcm, ?_, ?_⟩⟩
        · simp only [List.take_zero, List.nil_append, Nat.zero_add, List.size_toArray, List.length_append, List.length_drop, Array.length_toList, hlen]
          omega
        · rw [hl2]
          simp only [List.take_zero, List.nil_append, Nat.zero_add, Nat.mul_one]
          rw [List.take_append, hlen]
          have e2 : (news.take xs.length).take xs.length = news.take xs.length := by rw [List.take_take, Nat.min_self]
          rw [e2]
          congr 1
          rw [Nat.mul_one] at htake
          have e4 : xs.drop news.length = xs.drop (Nat.min news.length xs.length) := by
            simp only [Nat.min_def]
            split
            · rfl
            · rw [List.drop_eq_nil_of_le (by omega), List.drop_eq_nil_of_le (by omega)]
          rw [e4, drop_of_take htake]
theorem own_lit (w : World) (base : Nat) (e : TypeId) (cs : Array Value) (hb : base ≤ w.heap.size) (hm : cs.size ≤ maxLen) :
    Own (w.alloc (.cells cs e)) base e (.slice (some ⟨w.heap.size, 0, none⟩) cs.size cs.size) cs.toList := by
  have h := World.ownsRow_lit (base := base) (size := 1) (e := e) w cs cs.size hb hm (by simp)
  unfold Own
  rw [Array.length_toList]
  exact h
theorem below_drewN {B : Nat} {a w : World} (h : Below B a w) (n : Nat) : Below B a (w.drewN n) := ⟨h.os, h.tape, h.output, h.size, h.block⟩
theorem Sees.byte {w : World} {B b o : Nat} {l : List UInt8} (h : Sees w B (some ⟨b, o, none⟩) (bvs l)) (j : Nat) (hj : j < l.length) : w.cell? ⟨b, o + j, none⟩ = some (.int .u8 (l[j].toNat : Int)) := by
  obtain ⟨b', o', e, _, hc⟩ := h (by rw [bvs_length]; omega)
  injection e with e
  injection e with e1 e2
  subst e1 e2
  rw [hc j (by rw [bvs_length]; exact hj)]
  simp [bvs, bv]
def str (l : List UInt8) : ByteArray := ⟨l.toArray⟩
theorem str_list (l : List UInt8) : (str l).toList = l := by rw [ByteArray.toList_eq]; rfl
theorem str_size (l : List UInt8) : (str l).size = l.length := by simp [str, ByteArray.size]
theorem str_get (l : List UInt8) (k : Nat) (h : k < (str l).size) : (str l)[k] = l[k]'(by rw [← str_size]; exact h) := rfl
theorem bytes_back (l : List UInt8) : l.map ((fun n : Int => UInt8.ofNat n.toNat) ∘ fun c : UInt8 => (c.toNat : Int)) = l := by
  induction l with
  | nil => rfl
  | cons x l ih => simp only [List.map_cons, ih, Function.comp_apply, Int.toNat_natCast, UInt8.ofNat_toNat]
theorem run_str {P : Program} (w : World) (B : Nat) (t e ts : TypeId) (ht : P.underlying t = some (.slice e)) (he : P.underlying e = some (.int .u8)) (hts : P.underlying ts = some .string) (A : Option Addr) (n c : Nat) (l : List UInt8)
    (hn : l.length = n) (hs : Sees w B A (bvs l)) : (convert t ts (.slice A n c)).run P w = .ok (.string (str l)) w := by
  rcases A with _ | ad
  · rw [run_convert_bytes_nil w t e ht he n c ts hts]
    have : l = [] := by
      rcases l with _ | ⟨x, l⟩
      · rfl
      · obtain ⟨b, o, h, _⟩ := hs (by simp [bvs])
        cases h
    subst this
    rfl
  · have hl : (loadCells ad n).run P w = .ok ((l.map fun c => (c.toNat : Int)).map (Value.int .u8)).toArray w := by
      have := run_loadCells_list (P := P) w ad (bvs l) (fun j v hj => by
        have hjl : j < (bvs l).length := by
          rcases Nat.lt_or_ge j (bvs l).length with h | h
          · exact h
          · rw [List.getElem?_eq_none h] at hj; cases hj
        obtain ⟨b, o, h, _, hc⟩ := hs (by omega)
        injection h with h
        subst h
        rw [add_at, hc j hjl, ← hj, List.getElem?_eq_getElem hjl])
      rw [bvs_length, hn] at this
      rw [this]
      congr 2
      simp [bvs, bv]
    rw [run_convert_bytes_string w t ts e _ n c ht he hts, run_bytesToString w _ n c _ hl, foldl_push_bytes]
    simp [str, ByteArray.empty, ByteArray.emptyWithCapacity]
    exact congrArg (fun z : List UInt8 => ([] : List UInt8) ++ z) (bytes_back l)
structure Later (B : Nat) (w : World) where
  val : World
  below : Below B w val
instance {B : Nat} {w : World} : Nonempty (Later B w) := ⟨⟨w, Below.refl _ _⟩⟩
theorem bvs_one (l : List UInt8) : ∀ u ∈ bvs l, u.oneCell' = true := by
  intro u hu
  simp [bvs] at hu
  obtain ⟨c, _, rfl⟩ := hu
  rfl
theorem bvs_append (a b : List UInt8) : bvs (a ++ b) = bvs a ++ bvs b := by simp [bvs]
theorem open_bytes {H : Type} {enc : TypeId × Value → H} {P : Program} {t e : TypeId} {W : World} {v : Value} {d : DataW H} {ps : List MemPlace}
    (ht : P.underlying t = some (.slice e)) (he : P.underlying e = some (.int .u8)) (hc : P.cellsOf e = 1)
    {r : Reach} {base : Nat} (hv : Value.okWide P W r base t v) (h : DataW.Trod enc P W 0 (fun _ => true) true t v d ps) :
    ∃ A n c, ∃ l : List UInt8, v = .slice A n c ∧ n ≤ c ∧ c ≤ maxLen ∧ l.length = n ∧ Sees W W.heap.size A (bvs l) := by
  obtain ⟨A, n, c, rfl⟩ := okWide_slice ht hv
  obtain ⟨fuel, hf⟩ := h
  have hlt := DataW.trod_lt fuel _ _ _ hf
  rcases open_ints ht he hc hf with ⟨hcs, hx⟩ | ⟨x, n, c, zs, hcs, hb, hl, hm, hz, hx, hcell, hwz⟩
  · simp [Value.cells] at hcs
    obtain ⟨rfl, rfl, rfl⟩ := hcs
    exact ⟨none, 0, 0, [], rfl, Nat.le_refl _, by simp [maxLen], rfl, Sees.nil_⟩
  · simp [Value.cells] at hcs
    obtain ⟨rfl, rfl, rfl⟩ := hcs
    have hzl : zs.length = c := by simpa using hz
    refine ⟨some x, n, c, (zs.take n).map (fun z => UInt8.ofNat z.toNat), rfl, hl, hm, by simp; omega, fun hpos => ?_⟩
    simp [bvs] at hpos
    have h0 := hcell 0 (by omega)
    obtain ⟨b, off, spot⟩ := x
    have hspot : spot = none := by simpa [Addr.add] using World.cell?_spot h0
    subst hspot
    refine ⟨b, off, rfl, ?_, fun j hj => ?_⟩
    · simp only [Prod.mk.injEq] at hx
      obtain ⟨_, rfl⟩ := hx
      have := hlt (.cell b off) (by simp [MemPlace.row]; omega)
      simpa [MemPlace.block] using this
    · simp [bvs] at hj
      have hcj := hcell j (by omega)
      have hjl : j < zs.length := by omega
      have hg : zs.getD j 0 = zs[j] := by simp [hjl]
      have hw := hwz zs[j] (List.getElem_mem hjl)
      simp only [Lit.wf, IntKind.min, IntKind.max, IntKind.signed, IntKind.bits] at hw
      simp at hw
      rw [add_at, hg] at hcj
      rw [hcj]
      simp [bvs, bv]
      omega
def ivs (l : List Int) : List Value := l.map (Value.int .i64)
theorem ivs_length (l : List Int) : (ivs l).length = l.length := by simp [ivs]
theorem ivs_append (a b : List Int) : ivs (a ++ b) = ivs a ++ ivs b := by simp [ivs]
theorem Sees.int {w : World} {B : Nat} {A : Option Addr} {l : List Int} (h : Sees w B A (ivs l)) (j : Nat) (hj : j < l.length) : ∃ b o, A = some ⟨b, o, none⟩ ∧ b < B ∧ w.cell? ⟨b, o + j, none⟩ = some (.int .i64 l[j]) := by
  obtain ⟨b, o, e, hb, hc⟩ := h (by rw [ivs_length]; omega)
  refine ⟨b, o, e, hb, ?_⟩
  rw [hc j (by rw [ivs_length]; exact hj)]
  simp [ivs]
theorem keepAll {H : Type} {enc : TypeId × Value → H} {P : Program} (hl : laidOutB P = true) {W W' : World} (hb : Below W.heap.size W W') :
    ∀ {ts : List TypeId} {vs : List Value} {ds : List (DataW H)} {ps : List MemPlace}, (∀ t ∈ ts, P.readableRec t = true ∧ t < P.types.size) →
      DataW.TrodAll enc P W 0 (fun _ => true) true ts vs ds ps → DataW.TrodAll enc P W' 0 (fun b => decide (b < W.heap.size)) true ts vs ds ps
  | [], [], [], ps, _, h => h
  | t :: ts, v :: vs, d :: ds, ps, hr, h => by
    obtain ⟨p, q, hp, hq, e⟩ := h
    refine ⟨p, q, ?_, keepAll hl hb (fun t' ht' => hr t' (List.mem_cons_of_mem _ ht')) hq, e⟩
    have lt : ∀ x ∈ p, x.block < W.heap.size := by obtain ⟨m, hm⟩ := hp; exact DataW.trod_lt m _ _ _ hm
    exact Below.trod hl (hr t (List.mem_cons_self ..)).1 (hr t (List.mem_cons_self ..)).2 hp hb lt
  | [], [], _ :: _, _, _, h => by simp [DataW.TrodAll] at h
  | [], _ :: _, _, _, _, h => by simp [DataW.TrodAll] at h
  | _ :: _, [], _, _, _, h => by simp [DataW.TrodAll] at h
  | _ :: _, _ :: _, [], _, _, h => by simp [DataW.TrodAll] at h
theorem law_post {H : Type} {enc : TypeId × Value → H} {P : Program} {fn : Func} {s : ChangeSpec} {W W' : World} {args : Array Value} {ds gs : List (DataW H)} {before : List MemPlace} {tb : TypeId}
    (hl : laidOutB P = true) (hread : ∀ t ∈ fn.params.toList, P.readableRec t = true ∧ t < P.types.size) (hvars : s.vars = []) (hres : fn.resultTypes = #[tb]) (hbool : P.underlying tb = some .bool)
    (hs : s.fn H ds = { results := [.lit (.bool true)], args := ds })
    (hW : DataW.Whole enc P fn.params.toList s.vars false W args.toList ds gs before) (hb : Below W.heap.size W W') :
    s.post enc P fn false true false false W args (.bool true) W' := by
  have hW' := hW
  obtain ⟨p, q, hA, hV, e, hfz, hnd⟩ := hW
  rw [hvars] at hV
  obtain ⟨rfl, rfl⟩ := trodVars_none hV
  refine ⟨ds, [], before, [], p, [], hW', ?_, ?_, ?_, hb.frame _, fun h => by cases h⟩
  · rw [hres, List.append_nil, hs]
    exact trodAll_mk1 (shut_bool hbool _)
  · rw [List.append_nil, hs]
    exact keepAll hl hb hread hA
  · rw [List.append_nil, hs, hvars]
    rfl
end Go.Proofs.YtnhcjadkbogioaaGreat
namespace Go.Proofs.YtnhcjadkbogioaaGreat
open Go.Lib Go.ChangeShapes Go.WideShapes Go.ChangeAt Go.RowKit
theorem i64_or_nat (a b : Nat) (ha : a < 9223372036854775808) (hb : b < 9223372036854775808) : bits .or .i64 (a : Int) (b : Int) = ((a ||| b : Nat) : Int) := by
  have hx : a ||| b < 2 ^ 63 := Nat.or_lt_two_pow (by omega) (by omega)
  have h1 : (BitVec.ofInt 64 (a : Int)).toNat = a := by
    rw [BitVec.ofInt_natCast, BitVec.toNat_ofNat]; exact Nat.mod_eq_of_lt (by omega)
  have h2 : (BitVec.ofInt 64 (b : Int)).toNat = b := by
    rw [BitVec.ofInt_natCast, BitVec.toNat_ofNat]; exact Nat.mod_eq_of_lt (by omega)
  show IntKind.i64.wrap ((BitVec.ofInt 64 (a : Int) ||| BitVec.ofInt 64 (b : Int)).toNat : Int) = _
  rw [BitVec.toNat_or, h1, h2, IntKind.wrap_i64]
  omega
theorem i64_or_low (a b i : Nat) (hb : b < 2 ^ i) (hs : 2 ^ i * a + b < 9223372036854775808) : bits .or .i64 (b : Int) ((2 ^ i * a : Nat) : Int) = ((b + 2 ^ i * a : Nat) : Int) := by
  rw [i64_or_nat b (2 ^ i * a) (by omega) (by omega), Nat.or_comm, ← Nat.two_pow_add_eq_or_of_lt hb, Nat.add_comm]
theorem i64_or128 (b : Int) (h0 : 0 ≤ b) (hb : b < 128) : bits .or .i64 b 128 = b + 128 := by
  obtain ⟨n, rfl⟩ := Int.eq_ofNat_of_zero_le h0
  have := i64_or_low 1 n 7 (by omega) (by omega)
  simpa using this
end Go.Proofs.YtnhcjadkbogioaaGreat
namespace Go.Proofs.YtnhcjadkbogioaaGreat
open Go.RowKit OctM
theorem oct_info : (Tryz.prog.info? 5).map (fun i => (i.zero, i.size, i.bytes)) = some (some (.int .u8 0), 1, 1) := by kernel_rfl
theorem oct_size : (Tryz.prog.info? 5).map (·.size) = some 1 := by kernel_rfl
theorem oct_parts : ∃ i0, Tryz.prog.info? 5 = some i0 ∧ i0.zero = some (.int .u8 0) ∧ i0.size = 1 ∧ i0.bytes = 1 := by
  have h := oct_info
  cases hi : Tryz.prog.info? 5 with
  | none => rw [hi] at h; cases h
  | some i0 =>
    rw [hi] at h
    simp only [Option.map_some, Option.some.injEq, Prod.mk.injEq] at h
    exact ⟨i0, rfl, h.1, h.2.1, h.2.2⟩
theorem oct_fresh (A : Option Addr) (n c : Nat) (l : List UInt8) (r : Nat) (w : World) (hn : l.length = n) (hs : Sees w w.heap.size A (bvs l)) (hm : n ≤ 1048576) (hr : r ≤ 1048576) :
    Calls Tryz.prog 14 #[.slice A n c, .int .i64 r] w fun e w' => ∃ A' c', e = .returned (.slice A' n c') ∧ Own w' w.heap.size 5 (.slice A' n c') (bvs l) ∧ Below w.heap.size w w' := by
  obtain ⟨i0, hi, hz0, hz1, hz2⟩ := oct_parts
  go_enter Tryz.func14, Tryz.ntmps14
  go_wp2_with (first
    | (refine wpList_mk _ rfl (.tmp 7) (.tmp 11) _ rfl w.heap.size 5 i0 _ Tryz.underlying22 hi hz0 hz1 rfl .i64 .i64 _ _ n (n + r) rfl rfl rfl (by omega) (by omega) (by rw [hz2]; omega) (by simp [maxLen]; omega) (Nat.le_refl _) ?_
       intro w1 hown1 hb1 hg1 hsz1)
    | (refine wpList_cp _ rfl (.tmp 13) (.tmp 14) _ rfl w.heap.size 5 Tryz.underlying22 oct_size (some ⟨w.heap.size, 0, none⟩) n (n + r) (List.replicate n (.int .u8 0)) rfl (by simp) hown1 w.heap.size A n c (bvs l) rfl (by rw [bvs_length, hn]) (hs.below hb1) (bvs_one l) ?_
       intro w2 hown2 hb2 hg2 hsz2
       simp only [Nat.le_refl, List.take_of_length_le, bvs_length, hn, List.drop_replicate, Nat.sub_self, List.replicate_zero, List.append_nil] at hown2)
    | fail)
  go_ret
  exact ⟨_, _, rfl, hown2, hb1.trans hb2⟩
theorem oct_one (m : Nat) (h : m < 256) : bvs [UInt8.ofNat m] = [Value.int .u8 (m : Int)] := by
  simp [bvs, bv, low_nat h]
theorem oct_number_mid (A : Option Addr) (n c : Nat) (l : List UInt8) (z : Int) (w : World) (base : Nat) (hb0 : base ≤ w.heap.size) (hn : l.length = n) (ho : Own w base 5 (.slice A n c) (bvs l)) (hm : n ≤ 2097152) (h0 : 0 ≤ z) (h1 : z ≤ 1099511627776) :
    Calls Tryz.prog 58 #[.slice A n c, .int .i64 z] w fun e w' => ∃ A' c', e = .returned (.slice A' (n + (enc (held z)).length) c') ∧ Own w' base 5 (.slice A' (n + (enc (held z)).length) c') (bvs (l ++ enc (held z))) ∧ Below base w w' := by
  obtain ⟨i0, hi, hz0, hz1, hz2⟩ := oct_parts
  have hel := held_len z
  have hhl := held_le z
  obtain ⟨h, hh⟩ : ∃ h, h = held z := ⟨_, rfl⟩
  rw [← hh] at hel hhl ⊢
  obtain ⟨zn, rfl⟩ := Int.eq_ofNat_of_zero_le h0
  have HH := hid (show zn = h from by have := held_self h0 h1; rw [← hh] at this; omega)
  have hmx : max (zn : Int) 0 = (zn : Int) := by omega
  have hmn : min (zn : Int) 1099511627776 = (zn : Int) := by omega
  clear hh
  obtain ⟨k, hk⟩ : ∃ k, k = (enc h).length := ⟨_, rfl⟩
  rw [← hk] at hel ⊢
  have HK := hid hk
  clear hk
  have HN := hid hn
  clear hn
  go_enter Tryz.func58, Tryz.ntmps58
  go_wp2_with fail
  go_loopw [0, 1] (fun v i wr => ∃ (m : Nat) (p : List UInt8), m ≤ 1099511627776 ∧ i = .int .i64 m ∧ p ++ enc m = l ++ enc h ∧ (∃ A1 c1, v = .slice A1 p.length c1 ∧ Own wr base 5 v (bvs p)) ∧ Below base w wr) (fun _ i _ => (intOf i).toNat)
  case atStart => exact ⟨zn, l, by omega, rfl, by rw [HH.out], ⟨A, c, by rw [HN.out], ho⟩, Below.refl _ _⟩
  case round =>
    obtain ⟨m, p, hm1, rfl, hpe, ⟨A1, c1, rfl, hown⟩, hbr⟩ := hrel
    have hpl : p.length + (enc m).length = n + k := by
      have := congrArg List.length hpe
      rw [List.length_append, List.length_append, HN.out, ← HK.out] at this
      exact this
    have HPE := hid hpe
    have hbs := hbr.size
    have hep := enc_pos m
    clear hpe
    by_cases hlt : m < 128
    · have HE := hid (enc_low hlt)
      have HL := hid (show (enc m).length = 1 from by rw [HE.out]; rfl)
      have hpl1 : p.length + 1 = n + k := by rw [HL.out] at hpl; exact hpl
      clear hpl hep
      obtain ⟨q, hq⟩ : ∃ q, q = p.length := ⟨_, rfl⟩
      rw [← hq] at hown hpl1 ⊢
      have HQ := hid hq
      have HQ1 := hid hpl1
      have hq2 : q ≤ 2097160 := by omega
      have hd : decide ((128 : Int) ≤ (m : Int)) = false := by simp; omega
      have HLT := hid hlt
      clear hq hpl1 hlt hm1
      go_wp2_with (first
        | (at_builtin
           have hlt := HLT.out
           refine wpList_app _ rfl (.tmp 19) (.tmp 22) _ rfl base 5 i0 _ 1 Tryz.underlying22 hi hz0 hz1 hz2 rfl (.slice A1 q c1) (bvs p) q rfl (by rw [bvs_length, HQ.out]) (hown.alloc _) (wr.heap.size + 1) (some ⟨wr.heap.size, 0, none⟩) 1 (bvs [UInt8.ofNat m]) 1 rfl rfl (sees_lit wr _ 5 (0, 0) _ (by rw [oct_one m (by omega)]; simp; try omega)) (bvs_one _) (by simp [maxLen]; omega) (by omega) (by simp; omega) ?_
           intro A3 c3 w3 hown3 hb3 hg3 hat3)
        | fail)
      go_ret
      rw [← bvs_append] at hown3
      have e1 : l ++ enc h = p ++ [UInt8.ofNat m] := by rw [← HPE.out, HE.out]
      rw [e1, ← HQ1.out]
      exact ⟨A3, c3, rfl, hown3, (hbr.alloc (by omega) _).trans hb3⟩
    · have HE := hid (enc_high hlt)
      have HL := hid (show (enc m).length = (enc (m / 128)).length + 1 from by rw [HE.out]; rfl)
      have hpl1 : p.length + 1 ≤ n + k := by rw [HL.out] at hpl; omega
      clear hpl hep
      obtain ⟨q, hq⟩ : ∃ q, q = p.length := ⟨_, rfl⟩
      rw [← hq] at hown hpl1 ⊢
      have HQ := hid hq
      have hq2 : q ≤ 2097160 := by omega
      clear hq hpl1
      have hand := i64_and127 (m : Int)
      have hor := i64_or128 ((m : Int) % 128) (by omega) (by omega)
      have hge : (128 : Int) ≤ (m : Int) := by omega
      go_wp2_with (first
        | (at_builtin
           refine wpList_app _ rfl (.tmp 10) (.tmp 15) _ rfl base 5 i0 _ 1 Tryz.underlying22 hi hz0 hz1 hz2 rfl (.slice A1 q c1) (bvs p) q rfl (by rw [bvs_length, HQ.out]) (hown.alloc _) (wr.heap.size + 1) (some ⟨wr.heap.size, 0, none⟩) 1 (bvs [UInt8.ofNat (m % 128 + 128)]) 1 rfl rfl (sees_lit wr _ 5 (0, 0) _ (by rw [oct_one (m % 128 + 128) (by omega)]; simp; try omega)) (bvs_one _) (by simp [maxLen]; omega) (by omega) (by simp; omega) ?_
           intro A3 c3 w3 hown3 hb3 hg3 hat3)
        | fail)
      rw [← bvs_append] at hown3
      go_roundw
      case rel =>
        refine ⟨m / 128, p ++ [UInt8.ofNat (m % 128 + 128)], by omega, by go_num, ?_, ⟨A3, c3, by rw [List.length_append, ← HQ.out]; rfl, hown3⟩, (hbr.alloc (by omega) _).trans hb3⟩
        rw [← HPE.out, HE.out, List.append_assoc]; rfl
      case measure => simp [intOf]; omega
theorem oct_number_low (A : Option Addr) (n c : Nat) (l : List UInt8) (z : Int) (w : World) (base : Nat) (hb0 : base ≤ w.heap.size) (hn : l.length = n) (ho : Own w base 5 (.slice A n c) (bvs l)) (hm : n ≤ 2097152) (h0 : z < 0) :
    Calls Tryz.prog 58 #[.slice A n c, .int .i64 z] w fun e w' => ∃ A' c', e = .returned (.slice A' (n + (enc (held z)).length) c') ∧ Own w' base 5 (.slice A' (n + (enc (held z)).length) c') (bvs (l ++ enc (held z))) ∧ Below base w w' := by
  obtain ⟨i0, hi, hz0, hz1, hz2⟩ := oct_parts
  have hel := held_len z
  have hhl := held_le z
  obtain ⟨h, hh⟩ : ∃ h, h = held z := ⟨_, rfl⟩
  rw [← hh] at hel hhl ⊢
  have HH := hid (show 0 = h from by rw [hh]; unfold held; omega)
  clear hh
  obtain ⟨k, hk⟩ : ∃ k, k = (enc h).length := ⟨_, rfl⟩
  rw [← hk] at hel ⊢
  have HK := hid hk
  clear hk
  have HN := hid hn
  clear hn
  go_enter Tryz.func58, Tryz.ntmps58
  go_wp2_with fail
  go_loopw [0, 1] (fun v i wr => ∃ (m : Nat) (p : List UInt8), m ≤ 1099511627776 ∧ i = .int .i64 m ∧ p ++ enc m = l ++ enc h ∧ (∃ A1 c1, v = .slice A1 p.length c1 ∧ Own wr base 5 v (bvs p)) ∧ Below base w wr) (fun _ i _ => (intOf i).toNat)
  case atStart => exact ⟨0, l, by omega, rfl, by rw [HH.out], ⟨A, c, by rw [HN.out], ho⟩, Below.refl _ _⟩
  case round =>
    obtain ⟨m, p, hm1, rfl, hpe, ⟨A1, c1, rfl, hown⟩, hbr⟩ := hrel
    have hpl : p.length + (enc m).length = n + k := by
      have := congrArg List.length hpe
      rw [List.length_append, List.length_append, HN.out, ← HK.out] at this
      exact this
    have HPE := hid hpe
    have hbs := hbr.size
    have hep := enc_pos m
    clear hpe
    by_cases hlt : m < 128
    · have HE := hid (enc_low hlt)
      have HL := hid (show (enc m).length = 1 from by rw [HE.out]; rfl)
      have hpl1 : p.length + 1 = n + k := by rw [HL.out] at hpl; exact hpl
      clear hpl hep
      obtain ⟨q, hq⟩ : ∃ q, q = p.length := ⟨_, rfl⟩
      rw [← hq] at hown hpl1 ⊢
      have HQ := hid hq
      have HQ1 := hid hpl1
      have hq2 : q ≤ 2097160 := by omega
      have hd : decide ((128 : Int) ≤ (m : Int)) = false := by simp; omega
      have HLT := hid hlt
      clear hq hpl1 hlt hm1
      go_wp2_with (first
        | (at_builtin
           have hlt := HLT.out
           refine wpList_app _ rfl (.tmp 19) (.tmp 22) _ rfl base 5 i0 _ 1 Tryz.underlying22 hi hz0 hz1 hz2 rfl (.slice A1 q c1) (bvs p) q rfl (by rw [bvs_length, HQ.out]) (hown.alloc _) (wr.heap.size + 1) (some ⟨wr.heap.size, 0, none⟩) 1 (bvs [UInt8.ofNat m]) 1 rfl rfl (sees_lit wr _ 5 (0, 0) _ (by rw [oct_one m (by omega)]; simp; try omega)) (bvs_one _) (by simp [maxLen]; omega) (by omega) (by simp; omega) ?_
           intro A3 c3 w3 hown3 hb3 hg3 hat3)
        | fail)
      go_ret
      rw [← bvs_append] at hown3
      have e1 : l ++ enc h = p ++ [UInt8.ofNat m] := by rw [← HPE.out, HE.out]
      rw [e1, ← HQ1.out]
      exact ⟨A3, c3, rfl, hown3, (hbr.alloc (by omega) _).trans hb3⟩
    · have HE := hid (enc_high hlt)
      have HL := hid (show (enc m).length = (enc (m / 128)).length + 1 from by rw [HE.out]; rfl)
      have hpl1 : p.length + 1 ≤ n + k := by rw [HL.out] at hpl; omega
      clear hpl hep
      obtain ⟨q, hq⟩ : ∃ q, q = p.length := ⟨_, rfl⟩
      rw [← hq] at hown hpl1 ⊢
      have HQ := hid hq
      have hq2 : q ≤ 2097160 := by omega
      clear hq hpl1
      have hand := i64_and127 (m : Int)
      have hor := i64_or128 ((m : Int) % 128) (by omega) (by omega)
      have hge : (128 : Int) ≤ (m : Int) := by omega
      go_wp2_with (first
        | (at_builtin
           refine wpList_app _ rfl (.tmp 10) (.tmp 15) _ rfl base 5 i0 _ 1 Tryz.underlying22 hi hz0 hz1 hz2 rfl (.slice A1 q c1) (bvs p) q rfl (by rw [bvs_length, HQ.out]) (hown.alloc _) (wr.heap.size + 1) (some ⟨wr.heap.size, 0, none⟩) 1 (bvs [UInt8.ofNat (m % 128 + 128)]) 1 rfl rfl (sees_lit wr _ 5 (0, 0) _ (by rw [oct_one (m % 128 + 128) (by omega)]; simp; try omega)) (bvs_one _) (by simp [maxLen]; omega) (by omega) (by simp; omega) ?_
           intro A3 c3 w3 hown3 hb3 hg3 hat3)
        | fail)
      rw [← bvs_append] at hown3
      go_roundw
      case rel =>
        refine ⟨m / 128, p ++ [UInt8.ofNat (m % 128 + 128)], by omega, by go_num, ?_, ⟨A3, c3, by rw [List.length_append, ← HQ.out]; rfl, hown3⟩, (hbr.alloc (by omega) _).trans hb3⟩
        rw [← HPE.out, HE.out, List.append_assoc]; rfl
      case measure => simp [intOf]; omega
theorem oct_number_high (A : Option Addr) (n c : Nat) (l : List UInt8) (z : Int) (w : World) (base : Nat) (hb0 : base ≤ w.heap.size) (hn : l.length = n) (ho : Own w base 5 (.slice A n c) (bvs l)) (hm : n ≤ 2097152) (h0 : 1099511627776 < z) :
    Calls Tryz.prog 58 #[.slice A n c, .int .i64 z] w fun e w' => ∃ A' c', e = .returned (.slice A' (n + (enc (held z)).length) c') ∧ Own w' base 5 (.slice A' (n + (enc (held z)).length) c') (bvs (l ++ enc (held z))) ∧ Below base w w' := by
  obtain ⟨i0, hi, hz0, hz1, hz2⟩ := oct_parts
  have hel := held_len z
  have hhl := held_le z
  obtain ⟨h, hh⟩ : ∃ h, h = held z := ⟨_, rfl⟩
  rw [← hh] at hel hhl ⊢
  have HH := hid (show 1099511627776 = h from by rw [hh]; unfold held; omega)
  clear hh
  obtain ⟨k, hk⟩ : ∃ k, k = (enc h).length := ⟨_, rfl⟩
  rw [← hk] at hel ⊢
  have HK := hid hk
  clear hk
  have HN := hid hn
  clear hn
  go_enter Tryz.func58, Tryz.ntmps58
  go_wp2_with fail
  go_loopw [0, 1] (fun v i wr => ∃ (m : Nat) (p : List UInt8), m ≤ 1099511627776 ∧ i = .int .i64 m ∧ p ++ enc m = l ++ enc h ∧ (∃ A1 c1, v = .slice A1 p.length c1 ∧ Own wr base 5 v (bvs p)) ∧ Below base w wr) (fun _ i _ => (intOf i).toNat)
  case atStart => exact ⟨1099511627776, l, by omega, rfl, by rw [HH.out], ⟨A, c, by rw [HN.out], ho⟩, Below.refl _ _⟩
  case round =>
    obtain ⟨m, p, hm1, rfl, hpe, ⟨A1, c1, rfl, hown⟩, hbr⟩ := hrel
    have hpl : p.length + (enc m).length = n + k := by
      have := congrArg List.length hpe
      rw [List.length_append, List.length_append, HN.out, ← HK.out] at this
      exact this
    have HPE := hid hpe
    have hbs := hbr.size
    have hep := enc_pos m
    clear hpe
    by_cases hlt : m < 128
    · have HE := hid (enc_low hlt)
      have HL := hid (show (enc m).length = 1 from by rw [HE.out]; rfl)
      have hpl1 : p.length + 1 = n + k := by rw [HL.out] at hpl; exact hpl
      clear hpl hep
      obtain ⟨q, hq⟩ : ∃ q, q = p.length := ⟨_, rfl⟩
      rw [← hq] at hown hpl1 ⊢
      have HQ := hid hq
      have HQ1 := hid hpl1
      have hq2 : q ≤ 2097160 := by omega
      have hd : decide ((128 : Int) ≤ (m : Int)) = false := by simp; omega
      have HLT := hid hlt
      clear hq hpl1 hlt hm1
      go_wp2_with (first
        | (at_builtin
           have hlt := HLT.out
           refine wpList_app _ rfl (.tmp 19) (.tmp 22) _ rfl base 5 i0 _ 1 Tryz.underlying22 hi hz0 hz1 hz2 rfl (.slice A1 q c1) (bvs p) q rfl (by rw [bvs_length, HQ.out]) (hown.alloc _) (wr.heap.size + 1) (some ⟨wr.heap.size, 0, none⟩) 1 (bvs [UInt8.ofNat m]) 1 rfl rfl (sees_lit wr _ 5 (0, 0) _ (by rw [oct_one m (by omega)]; simp; try omega)) (bvs_one _) (by simp [maxLen]; omega) (by omega) (by simp; omega) ?_
           intro A3 c3 w3 hown3 hb3 hg3 hat3)
        | fail)
      go_ret
      rw [← bvs_append] at hown3
      have e1 : l ++ enc h = p ++ [UInt8.ofNat m] := by rw [← HPE.out, HE.out]
      rw [e1, ← HQ1.out]
      exact ⟨A3, c3, rfl, hown3, (hbr.alloc (by omega) _).trans hb3⟩
    · have HE := hid (enc_high hlt)
      have HL := hid (show (enc m).length = (enc (m / 128)).length + 1 from by rw [HE.out]; rfl)
      have hpl1 : p.length + 1 ≤ n + k := by rw [HL.out] at hpl; omega
      clear hpl hep
      obtain ⟨q, hq⟩ : ∃ q, q = p.length := ⟨_, rfl⟩
      rw [← hq] at hown hpl1 ⊢
      have HQ := hid hq
      have hq2 : q ≤ 2097160 := by omega
      clear hq hpl1
      have hand := i64_and127 (m : Int)
      have hor := i64_or128 ((m : Int) % 128) (by omega) (by omega)
      have hge : (128 : Int) ≤ (m : Int) := by omega
      go_wp2_with (first
        | (at_builtin
           refine wpList_app _ rfl (.tmp 10) (.tmp 15) _ rfl base 5 i0 _ 1 Tryz.underlying22 hi hz0 hz1 hz2 rfl (.slice A1 q c1) (bvs p) q rfl (by rw [bvs_length, HQ.out]) (hown.alloc _) (wr.heap.size + 1) (some ⟨wr.heap.size, 0, none⟩) 1 (bvs [UInt8.ofNat (m % 128 + 128)]) 1 rfl rfl (sees_lit wr _ 5 (0, 0) _ (by rw [oct_one (m % 128 + 128) (by omega)]; simp; try omega)) (bvs_one _) (by simp [maxLen]; omega) (by omega) (by simp; omega) ?_
           intro A3 c3 w3 hown3 hb3 hg3 hat3)
        | fail)
      rw [← bvs_append] at hown3
      go_roundw
      case rel =>
        refine ⟨m / 128, p ++ [UInt8.ofNat (m % 128 + 128)], by omega, by go_num, ?_, ⟨A3, c3, by rw [List.length_append, ← HQ.out]; rfl, hown3⟩, (hbr.alloc (by omega) _).trans hb3⟩
        rw [← HPE.out, HE.out, List.append_assoc]; rfl
      case measure => simp [intOf]; omega
theorem oct_number (A : Option Addr) (n c : Nat) (l : List UInt8) (z : Int) (w : World) (base : Nat) (hb0 : base ≤ w.heap.size) (hn : l.length = n) (ho : Own w base 5 (.slice A n c) (bvs l)) (hm : n ≤ 2097152) :
    Calls Tryz.prog 58 #[.slice A n c, .int .i64 z] w fun e w' => ∃ A' c', e = .returned (.slice A' (n + (enc (held z)).length) c') ∧ Own w' base 5 (.slice A' (n + (enc (held z)).length) c') (bvs (l ++ enc (held z))) ∧ Below base w w' := by
  by_cases h0 : z < 0
  · exact oct_number_low A n c l z w base hb0 hn ho hm h0
  · by_cases h1 : 1099511627776 < z
    · exact oct_number_high A n c l z w base hb0 hn ho hm h1
    · exact oct_number_mid A n c l z w base hb0 hn ho hm (by omega) (by omega)
def GivesBytes (w : World) (xs : List UInt8) : Ending → World → Prop := fun e w' => ∃ A' c', e = .returned (.slice A' xs.length c') ∧ Own w' w.heap.size 5 (.slice A' xs.length c') (bvs xs) ∧ Below w.heap.size w w'
theorem oct_num (A : Option Addr) (n c : Nat) (l : List UInt8) (z : Int) (w : World) (hn : l.length = n) (hs : Sees w w.heap.size A (bvs l)) (hm : n ≤ 1048576) :
    Calls Tryz.prog 28 #[.slice A n c, .int .i64 z] w (GivesBytes w (l ++ enc (held z))) := by
  have HF := hid (oct_fresh A n c l 6 w hn hs hm (by omega))
  have HL := hid (show (l ++ enc (held z)).length = n + (enc (held z)).length from by rw [List.length_append, hn])
  have HN := hid hn
  clear hn hs
  go_enter Tryz.func28, Tryz.ntmps28
  go_wp2_with fail
  refine HF.out.mono ?_
  rintro e w1 ⟨A1, c1, rfl, o1, b1⟩
  go_wp2_with fail
  refine (oct_number A1 n c1 l z w1 w.heap.size b1.size HN.out o1 (by omega)).mono ?_
  rintro e w2 ⟨A2, c2, rfl, o2, b2⟩
  go_wp2
  go_ret
  exact ⟨A2, c2, by rw [HL.out]; rfl, by rw [HL.out]; exact o2, b1.trans b2⟩
theorem getD_str (l : List UInt8) (k : Nat) (h : k < (str l).size) : (str l)[k] = l.getD k 0 := by
  rw [str_get]
  have : k < l.length := by rw [← str_size]; exact h
  simp [List.getD, List.getElem?_eq_getElem this]
set_option maxRecDepth 8000 in
theorem ref_next (l : List UInt8) (most : Int) (w : World) (hm : l.length ≤ 2097152) :
    Calls Tryz.prog 53 #[.string (str l), .int .i64 most] w fun e w' =>
      e = .returned (.tuple #[.int .i64 ((nextOut l most).1 : Nat), .int .i64 ((nextOut l most).2.1 : Nat), .int .i64 ((nextOut l most).2.2 : Nat)]) ∧ w = w' := by
  have hsz := str_size l
  go_enter Tryz.func53, Tryz.ntmps53
  go_wp2_with fail
  go_loop [7] (fun i => ∃ k : Nat, k ≤ 6 ∧ k ≤ l.length ∧ i = .int .i64 k ∧ (∀ j, j < k → 128 ≤ (l.getD j 0).toNat)) (fun i => 6 - (intOf i).toNat)
  case atStart => exact ⟨0, Nat.zero_le _, Nat.zero_le _, rfl, fun j h => absurd h (Nat.not_lt_zero j)⟩
  case round =>
    obtain ⟨k, hk6, hkl, rfl, ha⟩ := hrel
    have HA := hid ha
    clear ha
    by_cases h6 : k < 6
    · have d6 : decide ((k : Int) < 6) = true := by simp; omega
      by_cases hl : k < l.length
      · have dl : decide ((k : Int) < (l.length : Int)) = true := by simp; omega
        have hks : k < (str l).size := by rw [hsz]; exact hl
        by_cases hx : 128 ≤ (l.getD k 0).toNat
        · have dx : decide ((128 : Int) ≤ ((str l)[k].toNat : Int)) = true := by rw [getD_str]; exact decide_eq_true (by omega)
          have HX := hid hx
          clear hx
          go_wp2_with fail
          go_round
          case rel => exact ⟨k + 1, by omega, by omega, by go_num, fun j hj => by
            by_cases e : j = k
            · rw [e]; exact HX.out
            · exact HA.out j (by omega)⟩
          case measure => simp [intOf]; try omega
        · have dx : decide ((128 : Int) ≤ ((str l)[k].toNat : Int)) = false := by rw [getD_str]; exact decide_eq_false (by omega)
          have hlow := next_low l k h6 hl HA.out (by omega)
          have hk7 : k < 7 := by omega
          by_cases hz : (l.getD k 0).toNat = 0 ∧ 0 < k
          · have HR := hid (show nextOut l most = (0, 0, 3) from by unfold nextOut; rw [hlow, if_pos hz]; simp)
            have dz : (((str l)[k].toNat : Int) == 0) = true := by rw [getD_str, hz.1]; rfl
            have dk : decide ((0 : Int) < (k : Int)) = true := by simp; omega
            have dk' : decide (0 < k) = true := by simp; omega
            have he6 : ((k : Int) == 6) = false := by simp; omega
            have hel : ((k : Int) == (l.length : Int)) = false := by simp; omega
            have HX := hid hx
            have HZ := hid hz
            clear hx hz hlow
            go_wp2_with fail
            go_ret3
            exact ⟨by rw [HR.out]; rfl, rfl⟩
          · have HNO := hid (show nextOut l most = if 1099511627776 < (val l (k + 1) : Int) ∨ most < (val l (k + 1) : Int) then (0, 0, 4) else (val l (k + 1), k + 1, 0) from by unfold nextOut; rw [hlow, if_neg hz]; simp)
            have he6 : ((k : Int) == 6) = false := by simp; omega
            have hel : ((k : Int) == (l.length : Int)) = false := by simp; omega
            have hk5 : k ≤ 5 := by omega
            by_cases hk0 : 0 < k
            · have dk : decide ((0 : Int) < (k : Int)) = true := by simp; omega
              have dk' : decide (0 < k) = true := by simp; omega
              have dz : (((str l)[k].toNat : Int) == 0) = false := by
                rw [getD_str]
                have : (l.getD k 0).toNat ≠ 0 := fun h => hz ⟨h, hk0⟩
                rw [beq_eq_false_iff_ne]; omega
              have HX := hid hx
              have HZ := hid hz
              clear hx hz hlow
              go_wp2_with fail
              go_loop [8, 9] (fun v i => ∃ r u : Nat, r ≤ k + 1 ∧ v = .int .i64 u ∧ i = .int .i64 ((r : Int) - 1) ∧ val l (k + 1) = val l r + u * 128 ^ r ∧ u < 128 ^ (k + 1 - r)) (fun _ i => ((intOf i) + 1).toNat)
              case atStart => exact ⟨k + 1, 0, Nat.le_refl _, rfl, by simp, by simp, by simp⟩
              case round =>
                obtain ⟨r, u, hrk, rfl, rfl, hv, hu⟩ := hrel
                have HV := hid hv
                have HU := hid hu
                clear hv
                by_cases hr0 : r = 0
                · subst hr0
                  have HW := hid (show val l (k + 1) = u from by rw [HV.out]; simp [val])
                  have HNO2 := hid (show nextOut l most = if 1099511627776 < (u : Int) ∨ most < (u : Int) then (0, 0, 4) else (u, k + 1, 0) from by rw [HNO.out, HW.out])
                  clear hu
                  by_cases hb : 1099511627776 < (u : Int)
                  · have HR := hid (show nextOut l most = (0, 0, 4) from by rw [HNO2.out, if_pos (.inl hb)])
                    have db : decide ((1099511627776 : Int) < (u : Int)) = true := decide_eq_true hb
                    clear hb
                    go_wp2_with fail
                    go_ret3
                    exact ⟨by rw [HR.out]; rfl, rfl⟩
                  · have db : decide ((1099511627776 : Int) < (u : Int)) = false := decide_eq_false hb
                    by_cases hb2 : most < (u : Int)
                    · have HR := hid (show nextOut l most = (0, 0, 4) from by rw [HNO2.out, if_pos (.inr hb2)])
                      have db2 : decide (most < (u : Int)) = true := decide_eq_true hb2
                      clear hb hb2
                      go_wp2_with fail
                      go_ret3
                      exact ⟨by rw [HR.out]; rfl, rfl⟩
                    · have HR := hid (show nextOut l most = (u, k + 1, 0) from by rw [HNO2.out, if_neg (by omega)])
                      have db2 : decide (most < (u : Int)) = false := decide_eq_false hb2
                      clear hb hb2
                      go_wp2_with fail
                      go_ret3
                      exact ⟨by rw [HR.out]; rfl, rfl⟩
                · obtain ⟨q, rfl⟩ : ∃ q, r = q + 1 := ⟨r - 1, by omega⟩
                  have hub : u < 34359738368 := Nat.lt_of_lt_of_le hu (Nat.le_trans (Nat.pow_le_pow_right (by omega) (show k + 1 - (q + 1) ≤ 5 by omega)) (by decide))
                  have hqs : q < (str l).size := by rw [hsz]; omega
                  have dq : decide ((0 : Int) ≤ ((q + 1 : Nat) : Int) - 1) = true := by simp; try omega
                  have hqe : ((q + 1 : Nat) : Int) - 1 = (q : Int) := by omega
                  rw [hqe]
                  have hxq := (str l)[q].toNat_lt
                  have HQ := hid (getD_str l q hqs)
                  clear hu hr0
                  go_wp2_with fail
                  go_round
                  case rel =>
                    refine ⟨q, u * 128 + (l.getD q 0).toNat % 128, by omega, by rw [← HQ.out]; go_num, by go_num, ?_, ?_⟩
                    · rw [HV.out, val, Nat.pow_succ, Nat.add_mul]; 
                      have : u * (128 ^ q * 128) = u * 128 * 128 ^ q := by rw [Nat.mul_comm (128 ^ q), Nat.mul_assoc]
                      omega
                    · have e : k + 1 - q = (k + 1 - (q + 1)) + 1 := by omega
                      have := HU.out
                      rw [e, Nat.pow_succ]
                      omega
                  case measure => simp [intOf]
            · have dk : decide ((0 : Int) < (k : Int)) = false := by simp; omega
              have dk' : decide (0 < k) = false := by simp; omega
              have HX := hid hx
              have HZ := hid hz
              clear hx hz hlow
              go_wp2_with fail
              go_loop [8, 9] (fun v i => ∃ r u : Nat, r ≤ k + 1 ∧ v = .int .i64 u ∧ i = .int .i64 ((r : Int) - 1) ∧ val l (k + 1) = val l r + u * 128 ^ r ∧ u < 128 ^ (k + 1 - r)) (fun _ i => ((intOf i) + 1).toNat)
              case atStart => exact ⟨k + 1, 0, Nat.le_refl _, rfl, by simp, by simp, by simp⟩
              case round =>
                obtain ⟨r, u, hrk, rfl, rfl, hv, hu⟩ := hrel
                have HV := hid hv
                have HU := hid hu
                clear hv
                by_cases hr0 : r = 0
                · subst hr0
                  have HW := hid (show val l (k + 1) = u from by rw [HV.out]; simp [val])
                  have HNO2 := hid (show nextOut l most = if 1099511627776 < (u : Int) ∨ most < (u : Int) then (0, 0, 4) else (u, k + 1, 0) from by rw [HNO.out, HW.out])
                  clear hu
                  by_cases hb : 1099511627776 < (u : Int)
                  · have HR := hid (show nextOut l most = (0, 0, 4) from by rw [HNO2.out, if_pos (.inl hb)])
                    have db : decide ((1099511627776 : Int) < (u : Int)) = true := decide_eq_true hb
                    clear hb
                    go_wp2_with fail
                    go_ret3
                    exact ⟨by rw [HR.out]; rfl, rfl⟩
                  · have db : decide ((1099511627776 : Int) < (u : Int)) = false := decide_eq_false hb
                    by_cases hb2 : most < (u : Int)
                    · have HR := hid (show nextOut l most = (0, 0, 4) from by rw [HNO2.out, if_pos (.inr hb2)])
                      have db2 : decide (most < (u : Int)) = true := decide_eq_true hb2
                      clear hb hb2
                      go_wp2_with fail
                      go_ret3
                      exact ⟨by rw [HR.out]; rfl, rfl⟩
                    · have HR := hid (show nextOut l most = (u, k + 1, 0) from by rw [HNO2.out, if_neg (by omega)])
                      have db2 : decide (most < (u : Int)) = false := decide_eq_false hb2
                      clear hb hb2
                      go_wp2_with fail
                      go_ret3
                      exact ⟨by rw [HR.out]; rfl, rfl⟩
                · obtain ⟨q, rfl⟩ : ∃ q, r = q + 1 := ⟨r - 1, by omega⟩
                  have hub : u < 34359738368 := Nat.lt_of_lt_of_le hu (Nat.le_trans (Nat.pow_le_pow_right (by omega) (show k + 1 - (q + 1) ≤ 5 by omega)) (by decide))
                  have hqs : q < (str l).size := by rw [hsz]; omega
                  have dq : decide ((0 : Int) ≤ ((q + 1 : Nat) : Int) - 1) = true := by simp; try omega
                  have hqe : ((q + 1 : Nat) : Int) - 1 = (q : Int) := by omega
                  rw [hqe]
                  have hxq := (str l)[q].toNat_lt
                  have HQ := hid (getD_str l q hqs)
                  clear hu hr0
                  go_wp2_with fail
                  go_round
                  case rel =>
                    refine ⟨q, u * 128 + (l.getD q 0).toNat % 128, by omega, by rw [← HQ.out]; go_num, by go_num, ?_, ?_⟩
                    · rw [HV.out, val, Nat.pow_succ, Nat.add_mul]; 
                      have : u * (128 ^ q * 128) = u * 128 * 128 ^ q := by rw [Nat.mul_comm (128 ^ q), Nat.mul_assoc]
                      omega
                    · have e : k + 1 - q = (k + 1 - (q + 1)) + 1 := by omega
                      have := HU.out
                      rw [e, Nat.pow_succ]
                      omega
                  case measure => simp [intOf]
      · have HR := hid (next_short l most (by omega) (fun j hj => HA.out j (by omega)))
        obtain rfl : k = l.length := by omega
        have he6 : ((l.length : Int) == 6) = false := by simp; omega
        go_wp2_with fail
        go_ret3
        exact ⟨by rw [HR.out]; rfl, rfl⟩
    · obtain rfl : k = 6 := by omega
      have HR := hid (next_six l most hkl HA.out)
      go_wp2_with fail
      go_ret3
      exact ⟨by rw [HR.out]; rfl, rfl⟩
end Go.Proofs.YtnhcjadkbogioaaGreat
