/- Cards: a patch is written to a card: what each returns. -/
import Derived.Test.YtadmaalhhigbeaaW2
import Derived.Laws.StructEq
import Derived.Test.YtadmaalhhigbeaaW1
import Derived.Laws.Bits128
import Derived.Lib.AppendStr
namespace Go.Proofs.Ytadmaalhhigbeaa
set_option linter.unusedVariables false
open Go Go.RowKit BitM

/-- The cells of a card, of a patch. -/
def ccells (id ver lab : Int) (f : List V3) : List Value := [.int .i64 id, .int .i64 ver, .int .u32 lab] ++ fcells f
def pcells (m lab : Int) (f : List V3) : List Value := [.int .u32 m, .int .u32 lab] ++ fcells f
theorem ccells_len (id ver lab : Int) {f : List V3} (h : f.length = 8) : (ccells id ver lab f).length = 27 := by
  unfold ccells; rw [List.length_append, fcells_len, h]; rfl
theorem pcells_len (m lab : Int) {f : List V3} (h : f.length = 8) : (pcells m lab f).length = 26 := by
  unfold pcells; rw [List.length_append, fcells_len, h]; rfl
theorem ccells_one (id ver lab : Int) (f : List V3) : ∀ u ∈ ccells id ver lab f, u.oneCell' = true := by
  intro u hu
  rcases List.mem_append.1 hu with h | h
  · simp at h; rcases h with rfl | rfl | rfl <;> rfl
  · exact fcells_one f u h
theorem pcells_one (m lab : Int) (f : List V3) : ∀ u ∈ pcells m lab f, u.oneCell' = true := by
  intro u hu
  rcases List.mem_append.1 hu with h | h
  · simp at h; rcases h with rfl | rfl <;> rfl
  · exact fcells_one f u h
theorem Blk.card {w : World} {g : Nat} {id ver lab : Int} {f : List V3} (h : Blk w g (ccells id ver lab f)) :
    w.cell? ⟨g, 0, none⟩ = some (.int .i64 id) ∧ w.cell? ⟨g, 1, none⟩ = some (.int .i64 ver) ∧ w.cell? ⟨g, 2, none⟩ = some (.int .u32 lab) := ⟨h.cell rfl, h.cell rfl, h.cell rfl⟩
theorem Blk.patch {w : World} {g : Nat} {m lab : Int} {f : List V3} (h : Blk w g (pcells m lab f)) :
    w.cell? ⟨g, 0, none⟩ = some (.int .u32 m) ∧ w.cell? ⟨g, 1, none⟩ = some (.int .u32 lab) := ⟨h.cell rfl, h.cell rfl⟩
theorem Blk.putLab {w : World} {g : Nat} {id ver lab : Int} {f : List V3} (h : Blk w g (ccells id ver lab f)) (l : Int) : Blk (w.setCell ⟨g, 2, none⟩ (.int .u32 l)) g (ccells id ver l f) := h.set 2 _
theorem Blk.putVer {w : World} {g : Nat} {id ver lab : Int} {f : List V3} (h : Blk w g (ccells id ver lab f)) (v : Int) : Blk (w.setCell ⟨g, 1, none⟩ (.int .i64 v)) g (ccells id v lab f) := h.set 1 _
theorem below_set {B b : Nat} (hb : B ≤ b) {a w : World} (h : Below B a w) (j : Nat) (v : Value) : Below B a (w.setCell ⟨b, j, none⟩ v) := h.setCell hb v
theorem Own.setOther {w : World} {base : Nat} {e : TypeId} {v : Value} {xs : List Value} (h : Own w base e v xs) {b : Nat} (hb : b < base) (j : Nat) (u : Value) : Own (w.setCell ⟨b, j, none⟩ u) base e v xs :=
  h.setsOther hb [u] j
/-- A whole block is laid into another one. -/
theorem Blk.whole {w : World} {g : Nat} {cs ds : List Value} (h : Blk w g cs) (hl : ds.length = cs.length) : Blk (w.setCells g 0 ds) g ds := by
  have h2 := h.sets ds 0 (by omega)
  rw [List.take_zero, List.nil_append, List.drop_eq_nil_of_le (by omega), List.append_nil] at h2
  exact h2
theorem zc27 : (ccells 0 0 0 zeros).toArray = #[Value.int .i64 0, .int .i64 0, .int .u32 0, .int .i64 0, .int .i64 0, .string { data := #[] }, .int .i64 0, .int .i64 0, .string { data := #[] }, .int .i64 0, .int .i64 0, .string { data := #[] }, .int .i64 0, .int .i64 0, .string { data := #[] }, .int .i64 0, .int .i64 0, .string { data := #[] }, .int .i64 0, .int .i64 0, .string { data := #[] }, .int .i64 0, .int .i64 0, .string { data := #[] }, .int .i64 0, .int .i64 0, .string { data := #[] }] := rfl
/-- A card's version behind a write. -/
def nextVer (v : Int) : Int := if v < 1099511627776 then v + 1 else v

end Go.Proofs.Ytadmaalhhigbeaa

/- When two values, fields, cards, patches are the same: what == gives. -/
namespace Go.Proofs.Ytadmaalhhigbeaa
set_option linter.unusedVariables false
open Go Go.RowKit BitM

theorem fcells_ext (f : List V3) (i : Nat) (h : i < f.length) : (fcells f).toArray.extract (i * 3) (i * 3 + 3) = (vcells f[i]).toArray := by
  rw [← fcells_drop f i h, Nat.mul_comm i 3]
  simp [List.extract_eq_take_drop]
theorem all_fields : ∀ (f g : List V3), f.length = g.length → ((List.range f.length).all fun i => decide (f.getD i zv = g.getD i zv)) = decide (f = g)
  | [], [], _ => rfl
  | x :: xs, y :: ys, h => by
    have ih := all_fields xs ys (by simpa using h)
    rw [List.length_cons, List.range_succ_eq_map, List.all_cons, List.all_map]
    simp only [List.getD_cons_zero, Function.comp_def, List.getD_cons_succ, ih]
    by_cases h1 : x = y <;> by_cases h2 : xs = ys <;> simp [h1, h2]
  | [], _ :: _, h => by simp at h
  | _ :: _, [], h => by simp at h
theorem fcells_pre (pre : List Value) (f : List V3) (o : Nat) (ho : pre.length = o) (hf : f.length = 8) : (pre ++ fcells f).toArray.extract o (o + 24) = (fcells f).toArray := by
  subst ho
  have hl : (fcells f).length = 24 := by rw [fcells_len, hf]
  simp [List.extract_eq_take_drop, ← hl]
end Go.Proofs.Ytadmaalhhigbeaa

/- Which patches may be, by the document; what is unlike in cards; what is within: what each returns. -/
namespace Go.Proofs.Ytadmaalhhigbeaa
set_option linter.unusedVariables false
open Go Go.RowKit BitM

section
variable {P : Program} {ops : Array Oper} {rest : List Oper} {op : Oper} {a : Act} {w : World} {Q : Exit → Act → World → Prop}
end

/-- Are the first k fields of a patch as they must be? -/
def fok (x : BitVec 32) (f : List V3) (k : Nat) : Bool := (List.range k).all fun i => vchk (f.getD i zv) && (decide ((f.getD i zv).1 = 0) || has x (i : Int))
theorem fok_succ (x : BitVec 32) (f : List V3) (k : Nat) : fok x f (k + 1) = (fok x f k && (vchk (f.getD k zv) && (decide ((f.getD k zv).1 = 0) || has x (k : Int)))) := by
  unfold fok
  rw [List.range_succ, List.all_append]
  simp
theorem fok_mono (x : BitVec 32) (f : List V3) {j k : Nat} (h : j ≤ k) (hf : fok x f j = false) : fok x f k = false := by
  induction k with
  | zero => obtain rfl : j = 0 := by omega
            exact hf
  | succ k ih =>
    by_cases e : j = k + 1
    · subst e; exact hf
    · rw [fok_succ, ih (by omega)]; rfl
/-- What is wrong with a patch. -/
def pchk (x : BitVec 32) (lab : Int) (f : List V3) : Int :=
  if 511 < x.toNat ∨ x.toNat = 0 then 11 else if 65536 ≤ lab ∨ (lab ≠ 0 ∧ has x 8 = false) then 1 else if fok x f 8 then 0 else 1

end Go.Proofs.Ytadmaalhhigbeaa

/- More words: or of numbers that share no bit; a text appended to a row of the call's own. -/
namespace Go.Proofs.Ytadmaalhhigbeaa
set_option linter.unusedVariables false
open Go.Lib Go.ChangeShapes Go.WideShapes Go.ChangeAt Go.RowKit

theorem i64_or_nat (a b : Nat) (ha : a < 9223372036854775808) (hb : b < 9223372036854775808) : bits .or .i64 (a : Int) (b : Int) = ((a ||| b : Nat) : Int) := by
  have hx : a ||| b < 2 ^ 63 := Nat.or_lt_two_pow (by omega) (by omega)
  have h1 : (BitVec.ofInt 64 (a : Int)).toNat = a := by
    rw [BitVec.ofInt_natCast, BitVec.toNat_ofNat]; exact Nat.mod_eq_of_lt (by omega)
  have h2 : (BitVec.ofInt 64 (b : Int)).toNat = b := by
    rw [BitVec.ofInt_natCast, BitVec.toNat_ofNat]; exact Nat.mod_eq_of_lt (by omega)
  show IntKind.i64.wrap ((BitVec.ofInt 64 (a : Int) ||| BitVec.ofInt 64 (b : Int)).toNat : Int) = _
  rw [BitVec.toNat_or, h1, h2, IntKind.wrap_i64]
  omega
/-- Where the lower number has only the lower bits, or is the sum. -/
theorem i64_or_low (a b i : Nat) (hb : b < 2 ^ i) (hs : 2 ^ i * a + b < 9223372036854775808) : bits .or .i64 (b : Int) ((2 ^ i * a : Nat) : Int) = ((b + 2 ^ i * a : Nat) : Int) := by
  rw [i64_or_nat b (2 ^ i * a) (by omega) (by omega), Nat.or_comm, ← Nat.two_pow_add_eq_or_of_lt hb, Nat.add_comm]
theorem i64_or128 (b : Int) (h0 : 0 ≤ b) (hb : b < 128) : bits .or .i64 b 128 = b + 128 := by
  obtain ⟨n, rfl⟩ := Int.eq_ofNat_of_zero_le h0
  have := i64_or_low 1 n 7 (by omega) (by omega)
  simpa using this

/-- append(b, s...) onto a row of the call's own. -/
theorem wpList_apps {P : Program} (w : World) {ops : Array Oper} {rest : List Oper} {o : Oper} {a : Act} {Q : Exit → Act → World → Prop} (hgd : o.guard = none) (s x : Operand) (t u : TypeId)
    (ho : o.op = .call { callee := .builtin .append, args := #[s, x], argTypes := #[t, u] })
    (base : Nat) (e : TypeId) (i : TypeInfo) (ht : P.underlying t = some (.slice e)) (hu : P.underlying u = some .string) (hi : P.info? e = some i) (hz : i.zero = some (.int .u8 0))
    (hsize : i.size = 1) (hby : i.bytes = 1) (v : Value) (xs : List Value) (nx : Nat) (hv : a.eval s = v) (hnx : xs.length = nx) (hown : Own w base e v xs)
    (l : List UInt8) (hx : a.eval x = .string (str l)) (n : Nat) (hn : l.length = n)
    (h63 : nx + n ≤ maxLen) (hbytes : nx + n ≤ 140737488355328) (hbase : base ≤ w.heap.size)
    (h : ∀ A' c' w', Own w' base e (.slice A' (nx + n) c') (xs ++ bvs l) → Below base w w' → w.grownBy w' v.ownBlock →
      wpList P ops Q rest (a.put o.dst (.slice A' (nx + n) c')) w') : wpList P ops Q (o :: rest) a w := by
  subst hn
  subst hnx
  refine wpList_plain hgd fun K hK => ?_
  obtain ⟨v', w', hrun, h2, h3, _⟩ := run_append_own_string (P := P) w base t u o.type e i ht hu hi hz hsize hby v xs.length xs hown (str l) (by rw [str_size]; exact h63) (by rw [str_size]; exact hbytes) hbase
  have hcs : strCells (str l) = bvs l := rfl
  rw [str_size, hcs] at h2
  have h2' : Own w' base e v' (xs ++ bvs l) := by
    unfold Own; rw [List.length_append, bvs_length]; exact h2
  obtain ⟨A', c', hv'⟩ := h2'.form
  rw [List.length_append, bvs_length] at hv'
  subst hv'
  unfold Oper.wp execOp
  simp only [ho, resolve, invoke, builtin, Sem.run_bind, Sem.run_pure, Result.andThen_ok, List.map_toArray, List.map_cons, List.map_nil, hv, hx, hrun]
  exact hK _ _ (h A' c' w' h2' ((Below.refl _ _).grown h3 hbase (fun k hk => (hown.lt k hk).1)) h3)
end Go.Proofs.Ytadmaalhhigbeaa

/- A number's bytes: seven bits each, the lowest first; what taking one off bytes gives. Mathematics alone. -/
namespace Go.Proofs.Ytadmaalhhigbeaa.OctM

/-- A number's bytes. -/
def enc (n : Nat) : List UInt8 := if n < 128 then [UInt8.ofNat n] else UInt8.ofNat (n % 128 + 128) :: enc (n / 128)
termination_by n
theorem enc_low {n : Nat} (h : n < 128) : enc n = [UInt8.ofNat n] := by rw [enc, if_pos h]
theorem enc_high {n : Nat} (h : ¬ n < 128) : enc n = UInt8.ofNat (n % 128 + 128) :: enc (n / 128) := by rw [enc, if_neg h]
theorem enc_len (k : Nat) : ∀ n, n < 128 ^ (k + 1) → (enc n).length ≤ k + 1 := by
  induction k with
  | zero => intro n h; rw [enc_low (by simpa using h)]; simp
  | succ k ih =>
    intro n h
    by_cases h1 : n < 128
    · rw [enc_low h1]; simp
    · rw [enc_high h1]
      have := ih (n / 128) (by rw [Nat.div_lt_iff_lt_mul (by omega)]; rw [Nat.pow_succ] at h; omega)
      simp; omega
theorem enc_pos (n : Nat) : 0 < (enc n).length := by
  by_cases h : n < 128
  · rw [enc_low h]; simp
  · rw [enc_high h]; simp
/-- A number held between 0 and the greatest. -/
def held (n : Int) : Nat := (min (max n 0) 1099511627776).toNat
theorem held_le (n : Int) : held n ≤ 1099511627776 := by unfold held; omega
theorem held_self {n : Int} (h : 0 ≤ n) (h' : n ≤ 1099511627776) : ((held n : Nat) : Int) = n := by unfold held; omega
theorem held_len (n : Int) : (enc (held n)).length ≤ 6 := enc_len 5 _ (by have := held_le n; simp; omega)

/-- What bytes begin with: a number, how many bytes it has, and 0; or 0, 0, and an error. i bytes of it are behind, their value is v. -/
def scan : List UInt8 → Nat → Nat → Nat × Nat × Nat
  | [], i, _ => if 6 ≤ i then (0, 0, 3) else (0, 0, 2)
  | c :: l, i, v => if i = 6 then (0, 0, 3) else if c.toNat < 128 then (if c.toNat = 0 ∧ 0 < i then (0, 0, 3) else (v + c.toNat % 128 * 128 ^ i, i + 1, 0)) else scan l (i + 1) (v + c.toNat % 128 * 128 ^ i)
theorem enc_ne_zero {n : Nat} (h : 0 < n) (h' : n < 128) : (UInt8.ofNat n).toNat = n := by
  rw [UInt8.toNat_ofNat_of_lt']; simp [UInt8.size]; omega
theorem low_nat {n : Nat} (h' : n < 256) : (UInt8.ofNat n).toNat = n := by
  rw [UInt8.toNat_ofNat_of_lt']; simp [UInt8.size]; omega
/-- What was put is taken. -/
theorem scan_enc (rest : List UInt8) : ∀ (k n i v : Nat), i + k ≤ 6 → n < 128 ^ k → (0 < i → 0 < n) → 0 < k → scan (enc n ++ rest) i v = (v + n * 128 ^ i, i + (enc n).length, 0) := by
  intro k
  induction k with
  | zero => intro n i v _ _ _ h; omega
  | succ k ih =>
    intro n i v hik hn hi _
    by_cases h1 : n < 128
    · rw [enc_low h1]
      simp only [List.cons_append, List.nil_append, scan, low_nat (show n < 256 by omega), List.length_singleton]
      rw [if_neg (by omega), if_pos h1, if_neg (by omega), Nat.mod_eq_of_lt h1]
    · rw [enc_high h1]
      simp only [List.cons_append, scan, low_nat (show n % 128 + 128 < 256 by omega), List.length_cons]
      have hk : 0 < k := by
        rcases Nat.eq_zero_or_pos k with h | h
        · subst h; simp at hn; omega
        · exact h
      rw [if_neg (by omega), if_neg (by omega), ih (n / 128) (i + 1) _ (by omega) (by rw [Nat.div_lt_iff_lt_mul (by omega)]; rw [Nat.pow_succ] at hn; omega) (by omega) hk]
      have e1 : (n % 128 + 128) % 128 = n % 128 := by omega
      have e2 : v + (n % 128 + 128) % 128 * 128 ^ i + n / 128 * 128 ^ (i + 1) = v + n * 128 ^ i := by
        rw [e1, Nat.pow_succ, Nat.mul_comm (128 ^ i) 128, ← Nat.mul_assoc, Nat.add_assoc, ← Nat.add_mul]
        congr 2; omega
      rw [e2]
      congr 2; omega
theorem scan_put (n : Nat) (h : n ≤ 1099511627776) (rest : List UInt8) : scan (enc n ++ rest) 0 0 = (n, (enc n).length, 0) := by
  rw [scan_enc rest 6 n 0 0 (by omega) (by simp; omega) (by omega) (by omega)]; simp
end Go.Proofs.Ytadmaalhhigbeaa.OctM

/- octet.number, fresh, Num, Str, Flag: what each returns. -/
namespace Go.Proofs.Ytadmaalhhigbeaa
set_option linter.unusedVariables false
open Go.RowKit OctM

theorem oct_info : (Try.prog.info? 5).map (fun i => (i.zero, i.size, i.bytes)) = some (some (.int .u8 0), 1, 1) := by kernel_rfl
theorem oct_size : (Try.prog.info? 5).map (·.size) = some 1 := by kernel_rfl
theorem oct_parts : ∃ i0, Try.prog.info? 5 = some i0 ∧ i0.zero = some (.int .u8 0) ∧ i0.size = 1 ∧ i0.bytes = 1 := by
  have h := oct_info
  cases hi : Try.prog.info? 5 with
  | none => rw [hi] at h; cases h
  | some i0 =>
    rw [hi] at h
    simp only [Option.map_some, Option.some.injEq, Prod.mk.injEq] at h
    exact ⟨i0, rfl, h.1, h.2.1, h.2.2⟩

/-- A copy with room: a row of the call's own. -/
theorem oct_fresh (A : Option Addr) (n c : Nat) (l : List UInt8) (r : Nat) (w : World) (hn : l.length = n) (hs : Sees w w.heap.size A (bvs l)) (hm : n ≤ 1048576) (hr : r ≤ 1048576) :
    Calls Try.prog 48 #[.slice A n c, .int .i64 r] w fun e w' => ∃ A' c', e = .returned (.slice A' n c') ∧ Own w' w.heap.size 5 (.slice A' n c') (bvs l) ∧ Below w.heap.size w w' := by
  obtain ⟨i0, hi, hz0, hz1, hz2⟩ := oct_parts
  go_enter Try.func48, Try.ntmps48
  go_wp2_with (first
    | (refine wpList_mk _ rfl (.tmp 7) (.tmp 11) _ rfl w.heap.size 5 i0 _ Try.underlying27 hi hz0 hz1 rfl .i64 .i64 _ _ n (n + r) rfl rfl rfl (by omega) (by omega) (by rw [hz2]; omega) (by simp [maxLen]; omega) (Nat.le_refl _) ?_
       intro w1 hown1 hb1 hg1 hsz1)
    | (refine wpList_cp _ rfl (.tmp 13) (.tmp 14) _ rfl w.heap.size 5 Try.underlying27 oct_size (some ⟨w.heap.size, 0, none⟩) n (n + r) (List.replicate n (.int .u8 0)) rfl (by simp) hown1 w.heap.size A n c (bvs l) rfl (by rw [bvs_length, hn]) (hs.below hb1) (bvs_one l) ?_
       intro w2 hown2 hb2 hg2 hsz2
       simp only [Nat.le_refl, List.take_of_length_le, bvs_length, hn, List.drop_replicate, Nat.sub_self, List.replicate_zero, List.append_nil] at hown2)
    | fail)
  go_ret
  exact ⟨_, _, rfl, hown2, hb1.trans hb2⟩

theorem oct_one (m : Nat) (h : m < 256) : bvs [UInt8.ofNat m] = [Value.int .u8 (m : Int)] := by
  simp [bvs, bv, low_nat h]

set_option maxHeartbeats 1600000 in
theorem oct_number_mid (A : Option Addr) (n c : Nat) (l : List UInt8) (z : Int) (w : World) (base : Nat) (hb0 : base ≤ w.heap.size) (hn : l.length = n) (ho : Own w base 5 (.slice A n c) (bvs l)) (hm : n ≤ 2097152) (h0 : 0 ≤ z) (h1 : z ≤ 1099511627776) :
    Calls Try.prog 69 #[.slice A n c, .int .i64 z] w fun e w' => ∃ A' c', e = .returned (.slice A' (n + (enc (held z)).length) c') ∧ Own w' base 5 (.slice A' (n + (enc (held z)).length) c') (bvs (l ++ enc (held z))) ∧ Below base w w' := by
  obtain ⟨i0, hi, hz0, hz1, hz2⟩ := oct_parts
  have hel := held_len z
  have hhl := held_le z
  obtain ⟨h, hh⟩ : ∃ h, h = held z := ⟨_, rfl⟩
  rw [← hh] at hel hhl ⊢
  obtain ⟨zn, rfl⟩ := Int.eq_ofNat_of_zero_le h0
  have HH := Lib.hid (show zn = h from by have := held_self h0 h1; rw [← hh] at this; omega)
  have hmx : max (zn : Int) 0 = (zn : Int) := by omega
  have hmn : min (zn : Int) 1099511627776 = (zn : Int) := by omega
  clear hh
  obtain ⟨k, hk⟩ : ∃ k, k = (enc h).length := ⟨_, rfl⟩
  rw [← hk] at hel ⊢
  have HK := Lib.hid hk
  clear hk
  have HN := Lib.hid hn
  clear hn
  go_enter Try.func69, Try.ntmps69
  go_wp2_with fail
  go_loopw [0, 1] (fun v i wr => ∃ (m : Nat) (p : List UInt8), m ≤ 1099511627776 ∧ i = .int .i64 m ∧ p ++ enc m = l ++ enc h ∧ (∃ A1 c1, v = .slice A1 p.length c1 ∧ Own wr base 5 v (bvs p)) ∧ Below base w wr) (fun _ i _ => (intOf i).toNat)
  case atStart => exact ⟨zn, l, by omega, rfl, by rw [HH.out], ⟨A, c, by rw [HN.out], ho⟩, Below.refl _ _⟩
  case round =>
    obtain ⟨m, p, hm1, rfl, hpe, ⟨A1, c1, rfl, hown⟩, hbr⟩ := hrel
    have hpl : p.length + (enc m).length = n + k := by
      have := congrArg List.length hpe
      rw [List.length_append, List.length_append, HN.out, ← HK.out] at this
      exact this
    have HPE := Lib.hid hpe
    have hbs := hbr.size
    have hep := enc_pos m
    clear hpe
    by_cases hlt : m < 128
    · have HE := Lib.hid (enc_low hlt)
      have HL := Lib.hid (show (enc m).length = 1 from by rw [HE.out]; rfl)
      have hpl1 : p.length + 1 = n + k := by rw [HL.out] at hpl; exact hpl
      clear hpl hep
      obtain ⟨q, hq⟩ : ∃ q, q = p.length := ⟨_, rfl⟩
      rw [← hq] at hown hpl1 ⊢
      have HQ := Lib.hid hq
      have HQ1 := Lib.hid hpl1
      have hq2 : q ≤ 2097160 := by omega
      have hd : decide ((128 : Int) ≤ (m : Int)) = false := by simp; omega
      have HLT := Lib.hid hlt
      clear hq hpl1 hlt hm1
      go_wp2_with (first
        | (at_builtin
           have hlt := HLT.out
           refine wpList_app _ rfl (.tmp 19) (.tmp 22) _ rfl base 5 i0 _ 1 Try.underlying27 hi hz0 hz1 hz2 rfl (.slice A1 q c1) (bvs p) q rfl (by rw [bvs_length, HQ.out]) (hown.alloc _) (wr.heap.size + 1) (some ⟨wr.heap.size, 0, none⟩) 1 (bvs [UInt8.ofNat m]) 1 rfl rfl (sees_lit wr _ 5 (0, 0) _ (by rw [oct_one m (by omega)]; simp; try omega)) (bvs_one _) (by simp [maxLen]; omega) (by omega) (by simp; omega) ?_
           intro A3 c3 w3 hown3 hb3 hg3 hat3)
        | fail)
      go_ret
      rw [← bvs_append] at hown3
      have e1 : l ++ enc h = p ++ [UInt8.ofNat m] := by rw [← HPE.out, HE.out]
      rw [e1, ← HQ1.out]
      exact ⟨A3, c3, rfl, hown3, (hbr.alloc (by omega) _).trans hb3⟩
    · have HE := Lib.hid (enc_high hlt)
      have HL := Lib.hid (show (enc m).length = (enc (m / 128)).length + 1 from by rw [HE.out]; rfl)
      have hpl1 : p.length + 1 ≤ n + k := by rw [HL.out] at hpl; omega
      clear hpl hep
      obtain ⟨q, hq⟩ : ∃ q, q = p.length := ⟨_, rfl⟩
      rw [← hq] at hown hpl1 ⊢
      have HQ := Lib.hid hq
      have hq2 : q ≤ 2097160 := by omega
      clear hq hpl1
      have hand := i64_and127 (m : Int)
      have hor := i64_or128 ((m : Int) % 128) (by omega) (by omega)
      have hge : (128 : Int) ≤ (m : Int) := by omega
      go_wp2_with (first
        | (at_builtin
           refine wpList_app _ rfl (.tmp 10) (.tmp 15) _ rfl base 5 i0 _ 1 Try.underlying27 hi hz0 hz1 hz2 rfl (.slice A1 q c1) (bvs p) q rfl (by rw [bvs_length, HQ.out]) (hown.alloc _) (wr.heap.size + 1) (some ⟨wr.heap.size, 0, none⟩) 1 (bvs [UInt8.ofNat (m % 128 + 128)]) 1 rfl rfl (sees_lit wr _ 5 (0, 0) _ (by rw [oct_one (m % 128 + 128) (by omega)]; simp; try omega)) (bvs_one _) (by simp [maxLen]; omega) (by omega) (by simp; omega) ?_
           intro A3 c3 w3 hown3 hb3 hg3 hat3)
        | fail)
      rw [← bvs_append] at hown3
      go_roundw
      case rel =>
        refine ⟨m / 128, p ++ [UInt8.ofNat (m % 128 + 128)], by omega, by go_num, ?_, ⟨A3, c3, by rw [List.length_append, ← HQ.out]; rfl, hown3⟩, (hbr.alloc (by omega) _).trans hb3⟩
        rw [← HPE.out, HE.out, List.append_assoc]; rfl
      case measure => simp [intOf]; omega

set_option maxHeartbeats 1600000 in
theorem oct_number_low (A : Option Addr) (n c : Nat) (l : List UInt8) (z : Int) (w : World) (base : Nat) (hb0 : base ≤ w.heap.size) (hn : l.length = n) (ho : Own w base 5 (.slice A n c) (bvs l)) (hm : n ≤ 2097152) (h0 : z < 0) :
    Calls Try.prog 69 #[.slice A n c, .int .i64 z] w fun e w' => ∃ A' c', e = .returned (.slice A' (n + (enc (held z)).length) c') ∧ Own w' base 5 (.slice A' (n + (enc (held z)).length) c') (bvs (l ++ enc (held z))) ∧ Below base w w' := by
  obtain ⟨i0, hi, hz0, hz1, hz2⟩ := oct_parts
  have hel := held_len z
  have hhl := held_le z
  obtain ⟨h, hh⟩ : ∃ h, h = held z := ⟨_, rfl⟩
  rw [← hh] at hel hhl ⊢
  have HH := Lib.hid (show 0 = h from by rw [hh]; unfold held; omega)
  clear hh
  obtain ⟨k, hk⟩ : ∃ k, k = (enc h).length := ⟨_, rfl⟩
  rw [← hk] at hel ⊢
  have HK := Lib.hid hk
  clear hk
  have HN := Lib.hid hn
  clear hn
  go_enter Try.func69, Try.ntmps69
  go_wp2_with fail
  go_loopw [0, 1] (fun v i wr => ∃ (m : Nat) (p : List UInt8), m ≤ 1099511627776 ∧ i = .int .i64 m ∧ p ++ enc m = l ++ enc h ∧ (∃ A1 c1, v = .slice A1 p.length c1 ∧ Own wr base 5 v (bvs p)) ∧ Below base w wr) (fun _ i _ => (intOf i).toNat)
  case atStart => exact ⟨0, l, by omega, rfl, by rw [HH.out], ⟨A, c, by rw [HN.out], ho⟩, Below.refl _ _⟩
  case round =>
    obtain ⟨m, p, hm1, rfl, hpe, ⟨A1, c1, rfl, hown⟩, hbr⟩ := hrel
    have hpl : p.length + (enc m).length = n + k := by
      have := congrArg List.length hpe
      rw [List.length_append, List.length_append, HN.out, ← HK.out] at this
      exact this
    have HPE := Lib.hid hpe
    have hbs := hbr.size
    have hep := enc_pos m
    clear hpe
    by_cases hlt : m < 128
    · have HE := Lib.hid (enc_low hlt)
      have HL := Lib.hid (show (enc m).length = 1 from by rw [HE.out]; rfl)
      have hpl1 : p.length + 1 = n + k := by rw [HL.out] at hpl; exact hpl
      clear hpl hep
      obtain ⟨q, hq⟩ : ∃ q, q = p.length := ⟨_, rfl⟩
      rw [← hq] at hown hpl1 ⊢
      have HQ := Lib.hid hq
      have HQ1 := Lib.hid hpl1
      have hq2 : q ≤ 2097160 := by omega
      have hd : decide ((128 : Int) ≤ (m : Int)) = false := by simp; omega
      have HLT := Lib.hid hlt
      clear hq hpl1 hlt hm1
      go_wp2_with (first
        | (at_builtin
           have hlt := HLT.out
           refine wpList_app _ rfl (.tmp 19) (.tmp 22) _ rfl base 5 i0 _ 1 Try.underlying27 hi hz0 hz1 hz2 rfl (.slice A1 q c1) (bvs p) q rfl (by rw [bvs_length, HQ.out]) (hown.alloc _) (wr.heap.size + 1) (some ⟨wr.heap.size, 0, none⟩) 1 (bvs [UInt8.ofNat m]) 1 rfl rfl (sees_lit wr _ 5 (0, 0) _ (by rw [oct_one m (by omega)]; simp; try omega)) (bvs_one _) (by simp [maxLen]; omega) (by omega) (by simp; omega) ?_
           intro A3 c3 w3 hown3 hb3 hg3 hat3)
        | fail)
      go_ret
      rw [← bvs_append] at hown3
      have e1 : l ++ enc h = p ++ [UInt8.ofNat m] := by rw [← HPE.out, HE.out]
      rw [e1, ← HQ1.out]
      exact ⟨A3, c3, rfl, hown3, (hbr.alloc (by omega) _).trans hb3⟩
    · have HE := Lib.hid (enc_high hlt)
      have HL := Lib.hid (show (enc m).length = (enc (m / 128)).length + 1 from by rw [HE.out]; rfl)
      have hpl1 : p.length + 1 ≤ n + k := by rw [HL.out] at hpl; omega
      clear hpl hep
      obtain ⟨q, hq⟩ : ∃ q, q = p.length := ⟨_, rfl⟩
      rw [← hq] at hown hpl1 ⊢
      have HQ := Lib.hid hq
      have hq2 : q ≤ 2097160 := by omega
      clear hq hpl1
      have hand := i64_and127 (m : Int)
      have hor := i64_or128 ((m : Int) % 128) (by omega) (by omega)
      have hge : (128 : Int) ≤ (m : Int) := by omega
      go_wp2_with (first
        | (at_builtin
           refine wpList_app _ rfl (.tmp 10) (.tmp 15) _ rfl base 5 i0 _ 1 Try.underlying27 hi hz0 hz1 hz2 rfl (.slice A1 q c1) (bvs p) q rfl (by rw [bvs_length, HQ.out]) (hown.alloc _) (wr.heap.size + 1) (some ⟨wr.heap.size, 0, none⟩) 1 (bvs [UInt8.ofNat (m % 128 + 128)]) 1 rfl rfl (sees_lit wr _ 5 (0, 0) _ (by rw [oct_one (m % 128 + 128) (by omega)]; simp; try omega)) (bvs_one _) (by simp [maxLen]; omega) (by omega) (by simp; omega) ?_
           intro A3 c3 w3 hown3 hb3 hg3 hat3)
        | fail)
      rw [← bvs_append] at hown3
      go_roundw
      case rel =>
        refine ⟨m / 128, p ++ [UInt8.ofNat (m % 128 + 128)], by omega, by go_num, ?_, ⟨A3, c3, by rw [List.length_append, ← HQ.out]; rfl, hown3⟩, (hbr.alloc (by omega) _).trans hb3⟩
        rw [← HPE.out, HE.out, List.append_assoc]; rfl
      case measure => simp [intOf]; omega

set_option maxHeartbeats 1600000 in
theorem oct_number_high (A : Option Addr) (n c : Nat) (l : List UInt8) (z : Int) (w : World) (base : Nat) (hb0 : base ≤ w.heap.size) (hn : l.length = n) (ho : Own w base 5 (.slice A n c) (bvs l)) (hm : n ≤ 2097152) (h0 : 1099511627776 < z) :
    Calls Try.prog 69 #[.slice A n c, .int .i64 z] w fun e w' => ∃ A' c', e = .returned (.slice A' (n + (enc (held z)).length) c') ∧ Own w' base 5 (.slice A' (n + (enc (held z)).length) c') (bvs (l ++ enc (held z))) ∧ Below base w w' := by
  obtain ⟨i0, hi, hz0, hz1, hz2⟩ := oct_parts
  have hel := held_len z
  have hhl := held_le z
  obtain ⟨h, hh⟩ : ∃ h, h = held z := ⟨_, rfl⟩
  rw [← hh] at hel hhl ⊢
  have HH := Lib.hid (show 1099511627776 = h from by rw [hh]; unfold held; omega)
  clear hh
  obtain ⟨k, hk⟩ : ∃ k, k = (enc h).length := ⟨_, rfl⟩
  rw [← hk] at hel ⊢
  have HK := Lib.hid hk
  clear hk
  have HN := Lib.hid hn
  clear hn
  go_enter Try.func69, Try.ntmps69
  go_wp2_with fail
  go_loopw [0, 1] (fun v i wr => ∃ (m : Nat) (p : List UInt8), m ≤ 1099511627776 ∧ i = .int .i64 m ∧ p ++ enc m = l ++ enc h ∧ (∃ A1 c1, v = .slice A1 p.length c1 ∧ Own wr base 5 v (bvs p)) ∧ Below base w wr) (fun _ i _ => (intOf i).toNat)
  case atStart => exact ⟨1099511627776, l, by omega, rfl, by rw [HH.out], ⟨A, c, by rw [HN.out], ho⟩, Below.refl _ _⟩
  case round =>
    obtain ⟨m, p, hm1, rfl, hpe, ⟨A1, c1, rfl, hown⟩, hbr⟩ := hrel
    have hpl : p.length + (enc m).length = n + k := by
      have := congrArg List.length hpe
      rw [List.length_append, List.length_append, HN.out, ← HK.out] at this
      exact this
    have HPE := Lib.hid hpe
    have hbs := hbr.size
    have hep := enc_pos m
    clear hpe
    by_cases hlt : m < 128
    · have HE := Lib.hid (enc_low hlt)
      have HL := Lib.hid (show (enc m).length = 1 from by rw [HE.out]; rfl)
      have hpl1 : p.length + 1 = n + k := by rw [HL.out] at hpl; exact hpl
      clear hpl hep
      obtain ⟨q, hq⟩ : ∃ q, q = p.length := ⟨_, rfl⟩
      rw [← hq] at hown hpl1 ⊢
      have HQ := Lib.hid hq
      have HQ1 := Lib.hid hpl1
      have hq2 : q ≤ 2097160 := by omega
      have hd : decide ((128 : Int) ≤ (m : Int)) = false := by simp; omega
      have HLT := Lib.hid hlt
      clear hq hpl1 hlt hm1
      go_wp2_with (first
        | (at_builtin
           have hlt := HLT.out
           refine wpList_app _ rfl (.tmp 19) (.tmp 22) _ rfl base 5 i0 _ 1 Try.underlying27 hi hz0 hz1 hz2 rfl (.slice A1 q c1) (bvs p) q rfl (by rw [bvs_length, HQ.out]) (hown.alloc _) (wr.heap.size + 1) (some ⟨wr.heap.size, 0, none⟩) 1 (bvs [UInt8.ofNat m]) 1 rfl rfl (sees_lit wr _ 5 (0, 0) _ (by rw [oct_one m (by omega)]; simp; try omega)) (bvs_one _) (by simp [maxLen]; omega) (by omega) (by simp; omega) ?_
           intro A3 c3 w3 hown3 hb3 hg3 hat3)
        | fail)
      go_ret
      rw [← bvs_append] at hown3
      have e1 : l ++ enc h = p ++ [UInt8.ofNat m] := by rw [← HPE.out, HE.out]
      rw [e1, ← HQ1.out]
      exact ⟨A3, c3, rfl, hown3, (hbr.alloc (by omega) _).trans hb3⟩
    · have HE := Lib.hid (enc_high hlt)
      have HL := Lib.hid (show (enc m).length = (enc (m / 128)).length + 1 from by rw [HE.out]; rfl)
      have hpl1 : p.length + 1 ≤ n + k := by rw [HL.out] at hpl; omega
      clear hpl hep
      obtain ⟨q, hq⟩ : ∃ q, q = p.length := ⟨_, rfl⟩
      rw [← hq] at hown hpl1 ⊢
      have HQ := Lib.hid hq
      have hq2 : q ≤ 2097160 := by omega
      clear hq hpl1
      have hand := i64_and127 (m : Int)
      have hor := i64_or128 ((m : Int) % 128) (by omega) (by omega)
      have hge : (128 : Int) ≤ (m : Int) := by omega
      go_wp2_with (first
        | (at_builtin
           refine wpList_app _ rfl (.tmp 10) (.tmp 15) _ rfl base 5 i0 _ 1 Try.underlying27 hi hz0 hz1 hz2 rfl (.slice A1 q c1) (bvs p) q rfl (by rw [bvs_length, HQ.out]) (hown.alloc _) (wr.heap.size + 1) (some ⟨wr.heap.size, 0, none⟩) 1 (bvs [UInt8.ofNat (m % 128 + 128)]) 1 rfl rfl (sees_lit wr _ 5 (0, 0) _ (by rw [oct_one (m % 128 + 128) (by omega)]; simp; try omega)) (bvs_one _) (by simp [maxLen]; omega) (by omega) (by simp; omega) ?_
           intro A3 c3 w3 hown3 hb3 hg3 hat3)
        | fail)
      rw [← bvs_append] at hown3
      go_roundw
      case rel =>
        refine ⟨m / 128, p ++ [UInt8.ofNat (m % 128 + 128)], by omega, by go_num, ?_, ⟨A3, c3, by rw [List.length_append, ← HQ.out]; rfl, hown3⟩, (hbr.alloc (by omega) _).trans hb3⟩
        rw [← HPE.out, HE.out, List.append_assoc]; rfl
      case measure => simp [intOf]; omega

theorem oct_number (A : Option Addr) (n c : Nat) (l : List UInt8) (z : Int) (w : World) (base : Nat) (hb0 : base ≤ w.heap.size) (hn : l.length = n) (ho : Own w base 5 (.slice A n c) (bvs l)) (hm : n ≤ 2097152) :
    Calls Try.prog 69 #[.slice A n c, .int .i64 z] w fun e w' => ∃ A' c', e = .returned (.slice A' (n + (enc (held z)).length) c') ∧ Own w' base 5 (.slice A' (n + (enc (held z)).length) c') (bvs (l ++ enc (held z))) ∧ Below base w w' := by
  by_cases h0 : z < 0
  · exact oct_number_low A n c l z w base hb0 hn ho hm h0
  · by_cases h1 : 1099511627776 < z
    · exact oct_number_high A n c l z w base hb0 hn ho hm h1
    · exact oct_number_mid A n c l z w base hb0 hn ho hm (by omega) (by omega)

/-- Bytes laid anew: the call's own row. -/
def GivesBytes (w : World) (xs : List UInt8) : Ending → World → Prop := fun e w' => ∃ A' c', e = .returned (.slice A' xs.length c') ∧ Own w' w.heap.size 5 (.slice A' xs.length c') (bvs xs) ∧ Below w.heap.size w w'

theorem oct_num (A : Option Addr) (n c : Nat) (l : List UInt8) (z : Int) (w : World) (hn : l.length = n) (hs : Sees w w.heap.size A (bvs l)) (hm : n ≤ 1048576) :
    Calls Try.prog 41 #[.slice A n c, .int .i64 z] w (GivesBytes w (l ++ enc (held z))) := by
  have HF := Lib.hid (oct_fresh A n c l 6 w hn hs hm (by omega))
  have HL := Lib.hid (show (l ++ enc (held z)).length = n + (enc (held z)).length from by rw [List.length_append, hn])
  have HN := Lib.hid hn
  clear hn hs
  go_enter Try.func41, Try.ntmps41
  go_wp2_with fail
  refine HF.out.mono ?_
  rintro e w1 ⟨A1, c1, rfl, o1, b1⟩
  go_wp2_with fail
  refine (oct_number A1 n c1 l z w1 w.heap.size b1.size HN.out o1 (by omega)).mono ?_
  rintro e w2 ⟨A2, c2, rfl, o2, b2⟩
  go_wp2
  go_ret
  exact ⟨A2, c2, by rw [HL.out]; rfl, by rw [HL.out]; exact o2, b1.trans b2⟩

theorem oct_str (A : Option Addr) (n c : Nat) (l t : List UInt8) (m : Nat) (w : World) (hn : l.length = n) (hs : Sees w w.heap.size A (bvs l)) (hm : n ≤ 1048500) (ht : t.length = m) (hmt : m ≤ 1048500) :
    Calls Try.prog 95 #[.slice A n c, .string (str t)] w (GivesBytes w (l ++ (enc m ++ t))) := by
  obtain ⟨i0, hi, hz0, hz1, hz2⟩ := oct_parts
  have HF := Lib.hid (oct_fresh A n c l (6 + m) w hn hs (by omega) (by omega))
  have hh : held (m : Int) = m := by have := held_self (n := (m : Int)) (by omega) (by omega); omega
  have hel := held_len (m : Int)
  rw [hh] at hel
  have HH := Lib.hid hh
  obtain ⟨k, hk⟩ : ∃ k, k = (enc m).length := ⟨_, rfl⟩
  rw [← hk] at hel
  have HL := Lib.hid (show (l ++ (enc m ++ t)).length = n + k + m from by rw [List.length_append, List.length_append, hn, ht, ← hk, Nat.add_assoc])
  have HN := Lib.hid hn
  have HK := Lib.hid hk
  have HT := Lib.hid ht
  have hsz : (str t).size = m := by rw [str_size, ht]
  clear hn hs hk hh ht
  go_enter Try.func95, Try.ntmps95
  go_wp2_with fail
  refine HF.out.mono ?_
  rintro e w1 ⟨A1, c1, rfl, o1, b1⟩
  go_wp2_with fail
  refine (oct_number A1 n c1 l (m : Int) w1 w.heap.size b1.size HN.out o1 (by omega)).mono ?_
  rintro e w2 ⟨A2, c2, rfl, o2, b2⟩
  rw [HH.out, ← HK.out] at o2 ⊢
  have hbs := (b1.trans b2).size
  go_wp2_with (first
    | (at_builtin
       refine wpList_apps _ rfl (.tmp 14) (.tmp 15) _ _ rfl w.heap.size 5 i0 Try.underlying27 Try.underlying9 hi hz0 hz1 hz2 (.slice A2 (n + k) c2) (bvs (l ++ enc m)) (n + k) rfl (by rw [bvs_length, List.length_append, HN.out, ← HK.out]) o2 t rfl m HT.out (by simp [maxLen]; omega) (by omega) (by omega) ?_
       intro A3 c3 w3 o3 b3 hg3)
    | fail)
  go_ret
  rw [← bvs_append, List.append_assoc] at o3
  exact ⟨A3, c3, by rw [HL.out]; rfl, by rw [HL.out]; exact o3, (b1.trans b2).trans b3⟩

/-- A truth's number. -/
def truth (b : Bool) : Nat := if b then 1 else 0
end Go.Proofs.Ytadmaalhhigbeaa

/- octet.first: the number that bytes begin with. -/
namespace Go.Proofs.Ytadmaalhhigbeaa
set_option linter.unusedVariables false
open Go.RowKit OctM

theorem u8_and127 (c : UInt8) : bits .and .u8 (c.toNat : Int) 127 = (c.toNat : Int) % 128 := by
  have := u8_and_nat c.toNat 127 c.toNat_lt (by omega)
  have h2 := Nat.and_two_pow_sub_one_eq_mod c.toNat 7
  simp only [show (2 : Nat) ^ 7 - 1 = 127 from rfl, show (2 : Nat) ^ 7 = 128 from rfl] at h2
  rw [h2] at this
  simpa using this

theorem or_step (m k : Nat) (x : UInt8) (hk : k < 6) (hm : m < 128 ^ k) : bits .or .i64 (m : Int) (wrap64 ((x.toNat : Int) % 128 * 2 ^ (7 * k))) = ((m + x.toNat % 128 * 128 ^ k : Nat) : Int) := by
  have e1 : (2 : Nat) ^ (7 * k) = 128 ^ k := by rw [Nat.pow_mul]
  have e2 : ((x.toNat : Int) % 128 * 2 ^ (7 * k)) = ((2 ^ (7 * k) * (x.toNat % 128) : Nat) : Int) := by
    push_cast; rw [Int.mul_comm]
  have b1 : (2 : Nat) ^ (7 * k) ≤ 2 ^ 35 := Nat.pow_le_pow_right (by omega) (by omega)
  have b2 : 2 ^ (7 * k) * (x.toNat % 128) ≤ 2 ^ 35 * 127 := Nat.mul_le_mul b1 (by omega)
  have b3 : m < 2 ^ (7 * k) := by rw [e1]; exact hm
  rw [e2]
  have e3 : wrap64 ((2 ^ (7 * k) * (x.toNat % 128) : Nat) : Int) = ((2 ^ (7 * k) * (x.toNat % 128) : Nat) : Int) := by
    simp only [wrap64]; omega
  rw [e3, i64_or_low (x.toNat % 128) m (7 * k) b3 (by omega), e1, Nat.mul_comm (128 ^ k)]

set_option maxRecDepth 8000 in
set_option maxHeartbeats 1600000 in
theorem oct_first (A : Option Addr) (n c : Nat) (l : List UInt8) (w : World) (B : Nat) (hn : l.length = n) (hs : Sees w B A (bvs l)) (hm : n ≤ 2097152) :
    Calls Try.prog 81 #[.slice A n c] w fun e w' => e = .returned (.tuple #[.int .i64 ((scan l 0 0).1 : Nat), .int .i64 ((scan l 0 0).2.1 : Nat), .int .i64 ((scan l 0 0).2.2 : Nat)]) ∧ w = w' := by
  obtain ⟨s0, hs0⟩ : ∃ s0, s0 = scan l 0 0 := ⟨_, rfl⟩
  rw [← hs0]
  have HS := Lib.hid hs0
  clear hs0
  subst hn
  go_enter Try.func81, Try.ntmps81
  go_wp2_with fail
  go_loop [5, 10] (fun v i => ∃ k m : Nat, k ≤ l.length ∧ k ≤ 6 ∧ i = .int .i64 k ∧ v = .int .i64 m ∧ m < 128 ^ k ∧ s0 = scan (l.drop k) k m) (fun _ i => l.length - (intOf i).toNat)
  case atStart => exact ⟨0, 0, Nat.zero_le _, Nat.zero_le _, rfl, rfl, by simp, by rw [HS.out]; rfl⟩
  case round =>
    obtain ⟨k, m, hk, hk6, rfl, rfl, hmk, hsc⟩ := hrel
    have HSC := Lib.hid hsc
    have HMK := Lib.hid hmk
    clear hsc hmk
    by_cases hlt : k < l.length
    · have hA : ∃ b o, A = some ⟨b, o, none⟩ := by
        obtain ⟨b, o, h, _⟩ := hs (by rw [bvs_length]; omega)
        exact ⟨b, o, h⟩
      obtain ⟨b, o, rfl⟩ := hA
      have hc := hs.byte k hlt
      obtain ⟨x, hx⟩ : ∃ x, x = l[k] := ⟨_, rfl⟩
      rw [← hx] at hc
      have HX := Lib.hid hx
      have hxl := x.toNat_lt
      clear hx
      have hand := u8_and127 x
      have hcons : l.drop k = x :: l.drop (k + 1) := by rw [HX.out]; exact List.drop_eq_getElem_cons hlt
      have hsc := HSC.out
      rw [hcons] at hsc
      simp only [scan] at hsc
      by_cases h6 : k = 6
      · rw [if_pos h6] at hsc
        have HR := Lib.hid hsc
        have he : ((k : Int) == 6) = true := by simp; omega
        have hK := Lib.hid h6
        clear hsc h6 hcons hk6
        go_wp2_with fail
        go_ret3
        exact ⟨by rw [HR.out]; rfl, rfl⟩
      · rw [if_neg h6] at hsc
        have hk5 : k < 6 := by omega
        have he : ((k : Int) == 6) = false := by simp; omega
        have HK := Lib.hid hk5
        clear hcons h6
        by_cases hlo : x.toNat < 128
        · rw [if_pos hlo] at hsc
          have hd : decide ((x.toNat : Int) < 128) = true := by simp; omega
          have hmod : x.toNat % 128 = x.toNat := Nat.mod_eq_of_lt hlo
          have HLO := Lib.hid hlo
          clear hlo
          by_cases hz : x.toNat = 0
          · have hd2 : ((x.toNat : Int) == 0) = true := by simp; omega
            by_cases hk0 : 0 < k
            · rw [if_pos ⟨hz, hk0⟩] at hsc
              have HR := Lib.hid hsc
              have hd3 : decide ((0 : Int) < (k : Int)) = true := by simp; omega
              have hd3' : decide (0 < k) = true := by simp; omega
              have HZ := Lib.hid hz
              have HK0 := Lib.hid hk0
              clear hsc hz hk0 hmod
              go_wp2_with fail
              go_ret3
              exact ⟨by rw [HR.out]; rfl, rfl⟩
            · rw [if_neg (fun h => hk0 h.2)] at hsc
              have HR := Lib.hid hsc
              have hd3 : decide ((0 : Int) < (k : Int)) = false := by simp; omega
              have hd3' : decide (0 < k) = false := by simp; omega
              have HZ := Lib.hid hz
              have HK0 := Lib.hid hk0
              clear hsc hz hk0 hmod
              go_wp2_with fail
              go_ret3
              refine ⟨?_, rfl⟩
              rw [HR.out, ← or_step m k x HK.out HMK.out]
              rfl
          · rw [if_neg (fun h => hz h.1)] at hsc
            have HR := Lib.hid hsc
            have hd2 : ((x.toNat : Int) == 0) = false := by simp; omega
            have HZ := Lib.hid hz
            clear hsc hz hmod
            go_wp2_with fail
            go_ret3
            refine ⟨?_, rfl⟩
            rw [HR.out, ← or_step m k x HK.out HMK.out]
            rfl
        · rw [if_neg hlo] at hsc
          have hd : decide ((x.toNat : Int) < 128) = false := by simp; omega
          have HLO := Lib.hid hlo
          have HR := Lib.hid hsc
          clear hlo hsc
          go_wp2_with fail
          go_round
          case rel =>
            refine ⟨k + 1, m + x.toNat % 128 * 128 ^ k, by omega, by omega, by go_num, by rw [or_step m k x HK.out HMK.out], ?_, HR.out⟩
            have h1 : x.toNat % 128 * 128 ^ k ≤ 127 * 128 ^ k := Nat.mul_le_mul_right _ (by omega)
            have h2 := HMK.out
            rw [Nat.pow_succ]
            omega
          case measure => simp [intOf]; omega
    · obtain rfl : k = l.length := by omega
      have hsc := HSC.out
      rw [List.drop_length] at hsc
      simp only [scan] at hsc
      by_cases h6 : 6 ≤ l.length
      · rw [if_pos h6] at hsc
        have HR := Lib.hid hsc
        have hd : decide ((6 : Int) ≤ (l.length : Int)) = true := by simp; omega
        clear hsc
        go_wp2_with fail
        go_ret3
        exact ⟨by rw [HR.out]; rfl, rfl⟩
      · rw [if_neg h6] at hsc
        have HR := Lib.hid hsc
        have hd : decide ((6 : Int) ≤ (l.length : Int)) = false := by simp; omega
        have hlt6 : l.length < 6 := by omega
        clear hsc h6
        go_wp2_with fail
        go_ret3
        exact ⟨by rw [HR.out]; rfl, rfl⟩
end Go.Proofs.Ytadmaalhhigbeaa
