/- More words: or of numbers that share no bit; a text appended to a row of the call's own. -/
import Derived.Test.YtgoebblcggdlgaaWords
import Derived.Laws.Bits128
import Derived.Lib.AppendStr
namespace Go.Proofs.Ytgoebblcggdlgaa
set_option linter.unusedVariables false
open Go.Lib Go.ChangeShapes Go.WideShapes Go.ChangeAt Go.RowKit

theorem i64_or_nat (a b : Nat) (ha : a < 9223372036854775808) (hb : b < 9223372036854775808) : bits .or .i64 (a : Int) (b : Int) = ((a ||| b : Nat) : Int) := by
  have hx : a ||| b < 2 ^ 63 := Nat.or_lt_two_pow (by omega) (by omega)
  have h1 : (BitVec.ofInt 64 (a : Int)).toNat = a := by
    rw [BitVec.ofInt_natCast, BitVec.toNat_ofNat]; exact Nat.mod_eq_of_lt (by omega)
  have h2 : (BitVec.ofInt 64 (b : Int)).toNat = b := by
    rw [BitVec.ofInt_natCast, BitVec.toNat_ofNat]; exact Nat.mod_eq_of_lt (by omega)
  show IntKind.i64.wrap ((BitVec.ofInt 64 (a : Int) ||| BitVec.ofInt 64 (b : Int)).toNat : Int) = _
  rw [BitVec.toNat_or, h1, h2, IntKind.wrap_i64]
  omega
/-- Where the lower number has only the lower bits, or is the sum. -/
theorem i64_or_low (a b i : Nat) (hb : b < 2 ^ i) (hs : 2 ^ i * a + b < 9223372036854775808) : bits .or .i64 (b : Int) ((2 ^ i * a : Nat) : Int) = ((b + 2 ^ i * a : Nat) : Int) := by
  rw [i64_or_nat b (2 ^ i * a) (by omega) (by omega), Nat.or_comm, ← Nat.two_pow_add_eq_or_of_lt hb, Nat.add_comm]
theorem i64_or128 (b : Int) (h0 : 0 ≤ b) (hb : b < 128) : bits .or .i64 b 128 = b + 128 := by
  obtain ⟨n, rfl⟩ := Int.eq_ofNat_of_zero_le h0
  have := i64_or_low 1 n 7 (by omega) (by omega)
  simpa using this

/-- append(b, s...) onto a row of the call's own. -/
theorem wpList_apps {P : Program} (w : World) {ops : Array Oper} {rest : List Oper} {o : Oper} {a : Act} {Q : Exit → Act → World → Prop} (hgd : o.guard = none) (s x : Operand) (t u : TypeId)
    (ho : o.op = .call { callee := .builtin .append, args := #[s, x], argTypes := #[t, u] })
    (base : Nat) (e : TypeId) (i : TypeInfo) (ht : P.underlying t = some (.slice e)) (hu : P.underlying u = some .string) (hi : P.info? e = some i) (hz : i.zero = some (.int .u8 0))
    (hsize : i.size = 1) (hby : i.bytes = 1) (v : Value) (xs : List Value) (nx : Nat) (hv : a.eval s = v) (hnx : xs.length = nx) (hown : Own w base e v xs)
    (l : List UInt8) (hx : a.eval x = .string (str l)) (n : Nat) (hn : l.length = n)
    (h63 : nx + n ≤ maxLen) (hbytes : nx + n ≤ 140737488355328) (hbase : base ≤ w.heap.size)
    (h : ∀ A' c' w', Own w' base e (.slice A' (nx + n) c') (xs ++ bvs l) → Below base w w' → w.grownBy w' v.ownBlock →
      wpList P ops Q rest (a.put o.dst (.slice A' (nx + n) c')) w') : wpList P ops Q (o :: rest) a w := by
  subst hn
  subst hnx
  refine wpList_plain hgd fun K hK => ?_
  obtain ⟨v', w', hrun, h2, h3, _⟩ := run_append_own_string (P := P) w base t u o.type e i ht hu hi hz hsize hby v xs.length xs hown (str l) (by rw [str_size]; exact h63) (by rw [str_size]; exact hbytes) hbase
  have hcs : strCells (str l) = bvs l := rfl
  rw [str_size, hcs] at h2
  have h2' : Own w' base e v' (xs ++ bvs l) := by
    unfold Own; rw [List.length_append, bvs_length]; exact h2
  obtain ⟨A', c', hv'⟩ := h2'.form
  rw [List.length_append, bvs_length] at hv'
  subst hv'
  unfold Oper.wp execOp
  simp only [ho, resolve, invoke, builtin, Sem.run_bind, Sem.run_pure, Result.andThen_ok, List.map_toArray, List.map_cons, List.map_nil, hv, hx, hrun]
  exact hK _ _ (h A' c' w' h2' ((Below.refl _ _).grown h3 hbase (fun k hk => (hown.lt k hk).1)) h3)
end Go.Proofs.Ytgoebblcggdlgaa
