/- sum.Seal, sum.Open: what each returns. -/
import Derived.Test.YtgoebblcggdlgaaSumA
import Derived.Test.YtgoebblcggdlgaaSumSealM
import Derived.Deep.QuietTactic
import Derived.BigQuiet
namespace Go.Proofs.Ytgoebblcggdlgaa
set_option linter.unusedVariables false
open Go.RowKit SumM

theorem u8_info : (Try.prog.info? 5).map (fun i => (i.zero, i.size, i.bytes)) = some (some (.int .u8 0), 1, 1) := by kernel_rfl
theorem u8_size : (Try.prog.info? 5).map (·.size) = some 1 := by kernel_rfl

theorem le4_vals (s : W) : #[Value.int .u8 ((s.toNat : Int) % 256), .int .u8 ((s.toNat : Int) / 256 % 256), .int .u8 ((s.toNat : Int) / 65536 % 256), .int .u8 ((s.toNat : Int) / 16777216)].toList = bvs (le4 s) := by
  have := s.isLt
  simp [bvs, bv, le4, byteAt]
  omega

theorem or_bv (a b : W) : bits .or .u32 (a.toNat : Int) (b.toNat : Int) = ((a ||| b).toNat : Int) := by
  rw [u32_or_nat a.toNat b.toNat a.isLt b.isLt, BitVec.toNat_or]
theorem or4 (a b c d : UInt8) : bits .or .u32 (bits .or .u32 (bits .or .u32 ((a.toNat : Int) % 4294967296) ((b.toNat : Int) % 4294967296 * 256 % 4294967296)) ((c.toNat : Int) % 4294967296 * 65536 % 4294967296))
    ((d.toNat : Int) % 4294967296 * 16777216 % 4294967296) = ((w32 a b c d).toNat : Int) := by
  have ha := a.toNat_lt
  have sh : ∀ (x : UInt8) (k : Nat), ((b32 x <<< k).toNat : Int) = ((x.toNat * 2 ^ k % 4294967296 : Nat) : Int) := by
    intro x k
    rw [BitVec.toNat_shiftLeft, b32_toNat, Nat.shiftLeft_eq]
  have e0 : ((a.toNat : Int) % 4294967296) = ((b32 a).toNat : Int) := by rw [b32_toNat]; omega
  have e1 : ((b.toNat : Int) % (4294967296 : Int) * (256 : Int) % (4294967296 : Int)) = ((b32 b <<< 8).toNat : Int) := by
    have := b.toNat_lt; rw [sh]; omega
  have e2 : ((c.toNat : Int) % (4294967296 : Int) * (65536 : Int) % (4294967296 : Int)) = ((b32 c <<< 16).toNat : Int) := by
    have := c.toNat_lt; rw [sh]; omega
  have e3 : ((d.toNat : Int) % (4294967296 : Int) * (16777216 : Int) % (4294967296 : Int)) = ((b32 d <<< 24).toNat : Int) := by
    have := d.toNat_lt; rw [sh]; omega
  rw [e0, e1, e2, e3, or_bv, or_bv, or_bv, w32]

/-- What both ways of Open share: the last four bytes. -/
theorem last4 {l : List UInt8} {m : Nat} (h : l.length = m + 4) : ∃ p a b c d, l = p ++ [a, b, c, d] ∧ p.length = m := by
  obtain ⟨a, b, c, d, e⟩ := four (l := l.drop m) (by simp; omega)
  exact ⟨l.take m, a, b, c, d, by rw [← e, List.take_append_drop], by simp; omega⟩
theorem openOf_cat (p : List UInt8) (a b c d : UInt8) : openOf (p ++ [a, b, c, d]) = if w32 a b c d = sumOf p then some p else none := by
  unfold openOf
  have h : (p ++ [a, b, c, d]).length - 4 = p.length := by simp
  rw [h]
  have e1 : (p ++ [a, b, c, d]).take p.length = p := by simp
  have e2 : (p ++ [a, b, c, d]).drop p.length = [a, b, c, d] := by simp
  rw [e1, e2]
  by_cases hw : w32 a b c d = sumOf p
  · rw [if_pos hw, if_pos]
    exact ⟨by simp, by rw [← hw, le4_w32]⟩
  · rw [if_neg hw, if_neg]
    rintro ⟨_, h2⟩
    apply hw
    have := w32_le4 (sumOf p)
    simp only [le4, List.cons.injEq, and_true] at h2
    obtain ⟨h0, h1, h2, h3⟩ := h2
    rw [h0, h1, h2, h3] at this
    exact this
theorem bv_ne {a b : W} (h : a ≠ b) : (((a.toNat : Int)) != (b.toNat : Int)) = true := by
  rw [bne_iff_ne]; intro h'; exact h (BitVec.eq_of_toNat_eq (by omega))
theorem bv_eq {a b : W} (h : a = b) : (((a.toNat : Int)) != (b.toNat : Int)) = false := by subst h; simp

end Go.Proofs.Ytgoebblcggdlgaa
