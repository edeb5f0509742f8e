/- sum.Seal, sum.Open: what each returns. -/
import Derived.Test.YtncbhpopobjaiaaR3
import Derived.Deep.QuietTactic
import Derived.BigQuiet
import Derived.Lib.SlBytesConst
import Derived.Deep.LoopGhost
import Derived.Test.YtncbhpopobjaiaaR1
import Derived.Deep.MidRow
import Derived.Laws.Rows
import Derived.Laws.Tables
import Derived.Laws.StructEq
import Derived.WalkKit
import Derived.ProofKit
import Derived.RangeFuncNested
import Derived.RangeFuncBound
import Derived.RangeFuncCalls
import Derived.RangeFuncLeaves
import Derived.RangeFuncBox
import Derived.Shelf.Abstract
import Derived.Shelf.RegionOpen
import Derived.OwnWalkIn
import Derived.TacticsInMore
import Derived.LoopNIn
import Derived.LoopIn
import Derived.Deep.RegionHeld3
namespace Go.Proofs.Ytncbhpopobjaiaa
set_option linter.unusedVariables false
open Go.RowKit SumM

theorem u8_info : (Try.prog.info? 5).map (fun i => (i.zero, i.size, i.bytes)) = some (some (.int .u8 0), 1, 1) := by kernel_rfl
theorem u8_size : (Try.prog.info? 5).map (·.size) = some 1 := by kernel_rfl

theorem le4_vals (s : W) : #[Value.int .u8 ((s.toNat : Int) % 256), .int .u8 ((s.toNat : Int) / 256 % 256), .int .u8 ((s.toNat : Int) / 65536 % 256), .int .u8 ((s.toNat : Int) / 16777216)].toList = bvs (le4 s) := by
  have := s.isLt
  simp [bvs, bv, le4, byteAt]
  omega

set_option maxHeartbeats 400000 in
theorem seal_any (A : Option Addr) (n c : Nat) (l : List UInt8) (w : World) (B : Nat) (hn : l.length = n) (hs : Sees w B A (bvs l)) (hB : B ≤ w.heap.size) (hm : n ≤ 65536) :
    Calls Try.prog 32 #[.slice A n c] w fun e w' => ∃ A' c', e = .returned (.slice A' (n + 4) c') ∧ Own w' w.heap.size 5 (.slice A' (n + 4) c') (bvs (sealOf l)) ∧ Below w.heap.size w w' := by
  obtain ⟨i0, hi, hz0, hz1, hz2⟩ := info_parts u8_info
  go_enter Try.func32, Try.ntmps32
  go_wp2_with fail
  refine (of_any _ _ _ l _ _ hn hs (by simp [maxLen]; omega)).mono ?_
  rintro e w' ⟨rfl, rfl⟩
  go_wp2_with (first
    | (refine wpList_mk _ rfl (.tmp 8) (.tmp 11) _ rfl w.heap.size 5 i0 _ Try.underlying62 hi hz0 hz1 rfl .i64 .i64 _ _ n (n + 4) rfl rfl rfl (by omega) (by omega) (by rw [hz2]; omega) (by simp [maxLen]; omega) (Nat.le_refl _) ?_
       intro w1 hown1 hb1 hg1 hsz1)
    | (refine wpList_cp _ rfl (.tmp 13) (.tmp 14) _ rfl w.heap.size 5 Try.underlying62 u8_size (some ⟨w.heap.size, 0, none⟩) n (n + 4) (List.replicate n (.int .u8 0)) rfl (by simp) hown1 w.heap.size A n c (bvs l) rfl (by rw [bvs_length, hn]) ((hs.more hB).below hb1) (bvs_one l) ?_
       intro w2 hown2 hb2 hg2 hsz2)
    | (at_builtin
       simp only [Nat.le_refl, List.take_of_length_le, bvs_length, hn, List.drop_replicate, Nat.sub_self, List.replicate_zero, List.append_nil] at hown2
       refine wpList_app _ rfl (.tmp 16) (.tmp 28) _ rfl w.heap.size 5 i0 _ 1 Try.underlying62 hi hz0 hz1 hz2 rfl (.slice (some ⟨w.heap.size, 0, none⟩) n (n + 4)) (bvs l) n rfl (by rw [bvs_length, hn]) (hown2.alloc _) (w2.heap.size + 1) (some ⟨w2.heap.size, 0, none⟩) 4 (bvs (le4 (sumOf l))) 4 rfl rfl (sees_lit w2 _ 5 (0, 0) _ (le4_vals _)) (bvs_one _) (by simp [maxLen]; omega) (by omega) (by have := hb2.size; have := hb1.size; simp; omega) ?_
       intro A3 c3 w3 hown3 hb3 hg3 hat3)
    | fail)
  go_ret
  rw [← bvs_append] at hown3
  exact ⟨A3, c3, rfl, hown3, (hb1.trans hb2).trans (((Below.refl _ _).alloc (Nat.le_trans hb1.size hb2.size) _).trans hb3)⟩

theorem or_bv (a b : W) : bits .or .u32 (a.toNat : Int) (b.toNat : Int) = ((a ||| b).toNat : Int) := by
  rw [u32_or_nat a.toNat b.toNat a.isLt b.isLt, BitVec.toNat_or]
theorem or4 (a b c d : UInt8) : bits .or .u32 (bits .or .u32 (bits .or .u32 ((a.toNat : Int) % 4294967296) ((b.toNat : Int) % 4294967296 * 256 % 4294967296)) ((c.toNat : Int) % 4294967296 * 65536 % 4294967296))
    ((d.toNat : Int) % 4294967296 * 16777216 % 4294967296) = ((w32 a b c d).toNat : Int) := by
  have ha := a.toNat_lt
  have sh : ∀ (x : UInt8) (k : Nat), ((b32 x <<< k).toNat : Int) = ((x.toNat * 2 ^ k % 4294967296 : Nat) : Int) := by
    intro x k
    rw [BitVec.toNat_shiftLeft, b32_toNat, Nat.shiftLeft_eq]
  have e0 : ((a.toNat : Int) % 4294967296) = ((b32 a).toNat : Int) := by rw [b32_toNat]; omega
  have e1 : ((b.toNat : Int) % (4294967296 : Int) * (256 : Int) % (4294967296 : Int)) = ((b32 b <<< 8).toNat : Int) := by
    have := b.toNat_lt; rw [sh]; omega
  have e2 : ((c.toNat : Int) % (4294967296 : Int) * (65536 : Int) % (4294967296 : Int)) = ((b32 c <<< 16).toNat : Int) := by
    have := c.toNat_lt; rw [sh]; omega
  have e3 : ((d.toNat : Int) % (4294967296 : Int) * (16777216 : Int) % (4294967296 : Int)) = ((b32 d <<< 24).toNat : Int) := by
    have := d.toNat_lt; rw [sh]; omega
  rw [e0, e1, e2, e3, or_bv, or_bv, or_bv, w32]

/-- What both ways of Open share: the last four bytes. -/
theorem last4 {l : List UInt8} {m : Nat} (h : l.length = m + 4) : ∃ p a b c d, l = p ++ [a, b, c, d] ∧ p.length = m := by
  obtain ⟨a, b, c, d, e⟩ := four (l := l.drop m) (by simp; omega)
  exact ⟨l.take m, a, b, c, d, by rw [← e, List.take_append_drop], by simp; omega⟩
theorem unsealOf_cat (p : List UInt8) (a b c d : UInt8) : unsealOf (p ++ [a, b, c, d]) = if w32 a b c d = sumOf p then some p else none := by
  unfold unsealOf
  have h : (p ++ [a, b, c, d]).length - 4 = p.length := by simp
  rw [h]
  have e1 : (p ++ [a, b, c, d]).take p.length = p := by simp
  have e2 : (p ++ [a, b, c, d]).drop p.length = [a, b, c, d] := by simp
  rw [e1, e2]
  by_cases hw : w32 a b c d = sumOf p
  · rw [if_pos hw, if_pos]
    exact ⟨by simp, by rw [← hw, le4_w32]⟩
  · rw [if_neg hw, if_neg]
    rintro ⟨_, h2⟩
    apply hw
    have := w32_le4 (sumOf p)
    simp only [le4, List.cons.injEq, and_true] at h2
    obtain ⟨h0, h1, h2, h3⟩ := h2
    rw [h0, h1, h2, h3] at this
    exact this
theorem bv_ne {a b : W} (h : a ≠ b) : (((a.toNat : Int)) != (b.toNat : Int)) = true := by
  rw [bne_iff_ne]; intro h'; exact h (BitVec.eq_of_toNat_eq (by omega))
theorem bv_eq {a b : W} (h : a = b) : (((a.toNat : Int)) != (b.toNat : Int)) = false := by subst h; simp

end Go.Proofs.Ytncbhpopobjaiaa

/- The example that every statement of the sums ends with; what each frame of this seat asks once. -/
namespace Go.Proofs.Ytncbhpopobjaiaa
set_option linter.unusedVariables false
open Go.RowKit SumM
def digits9 : List UInt8 := [49, 50, 51, 52, 53, 54, 55, 56, 57]
theorem digits9_sum : (sumOf digits9).toNat = 3808858755 := by decide +kernel
theorem digits9_len : digits9.length ≤ maxLen := by simp [digits9, maxLen]
end Go.Proofs.Ytncbhpopobjaiaa

/- sum.moved, sum.Join: what each returns. -/
namespace Go.Proofs.Ytncbhpopobjaiaa
set_option linter.unusedVariables false
open Go.RowKit SumM

theorem i64_one (n : Nat) (hn : n < 9223372036854775808) : bits .and .i64 (n : Int) 1 = ((n % 2 : Nat) : Int) := by
  have e : (BitVec.ofInt 64 (n : Int)).toNat = n := by
    rw [BitVec.ofInt_natCast, BitVec.toNat_ofNat]; exact Nat.mod_eq_of_lt (by omega)
  show IntKind.i64.wrap ((BitVec.ofInt 64 (n : Int) &&& BitVec.ofInt 64 1).toNat : Int) = _
  rw [BitVec.toNat_and, e, show (BitVec.ofInt 64 1).toNat = 1 from by decide, nat_mask1, IntKind.wrap_i64]
  omega

/-- Squares of powers, and what was moved by the lower bits. -/
theorem pow_next (j : Nat) : times 32 (stn (8 * 2 ^ j) one) (stn (8 * 2 ^ j) one) = stn (8 * 2 ^ (j + 1)) one := by
  rw [times_pow, ← stn_add, Nat.pow_succ]; congr 1; omega
theorem move_odd (n j : Nat) (s : W) (h : n / 2 ^ j % 2 = 1) : times 32 (stn (8 * (n % 2 ^ j)) s) (stn (8 * 2 ^ j) one) = stn (8 * (n % 2 ^ (j + 1))) s := by
  rw [times_pow, ← stn_add, Nat.mod_pow_succ, h]; congr 1; omega
theorem move_even (n j : Nat) (s : W) (h : n / 2 ^ j % 2 = 0) : stn (8 * (n % 2 ^ j)) s = stn (8 * (n % 2 ^ (j + 1))) s := by
  rw [Nat.mod_pow_succ, h]; congr 1
theorem half_pow (n j : Nat) : n / 2 ^ j / 2 = n / 2 ^ (j + 1) := by rw [Nat.div_div_eq_div_mul, ← Nat.pow_succ]

end Go.Proofs.Ytncbhpopobjaiaa

/- The document's own answers for the sums: what each returns. -/
namespace Go.Proofs.Ytncbhpopobjaiaa
set_option linter.unusedVariables false
open Go.RowKit SumM

theorem ref_move (x : W) (w : World) : Calls Try.prog 58 #[.int .u32 (x.toNat : Int)] w fun e w' => e = .returned (.int .u32 ((stn 8 x).toNat : Int)) ∧ w = w' := by
  go_enter Try.func58, Try.ntmps58
  go_wp2
  go_loop [0, 3] (fun s i => ∃ k : Nat, k ≤ 8 ∧ i = .int .i64 k ∧ s = .int .u32 ((stn k x).toNat : Int)) (fun _ i => 8 - (intOf i).toNat)
  case atStart => exact ⟨0, Nat.zero_le _, rfl, rfl⟩
  case round =>
    obtain ⟨k, hk, rfl, rfl⟩ := hrel
    by_cases hlt : k < 8
    · have hS := Lib.hid (stn_succ k x)
      have hx := (stn k x).isLt
      rcases Nat.mod_two_eq_zero_or_one (stn k x).toNat with h | h
      · have h1 : (((stn k x).toNat : Int) % 2 == 1) = false := by
          rw [beq_eq_false_iff_ne]; omega
        have hr := Lib.hid (st_even h)
        clear h
        go_wp2
        go_round
        case rel => exact ⟨k + 1, by omega, by go_num, by rw [hS.out, hr.out, ← half_cast]⟩
        case measure => simp [intOf]; omega
      · have h1 : (((stn k x).toNat : Int) % 2 == 1) = true := by
          rw [beq_iff_eq]; omega
        have hr := Lib.hid (st_odd h)
        have hb : bits .xor .u32 (((stn k x).toNat : Int) / 2) 2197175160 = (((stn k x).toNat / 2 ^^^ 2197175160 : Nat) : Int) := by
          rw [half_cast]; exact u32_xor_nat _ _ (by omega) (by decide)
        have HB := Lib.hid hb
        clear h hb
        go_wp2
        go_round
        case rel => exact ⟨k + 1, by omega, by go_num, by rw [hS.out, hr.out, ← HB.out]⟩
        case measure => simp [intOf]; omega
    · obtain rfl : k = 8 := by omega
      go_wp2
      go_ret
      exact ⟨rfl, rfl⟩

theorem xor_mod (a : W) (c : UInt8) : bits .xor .u32 (a.toNat : Int) ((c.toNat : Int) % 4294967296) = ((a ^^^ b32 c).toNat : Int) := by
  have e : ((c.toNat : Int) % 4294967296) = (c.toNat : Int) := by have := c.toNat_lt; omega
  rw [e, xor_byte]
theorem ref_of (l : List UInt8) (hm : l.length ≤ maxLen) (w : World) : Calls Try.prog 55 #[.string (str l)] w fun e w' => e = .returned (.int .u32 ((sumOf l).toNat : Int)) ∧ w = w' := by
  unfold maxLen at hm
  go_enter Try.func55, Try.ntmps55
  have hsz := str_size l
  go_wp2
  go_loop [3, 4] (fun s i => ∃ k : Nat, k ≤ l.length ∧ i = .int .i64 k ∧ s = .int .u32 ((run ones (l.take k)).toNat : Int)) (fun _ i => l.length - (intOf i).toNat)
  case atStart => exact ⟨0, Nat.zero_le _, rfl, rfl⟩
  case round =>
    obtain ⟨k, hk, rfl, rfl⟩ := hrel
    by_cases hlt : k < l.length
    · have hN := Lib.hid (run_take l ones k hlt)
      have hkl : k < (str l).size := by rw [str_size]; exact hlt
      go_wp2_with fail
      rw [str_get, xor_mod]
      refine (ref_move _ _).mono ?_
      rintro e w' ⟨rfl, rfl⟩
      go_wp2
      go_round
      case rel => exact ⟨k + 1, by omega, by go_num, by rw [hN.out]⟩
      case measure => simp [intOf]; omega
    · obtain rfl : k = l.length := by omega
      go_wp2
      go_ret
      refine ⟨ret_int ?_, rfl⟩
      have e : ((ones ^^^ run ones l).toNat : Int) = bits .xor .u32 ((run ones l).toNat : Int) (ones.toNat : Int) := by rw [u32_xor_bv, BitVec.xor_comm]
      rw [sumOf, e]; rfl

end Go.Proofs.Ytncbhpopobjaiaa

/- Roots: which may be, their sectors, the root of a sector: mathematics alone. -/
namespace Go.Proofs.Ytncbhpopobjaiaa
set_option linter.unusedVariables false
set_option linter.unusedSimpArgs false
open Go Go.RowKit SumM OctM

abbrev Rt := Int × Int × Int
def rtc (x : Rt) : List Value := [.int .i64 x.1, .int .i64 x.2.1, .int .i64 x.2.2]
def rt0 : Rt := (0, 0, 0)
/-- May a root be? -/
def Rok (x : Rt) : Prop := 1 ≤ x.1 ∧ x.1 ≤ 4294967295 ∧ 1 ≤ x.2.1 ∧ x.2.1 ≤ 4294967295 ∧ 0 ≤ x.2.2 ∧ x.2.2 ≤ 1099511627775
instance (x : Rt) : Decidable (Rok x) := by unfold Rok; infer_instance
def rname : List UInt8 := [114, 111, 111, 116]
def rhead (x : Rt) : List UInt8 := rname ++ enc (held x.1) ++ enc (held x.2.1) ++ enc (held x.2.2)
theorem rhead_len (x : Rt) : (rhead x).length ≤ 22 := by
  have h1 := held_len x.1
  have h2 := held_len x.2.1
  have h3 := held_len x.2.2
  simp only [rhead, List.length_append]
  have : rname.length = 4 := rfl
  omega
def rpad (x : Rt) : List UInt8 := rhead x ++ List.replicate (60 - (rhead x).length) 0
theorem rpad_len (x : Rt) : (rpad x).length = 60 := by
  have := rhead_len x
  simp [rpad]
  omega
def rput (x : Rt) : List UInt8 := if Rok x then sealOf (rpad x) else []
theorem rput_len (x : Rt) (h : Rok x) : (rput x).length = 64 := by
  unfold rput
  rw [if_pos h]
  simp [sealOf, rpad_len, le4_length]
/-- The numbers of a sector, behind its name. -/
def rp1 (l : List UInt8) : Nat × Nat × Int := numOut l 0 0 4294967295
def rp2 (l : List UInt8) : Nat × Nat × Int := numOut l (rp1 l).2.1 (rp1 l).2.2 4294967295
def rp3 (M : Int) (l : List UInt8) : Nat × Nat × Int := numOut l (rp2 l).2.1 (rp2 l).2.2 M
def rpars (M : Int) (l : List UInt8) : Rt := (((rp1 l).1 : Nat), ((rp2 l).1 : Nat), ((rp3 M l).1 : Nat))
theorem rparse (x : Rt) (h : Rok x) (M : Int) (hM : 1099511627775 ≤ M) (rest : List UInt8) : rpars M (enc (held x.1) ++ enc (held x.2.1) ++ enc (held x.2.2) ++ rest) = x ∧ (rp3 M (enc (held x.1) ++ enc (held x.2.1) ++ enc (held x.2.2) ++ rest)).2.2 = 0 := by
  obtain ⟨a, b, c⟩ := x
  obtain ⟨h1, h2, h3, h4, h5, h6⟩ := h
  dsimp only at h1 h2 h3 h4 h5 h6 ⊢
  have ha := held_self (n := a) (by omega) (by omega)
  have hb := held_self (n := b) (by omega) (by omega)
  have hc := held_self (n := c) (by omega) (by omega)
  generalize held a = na at ha
  generalize held b = nb at hb
  generalize held c = nc at hc
  subst ha hb hc
  have e1 : rp1 (enc na ++ enc nb ++ enc nc ++ rest) = (na, (enc na).length, 0) := by
    have := num_put [] (enc nb ++ (enc nc ++ rest)) na 4294967295 (by omega) (by omega)
    simpa [rp1] using this
  have e2 : rp2 (enc na ++ enc nb ++ enc nc ++ rest) = (nb, (enc na).length + (enc nb).length, 0) := by
    have := num_put (enc na) (enc nc ++ rest) nb 4294967295 (by omega) (by omega)
    unfold rp2
    rw [e1]
    simpa using this
  have e3 : rp3 M (enc na ++ enc nb ++ enc nc ++ rest) = (nc, (enc na ++ enc nb).length + (enc nc).length, 0) := by
    have := num_put (enc na ++ enc nb) rest nc M (by omega) (by omega)
    unfold rp3
    rw [e2]
    simpa using this
  unfold rpars
  rw [e1, e2, e3]
  exact ⟨rfl, rfl⟩
theorem rput_shape (x : Rt) (h : Rok x) : ∃ rest, rput x = rname ++ (enc (held x.1) ++ enc (held x.2.1) ++ enc (held x.2.2) ++ rest) := by
  refine ⟨List.replicate (60 - (rhead x).length) 0 ++ le4 (sumOf (rpad x)), ?_⟩
  unfold rput
  rw [if_pos h]
  simp [sealOf, rpad, rhead]
theorem rput_parse (x : Rt) (h : Rok x) (M : Int) (hM : 1099511627775 ≤ M) : rpars M ((rput x).drop 4) = x ∧ (rp3 M ((rput x).drop 4)).2.2 = 0 := by
  obtain ⟨rest, hr⟩ := rput_shape x h
  rw [hr, show (rname ++ (enc (held x.1) ++ enc (held x.2.1) ++ enc (held x.2.2) ++ rest)).drop 4 = enc (held x.1) ++ enc (held x.2.1) ++ enc (held x.2.2) ++ rest from by
    rw [show (4 : Nat) = rname.length from rfl, List.drop_left]]
  exact rparse x h M hM rest
/-- The root of a sector, if it has one. -/
def rget (s : List UInt8) : Rt × Bool := if Rok (rpars 1099511627775 (s.drop 4)) ∧ rput (rpars 1099511627775 (s.drop 4)) = s then (rpars 1099511627775 (s.drop 4), true) else (rt0, false)
theorem rget_put (x : Rt) (h : Rok x) : rget (rput x) = (x, true) := by
  have h2 := (rput_parse x h 1099511627775 (Int.le_refl _)).1
  unfold rget
  rw [h2, if_pos ⟨h, rfl⟩]
theorem rget_yes (s : List UInt8) (x : Rt) (h : Rok x) (hs : rput x = s) : rget s = (x, true) := by rw [← hs]; exact rget_put x h
theorem rget_none (s : List UInt8) (h : ∀ x, Rok x → rput x ≠ s) : rget s = (rt0, false) := by
  unfold rget
  rw [if_neg (fun he => h _ he.1 he.2)]
/-- What is read off is no root's sector: there is none. -/
theorem rget_no (s : List UInt8) (M : Int) (hM : 1099511627775 ≤ M) (h : ¬ (Rok (rpars M (s.drop 4)) ∧ rput (rpars M (s.drop 4)) = s)) : rget s = (rt0, false) :=
  rget_none s (fun x hx hs => h (by
    subst hs
    rw [(rput_parse x hx M hM).1]
    exact ⟨hx, rfl⟩))
theorem rget_err (s : List UInt8) (M : Int) (hM : 1099511627775 ≤ M) (h : (rp3 M (s.drop 4)).2.2 ≠ 0) : rget s = (rt0, false) :=
  rget_none s (fun x hx hs => h (by subst hs; exact (rput_parse x hx M hM).2))
theorem rget_len (s : List UInt8) (h : s.length ≠ 64) : rget s = (rt0, false) :=
  rget_none s (fun x hx hs => h (by subst hs; exact rput_len x hx))
theorem rget_name (s : List UInt8) (h : s.take 4 ≠ rname) : rget s = (rt0, false) :=
  rget_none s (fun x hx hs => h (by
    subst hs
    obtain ⟨rest, hr⟩ := rput_shape x hx
    rw [hr, show (4 : Nat) = rname.length from rfl, List.take_left]))
theorem rget_ok (s : List UInt8) (h : (rget s).2 = true) : Rok (rget s).1 ∧ rput (rget s).1 = s := by
  unfold rget at h ⊢
  by_cases he : Rok (rpars 1099511627775 (s.drop 4)) ∧ rput (rpars 1099511627775 (s.drop 4)) = s
  · rw [if_pos he]
    exact he
  · rw [if_neg he] at h
    cases h
theorem rget_false (s : List UInt8) (h : (rget s).2 = false) : (rget s).1 = rt0 := by
  unfold rget at h ⊢
  by_cases he : Rok (rpars 1099511627775 (s.drop 4)) ∧ rput (rpars 1099511627775 (s.drop 4)) = s
  · rw [if_pos he] at h
    cases h
  · rw [if_neg he]
end Go.Proofs.Ytncbhpopobjaiaa

/- A block of cells that is known whole: loads and stores of parts of it; fields of cards as a list. -/
namespace Go.Proofs.Ytncbhpopobjaiaa
set_option linter.unusedVariables false
open Go Go.RowKit

/-- Block g holds these cells, and may be written. -/
def Blk (w : World) (g : Nat) (cs : List Value) : Prop := ∃ t, w.heap[g]? = some (.cells cs.toArray t (0, 0))

section
variable {w w' : World} {g : Nat} {cs : List Value}
theorem Blk.lt (h : Blk w g cs) : g < w.heap.size := by
  obtain ⟨t, h⟩ := h
  exact (Array.getElem?_eq_some_iff.1 h).1
theorem Blk.new (w : World) (cs : List Value) (t : TypeId) : Blk (w.alloc (.cells cs.toArray t)) w.heap.size cs := ⟨t, heap_alloc_new w _⟩
theorem Blk.cell (h : Blk w g cs) {j : Nat} {v : Value} (hj : cs[j]? = some v) : w.cell? ⟨g, j, none⟩ = some v := by
  obtain ⟨t, h⟩ := h
  simp [World.cell?, h, hj]
theorem Blk.frozen (h : Blk w g cs) (j : Nat) : w.frozen? ⟨g, j, none⟩ = false := by
  obtain ⟨t, h⟩ := h
  simp [World.frozen?, h]
theorem Blk.kept {row : Option Nat} (h : Blk w g cs) (hg : w.grownBy w' row) (hne : row ≠ some g) : Blk w' g cs := by
  have hlt := h.lt
  obtain ⟨t, h⟩ := h
  exact ⟨t, (hg.block g hlt (fun e => hne e.symm)).trans h⟩
theorem Blk.later (h : Blk w g cs) (hb : Below w.heap.size w w') : Blk w' g cs := by
  have hlt := h.lt
  obtain ⟨t, h⟩ := h
  exact ⟨t, (hb.block g hlt).trans h⟩
theorem Blk.below {B : Nat} (h : Blk w g cs) (hb : Below B w w') (hB : g < B) : Blk w' g cs := by
  obtain ⟨t, h⟩ := h
  exact ⟨t, (hb.block g hB).trans h⟩
theorem Blk.alloc (h : Blk w g cs) (o : Obj) : Blk (w.alloc o) g cs := by
  have hlt := h.lt
  obtain ⟨t, h⟩ := h
  exact ⟨t, (Below.heap_alloc w o g hlt).trans h⟩
theorem Blk.drewN (h : Blk w g cs) (k : Nat) : Blk (w.drewN k) g cs := h
theorem Blk.drew (h : Blk w g cs) : Blk w.drew g cs := h
theorem Blk.set (h : Blk w g cs) (j : Nat) (v : Value) : Blk (w.setCell ⟨g, j, none⟩ v) g (cs.set j v) := by
  have hlt := h.lt
  obtain ⟨t, h⟩ := h
  refine ⟨t, ?_⟩
  obtain ⟨h1, h2⟩ := Array.getElem?_eq_some_iff.1 h
  show (w.heap.modify g _)[g]? = _
  rw [Array.getElem?_eq_getElem (by rw [Array.size_modify]; exact hlt), Array.getElem_modify_self, h2]
  simp
theorem Blk.setOther {b : Nat} (h : Blk w g cs) (j : Nat) (v : Value) (hb : b ≠ g) : Blk (w.setCell ⟨b, j, none⟩ v) g cs := by
  obtain ⟨t, h⟩ := h
  exact ⟨t, (Below.heap_setCell w ⟨b, j, none⟩ v g (fun e => hb e.symm)).trans h⟩
theorem Blk.sets (h : Blk w g cs) : ∀ (vs : List Value) (o : Nat), o + vs.length ≤ cs.length → Blk (w.setCells g o vs) g (cs.take o ++ vs ++ cs.drop (o + vs.length)) := by
  intro vs
  induction vs generalizing w cs with
  | nil =>
    intro o ho
    show Blk w g _
    simpa using h
  | cons v vs ih =>
    intro o ho
    simp only [List.length_cons] at ho
    have h2 := ih (h.set o v) (o + 1) (by simp; omega)
    have e : (cs.set o v).take (o + 1) ++ vs ++ (cs.set o v).drop (o + 1 + vs.length) = cs.take o ++ (v :: vs) ++ cs.drop (o + (v :: vs).length) := by
      rw [List.take_succ_eq_append_getElem (by simp; omega), List.take_set_of_le (Nat.le_refl o), List.getElem_set_self, List.drop_set_of_lt (by omega)]
      simp [Nat.add_comm, Nat.add_left_comm]
    rw [e] at h2
    exact h2
theorem Blk.setsOther {b : Nat} (hb : b ≠ g) : ∀ (vs : List Value) (o : Nat) {w : World}, Blk w g cs → Blk (w.setCells b o vs) g cs
  | [], _, _, h => h
  | v :: vs, o, _, h => Blk.setsOther hb vs (o + 1) (h.setOther o v hb)
theorem below_sets {B b : Nat} (hb : B ≤ b) : ∀ (vs : List Value) (o : Nat) {a w : World}, Below B a w → Below B a (w.setCells b o vs)
  | [], _, _, _, h => h
  | v :: vs, o, _, _, h => below_sets hb vs (o + 1) (h.setCell hb v)
theorem size_setCell' (w : World) (p : Addr) (v : Value) : (w.setCell p v).heap.size = w.heap.size := by simp [World.setCell]
theorem size_sets (b : Nat) : ∀ (vs : List Value) (o : Nat) (w : World), (w.setCells b o vs).heap.size = w.heap.size
  | [], _, _ => rfl
  | v :: vs, o, w => (size_sets b vs (o + 1) _).trans (size_setCell' w _ v)
theorem Blk.range (h : Blk w g cs) (o : Nat) (vs : List Value) (hv : (cs.drop o).take vs.length = vs) : w.rangeAt g o vs := fun j v hj => by
  refine h.cell ?_
  have hlt : j < vs.length := (List.getElem?_eq_some_iff.1 hj).1
  rw [← hv, List.getElem?_take, if_pos hlt, List.getElem?_drop] at hj
  exact hj
theorem Blk.there (h : Blk w g cs) (o n : Nat) (hn : o + n ≤ cs.length) : w.there g o n := fun j hj => by
  refine ⟨?_, h.frozen _⟩
  rw [h.cell (j := o + j) (List.getElem?_eq_getElem (by omega))]
  rfl
end

/-- A value of a field: its kind, its number, its text. -/
abbrev V3 := Int × Int × ByteArray
def vcells (v : V3) : List Value := [.int .i64 v.1, .int .i64 v.2.1, .string v.2.2]
def vagg (v : V3) : Value := .agg #[.int .i64 v.1, .int .i64 v.2.1, .string v.2.2]
def zv : V3 := (0, 0, ⟨#[]⟩)
/-- The cells of fields. -/
def fcells (f : List V3) : List Value := f.flatMap vcells
theorem fcells_len (f : List V3) : (fcells f).length = 3 * f.length := by
  induction f with
  | nil => rfl
  | cons v f ih => simp only [fcells, List.flatMap_cons, List.length_append, List.length_cons] at *; rw [ih]; simp [vcells]; omega
theorem fcells_cons (v : V3) (f : List V3) : fcells (v :: f) = vcells v ++ fcells f := rfl
theorem fcells_get (f : List V3) (i : Nat) (h : i < f.length) : (fcells f)[3 * i]? = some (.int .i64 f[i].1) ∧ (fcells f)[3 * i + 1]? = some (.int .i64 f[i].2.1) ∧ (fcells f)[3 * i + 2]? = some (.string f[i].2.2) := by
  induction f generalizing i with
  | nil => simp at h
  | cons v f ih =>
    rw [fcells_cons]
    cases i with
    | zero => simp [vcells]
    | succ i =>
      have := ih i (by simpa using h)
      rw [show 3 * (i + 1) = 3 * i + 3 by omega]
      have h3 : (vcells v).length = 3 := rfl
      refine ⟨?_, ?_, ?_⟩
      · rw [List.getElem?_append_right (by omega), h3]; simpa using this.1
      · rw [List.getElem?_append_right (by omega), h3, show 3 * i + 3 + 1 - 3 = 3 * i + 1 by omega]; simpa using this.2.1
      · rw [List.getElem?_append_right (by omega), h3, show 3 * i + 3 + 2 - 3 = 3 * i + 2 by omega]; simpa using this.2.2
theorem fcells_drop (f : List V3) (i : Nat) (h : i < f.length) : ((fcells f).drop (3 * i)).take 3 = vcells f[i] := by
  induction f generalizing i with
  | nil => simp at h
  | cons v f ih =>
    rw [fcells_cons]
    cases i with
    | zero => simp [vcells]
    | succ i =>
      rw [show 3 * (i + 1) = 3 + 3 * i by omega, ← List.drop_drop, List.drop_append_of_le_length (by simp [vcells])]
      simpa [vcells] using ih i (by simpa using h)
theorem fcells_set (f : List V3) (i : Nat) (v : V3) (h : i < f.length) : (fcells f).take (3 * i) ++ vcells v ++ (fcells f).drop (3 * i + 3) = fcells (f.set i v) := by
  induction f generalizing i with
  | nil => simp at h
  | cons u f ih =>
    cases i with
    | zero => simp [fcells_cons, vcells]
    | succ i =>
      rw [List.set_cons_succ, fcells_cons, fcells_cons, ← ih i (by simpa using h)]
      rw [show 3 * (i + 1) = 3 * i + 3 by omega]
      simp [vcells]
theorem fcells_one (f : List V3) : ∀ u ∈ fcells f, u.oneCell' = true := by
  intro u hu
  simp only [fcells, List.mem_flatMap, vcells] at hu
  obtain ⟨v, _, hv⟩ := hu
  simp at hv
  rcases hv with rfl | rfl | rfl <;> rfl

/-- Of two lists of fields: the first one's where p says so. -/
def mix (p : Nat → Bool) (a c : List V3) : List V3 := (List.range 8).map fun i => if p i then a.getD i zv else c.getD i zv
theorem mix_len (p : Nat → Bool) (a c : List V3) : (mix p a c).length = 8 := by simp [mix]
theorem mix_get (p : Nat → Bool) (a c : List V3) (i : Nat) (h : i < (mix p a c).length) : (mix p a c)[i] = if p i then a.getD i zv else c.getD i zv := by simp [mix]
theorem mix_none (a c : List V3) (hc : c.length = 8) : mix (fun _ => false) a c = c := by
  apply List.ext_getElem
  · simp [mix, hc]
  · intro i h1 h2
    rw [mix_get]
    simp [h2]
theorem mix_all (a c : List V3) (ha : a.length = 8) : mix (fun _ => true) a c = a := by
  apply List.ext_getElem
  · simp [mix, ha]
  · intro i h1 h2
    rw [mix_get]
    simp [h2]
theorem mix_congr {p q : Nat → Bool} (a c : List V3) (h : ∀ i, i < 8 → p i = q i) : mix p a c = mix q a c := by
  unfold mix
  refine List.map_congr_left fun i hi => ?_
  rw [h i (by simpa using hi)]
theorem mix_set (p : Nat → Bool) (a c : List V3) (k : Nat) (hk : k < 8) (ha : k < a.length) : (mix p a c).set k a[k] = mix (fun i => p i || i == k) a c := by
  apply List.ext_getElem
  · simp [mix]
  · intro i h1 h2
    rw [mix_get, List.getElem_set]
    by_cases e : k = i
    · subst e; simp [ha]
    · rw [if_neg e, mix_get]
      have : (i == k) = false := by simpa using fun h => e h.symm
      simp [this]
end Go.Proofs.Ytncbhpopobjaiaa

/- Loads of whole structs under guards, == and != of structs, of values: general. -/
namespace Go.Proofs.Ytncbhpopobjaiaa
set_option linter.unusedVariables false
open Go Go.RowKit

section
variable {P : Program} {ops : Array Oper} {rest : List Oper} {op : Oper} {a : Act} {w : World} {Q : Exit → Act → World → Prop}
/-- A load of a whole struct, where its guard lets it. -/
theorem wpList_load_g (hw : Region.wanted op (yielded ops a.tmps) = true) (ty : TypeId) (x : Operand) (ho : op.op = .load ty x)
    (b o : Nat) (hx : a.eval x = .pointer (some ⟨b, o, none⟩)) (cs : List Value) (d : TypeDesc) (hc : w.rangeAt b o cs)
    (hu : P.underlying ty = some d) (hd : d.isRow = true) (hi : (P.info? ty).map (·.size) = some cs.length)
    (h : wpList P ops Q rest (a.put op.dst (.agg cs.toArray)) w) : wpList P ops Q (op :: rest) a w :=
  wpList_step fun K hK => by
    rw [if_pos hw]
    exact wp_load_mid ty x ho b o hx cs d hc hu hd hi (hK _ _ h)
theorem exec_load (ty : TypeId) (x : Operand) (ho : op.op = .load ty x) (b o : Nat) (hx : a.eval x = .pointer (some ⟨b, o, none⟩)) (cs : List Value) (d : TypeDesc) (hc : w.rangeAt b o cs)
    (hu : P.underlying ty = some d) (hd : d.isRow = true) (hi : (P.info? ty).map (·.size) = some cs.length) : (execOp a.eval op).run P w = .ok (.value (.agg cs.toArray)) w := by
  unfold execOp
  simp only [ho, hx, Instr.loadAt, Instr.sureAddr, Sem.run_bind, Sem.run_pure, Result.andThen_ok, run_loadVar_mid w b o ty cs d hc hu hd hi]
end

theorem list_str (a b : ByteArray) : a.toList = b.toList ↔ a = b := by
  rw [ByteArray.toList_eq, ByteArray.toList_eq]
  constructor
  · intro h
    apply ByteArray.ext
    apply Array.ext'
    exact h
  · rintro rfl; rfl
theorem ite_ok {p : Prop} [Decidable p] (w : World) : (if p then Result.ok true w else Result.ok false w) = Result.ok (decide p) w := by
  by_cases h : p <;> simp [h]

section
variable {P : Program} {ops : Array Oper} {rest : List Oper} {op : Oper} {a : Act} {w : World} {Q : Exit → Act → World → Prop}
/-- An operation by its run. -/
theorem wpList_exec (hw : Region.wanted op (yielded ops a.tmps) = true) (v : Value) (he : (execOp a.eval op).run P w = .ok (.value v) w)
    (h : wpList P ops Q rest (a.put op.dst v) w) : wpList P ops Q (op :: rest) a w :=
  wpList_step fun K hK => by
    rw [if_pos hw]
    unfold Oper.wp
    rw [he]
    exact hK _ _ h
theorem exec_eql (t u : TypeId) (x y : Operand) (ho : op.op = .binOp .eql t x y u) (xs ys : Array Value) (hx : a.eval x = .agg xs) (hy : a.eval y = .agg ys)
    (hg : P.eqGuardType P.depth t = false) (b : Bool) (hr : (Op.equalIn 10000 t (.agg xs) (.agg ys)).run P w = .ok b w) : (execOp a.eval op).run P w = .ok (.value (.bool b)) w := by
  unfold execOp
  simp only [ho, hx, hy, Sem.run_bind, run_eqGuard_agg w _ _ _ _ _ _ hg, run_eql_struct, hr, Result.andThen_ok, Sem.run_pure]
theorem exec_neq (t u : TypeId) (x y : Operand) (ho : op.op = .binOp .neq t x y u) (xs ys : Array Value) (hx : a.eval x = .agg xs) (hy : a.eval y = .agg ys)
    (hg : P.eqGuardType P.depth t = false) (b : Bool) (hr : (Op.equalIn 10000 t (.agg xs) (.agg ys)).run P w = .ok b w) : (execOp a.eval op).run P w = .ok (.value (.bool (!b))) w := by
  unfold execOp
  simp only [ho, hx, hy, Sem.run_bind, run_eqGuard_agg w _ _ _ _ _ _ hg, run_neq_struct, hr, Result.andThen_ok, Sem.run_pure]
end

end Go.Proofs.Ytncbhpopobjaiaa

/- Sets of small numbers as 32 bits: what is in them, with a number, without it. -/
namespace Go.Proofs.Ytncbhpopobjaiaa
open Go Go.RowKit
namespace BitM

theorem ofInt_nat (a : BitVec 32) : BitVec.ofInt 32 (a.toNat : Int) = a := by
  apply BitVec.eq_of_toNat_eq
  rw [BitVec.toNat_ofInt]
  have := a.isLt
  omega
theorem wrap_nat (a : BitVec 32) : IntKind.u32.wrap (a.toNat : Int) = (a.toNat : Int) := by
  have := a.isLt
  simp [IntKind.wrap, IntKind.signed, IntKind.bits]
  omega
theorem u32_and (a b : BitVec 32) : bits .and .u32 (a.toNat : Int) (b.toNat : Int) = ((a &&& b).toNat : Int) := by
  show IntKind.u32.wrap ((BitVec.ofInt 32 (a.toNat : Int) &&& BitVec.ofInt 32 (b.toNat : Int)).toNat : Int) = _
  rw [ofInt_nat, ofInt_nat, wrap_nat]
theorem u32_or (a b : BitVec 32) : bits .or .u32 (a.toNat : Int) (b.toNat : Int) = ((a ||| b).toNat : Int) := by
  show IntKind.u32.wrap ((BitVec.ofInt 32 (a.toNat : Int) ||| BitVec.ofInt 32 (b.toNat : Int)).toNat : Int) = _
  rw [ofInt_nat, ofInt_nat, wrap_nat]
theorem u32_andNot (a b : BitVec 32) : bits .andNot .u32 (a.toNat : Int) (b.toNat : Int) = ((a &&& ~~~b).toNat : Int) := by
  show IntKind.u32.wrap ((BitVec.ofInt 32 (a.toNat : Int) &&& ~~~ BitVec.ofInt 32 (b.toNat : Int)).toNat : Int) = _
  rw [ofInt_nat, ofInt_nat, wrap_nat]
theorem nat_eq (a b : BitVec 32) : ((a.toNat : Int) == (b.toNat : Int)) = (a == b) := by
  rw [Bool.eq_iff_iff]
  simp only [beq_iff_eq]
  constructor
  · intro h; exact BitVec.eq_of_toNat_eq (by omega)
  · intro h; rw [h]
theorem nat_eq0 (a : BitVec 32) : ((a.toNat : Int) == 0) = (a == 0#32) := nat_eq a 0#32
theorem nat_ne0 (a : BitVec 32) : ((a.toNat : Int) != 0) = (a != 0#32) := by
  have := nat_eq0 a
  simp only [bne, this]

/-- The set of one number; none, if it is in no set. -/
def one (n : Int) : BitVec 32 := if 0 ≤ n ∧ n < 32 then BitVec.twoPow 32 n.toNat else 0#32
/-- Is a number in a set? -/
def has (x : BitVec 32) (n : Int) : Bool := decide (0 ≤ n ∧ n < 32) && x.getLsbD n.toNat
def put (x : BitVec 32) (n : Int) : BitVec 32 := x ||| one n

theorem one_in {k : Nat} (h : k < 32) : one (k : Int) = BitVec.twoPow 32 k := by unfold one; rw [if_pos (by omega)]; rfl
theorem one_out {n : Int} (h : ¬ (0 ≤ n ∧ n < 32)) : one n = 0#32 := if_neg h
theorem has_in (x : BitVec 32) {k : Nat} (h : k < 32) : has x (k : Int) = x.getLsbD k := by
  unfold has; rw [decide_eq_true (by omega)]; rfl
theorem has_out (x : BitVec 32) {n : Int} (h : ¬ (0 ≤ n ∧ n < 32)) : has x n = false := by unfold has; rw [decide_eq_false h]; rfl
theorem and_one (x : BitVec 32) (n : Int) : (x &&& one n != 0#32) = has x n := by
  by_cases h : 0 ≤ n ∧ n < 32
  · obtain ⟨k, rfl⟩ := Int.eq_ofNat_of_zero_le h.1
    have hk : k < 32 := by omega
    rw [one_in hk, has_in x hk, BitVec.and_twoPow]
    cases hb : x.getLsbD k
    · simp
    · simp only [if_true, bne_iff_ne, ne_eq]
      intro he
      have := congrArg (fun v : BitVec 32 => v.getLsbD k) he
      simp [hk] at this
  · rw [one_out h, has_out x h]; simp
theorem two_pow_nat {k : Nat} (h : k < 32) : (BitVec.twoPow 32 k).toNat = 2 ^ k := by
  rw [BitVec.toNat_twoPow]
  exact Nat.mod_eq_of_lt (Nat.pow_lt_pow_right (by omega) h)
theorem put_add {x : BitVec 32} {k : Nat} (h : x.getLsbD k = false) : x + BitVec.twoPow 32 k = x ||| BitVec.twoPow 32 k := by
  apply BitVec.add_eq_or_of_and_eq_zero
  rw [BitVec.and_twoPow, h]; rfl
theorem put_add_nat {x : BitVec 32} {k : Nat} (hk : k < 32) (h : x.getLsbD k = false) : x.toNat + 2 ^ k = (x ||| BitVec.twoPow 32 k).toNat ∧ x.toNat + 2 ^ k < 4294967296 := by
  have h1 := put_add h
  have h2 := congrArg BitVec.toNat h1
  rw [BitVec.toNat_add, two_pow_nat hk] at h2
  have hlt : x.toNat + 2 ^ k < 2 ^ 32 := by
    have hx := x.isLt
    have hb : x.toNat / 2 ^ k % 2 = 0 := by
      have := h
      rw [BitVec.getLsbD, Nat.testBit_eq_decide_div_mod_eq] at this
      simp at this
      omega
    have hp : (2 : Nat) ^ 32 = 2 ^ k * (2 * 2 ^ (31 - k)) := by
      rw [← Nat.pow_succ', ← Nat.pow_add]; congr 1; omega
    have hd := Nat.div_add_mod x.toNat (2 ^ k)
    have hm := Nat.mod_lt x.toNat (Nat.two_pow_pos k)
    have hq : x.toNat / 2 ^ k < 2 * 2 ^ (31 - k) := by
      apply Nat.div_lt_of_lt_mul; rw [← hp]; exact hx
    have hq2 : x.toNat / 2 ^ k + 2 ≤ 2 * 2 ^ (31 - k) := by omega
    have h3 := Nat.mul_le_mul_left (2 ^ k) hq2
    rw [Nat.mul_add] at h3
    omega
  rw [Nat.mod_eq_of_lt hlt] at h2
  exact ⟨h2, by omega⟩
theorem put_self {x : BitVec 32} {n : Int} (h : has x n = true) : put x n = x := by
  unfold put
  by_cases hn : 0 ≤ n ∧ n < 32
  · obtain ⟨k, rfl⟩ := Int.eq_ofNat_of_zero_le hn.1
    have hk : k < 32 := by omega
    rw [has_in x hk] at h
    rw [one_in hk]
    apply BitVec.eq_of_getLsbD_eq
    intro i hi
    simp only [BitVec.getLsbD_or, BitVec.getLsbD_twoPow]
    by_cases e : k = i
    · subst e; simp [h]
    · simp [e]
  · rw [has_out x hn] at h; cases h
theorem has_zero (n : Int) : has 0#32 n = false := by unfold has; simp
theorem has_put (x : BitVec 32) (n m : Int) : has (put x n) m = (has x m || (decide (n = m) && decide (0 ≤ n ∧ n < 32))) := by
  by_cases hm : 0 ≤ m ∧ m < 32
  · obtain ⟨k, rfl⟩ := Int.eq_ofNat_of_zero_le hm.1
    have hk : k < 32 := by omega
    rw [has_in _ hk, has_in _ hk]
    unfold put
    rw [BitVec.getLsbD_or]
    by_cases hn : 0 ≤ n ∧ n < 32
    · obtain ⟨j, rfl⟩ := Int.eq_ofNat_of_zero_le hn.1
      have hj : j < 32 := by omega
      rw [one_in hj, BitVec.getLsbD_twoPow, decide_eq_true hn]
      by_cases e : j = k
      · subst e; simp [hk]
      · have : ¬ ((j : Int) = (k : Int)) := by omega
        simp [e, this]
    · rw [one_out hn, decide_eq_false hn]; simp
  · rw [has_out _ hm, has_out _ hm]
    by_cases e : n = m
    · subst e; rw [decide_eq_false hm]; simp
    · rw [decide_eq_false e]; simp
/-- Two sets with the same numbers are one. -/
theorem ext {x y : BitVec 32} (h : ∀ n : Int, has x n = has y n) : x = y := by
  apply BitVec.eq_of_getLsbD_eq
  intro i hi
  have := h (i : Int)
  rwa [has_in x hi, has_in y hi] at this
theorem bit_of_div (x : BitVec 32) {k : Nat} (h : k < 32) : (((x.toNat / 2 ^ k % 2 : Nat) : Int) == 1) = has x (k : Int) := by
  rw [has_in x h, BitVec.getLsbD, Nat.testBit_eq_decide_div_mod_eq, Bool.eq_iff_iff]
  generalize x.toNat / 2 ^ k % 2 = m
  simp only [beq_iff_eq, decide_eq_true_eq]
  omega
end BitM
end Go.Proofs.Ytncbhpopobjaiaa

/- bits and the document's sets: bit, Has, With, Within, One: what each returns. -/
namespace Go.Proofs.Ytncbhpopobjaiaa
set_option linter.unusedVariables false
open Go.RowKit BitM

end Go.Proofs.Ytncbhpopobjaiaa

/- Values and fields of cards: which may be, which are too long: what each returns. -/
namespace Go.Proofs.Ytncbhpopobjaiaa
set_option linter.unusedVariables false
open Go Go.RowKit BitM

def empty : ByteArray := ⟨#[]⟩
/-- May a value be? -/
def vchk (v : V3) : Bool :=
  if v.1 = 0 then decide (v.2.1 = 0 ∧ v.2.2 = empty)
  else if v.1 = 1 then decide (0 ≤ v.2.1 ∧ v.2.1 ≤ 1099511627776 ∧ v.2.2 = empty)
  else if v.1 = 2 then decide (v.2.1 = 0 ∧ v.2.2.size ≤ 24)
  else false

theorem nil_str_iff (s : ByteArray) : s.toList = [] ↔ s = empty := by
  rw [ByteArray.toList_eq]
  constructor
  · intro h
    apply ByteArray.ext
    apply Array.ext'
    simpa [empty] using h
  · rintro rfl; rfl
theorem vchk_0 (n : Int) (s : ByteArray) : vchk (0, n, s) = decide (n = 0 ∧ s.toList = []) := by
  unfold vchk
  simp only [if_true, nil_str_iff]
theorem vchk_1 (n : Int) (s : ByteArray) : vchk (1, n, s) = decide (0 ≤ n ∧ n ≤ 1099511627776 ∧ s.toList = []) := by
  unfold vchk
  simp only [nil_str_iff]
  rfl
theorem vchk_2 (n : Int) (s : ByteArray) : vchk (2, n, s) = decide (n = 0 ∧ s.size ≤ 24) := rfl
theorem vchk_3 {k : Int} (n : Int) (s : ByteArray) (h0 : k ≠ 0) (h1 : k ≠ 1) (h2 : k ≠ 2) : vchk (k, n, s) = false := by
  unfold vchk
  simp only [h0, h1, h2, if_false]

/-- The values of fields. -/
def vals (f : List V3) : Bool := f.all vchk
def tooLong (f : List V3) : Bool := f.any fun v => decide (200 < v.2.2.size)

theorem box_cells (w : World) (f : List V3) (T : TypeId) (k : Nat) (hk : k < f.length) :
    (w.alloc (.cells (fcells f).toArray T)).cell? ⟨w.heap.size, k * 3, none⟩ = some (.int .i64 f[k].1) ∧ (w.alloc (.cells (fcells f).toArray T)).cell? ⟨w.heap.size, k * 3 + 1, none⟩ = some (.int .i64 f[k].2.1) ∧
      (w.alloc (.cells (fcells f).toArray T)).cell? ⟨w.heap.size, k * 3 + 2, none⟩ = some (.string f[k].2.2) := by
  have h := Blk.new w (fcells f) T
  have h2 := fcells_get f k hk
  rw [Nat.mul_comm k 3]
  exact ⟨h.cell h2.1, h.cell h2.2.1, h.cell h2.2.2⟩

end Go.Proofs.Ytncbhpopobjaiaa

/- bits.Each as an iterator, slices.Collect over it, and mask.Fields: what each returns. -/
namespace Go.Proofs.Ytncbhpopobjaiaa
set_option linter.unusedVariables false
open Go Go.RowKit Go.Shelf BitM
attribute [local go_sem] Oper.semAt_some

/-- The numbers of a set below k, rising. -/
def lst (x : BitVec 32) (k : Nat) : List Int := ((List.range k).filter fun i : Nat => has x (i : Int)).map fun i : Nat => (i : Int)
theorem lst_succ (x : BitVec 32) (k : Nat) : lst x (k + 1) = lst x k ++ if has x (k : Int) = true then [(k : Int)] else [] := by
  unfold lst
  rw [List.range_succ, List.filter_append, List.map_append]
  congr 1
  cases h : has x (k : Int) <;> simp [h]
theorem lst_len (x : BitVec 32) (k : Nat) : (lst x k).length ≤ k := by
  unfold lst
  rw [List.length_map]
  have := List.length_filter_le (fun i : Nat => has x (i : Int)) (List.range k)
  simpa using this
theorem lst_pre (x : BitVec 32) {j k : Nat} (h : j ≤ k) : lst x j <+: lst x k := by
  induction k with
  | zero => obtain rfl : j = 0 := by omega
            exact List.prefix_refl _
  | succ k ih =>
    by_cases e : j = k + 1
    · subst e; exact List.prefix_refl _
    · exact (ih (by omega)).trans (by rw [lst_succ]; exact List.prefix_append _ _)

theorem info_int : (Try.prog.info? 3).map (fun i => (i.zero, i.size, i.bytes)) = some (some (.int .i64 0), 1, 8) := by kernel_rfl

/-- The fields of a mask. -/
def flds (x : BitVec 32) : List Int := lst (x &&& 255#32) 32
theorem flds_len (x : BitVec 32) : (flds x).length ≤ 32 := lst_len _ _
end Go.Proofs.Ytncbhpopobjaiaa

/- More of sets: masks, their fields, labels; both masks; what is in all of a list. -/
namespace Go.Proofs.Ytncbhpopobjaiaa
set_option linter.unusedVariables false
open Go Go.RowKit BitM

theorem low_bit (n i : Nat) : (2 ^ n - 1 : Nat).testBit i = decide (i < n) := Nat.testBit_two_pow_sub_one n i
theorem bit_255 (i : Nat) : (255#32 : BitVec 32).getLsbD i = decide (i < 8) := low_bit 8 i
theorem bit_511 (i : Nat) : (511#32 : BitVec 32).getLsbD i = decide (i < 9) := low_bit 9 i
theorem le_511 (x : BitVec 32) : decide (x.toNat ≤ 511) = true ↔ ∀ i, 9 ≤ i → i < 32 → x.getLsbD i = false := by
  rw [decide_eq_true_iff]
  constructor
  · intro h i h9 _
    have : x.toNat < 2 ^ i := Nat.lt_of_lt_of_le (by omega : x.toNat < 2 ^ 9) (Nat.pow_le_pow_right (by omega) h9)
    exact Nat.testBit_lt_two_pow this
  · intro h
    have : x.toNat < 2 ^ 9 := by
      apply Nat.lt_pow_two_of_testBit
      intro i hi
      by_cases h32 : i < 32
      · exact h i hi h32
      · exact BitVec.getLsbD_of_ge x i (by omega)
    omega
theorem check_eq (x : BitVec 32) : (x &&& ~~~511#32 == 0#32) = decide (x.toNat ≤ 511) := by
  rw [Bool.eq_iff_iff, le_511, beq_iff_eq]
  constructor
  · intro h i h9 h32
    have := congrArg (fun v : BitVec 32 => v.getLsbD i) h
    simp only [BitVec.getLsbD_and, BitVec.getLsbD_not, bit_511, BitVec.getLsbD_zero] at this
    simpa [h32, show ¬ i < 9 by omega] using this
  · intro h
    apply BitVec.eq_of_getLsbD_eq
    intro i hi
    simp only [BitVec.getLsbD_and, BitVec.getLsbD_not, bit_511, BitVec.getLsbD_zero]
    by_cases h9 : i < 9
    · simp [h9]
    · simp [h i (by omega) hi]
theorem has_and_255 (x : BitVec 32) (n : Int) : has (x &&& 255#32) n = (has x n && decide (n < 8)) := by
  by_cases h : 0 ≤ n ∧ n < 32
  · obtain ⟨k, rfl⟩ := Int.eq_ofNat_of_zero_le h.1
    have hk : k < 32 := by omega
    rw [has_in _ hk, has_in _ hk, BitVec.getLsbD_and, bit_255]
    congr 1
    rw [Bool.eq_iff_iff]; simp; omega
  · rw [has_out _ h, has_out _ h]; rfl
theorem mem_lst (x : BitVec 32) (k : Nat) (n : Int) : n ∈ lst x k ↔ (0 ≤ n ∧ n < k ∧ has x n = true) := by
  unfold lst
  rw [List.mem_map]
  constructor
  · rintro ⟨i, hi, rfl⟩
    rw [List.mem_filter, List.mem_range] at hi
    exact ⟨by omega, by omega, hi.2⟩
  · rintro ⟨h0, h1, h2⟩
    obtain ⟨i, rfl⟩ := Int.eq_ofNat_of_zero_le h0
    exact ⟨i, List.mem_filter.2 ⟨List.mem_range.2 (by omega), h2⟩, rfl⟩
theorem mem_flds (x : BitVec 32) (n : Int) : n ∈ flds x ↔ (0 ≤ n ∧ n < 8 ∧ has x n = true) := by
  unfold flds
  rw [mem_lst, has_and_255]
  simp only [Bool.and_eq_true, decide_eq_true_eq]
  constructor
  · rintro ⟨a, b, c, d⟩; exact ⟨a, d, c⟩
  · rintro ⟨a, b, c⟩; exact ⟨a, by omega, c, b⟩
theorem flds_in (x : BitVec 32) (j : Nat) (h : j < (flds x).length) : ∃ i : Nat, i < 8 ∧ (flds x)[j] = (i : Int) := by
  have := (mem_flds x (flds x)[j]).1 (List.getElem_mem h)
  obtain ⟨i, hi⟩ := Int.eq_ofNat_of_zero_le this.1
  exact ⟨i, by omega, hi⟩

/-- The numbers of a list as a set. -/
def ofl (l : List Int) : BitVec 32 := l.foldl put 0#32
theorem ofl_snoc (l : List Int) (n : Int) : ofl (l ++ [n]) = put (ofl l) n := by unfold ofl; rw [List.foldl_append]; rfl
theorem has_ofl (l : List Int) (n : Int) : has (ofl l) n = (decide (0 ≤ n ∧ n < 32) && decide (n ∈ l)) := by
  have key : ∀ (l : List Int) (x : BitVec 32), has (l.foldl put x) n = (has x n || (decide (0 ≤ n ∧ n < 32) && decide (n ∈ l))) := by
    intro l
    induction l with
    | nil => intro x; simp
    | cons m l ih =>
      intro x
      rw [List.foldl_cons, ih, has_put]
      by_cases hn : 0 ≤ n ∧ n < 32
      · by_cases e : m = n
        · subst e; simp [hn]
        · have : ¬ n = m := fun h => e h.symm
          simp [hn, e, this]
      · by_cases e : m = n
        · subst e; simp [hn]
        · simp [hn, e]
  rw [ofl, key, has_zero, Bool.false_or]

/-- The mask of fields and labels. -/
def mkm (b : Bool) (l : List Int) : BitVec 32 := (ofl l &&& 255#32) ||| (if b then 256#32 else 0#32)
end Go.Proofs.Ytncbhpopobjaiaa

/- What a mask shows of labels and fields: what each returns. -/
namespace Go.Proofs.Ytncbhpopobjaiaa
set_option linter.unusedVariables false
open Go Go.RowKit BitM

theorem grown_setCell (w : World) (b j : Nat) (v : Value) : w.grownBy (w.setCell ⟨b, j, none⟩ v) (some b) :=
  ⟨rfl, rfl, rfl, by simp [World.setCell], fun k _ hk => Below.heap_setCell _ _ _ k (fun e => hk (by rw [e]))⟩
theorem grown_sets (b : Nat) : ∀ (vs : List Value) (o : Nat) (w : World), w.grownBy (w.setCells b o vs) (some b)
  | [], _, w => World.grownBy.refl w _
  | v :: vs, o, w => (grown_setCell w b o v).trans (grown_sets b vs (o + 1) _)
theorem Own.setsOther {w : World} {base : Nat} {e : TypeId} {v : Value} {xs : List Value} (h : Own w base e v xs) {b : Nat} (hb : b < base) (vs : List Value) (o : Nat) : Own (w.setCells b o vs) base e v xs := by
  refine h.kept (grown_sets b vs o w) ?_
  have hl := h.lt
  rcases hv : v.ownBlock with _ | g
  · exact .inl rfl
  · refine .inr fun e' => ?_
    have := hl g hv
    cases e'
    omega

section
variable {P : Program} {ops : List Oper} {Q : Exit → Act → World → Prop}
/-- In a drawn region: number i is taken first, for it yields v in whatever world. -/
theorem wpAny_yield (i : Nat) {oi : Oper} (v : Value) {fuel : Nat} {listed : Array Bool} {a : Act} {w : World} (hi : ops[i]? = some oi)
    (hs : Region.noSelect ops.toArray = true) (hf : Region.free .any ops.toArray listed i = true) (hr : (Region.ready .any ops.toArray listed).contains i = true)
    (hQ : ∀ c a w, Q (.panic c) (a.put oi.dst v) w → Q (.panic c) a w) (hw : Region.wanted oi (yielded ops.toArray a.tmps) = true) (hy : ∀ w, (execOp a.eval oi).run P w = .ok (.value v) w)
    (h : wpAny P .any ops.toArray Q fuel (listed.setIfInBounds i true) (a.put oi.dst v) w) : wpAny P .any ops.toArray Q (fuel + 1) listed a w :=
  wpAny_take (by rw [List.getElem?_toArray]; exact hi) hs hf hr hQ (.inl ⟨hw, hy⟩) h
/-- In a drawn region: number i alone may come up. -/
theorem wpAny_one (i : Nat) {oi : Oper} {fuel : Nat} {listed : Array Bool} {a : Act} {w : World} (hi : ops[i]? = some oi) (hr : Region.ready .any ops.toArray listed = [i]) (hw : Region.wanted oi (yielded ops.toArray a.tmps) = true)
    (h : oi.wp P a w (wpAny P .any ops.toArray Q fuel (listed.setIfInBounds i true)) Q) : wpAny P .any ops.toArray Q (fuel + 1) listed a w :=
  wpAny_all hr (by simp) (fun j hj => by
    obtain rfl : j = i := by simpa using hj
    unfold wpOp
    simp only [List.getElem?_toArray, hi, hw, if_true]
    exact .inl h)
end

/-- A result that lies in a block; a result beside it. -/
theorem results_blk {P : Program} {fn : Func} {q : Tmp} {ty : TypeId} (h : fn.results = #[.cell q ty]) (tmps : Array Value) (w : World) (g : Nat) (cs : List Value) (d : TypeDesc)
    (hq : tmps.getD q undef = .pointer (some ⟨g, 0, none⟩)) (hB : Blk w g cs)
    (hu : P.underlying ty = some d) (hd : (match d with | .struct _ | .array _ _ => true | _ => false) = true) (hi : (P.info? ty).map (·.size) = some cs.length) :
    (results fn tmps).run P w = .ok (.agg cs.toArray) w := by
  obtain ⟨t, hB⟩ := hB
  exact results_cell_row h tmps w g t cs.toArray (0, 0) d hq hB hu hd (by simpa using hi)
theorem results_tmp_blk {P : Program} {fn : Func} {p q : Tmp} {ty : TypeId} (h : fn.results = #[.tmp p, .cell q ty]) (tmps : Array Value) (w : World) (g : Nat) (cs : List Value) (d : TypeDesc) (v : Value) (hp : tmps.getD p undef = v)
    (hq : tmps.getD q undef = .pointer (some ⟨g, 0, none⟩)) (hB : Blk w g cs)
    (hu : P.underlying ty = some d) (hd : (match d with | .struct _ | .array _ _ => true | _ => false) = true) (hi : (P.info? ty).map (·.size) = some cs.length) :
    (results fn tmps).run P w = .ok (.tuple #[v, .agg cs.toArray]) w := by
  obtain ⟨t, hB⟩ := hB
  subst hp
  have hq' : tmps[q]?.getD undef = .pointer (some ⟨g, 0, none⟩) := by simpa using hq
  simp [results, h, hq', asAddr, run_loadVar_row w g t ty cs.toArray (0, 0) d hB hu hd (by simpa using hi)]

def zeros : List V3 := List.replicate 8 zv
theorem zeros_len : zeros.length = 8 := rfl
/-- Which fields the first k numbers of a list name. -/
def inl (l : List Int) (k : Nat) : Nat → Bool := fun i => decide ((i : Int) ∈ l.take k)
theorem inl_zero (l : List Int) : inl l 0 = fun _ => false := by
  funext i; simp [inl]
theorem inl_succ (l : List Int) (k i : Nat) (h : k < l.length) (hi : l[k] = (i : Int)) : inl l (k + 1) = fun j => inl l k j || j == i := by
  funext j
  unfold inl
  rw [List.take_succ_eq_append_getElem h, hi]
  rw [Bool.eq_iff_iff]
  simp only [List.mem_append, List.mem_singleton, Bool.or_eq_true, decide_eq_true_eq, beq_iff_eq]
  rw [show ((j : Int) = (i : Int)) ↔ j = i from by omega]
theorem inl_flds (x : BitVec 32) (a c : List V3) : mix (inl (flds x) (flds x).length) a c = mix (fun i => has x (i : Int)) a c := by
  apply mix_congr
  intro i hi
  unfold inl
  rw [List.take_length, Bool.eq_iff_iff, decide_eq_true_iff, mem_flds]
  constructor
  · rintro ⟨_, _, h⟩; exact h
  · intro h; exact ⟨by omega, by omega, h⟩

/-- A step of the loop: a field is laid into another row of fields. -/
theorem blk_field {w : World} {g : Nat} (p : Nat → Bool) (f c : List V3) (pre : List Value) (i : Nat) (hi : i < 8) (hf : i < f.length) (h : Blk w g (pre ++ fcells (mix p f c))) :
    Blk (w.setCells g (pre.length + i * 3) (vcells f[i])) g (pre ++ fcells (mix (fun j => p j || j == i) f c)) := by
  have hl : (fcells (mix p f c)).length = 24 := by rw [fcells_len, mix_len]
  have h2 := h.sets (vcells f[i]) (pre.length + i * 3) (by rw [List.length_append, hl]; show _ + 3 ≤ _; omega)
  have e : (pre ++ fcells (mix p f c)).take (pre.length + i * 3) ++ vcells f[i] ++ (pre ++ fcells (mix p f c)).drop (pre.length + i * 3 + (vcells f[i]).length) = pre ++ fcells (mix (fun j => p j || j == i) f c) := by
    rw [show (vcells f[i]).length = 3 from rfl, List.take_append, List.drop_append, Nat.add_sub_cancel_left]
    rw [List.take_of_length_le (by omega), List.drop_eq_nil_of_le (by omega), List.nil_append, show pre.length + i * 3 + 3 - pre.length = 3 * i + 3 by omega, Nat.mul_comm i 3]
    rw [List.append_assoc, List.append_assoc, ← List.append_assoc ((fcells (mix p f c)).take _), fcells_set _ _ _ (by rw [mix_len]; exact hi), mix_set p f c i hi hf]
  rw [e] at h2
  exact h2
theorem Blk.field {w : World} {g : Nat} {pre : List Value} {f : List V3} (h : Blk w g (pre ++ fcells f)) (o i : Nat) (ho : pre.length = o) (hi : i < f.length) :
    w.cell? ⟨g, o + i * 3, none⟩ = some (.int .i64 f[i].1) ∧ w.cell? ⟨g, o + i * 3 + 1, none⟩ = some (.int .i64 f[i].2.1) ∧ w.cell? ⟨g, o + i * 3 + 2, none⟩ = some (.string f[i].2.2) := by
  subst ho
  have h2 := fcells_get f i hi
  rw [Nat.mul_comm i 3]
  refine ⟨h.cell ?_, h.cell ?_, h.cell ?_⟩
  · rw [List.getElem?_append_right (by omega), Nat.add_sub_cancel_left]; exact h2.1
  · rw [List.getElem?_append_right (by omega), show pre.length + 3 * i + 1 - pre.length = 3 * i + 1 by omega]; exact h2.2.1
  · rw [List.getElem?_append_right (by omega), show pre.length + 3 * i + 2 - pre.length = 3 * i + 2 by omega]; exact h2.2.2
theorem Blk.field0 {w : World} {g : Nat} {f : List V3} (h : Blk w g (fcells f)) (i : Nat) (hi : i < f.length) :
    w.cell? ⟨g, i * 3, none⟩ = some (.int .i64 f[i].1) ∧ w.cell? ⟨g, i * 3 + 1, none⟩ = some (.int .i64 f[i].2.1) ∧ w.cell? ⟨g, i * 3 + 2, none⟩ = some (.string f[i].2.2) := by
  have := Blk.field (pre := []) (o := 0) h i rfl hi
  simpa using this

end Go.Proofs.Ytncbhpopobjaiaa

/- Cards: a patch is written to a card: what each returns. -/
namespace Go.Proofs.Ytncbhpopobjaiaa
set_option linter.unusedVariables false
open Go Go.RowKit BitM

/-- The cells of a card, of a patch. -/
def ccells (id ver lab : Int) (f : List V3) : List Value := [.int .i64 id, .int .i64 ver, .int .u32 lab] ++ fcells f
def pcells (m lab : Int) (f : List V3) : List Value := [.int .u32 m, .int .u32 lab] ++ fcells f
theorem ccells_len (id ver lab : Int) {f : List V3} (h : f.length = 8) : (ccells id ver lab f).length = 27 := by
  unfold ccells; rw [List.length_append, fcells_len, h]; rfl
theorem pcells_len (m lab : Int) {f : List V3} (h : f.length = 8) : (pcells m lab f).length = 26 := by
  unfold pcells; rw [List.length_append, fcells_len, h]; rfl
theorem ccells_one (id ver lab : Int) (f : List V3) : ∀ u ∈ ccells id ver lab f, u.oneCell' = true := by
  intro u hu
  rcases List.mem_append.1 hu with h | h
  · simp at h; rcases h with rfl | rfl | rfl <;> rfl
  · exact fcells_one f u h
theorem pcells_one (m lab : Int) (f : List V3) : ∀ u ∈ pcells m lab f, u.oneCell' = true := by
  intro u hu
  rcases List.mem_append.1 hu with h | h
  · simp at h; rcases h with rfl | rfl <;> rfl
  · exact fcells_one f u h
theorem Blk.card {w : World} {g : Nat} {id ver lab : Int} {f : List V3} (h : Blk w g (ccells id ver lab f)) :
    w.cell? ⟨g, 0, none⟩ = some (.int .i64 id) ∧ w.cell? ⟨g, 1, none⟩ = some (.int .i64 ver) ∧ w.cell? ⟨g, 2, none⟩ = some (.int .u32 lab) := ⟨h.cell rfl, h.cell rfl, h.cell rfl⟩
theorem Blk.patch {w : World} {g : Nat} {m lab : Int} {f : List V3} (h : Blk w g (pcells m lab f)) :
    w.cell? ⟨g, 0, none⟩ = some (.int .u32 m) ∧ w.cell? ⟨g, 1, none⟩ = some (.int .u32 lab) := ⟨h.cell rfl, h.cell rfl⟩
theorem Blk.putLab {w : World} {g : Nat} {id ver lab : Int} {f : List V3} (h : Blk w g (ccells id ver lab f)) (l : Int) : Blk (w.setCell ⟨g, 2, none⟩ (.int .u32 l)) g (ccells id ver l f) := h.set 2 _
theorem Blk.putVer {w : World} {g : Nat} {id ver lab : Int} {f : List V3} (h : Blk w g (ccells id ver lab f)) (v : Int) : Blk (w.setCell ⟨g, 1, none⟩ (.int .i64 v)) g (ccells id v lab f) := h.set 1 _
theorem below_set {B b : Nat} (hb : B ≤ b) {a w : World} (h : Below B a w) (j : Nat) (v : Value) : Below B a (w.setCell ⟨b, j, none⟩ v) := h.setCell hb v
theorem Own.setOther {w : World} {base : Nat} {e : TypeId} {v : Value} {xs : List Value} (h : Own w base e v xs) {b : Nat} (hb : b < base) (j : Nat) (u : Value) : Own (w.setCell ⟨b, j, none⟩ u) base e v xs :=
  h.setsOther hb [u] j
/-- A whole block is laid into another one. -/
theorem Blk.whole {w : World} {g : Nat} {cs ds : List Value} (h : Blk w g cs) (hl : ds.length = cs.length) : Blk (w.setCells g 0 ds) g ds := by
  have h2 := h.sets ds 0 (by omega)
  rw [List.take_zero, List.nil_append, List.drop_eq_nil_of_le (by omega), List.append_nil] at h2
  exact h2
theorem zc27 : (ccells 0 0 0 zeros).toArray = #[Value.int .i64 0, .int .i64 0, .int .u32 0, .int .i64 0, .int .i64 0, .string { data := #[] }, .int .i64 0, .int .i64 0, .string { data := #[] }, .int .i64 0, .int .i64 0, .string { data := #[] }, .int .i64 0, .int .i64 0, .string { data := #[] }, .int .i64 0, .int .i64 0, .string { data := #[] }, .int .i64 0, .int .i64 0, .string { data := #[] }, .int .i64 0, .int .i64 0, .string { data := #[] }, .int .i64 0, .int .i64 0, .string { data := #[] }] := rfl
/-- A card's version behind a write. -/
def nextVer (v : Int) : Int := if v < 1099511627776 then v + 1 else v

end Go.Proofs.Ytncbhpopobjaiaa

/- When two values, fields, cards, patches are the same: what == gives. -/
namespace Go.Proofs.Ytncbhpopobjaiaa
set_option linter.unusedVariables false
open Go Go.RowKit BitM

theorem fcells_ext (f : List V3) (i : Nat) (h : i < f.length) : (fcells f).toArray.extract (i * 3) (i * 3 + 3) = (vcells f[i]).toArray := by
  rw [← fcells_drop f i h, Nat.mul_comm i 3]
  simp [List.extract_eq_take_drop]
theorem all_fields : ∀ (f g : List V3), f.length = g.length → ((List.range f.length).all fun i => decide (f.getD i zv = g.getD i zv)) = decide (f = g)
  | [], [], _ => rfl
  | x :: xs, y :: ys, h => by
    have ih := all_fields xs ys (by simpa using h)
    rw [List.length_cons, List.range_succ_eq_map, List.all_cons, List.all_map]
    simp only [List.getD_cons_zero, Function.comp_def, List.getD_cons_succ, ih]
    by_cases h1 : x = y <;> by_cases h2 : xs = ys <;> simp [h1, h2]
  | [], _ :: _, h => by simp at h
  | _ :: _, [], h => by simp at h
theorem fcells_pre (pre : List Value) (f : List V3) (o : Nat) (ho : pre.length = o) (hf : f.length = 8) : (pre ++ fcells f).toArray.extract o (o + 24) = (fcells f).toArray := by
  subst ho
  have hl : (fcells f).length = 24 := by rw [fcells_len, hf]
  simp [List.extract_eq_take_drop, ← hl]
end Go.Proofs.Ytncbhpopobjaiaa

/- Which patches may be, by the document; what is unlike in cards; what is within: what each returns. -/
namespace Go.Proofs.Ytncbhpopobjaiaa
set_option linter.unusedVariables false
open Go Go.RowKit BitM

section
variable {P : Program} {ops : Array Oper} {rest : List Oper} {op : Oper} {a : Act} {w : World} {Q : Exit → Act → World → Prop}
end

/-- Are the first k fields of a patch as they must be? -/
def fok (x : BitVec 32) (f : List V3) (k : Nat) : Bool := (List.range k).all fun i => vchk (f.getD i zv) && (decide ((f.getD i zv).1 = 0) || has x (i : Int))
theorem fok_succ (x : BitVec 32) (f : List V3) (k : Nat) : fok x f (k + 1) = (fok x f k && (vchk (f.getD k zv) && (decide ((f.getD k zv).1 = 0) || has x (k : Int)))) := by
  unfold fok
  rw [List.range_succ, List.all_append]
  simp
theorem fok_mono (x : BitVec 32) (f : List V3) {j k : Nat} (h : j ≤ k) (hf : fok x f j = false) : fok x f k = false := by
  induction k with
  | zero => obtain rfl : j = 0 := by omega
            exact hf
  | succ k ih =>
    by_cases e : j = k + 1
    · subst e; exact hf
    · rw [fok_succ, ih (by omega)]; rfl
/-- What is wrong with a patch. -/
def pchk (x : BitVec 32) (lab : Int) (f : List V3) : Int :=
  if 511 < x.toNat ∨ x.toNat = 0 then 11 else if 65536 ≤ lab ∨ (lab ≠ 0 ∧ has x 8 = false) then 1 else if fok x f 8 then 0 else 1

end Go.Proofs.Ytncbhpopobjaiaa

/- Cards: what a mask shows of a card; a new card: what each returns. -/
namespace Go.Proofs.Ytncbhpopobjaiaa
set_option linter.unusedVariables false
open Go Go.RowKit BitM

theorem Blk.fieldsC {w : World} {g : Nat} {id ver lab : Int} {f : List V3} (h : Blk w g (ccells id ver lab f)) : w.rangeAt g 3 (fcells f) := by
  refine h.range 3 _ ?_
  unfold ccells
  rw [List.drop_append_of_le_length (by simp), List.drop_eq_nil_of_le (by simp), List.nil_append, List.take_length]
theorem Blk.fieldsP {w : World} {g : Nat} {m lab : Int} {f : List V3} (h : Blk w g (pcells m lab f)) : w.rangeAt g 2 (fcells f) := by
  refine h.range 2 _ ?_
  unfold pcells
  rw [List.drop_append_of_le_length (by simp), List.drop_eq_nil_of_le (by simp), List.nil_append, List.take_length]
theorem Blk.wholeC {w : World} {g : Nat} {cs : List Value} (h : Blk w g cs) : w.rangeAt g 0 cs := h.range 0 cs (by rw [List.drop_zero, List.take_length])
theorem Blk.putFields {w : World} {g : Nat} {id ver lab : Int} {f h : List V3} (hB : Blk w g (ccells id ver lab f)) (hf : f.length = 8) (hh : h.length = 8) :
    Blk (w.setCells g 3 (fcells h)) g (ccells id ver lab h) := by
  have hl : (fcells h).length = 24 := by rw [fcells_len, hh]
  have h2 := hB.sets (fcells h) 3 (by rw [ccells_len id ver lab hf, hl]; omega)
  rw [hl, List.drop_eq_nil_of_le (by rw [ccells_len id ver lab hf]; omega), List.append_nil] at h2
  exact h2

end Go.Proofs.Ytncbhpopobjaiaa

/- Cards: what is unlike in two cards: what it returns. -/
namespace Go.Proofs.Ytncbhpopobjaiaa
set_option linter.unusedVariables false
open Go Go.RowKit BitM

section
variable {P : Program} {ops : Array Oper} {rest : List Oper} {op : Oper} {a : Act} {w : World} {Q : Exit → Act → World → Prop}
end

theorem Own.onward {w w' : World} {base : Nat} {e : TypeId} {v : Value} {xs : List Value} (h : Own w base e v xs) (hb : Below w.heap.size w w') : Own w' base e v xs := by
  refine ⟨h.1, h.2.imp id ?_⟩
  rintro ⟨g, cap, cur, h1, h2, h3, h4⟩
  exact ⟨g, cap, cur, h1, h2, (hb.block g (Array.getElem?_eq_some_iff.1 h3).1).trans h3, h4⟩

/-- Which of the first k fields are unlike. -/
def unl (f g : List V3) (k : Nat) : List Int := ((List.range k).filter fun i => decide (f.getD i zv ≠ g.getD i zv)).map fun i : Nat => (i : Int)
theorem unl_succ (f g : List V3) (k : Nat) : unl f g (k + 1) = unl f g k ++ if f.getD k zv ≠ g.getD k zv then [(k : Int)] else [] := by
  unfold unl
  rw [List.range_succ, List.filter_append, List.map_append]
  by_cases h : f.getD k zv = g.getD k zv
  · rw [List.filter_cons_of_neg (by rw [decide_eq_false (fun hn => hn h)]; exact Bool.false_ne_true), if_neg (fun hn => hn h)]; rfl
  · rw [List.filter_cons_of_pos (by rw [decide_eq_true h]), if_pos h]; rfl
theorem unl_len (f g : List V3) (k : Nat) : (unl f g k).length ≤ k := by
  unfold unl
  rw [List.length_map]
  exact Nat.le_trans (List.length_filter_le _ _) (by simp)
theorem mem_unl (f g : List V3) (k : Nat) (n : Int) : n ∈ unl f g k ↔ ∃ i : Nat, i < k ∧ n = (i : Int) ∧ f.getD i zv ≠ g.getD i zv := by
  unfold unl
  simp only [List.mem_map, List.mem_filter, List.mem_range, decide_eq_true_eq]
  constructor
  · rintro ⟨i, ⟨h1, h2⟩, rfl⟩; exact ⟨i, h1, rfl, h2⟩
  · rintro ⟨i, h1, rfl, h2⟩; exact ⟨i, ⟨h1, h2⟩, rfl⟩
/-- The mask of what is unlike. -/
def dmask (lab : Int) (f : List V3) (lab' : Int) (g : List V3) : BitVec 32 := mkm (decide (lab ≠ lab')) (unl f g 8)
theorem dmask_same (lab : Int) (f : List V3) : dmask lab f lab f = 0#32 := by
  have h : unl f f 8 = [] := by
    apply List.eq_nil_iff_forall_not_mem.2
    intro n hn
    obtain ⟨i, _, _, h⟩ := (mem_unl f f 8 n).1 hn
    exact h rfl
  unfold dmask mkm
  rw [h]
  simp [ofl]

theorem range3 {w : World} {g o : Nat} {v : V3} (h : w.cell? ⟨g, o, none⟩ = some (.int .i64 v.1) ∧ w.cell? ⟨g, o + 1, none⟩ = some (.int .i64 v.2.1) ∧ w.cell? ⟨g, o + 2, none⟩ = some (.string v.2.2)) : w.rangeAt g o (vcells v) := fun j u hj => by
  unfold vcells at hj
  match j with
  | 0 => simp at hj; subst hj; exact h.1
  | 1 => simp at hj; subst hj; exact h.2.1
  | 2 => simp at hj; subst hj; exact h.2.2
  | j + 3 => simp at hj
end Go.Proofs.Ytncbhpopobjaiaa
