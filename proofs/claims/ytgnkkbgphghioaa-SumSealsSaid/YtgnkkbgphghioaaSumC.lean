/- sum.Seal, sum.Open: what each returns. -/
import Derived.Test.YtgnkkbgphghioaaSumA
import Derived.Test.YtgnkkbgphghioaaSumSealM
import Derived.Deep.QuietTactic
import Derived.BigQuiet
namespace Go.Proofs.Ytgnkkbgphghioaa
set_option linter.unusedVariables false
open Go.RowKit SumM

theorem u8_info : (Try.prog.info? 5).map (fun i => (i.zero, i.size, i.bytes)) = some (some (.int .u8 0), 1, 1) := by kernel_rfl
theorem u8_size : (Try.prog.info? 5).map (·.size) = some 1 := by kernel_rfl

theorem le4_vals (s : W) : #[Value.int .u8 ((s.toNat : Int) % 256), .int .u8 ((s.toNat : Int) / 256 % 256), .int .u8 ((s.toNat : Int) / 65536 % 256), .int .u8 ((s.toNat : Int) / 16777216)].toList = bvs (le4 s) := by
  have := s.isLt
  simp [bvs, bv, le4, byteAt]
  omega

set_option maxHeartbeats 400000 in
theorem seal_any (A : Option Addr) (n c : Nat) (l : List UInt8) (w : World) (B : Nat) (hn : l.length = n) (hs : Sees w B A (bvs l)) (hB : B ≤ w.heap.size) (hm : n ≤ 65536) :
    Calls Try.prog 38 #[.slice A n c] w fun e w' => ∃ A' c', e = .returned (.slice A' (n + 4) c') ∧ Own w' w.heap.size 5 (.slice A' (n + 4) c') (bvs (sealOf l)) ∧ Below w.heap.size w w' := by
  obtain ⟨i0, hi, hz0, hz1, hz2⟩ := info_parts u8_info
  go_enter Try.func38, Try.ntmps38
  go_wp2_with fail
  refine (of_any _ _ _ l _ _ hn hs (by simp [maxLen]; omega)).mono ?_
  rintro e w' ⟨rfl, rfl⟩
  go_wp2_with (first
    | (refine wpList_mk _ rfl (.tmp 8) (.tmp 11) _ rfl w.heap.size 5 i0 _ Try.underlying22 hi hz0 hz1 rfl .i64 .i64 _ _ n (n + 4) rfl rfl rfl (by omega) (by omega) (by rw [hz2]; omega) (by simp [maxLen]; omega) (Nat.le_refl _) ?_
       intro w1 hown1 hb1 hg1 hsz1)
    | (refine wpList_cp _ rfl (.tmp 13) (.tmp 14) _ rfl w.heap.size 5 Try.underlying22 u8_size (some ⟨w.heap.size, 0, none⟩) n (n + 4) (List.replicate n (.int .u8 0)) rfl (by simp) hown1 w.heap.size A n c (bvs l) rfl (by rw [bvs_length, hn]) ((hs.more hB).below hb1) (bvs_one l) ?_
       intro w2 hown2 hb2 hg2 hsz2)
    | (at_builtin
       simp only [Nat.le_refl, List.take_of_length_le, bvs_length, hn, List.drop_replicate, Nat.sub_self, List.replicate_zero, List.append_nil] at hown2
       refine wpList_app _ rfl (.tmp 16) (.tmp 28) _ rfl w.heap.size 5 i0 _ 1 Try.underlying22 hi hz0 hz1 hz2 rfl (.slice (some ⟨w.heap.size, 0, none⟩) n (n + 4)) (bvs l) n rfl (by rw [bvs_length, hn]) (hown2.alloc _) (w2.heap.size + 1) (some ⟨w2.heap.size, 0, none⟩) 4 (bvs (le4 (sumOf l))) 4 rfl rfl (sees_lit w2 _ 5 (0, 0) _ (le4_vals _)) (bvs_one _) (by simp [maxLen]; omega) (by omega) (by have := hb2.size; have := hb1.size; simp; omega) ?_
       intro A3 c3 w3 hown3 hb3 hg3 hat3)
    | fail)
  go_ret
  rw [← bvs_append] at hown3
  exact ⟨A3, c3, rfl, hown3, (hb1.trans hb2).trans (((Below.refl _ _).alloc (Nat.le_trans hb1.size hb2.size) _).trans hb3)⟩

theorem or_bv (a b : W) : bits .or .u32 (a.toNat : Int) (b.toNat : Int) = ((a ||| b).toNat : Int) := by
  rw [u32_or_nat a.toNat b.toNat a.isLt b.isLt, BitVec.toNat_or]
theorem or4 (a b c d : UInt8) : bits .or .u32 (bits .or .u32 (bits .or .u32 ((a.toNat : Int) % 4294967296) ((b.toNat : Int) % 4294967296 * 256 % 4294967296)) ((c.toNat : Int) % 4294967296 * 65536 % 4294967296))
    ((d.toNat : Int) % 4294967296 * 16777216 % 4294967296) = ((w32 a b c d).toNat : Int) := by
  have ha := a.toNat_lt
  have sh : ∀ (x : UInt8) (k : Nat), ((b32 x <<< k).toNat : Int) = ((x.toNat * 2 ^ k % 4294967296 : Nat) : Int) := by
    intro x k
    rw [BitVec.toNat_shiftLeft, b32_toNat, Nat.shiftLeft_eq]
  have e0 : ((a.toNat : Int) % 4294967296) = ((b32 a).toNat : Int) := by rw [b32_toNat]; omega
  have e1 : ((b.toNat : Int) % (4294967296 : Int) * (256 : Int) % (4294967296 : Int)) = ((b32 b <<< 8).toNat : Int) := by
    have := b.toNat_lt; rw [sh]; omega
  have e2 : ((c.toNat : Int) % (4294967296 : Int) * (65536 : Int) % (4294967296 : Int)) = ((b32 c <<< 16).toNat : Int) := by
    have := c.toNat_lt; rw [sh]; omega
  have e3 : ((d.toNat : Int) % (4294967296 : Int) * (16777216 : Int) % (4294967296 : Int)) = ((b32 d <<< 24).toNat : Int) := by
    have := d.toNat_lt; rw [sh]; omega
  rw [e0, e1, e2, e3, or_bv, or_bv, or_bv, w32]

/-- What both ways of Open share: the last four bytes. -/
theorem last4 {l : List UInt8} {m : Nat} (h : l.length = m + 4) : ∃ p a b c d, l = p ++ [a, b, c, d] ∧ p.length = m := by
  obtain ⟨a, b, c, d, e⟩ := four (l := l.drop m) (by simp; omega)
  exact ⟨l.take m, a, b, c, d, by rw [← e, List.take_append_drop], by simp; omega⟩
theorem openOf_cat (p : List UInt8) (a b c d : UInt8) : openOf (p ++ [a, b, c, d]) = if w32 a b c d = sumOf p then some p else none := by
  unfold openOf
  have h : (p ++ [a, b, c, d]).length - 4 = p.length := by simp
  rw [h]
  have e1 : (p ++ [a, b, c, d]).take p.length = p := by simp
  have e2 : (p ++ [a, b, c, d]).drop p.length = [a, b, c, d] := by simp
  rw [e1, e2]
  by_cases hw : w32 a b c d = sumOf p
  · rw [if_pos hw, if_pos]
    exact ⟨by simp, by rw [← hw, le4_w32]⟩
  · rw [if_neg hw, if_neg]
    rintro ⟨_, h2⟩
    apply hw
    have := w32_le4 (sumOf p)
    simp only [le4, List.cons.injEq, and_true] at h2
    obtain ⟨h0, h1, h2, h3⟩ := h2
    rw [h0, h1, h2, h3] at this
    exact this
theorem bv_ne {a b : W} (h : a ≠ b) : (((a.toNat : Int)) != (b.toNat : Int)) = true := by
  rw [bne_iff_ne]; intro h'; exact h (BitVec.eq_of_toNat_eq (by omega))
theorem bv_eq {a b : W} (h : a = b) : (((a.toNat : Int)) != (b.toNat : Int)) = false := by subst h; simp

set_option maxHeartbeats 400000 in
theorem open_no (A : Option Addr) (n c : Nat) (l : List UInt8) (w : World) (B : Nat) (hn : l.length = n) (hnc : n ≤ c) (hcm : c ≤ maxLen) (hs : Sees w B A (bvs l)) (hno : openOf l = none) :
    Calls Try.prog 39 #[.slice A n c] w fun e w' => e = .returned (.tuple #[.slice none 0 0, .bool false]) ∧ Below w.heap.size w w' := by
  unfold maxLen at hcm
  by_cases h4 : n < 4
  · go_enter Try.func39, Try.ntmps39
    go_wp2
    go_ret2
    exact ⟨rfl, Below.refl _ _⟩
  · obtain ⟨m, rfl⟩ : ∃ m, n = m + 4 := ⟨n - 4, by omega⟩
    obtain ⟨p, x0, x1, x2, x3, rfl, hp⟩ := last4 hn
    rw [openOf_cat] at hno
    have hne : w32 x0 x1 x2 x3 ≠ sumOf p := by
      intro h; rw [if_pos h] at hno; cases hno
    obtain ⟨b, o, rfl, hb, _⟩ := hs (by rw [bvs_length]; omega)
    have hsp : Sees w B (some ⟨b, o, none⟩) (bvs p) := by
      have := hs.take m
      rwa [show (bvs (p ++ [x0, x1, x2, x3])).take m = bvs p from by rw [bvs_append, List.take_left' (by rw [bvs_length, hp])]] at this
    have c0 := hs.byte m (by simp; omega)
    have c1 := hs.byte (m + 1) (by simp; omega)
    have c2 := hs.byte (m + 2) (by simp; omega)
    have c3 := hs.byte (m + 3) (by simp; omega)
    simp [List.getElem_append_right, hp] at c0 c1 c2 c3
    have hor := or4 x0 x1 x2 x3
    have hb1 := bv_ne hne
    clear hno hne hs hn
    go_enter Try.func39, Try.ntmps39
    go_wp2
    go_quiet (fail)
    go_wp2_with fail
    refine (of_any _ _ _ p _ _ hp (hsp.drewN _) (by simp [maxLen]; omega)).mono ?_
    rintro e w' ⟨rfl, rfl⟩
    go_wp2
    go_ret2
    exact ⟨rfl, below_drewN (Below.refl _ _) _⟩

set_option maxHeartbeats 400000 in
theorem open_yes (A : Option Addr) (n c : Nat) (l p : List UInt8) (w : World) (B : Nat) (hn : l.length = n) (hnc : n ≤ c) (hcm : c ≤ maxLen) (hm : n ≤ 131072) (hs : Sees w B A (bvs l)) (hB : B ≤ w.heap.size) (hyes : openOf l = some p) :
    Calls Try.prog 39 #[.slice A n c] w fun e w' => n = p.length + 4 ∧ ∃ A' c', e = .returned (.tuple #[.slice A' p.length c', .bool true]) ∧ Own w' w.heap.size 5 (.slice A' p.length c') (bvs p) ∧ Below w.heap.size w w' := by
  obtain ⟨i0, hi, hz0, hz1, hz2⟩ := info_parts u8_info
  unfold maxLen at hcm
  by_cases h4 : n < 4
  · exfalso
    unfold openOf at hyes
    rw [if_neg (by omega)] at hyes
    cases hyes
  · obtain ⟨m, rfl⟩ : ∃ m, n = m + 4 := ⟨n - 4, by omega⟩
    obtain ⟨p', x0, x1, x2, x3, rfl, hp⟩ := last4 hn
    rw [openOf_cat] at hyes
    by_cases hne : w32 x0 x1 x2 x3 = sumOf p'
    · rw [if_pos hne] at hyes
      injection hyes with hyes
      subst hyes
      obtain ⟨b, o, rfl, hb, _⟩ := hs (by rw [bvs_length]; omega)
      have hsp : Sees w B (some ⟨b, o, none⟩) (bvs p') := by
        have := hs.take m
        rwa [show (bvs (p' ++ [x0, x1, x2, x3])).take m = bvs p' from by rw [bvs_append, List.take_left' (by rw [bvs_length, hp])]] at this
      have c0 := hs.byte m (by simp; omega)
      have c1 := hs.byte (m + 1) (by simp; omega)
      have c2 := hs.byte (m + 2) (by simp; omega)
      have c3 := hs.byte (m + 3) (by simp; omega)
      simp [List.getElem_append_right, hp] at c0 c1 c2 c3
      have hor := or4 x0 x1 x2 x3
      have hb1 := bv_eq hne
      have hbl : (bvs (p' ++ [x0, x1, x2, x3])).length = m + 4 := by rw [bvs_length, hn]
      have hcut : (bvs (p' ++ [x0, x1, x2, x3])).take m = bvs p' := by rw [bvs_append, List.take_left' (by rw [bvs_length, hp])]
      have HBL := Lib.hid hbl
      have HCUT := Lib.hid hcut
      have HP := Lib.hid hp
      clear hne hn hbl hcut hp
      go_enter Try.func39, Try.ntmps39
      go_wp2
      go_quiet (fail)
      go_wp2_with fail
      refine (of_any _ _ _ p' _ _ HP.out (hsp.drewN _) (by simp [maxLen]; omega)).mono ?_
      rintro e w' ⟨rfl, rfl⟩
      go_wp2_with (first
        | (refine wpList_mk _ rfl (.tmp 47) (.tmp 47) _ rfl w.heap.size 5 i0 _ Try.underlying22 hi hz0 hz1 rfl .i64 .i64 _ _ m m rfl rfl rfl rfl (by omega) (by rw [hz2]; omega) (by simp [maxLen]; omega) (by simp) ?_
           intro w1 hown1 hbl1 hg1 hsz1)
        | (refine wpList_cp _ rfl (.tmp 49) (.tmp 50) _ rfl w.heap.size 5 Try.underlying22 u8_size _ m m (List.replicate m (.int .u8 0)) rfl (by simp) hown1 w.heap.size _ (m + 4) c (bvs (p' ++ [x0, x1, x2, x3])) rfl HBL.out (((hs.drewN _).more hB).below hbl1) (bvs_one _) ?_
           intro w2 hown2 hb2 hg2 hsz2)
        | fail)
      rw [HCUT.out, List.drop_eq_nil_of_le (by simp), List.append_nil] at hown2
      have hp := HP.out
      subst hp
      go_ret2
      exact ⟨trivial, _, _, rfl, hown2, (below_drewN (Below.refl _ _) _).trans (hbl1.trans hb2)⟩
    · rw [if_neg hne] at hyes; cases hyes
end Go.Proofs.Ytgnkkbgphghioaa
