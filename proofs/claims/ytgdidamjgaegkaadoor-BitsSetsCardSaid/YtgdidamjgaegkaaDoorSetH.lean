/- strings.SplitSeq at a comma: the parts of a text, one by one; a range over an iterator that turns a cell of its own. -/
import Derived.Test.YtgdidamjgaegkaaDoorSetG
namespace Go.Proofs.YtgdidamjgaegkaaDoor
set_option linter.unusedVariables false
open Go Go.RowKit Go.Shelf BitM MskM
attribute [local go_sem] Oper.semAt_some

/-- What the cell holds: how long it is. -/
def sizeAt (b : Nat) (W : World) : Nat := match W.cell? ⟨b, 0, none⟩ with
  | some (.string s) => s.size
  | _ => 0
theorem sizeAt_of {b : Nat} {W : World} {s : ByteArray} (h : W.cell? ⟨b, 0, none⟩ = some (.string s)) : sizeAt b W = s.size := by unfold sizeAt; rw [h]

/-- A text that has no comma, or a part of it ahead of the first one. -/
theorem comma_cases (r : List UInt8) : ((44 : UInt8) ∉ r ∧ Lib.indexByte r 44 = -1) ∨ ∃ p q, r = p ++ 44 :: q ∧ parts 44 r = p :: parts 44 q ∧ Lib.indexByte r 44 = (p.length : Int) := by
  by_cases h : (44 : UInt8) ∈ r
  · obtain ⟨p, q, rfl, hp⟩ := cut_at 44 r h
    exact .inr ⟨p, q, rfl, parts_first 44 p q hp, by rw [← Lib.index_one, index_at 44 p q hp]⟩
  · exact .inl ⟨h, by rw [← Lib.index_one, index_none 44 r h]⟩

theorem splitseq_any (t : ByteArray) (w : World) : Calls Tryd.prog 73 #[.string t, .string ⟨#[44]⟩] w fun e w' =>
    e = .returned (.func (.func 101) #[] #[.pointer (some ⟨w.heap.size + 1, 0, none⟩), .pointer (some ⟨w.heap.size, 0, none⟩), .pointer (some ⟨w.heap.size + 2, 0, none⟩)]) ∧
      w' = ((w.alloc (.cells #[.string t] 9)).alloc (.cells #[.string ⟨#[44]⟩] 9)).alloc (.cells #[.int .i64 0] 3) := by
  have H : Hid (∀ wx : World, Calls Tryd.prog 89 #[.string t, .string ⟨#[44]⟩, .int .i64 0] wx fun e w' =>
    e = .returned (.func (.func 101) #[] #[.pointer (some ⟨wx.heap.size + 1, 0, none⟩), .pointer (some ⟨wx.heap.size, 0, none⟩), .pointer (some ⟨wx.heap.size + 2, 0, none⟩)]) ∧
      w' = ((wx.alloc (.cells #[.string t] 9)).alloc (.cells #[.string ⟨#[44]⟩] 9)).alloc (.cells #[.int .i64 0] 3)) := Lib.hid (by
    intro wx
    go_enter Tryd.func89, Tryd.ntmps89
    go_wp2
    go_ret
    exact ⟨rfl, rfl⟩)
  go_enter Tryd.func73, Tryd.ntmps73
  go_wp2_with fail
  refine (H.out w).mono ?_
  rintro e w1 ⟨rfl, rfl⟩
  go_wp2_with fail
  go_ret
  exact ⟨rfl, rfl⟩

set_option maxRecDepth 100000 in
set_option maxHeartbeats 4000000 in
theorem seq1_in (n : Nat) (hn : 1 ≤ n) (l bS bP bV N : Nat) (t : List UInt8) (J Jx : List (List UInt8) → World → Prop) (d1 : bP ≠ bS) (d2 : bV ≠ bS) (hs47 : t.length ≤ 1000)
    (hT : ∀ ys W v, J ys W → J ys (W.setCell ⟨bS, 0, none⟩ v))
    (hY : ∀ pre y W, J pre W → pre.length < N → YieldAt Fence.wide (n - 1) Tryd.prog l #[.string (str y)] W fun e W' =>
      (e = .returned (.bool true) ∧ J (pre ++ [y]) W' ∧ (∀ b, b = bS ∨ b = bP ∨ b = bV → W'.cell? ⟨b, 0, none⟩ = W.cell? ⟨b, 0, none⟩ ∧ W'.frozen? ⟨b, 0, none⟩ = W.frozen? ⟨b, 0, none⟩)) ∨ (e = .returned (.bool false) ∧ Jx (pre ++ [y]) W'))
    (W : World) (cS : W.cell? ⟨bS, 0, none⟩ = some (.string (str t))) (fS : W.frozen? ⟨bS, 0, none⟩ = false) (cP : W.cell? ⟨bP, 0, none⟩ = some (.string ⟨#[44]⟩)) (cV : W.cell? ⟨bV, 0, none⟩ = some (.int .i64 0))
    (hN : (parts 44 t).length ≤ N) (h0 : J [] W) :
    CallsIn Fence.wide n Tryd.prog 101 #[.func (.yield l) #[] #[], .pointer (some ⟨bP, 0, none⟩), .pointer (some ⟨bS, 0, none⟩), .pointer (some ⟨bV, 0, none⟩)] W fun e W' => (∃ v, e = .returned v) ∧
      ((∃ ys, ys = parts 44 t ∧ J ys W') ∨ (∃ pre, pre <+: parts 44 t ∧ Jx pre W')) := by
  obtain ⟨PS, hPS⟩ : ∃ PS, PS = parts 44 t := ⟨_, rfl⟩
  have HPS := Lib.hid hPS
  rw [← hPS] at hN ⊢
  clear hPS
  have HN := Lib.hid hN
  clear hN
  refine callsIn_of_wp Tryd.func101 rfl trivial ?_ rfl
  simp only [Tryd.ntmps101, List.size_toArray, List.length_cons, List.length_nil, Nat.reduceAdd, Nat.reduceSub, Array.replicate_succ, Array.replicate_zero, List.push_toArray, List.append_toArray, List.nil_append, List.cons_append]
  gi_wp2
  gi_loopw [] (fun wr => ∃ (pre : List (List UInt8)) (r : List UInt8), Hid (PS = pre ++ parts 44 r) ∧ r.length ≤ 1000 ∧ J pre wr ∧ wr.cell? ⟨bS, 0, none⟩ = some (.string (str r)) ∧ wr.frozen? ⟨bS, 0, none⟩ = false ∧ wr.cell? ⟨bP, 0, none⟩ = some (.string ⟨#[44]⟩) ∧ wr.cell? ⟨bV, 0, none⟩ = some (.int .i64 0))
    (fun wr => sizeAt bS wr)
  case atStart => exact ⟨[], t, Lib.hid HPS.out, hs47, h0, cS, fS, cP, cV⟩
  case round =>
    obtain ⟨pre, r, HP, hr, hJ, hS, hF, hP, hV⟩ := hrel
    have hszr : (str r).size = r.length := str_size r
    rcases comma_cases r with ⟨hno, hix⟩ | ⟨p, q, rfl, hpq, hix⟩
    · have HE : Hid (PS = pre ++ [r]) := Lib.hid (by rw [HP.out, parts_none 44 r hno])
      have hlen : pre.length < N := by have := HN.out; rw [HE.out, List.length_append] at this; simp at this; omega
      have HI := Lib.hid (show Calls Tryd.prog 96 #[.string (str r), .string ⟨#[44]⟩] wr fun e w' => e = .returned (.int .i64 (-1)) ∧ wr = w' from (Tryd.strings_Index_one (str r) 44 wr).mono fun e w' h => ⟨by rw [h.1]; exact congrArg (fun z => Ending.returned (.int .i64 z)) hix, h.2.symm⟩)
      obtain ⟨fn, tmps, assign, body, hy, hR⟩ := hY pre r wr hJ hlen
      obtain ⟨sv, hsv⟩ : ∃ sv, sv = str r := ⟨_, rfl⟩
      rw [← hsv] at hS HI hy
      clear hsv hno hix hszr hY hT HP
      gi_wp2_with fail
      refine ⟨trivial, (callsIn_wide.2 HI.out).mono ?_⟩
      rintro e w1 ⟨rfl, rfl⟩
      gi_wp2_with fail
      refine hR.mono ?_
      rintro e W3 (⟨rfl, hJ3, hk3⟩ | ⟨rfl, hJx3⟩)
      · gi_wp2_with fail
        go_end0
        exact ⟨⟨_, rfl⟩, .inl ⟨_, rfl, by rw [HE.out]; exact hJ3⟩⟩
      · gi_wp2_with fail
        go_end0
        exact ⟨⟨_, rfl⟩, .inr ⟨_, List.prefix_refl _, by rw [HE.out]; exact hJx3⟩⟩
    · have HE : Hid (PS = pre ++ [p] ++ parts 44 q) := Lib.hid (by rw [HP.out, hpq, List.append_assoc]; rfl)
      have hlen : pre.length < N := by have := HN.out; rw [HE.out, List.length_append, List.length_append] at this; simp at this; omega
      obtain ⟨k, hk⟩ : ∃ k, k = p.length := ⟨_, rfl⟩
      have hlq : q.length ≤ 1000 := by simp at hr; omega
      have hks : k + 1 + q.length = (p ++ 44 :: q).length := by simp; omega
      have HI := Lib.hid (show Calls Tryd.prog 96 #[.string (str (p ++ 44 :: q)), .string ⟨#[44]⟩] wr fun e w' => e = .returned (.int .i64 (k : Int)) ∧ wr = w' from (Tryd.strings_Index_one (str (p ++ 44 :: q)) 44 wr).mono fun e w' h => ⟨by rw [h.1, hk]; exact congrArg (fun z => Ending.returned (.int .i64 z)) hix, h.2.symm⟩)
      obtain ⟨fn, tmps, assign, body, hy, hR⟩ := hY pre p wr hJ hlen
      obtain ⟨sv, hsv⟩ : ∃ sv, sv = str (p ++ 44 :: q) := ⟨_, rfl⟩
      have e1 : sv.extract 0 k = str p := by
        rw [hsv, piece, hk]
        show str ((p ++ 44 :: q).take (p.length - 0)) = _
        rw [Nat.sub_zero, List.take_left' rfl]
      have e2 : sv.extract (k + 1) sv.size = str q := by
        rw [hsv, piece, hk, str_size]
        show str (((p ++ 44 :: q).drop (p.length + 1)).take _) = _
        rw [← List.drop_drop, List.drop_left' rfl]
        show str (q.take _) = _
        rw [List.take_of_length_le (by simp; omega)]
      rw [← hsv] at hS HI hszr
      rw [← hks] at hszr
      rw [← e1] at hy
      have hm0 := sizeAt_of hS
      have i1 : (0 : Int) ≤ (k : Int) := by omega
      have i2 : (k : Int) ≤ (sv.size : Int) := by omega
      have i3 : (k : Int) + 1 ≤ (sv.size : Int) := by omega
      have i4 : (sv.size : Int) ≤ 1001 := by simp at hr; omega
      have E2 := Lib.hid e2
      have HZ := Lib.hid hszr
      have HM0 := Lib.hid hm0
      clear hsv hix hszr hY HP hpq e1 e2 hk hks hr hm0
      gi_wp2_with fail
      refine ⟨trivial, (callsIn_wide.2 HI.out).mono ?_⟩
      rintro e w1 ⟨rfl, rfl⟩
      gi_wp2_with fail
      refine hR.mono ?_
      rintro e W3 (⟨rfl, hJ3, hk3⟩ | ⟨rfl, hJx3⟩)
      · have c3 := (hk3 bS (.inl rfl)).1.trans hS
        have f3 := (hk3 bS (.inl rfl)).2.trans hF
        have p3 := (hk3 bP (.inr (.inl rfl))).1.trans hP
        have v3 := (hk3 bV (.inr (.inr rfl))).1.trans hV
        clear hk3 hS hF hP hV hJ
        gi_wp2_with fail
        rw [E2.out]
        have c4 : (W3.setCell ⟨bS, 0, none⟩ (.string (str q))).cell? ⟨bS, 0, none⟩ = some (.string (str q)) := World.cell?_setCell_same' _ _ _ (by rw [c3]; rfl)
        refine ⟨⟨pre ++ [p], q, HE, hlq, hT _ _ _ hJ3, c4, by rw [World.frozen?_setCell]; exact f3, (World.cell?_setCell_other _ _ _ _ (by intro e; injection e with e; exact d1 e.symm)).trans p3, (World.cell?_setCell_other _ _ _ _ (by intro e; injection e with e; exact d2 e.symm)).trans v3⟩, ?_⟩
        rw [sizeAt_of c4, HM0.out, str_size, HZ.out]
        omega
      · gi_wp2_with fail
        refine bodyPost_ret (results_none rfl _ _ _) rfl ?_
        exact ⟨⟨_, rfl⟩, .inr ⟨pre ++ [p], by rw [HE.out]; exact List.prefix_append _ _, hJx3⟩⟩
end Go.Proofs.YtgdidamjgaegkaaDoor
