/- Quote of any bytes: what it returns. -/
import Derived.Test.YtgdidamjgaegkaaDoorValD
import Derived.Test.YtgdidamjgaegkaaDoorQuoM
namespace Go.Proofs.YtgdidamjgaegkaaDoor
set_option linter.unusedVariables false
open Go Go.RowKit BitM ValM

theorem Own.later {w w' : World} {base : Nat} {e : TypeId} {v : Value} {xs : List Value} (h : Own w base e v xs) (hl : Le w w') : Own w' base e v xs := by
  refine ⟨h.1, ?_⟩
  rcases h.2 with h0 | ⟨g, cap, cur, e1, hb, hh, r⟩
  · exact .inl h0
  · exact .inr ⟨g, cap, cur, e1, hb, (hl.block g (Array.getElem?_eq_some_iff.1 hh).1).trans hh, r⟩
/-- A slot that holds a new row of bytes. -/
def relBts (l : List UInt8) : Rel where
  rel x w := ∃ g, x = .slice (some ⟨g, 0, none⟩) l.length l.length ∧ Blk w g (bvs l)
  mono := fun x w w' h ⟨g, e, hr⟩ => ⟨g, e, hr.later h⟩
  real := fun w ⟨g, e, _⟩ => by cases e
theorem Blk.seesBts {w : World} {g : Nat} {l : List UInt8} (h : Blk w g (bvs l)) : Sees w w.heap.size (some ⟨g, 0, none⟩) (bvs l) := fun _ => by
  refine ⟨g, 0, rfl, h.lt, fun j hj => ?_⟩
  rw [Nat.zero_add]
  exact h.cell (List.getElem?_eq_getElem hj)
theorem hexs_getI (x : Int) (n : Nat) (hx : x = n) (h : n < 16) (h2 : x.toNat < (⟨#[48, 49, 50, 51, 52, 53, 54, 55, 56, 57, 97, 98, 99, 100, 101, 102]⟩ : ByteArray).size) :
    ((((⟨#[48, 49, 50, 51, 52, 53, 54, 55, 56, 57, 97, 98, 99, 100, 101, 102]⟩ : ByteArray)[x.toNat]'h2).toNat : Nat) : Int) = (((hexd n).toNat : Nat) : Int) := by
  subst hx
  have key : ∀ n : Fin 16, (⟨#[48, 49, 50, 51, 52, 53, 54, 55, 56, 57, 97, 98, 99, 100, 101, 102]⟩ : ByteArray)[n.val]'(n.isLt) = hexd n.val := by decide +kernel
  have := key ⟨n, h⟩
  simp only [Int.toNat_natCast]
  exact congrArg (fun c : UInt8 => ((c.toNat : Nat) : Int)) this
theorem and15 (m : Nat) (h : m < 256) : bits .and .u8 (m : Int) 15 = ((m % 16 : Nat) : Int) := by
  have key : ∀ m : Fin 256, bits .and .u8 ((m.val : Nat) : Int) 15 = ((m.val % 16 : Nat) : Int) := by decide +kernel
  exact key ⟨m, h⟩
theorem run_bts4 (p q : Int) (w : World) : (Instr.buildSlice 68 4 #[(0, .int .u8 92), (1, .int .u8 120), (2, .int .u8 p), (3, .int .u8 q)]).run Tryd.prog w = .ok (.slice (some ⟨w.heap.size, 0, none⟩) 4 4) (w.alloc (.cells #[.int .u8 92, .int .u8 120, .int .u8 p, .int .u8 q] 5)) := by kernel_rfl
theorem bts4_gives {a : Act} {op : Oper} (y z : Operand) (p q : UInt8) (ho : op.op = .buildSlice 68 4 #[(0, .const (.int .u8 92)), (1, .const (.int .u8 120)), (2, y), (3, z)]) (hy : a.eval y = .int .u8 (p.toNat : Int)) (hz : a.eval z = .int .u8 (q.toNat : Int)) (w : World) : gives Tryd.prog op a (relBts [92, 120, p, q]).rel w := by
  have e1 : a.eval (.const (.int .u8 92)) = .int .u8 92 := rfl
  have e2 : a.eval (.const (.int .u8 120)) = .int .u8 120 := rfl
  unfold gives execOp
  simp only [ho, List.map_toArray, List.map_cons, List.map_nil, hy, hz, e1, e2, Sem.run_bind, run_bts4, Result.andThen_ok, Sem.run_pure]
  exact ⟨(Below.refl _ _).alloc (Nat.le_refl _) _, _, rfl, Blk.new w (bvs [92, 120, p, q]) _⟩

set_option maxRecDepth 100000 in
set_option maxHeartbeats 3200000 in
theorem quote_any (s : ByteArray) (w : World) (hs : s.size ≤ 1000) :
    Calls Tryd.prog 47 #[.string s] w fun e w' => e = .returned (.string (str (quo s.data.toList))) ∧ Below w.heap.size w w' := by
  obtain ⟨i0, hi, hz0, hz1, hz2⟩ := info_parts info_byte
  have HN : Hid (s.data.toList.length = s.size) := Lib.hid (by simp)
  obtain ⟨u, hu⟩ : ∃ u, u = str (quo s.data.toList) := ⟨_, rfl⟩
  rw [← hu]
  have HU : Hid (u = str ([34] ++ qug s.data.toList ++ [34])) := Lib.hid hu
  have HG : Hid (∀ (k : Nat) (h : k < s.size) (h2 : k < s.data.toList.length), s[k] = s.data.toList[k]) := Lib.hid (fun k h h2 => rfl)
  clear hu
  go_enter Tryd.func47, Tryd.ntmps47
  go_wp2_with fail
  go_loopw [3, 9] (fun v i wr => ∃ k m : Nat, k ≤ s.size ∧ i = .int .i64 k ∧ m ≤ 4001 ∧ (∃ A1 c1, v = .slice A1 m c1 ∧ Own wr w.heap.size 5 v (bvs ([34] ++ qug (s.data.toList.take k))) ∧ Hid (m = ([34] ++ qug (s.data.toList.take k)).length)) ∧ Below w.heap.size w wr) (fun _ i _ => s.size - (intOf i).toNat)
  case atStart => exact ⟨0, 1, Nat.zero_le _, rfl, by omega, ⟨some ⟨w.heap.size, 0, none⟩, 1, rfl, own_lit w w.heap.size 5 #[.int .u8 34] (Nat.le_refl _) (by simp [maxLen]), Lib.hid rfl⟩, (Below.refl _ _).alloc (Nat.le_refl _) _⟩
  case round =>
    obtain ⟨k, m, hk, rfl, hm, ⟨A1, c1, rfl, hown, HM⟩, hbr⟩ := hrel
    obtain ⟨acc, hacc⟩ : ∃ acc, acc = [34] ++ qug (s.data.toList.take k) := ⟨_, rfl⟩
    rw [← hacc] at hown HM
    have HACC := Lib.hid hacc
    clear hacc
    by_cases hlt : k < s.size
    · have hkl : k < s.data.toList.length := by rw [HN.out]; exact hlt
      have HS := Lib.hid (quog_snoc s.data.toList k hkl)
      rw [← HACC.out, ← HG.out k hlt hkl] at HS
      have hm2 : m + 4 ≤ 4001 := by
        have h1 := qug_len (s.data.toList.take k)
        rw [List.length_take, Nat.min_eq_left (by omega)] at h1
        have h2 := HM.out
        rw [HACC.out, List.length_append] at h2
        simp only [List.length_cons, List.length_nil] at h2
        omega
      by_cases hpx : s[k].toNat < 32 ∨ 126 < s[k].toNat
      · have HE : Hid (escg s[k] = [92, 120, hexd (s[k].toNat / 16), hexd (s[k].toNat % 16)]) := Lib.hid (by unfold escg; rw [if_pos hpx])
        have HS2 : Hid ([34] ++ qug (s.data.toList.take (k + 1)) = acc ++ [92, 120, hexd (s[k].toNat / 16), hexd (s[k].toNat % 16)]) := Lib.hid (by rw [HS.out, HE.out])
        have h256 := UInt8.toNat_lt s[k]
        have b1 : (((s[k]'hlt).toNat : Int) == 34) = false := by rw [beq_eq_false_iff_ne]; omega
        have b2 : (((s[k]'hlt).toNat : Int) == 92) = false := by rw [beq_eq_false_iff_ne]; omega
        have key : ¬ ((32 : Int) ≤ ((s[k]'hlt).toNat : Int)) ∨ ((32 : Int) ≤ ((s[k]'hlt).toNat : Int) ∧ ¬ ((s[k]'hlt).toNat : Int) ≤ 126) := by omega
        clear HS HE hpx
        rcases key with h32 | ⟨h32, h126⟩
        all_goals
          go_wp2_with fail
          refine wp_region_tail [(43, relBts [92, 120, hexd (s[k].toNat / 16), hexd (s[k].toNat % 16)])] 50 8 (by kernel_rfl) (by kernel_rfl) (by kernel_rfl) (by rfl) ?_
          simp only [List.take_succ_cons, List.take_zero, List.drop_succ_cons, List.drop_zero]
          iterate 2 (refine wpG_quiet (by rfl) (by rfl) (by rfl) (fun K hK => ?_); go_big_quiet_op; refine hK _ ?_; clear hK K)
          refine wpG_run (by rfl) (by rfl) (.int .u8 ((s[k].toNat / 16 : Nat) : Int)) (fun w1 hl => by simp [go_sem]) ?_
          simp only [Act.put, List.setIfInBounds_toArray, List.set_cons_zero, List.set_cons_succ]
          refine wpG_run (by rfl) (by rfl) (.int .u8 ((hexd (s[k].toNat / 16)).toNat : Int)) (fun w1 hl => by simp [go_sem]; rw [dif_pos (by omega)]; exact congrArg (fun v => Result.ok (Next.value (Value.int .u8 v)) w1) (hexs_getI _ (s[k].toNat / 16) (by omega) (by omega) _)) ?_
          simp only [Act.put, List.setIfInBounds_toArray, List.set_cons_zero, List.set_cons_succ]
          iterate 1 (refine wpG_quiet (by rfl) (by rfl) (by rfl) (fun K hK => ?_); go_big_quiet_op; refine hK _ ?_; clear hK K)
          refine wpG_run (by rfl) (by rfl) (.int .u8 ((s[k].toNat % 16 : Nat) : Int)) (fun w1 hl => by simp [go_sem]; exact (and15 _ h256).trans (by omega)) ?_
          simp only [Act.put, List.setIfInBounds_toArray, List.set_cons_zero, List.set_cons_succ]
          refine wpG_run (by rfl) (by rfl) (.int .u8 ((hexd (s[k].toNat % 16)).toNat : Int)) (fun w1 hl => by simp [go_sem]; rw [dif_pos (by omega)]; exact congrArg (fun v => Result.ok (Next.value (Value.int .u8 v)) w1) (hexs_getI _ (s[k].toNat % 16) (by omega) (by omega) _)) ?_
          simp only [Act.put, List.setIfInBounds_toArray, List.set_cons_zero, List.set_cons_succ]
          refine wpG_open (relBts _) (by rfl) (by rfl) (fun w1 hl => bts4_gives (.tmp 39) (.tmp 42) _ _ rfl rfl rfl w1) ?_
          rintro _ ⟨_, _, _, ⟨g, rfl, _⟩⟩
          simp only [Act.put, List.setIfInBounds_toArray, List.set_cons_zero, List.set_cons_succ]
          refine wpG_nil fun w1 hl hs1 => ?_
          obtain ⟨_, g', eg, hB⟩ := hs1
          obtain rfl : g = g' := by injection eg with eg; injection eg with eg; injection eg
          have hown1 := hown.later hl
          have hbr1 := hbr.trans (hl.mono hbr.size)
          refine wpList_app _ rfl (.tmp 36) (.tmp 43) _ rfl w.heap.size 5 i0 _ 1 Tryd.underlying68 hi hz0 hz1 hz2 rfl (.slice A1 m c1) (bvs acc) m rfl (by rw [bvs_length, HM.out]) hown1 w1.heap.size (some ⟨g, 0, none⟩) 4 (bvs [92, 120, hexd (s[k].toNat / 16), hexd (s[k].toNat % 16)]) 4 rfl rfl hB.seesBts (bvs_one _) (by simp [maxLen]; omega) (by omega) hbr1.size ?_
          intro A9 c9 w9 hown9 hb9 hg9 hat9
          rw [← bvs_append, ← HS2.out] at hown9
          have hbr9 : Below w.heap.size w w9 := hbr1.trans hb9
          clear hg9 hat9 hb9 hown1 hbr1 hB hown hl hbr
          simp only [Act.put]
          go_wp2_with fail
          go_roundw
          case rel => exact ⟨k + 1, m + 4, by omega, by go_num, by omega, ⟨A9, c9, rfl, hown9, Lib.hid (by rw [HS2.out, List.length_append, HM.out]; first | done | rfl)⟩, hbr9⟩
          case measure => simp [intOf]; omega
      have h32 : (32 : Int) ≤ ((s[k]'hlt).toNat : Int) := by omega
      have h126 : ((s[k]'hlt).toNat : Int) ≤ 126 := by omega
      clear hpx
      by_cases hq : s[k] = 34 ∨ s[k] = 92
      · have HE : Hid (escg s[k] = [92] ++ [s[k]]) := Lib.hid (by unfold escg esc; rw [if_neg (by omega), if_pos hq]; rfl)
        have HS2 : Hid ([34] ++ qug (s.data.toList.take (k + 1)) = acc ++ [92] ++ [s[k]]) := Lib.hid (by rw [HS.out, HE.out, List.append_assoc])
        have key : (((s[k]'hlt).toNat : Int) == 34) = true ∨ ((((s[k]'hlt).toNat : Int) == 34) = false ∧ (((s[k]'hlt).toNat : Int) == 92) = true) := by
          rcases hq with h | h
          · left; rw [h]; rfl
          · right; rw [h]; exact ⟨rfl, rfl⟩
        clear hq HS HE
        rcases key with b1 | ⟨b1, b2⟩
        all_goals
          go_wp2_with (first
            | (at_builtin
               refine wpList_app _ rfl (.tmp 29) (.tmp 30) _ rfl w.heap.size 5 i0 _ 1 Tryd.underlying68 hi hz0 hz1 hz2 rfl (.slice A1 m c1) (bvs acc) m rfl (by rw [bvs_length, HM.out]) (hown.alloc _) (wr.heap.size + 1) (some ⟨wr.heap.size, 0, none⟩) 1 (bvs [92]) 1 rfl rfl (sees_lit wr _ 5 (0, 0) _ rfl) (bvs_one _) (by simp [maxLen]; omega) (by omega) (by have := hbr.size; simp; omega) ?_
               intro A8 c8 w8 hown8 hb8 hg8 hat8
               rw [← bvs_append] at hown8
               have hbr8 : Below w.heap.size w w8 := (hbr.alloc hbr.size _).trans hb8
               clear hg8 hat8 hb8 hown)
            | (at_builtin
               refine wpList_app _ rfl (.tmp 32) (.tmp 34) _ rfl w.heap.size 5 i0 _ 1 Tryd.underlying68 hi hz0 hz1 hz2 rfl (.slice A8 (m + 1) c8) (bvs (acc ++ [92])) (m + 1) rfl (by rw [bvs_length, List.length_append, HM.out]; first | done | rfl) (hown8.alloc _) (w8.heap.size + 1) (some ⟨w8.heap.size, 0, none⟩) 1 (bvs [s[k]]) 1 rfl rfl (sees_lit w8 _ 5 (0, 0) _ rfl) (bvs_one _) (by simp [maxLen]; omega) (by omega) (by have := hbr8.size; simp; omega) ?_
               intro A9 c9 w9 hown9 hb9 hg9 hat9)
            | fail)
          rw [← bvs_append, ← HS2.out] at hown9
          have hbr9 : Below w.heap.size w w9 := (hbr8.alloc hbr8.size _).trans hb9
          go_roundw
          case rel => exact ⟨k + 1, m + 1 + 1, by omega, by go_num, by omega, ⟨A9, c9, rfl, hown9, Lib.hid (by rw [HS2.out, List.length_append, List.length_append, HM.out]; first | done | rfl)⟩, hbr9⟩
          case measure => simp [intOf]; omega
      · have HE : Hid (escg s[k] = [s[k]]) := Lib.hid (by unfold escg esc; rw [if_neg (by omega), if_neg hq])
        have HS2 : Hid ([34] ++ qug (s.data.toList.take (k + 1)) = acc ++ [s[k]]) := Lib.hid (by rw [HS.out, HE.out])
        have b1 : (((s[k]'hlt).toNat : Int) == 34) = false := by
          rw [beq_eq_false_iff_ne]; intro e
          exact hq (.inl (UInt8.toNat_inj.1 (by have : (34 : UInt8).toNat = 34 := rfl; omega)))
        have b2 : (((s[k]'hlt).toNat : Int) == 92) = false := by
          rw [beq_eq_false_iff_ne]; intro e
          exact hq (.inr (UInt8.toNat_inj.1 (by have : (92 : UInt8).toNat = 92 := rfl; omega)))
        clear hq HS HE
        go_wp2_with (first
          | (at_builtin
             refine wpList_app _ rfl (.tmp 32) (.tmp 34) _ rfl w.heap.size 5 i0 _ 1 Tryd.underlying68 hi hz0 hz1 hz2 rfl (.slice A1 m c1) (bvs acc) m rfl (by rw [bvs_length, HM.out]) (hown.alloc _) (wr.heap.size + 1) (some ⟨wr.heap.size, 0, none⟩) 1 (bvs [s[k]]) 1 rfl rfl (sees_lit wr _ 5 (0, 0) _ rfl) (bvs_one _) (by simp [maxLen]; omega) (by omega) (by have := hbr.size; simp; omega) ?_
             intro A9 c9 w9 hown9 hb9 hg9 hat9)
          | fail)
        rw [← bvs_append, ← HS2.out] at hown9
        have hbr9 : Below w.heap.size w w9 := (hbr.alloc hbr.size _).trans hb9
        go_roundw
        case rel => exact ⟨k + 1, m + 1, by omega, by go_num, by omega, ⟨A9, c9, rfl, hown9, Lib.hid (by rw [HS2.out, List.length_append, HM.out]; first | done | rfl)⟩, hbr9⟩
        case measure => simp [intOf]; omega
    · obtain rfl : k = s.size := by omega
      have HA2 : Hid (acc = [34] ++ qug s.data.toList) := Lib.hid (by rw [HACC.out, ← HN.out, List.take_length])
      go_wp2_with (first
        | (at_builtin
           refine wpList_app _ rfl (.tmp 46) (.tmp 47) _ rfl w.heap.size 5 i0 _ 1 Tryd.underlying68 hi hz0 hz1 hz2 rfl (.slice A1 m c1) (bvs acc) m rfl (by rw [bvs_length, HM.out]) (hown.alloc _) (wr.heap.size + 1) (some ⟨wr.heap.size, 0, none⟩) 1 (bvs [34]) 1 rfl rfl (sees_lit wr _ 5 (0, 0) _ rfl) (bvs_one _) (by simp [maxLen]; omega) (by omega) (by have := hbr.size; simp; omega) ?_
           intro A9 c9 w9 hown9 hb9 hg9 hat9
           rw [← bvs_append] at hown9
           have hcv := run_str (P := Tryd.prog) w9 w9.heap.size 68 5 9 Tryd.underlying68 Tryd.underlying5 Tryd.underlying9 A9 (m + 1) c9 (acc ++ [34]) (by rw [List.length_append, HM.out]; first | done | rfl) hown9.sees
           rw [HA2.out, ← HU.out] at hcv
           clear hown9)
        | fail)
      have hbr9 : Below w.heap.size w w9 := (hbr.alloc hbr.size _).trans hb9
      go_ret
      exact ⟨rfl, hbr9⟩
end Go.Proofs.YtgdidamjgaegkaaDoor
