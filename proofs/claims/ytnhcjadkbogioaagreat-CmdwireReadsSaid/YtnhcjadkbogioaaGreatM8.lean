/- Values as bytes: slices.Clone of bytes, PutValue, and the document's. -/
import Derived.Test.YtnhcjadkbogioaaGreatM4
import Derived.Test.YtnhcjadkbogioaaGreatM5
import Derived.Test.YtnhcjadkbogioaaGreatM1
import Derived.Test.YtnhcjadkbogioaaGreatM7
import Derived.RangeFuncOwn
import Derived.Lib.AppendZeros
import Derived.Test.YtnhcjadkbogioaaGreatM6
import Derived.Test.YtnhcjadkbogioaaGreatM3
set_option maxRecDepth 100000
set_option linter.unusedVariables false
set_option maxHeartbeats 6400000
namespace Go.Proofs.YtnhcjadkbogioaaGreat
open Go Go.RowKit OctM
def vbs (v : V3) : List UInt8 := if vchk v = false then [] else if v.1 = 1 then enc 1 ++ enc (held v.2.1) else if v.1 = 2 then enc 2 ++ (enc v.2.2.data.toList.length ++ v.2.2.data.toList) else enc 0
end Go.Proofs.YtnhcjadkbogioaaGreat
namespace Go.Proofs.YtnhcjadkbogioaaGreat
open Go Go.RowKit BitM OctM
theorem grow_any (n : Nat) (w : World) (hn : n ≤ 100000) : Calls Tryz.prog 65 #[.slice none 0 0, .int .i64 (n : Int)] w fun e w' =>
    ∃ A c, e = .returned (.slice A 0 c) ∧ Own w' w.heap.size 5 (.slice A 0 c) [] ∧ Below w.heap.size w w' := by
  obtain ⟨i0, hi, hz0, hz1, hz2⟩ := oct_parts
  by_cases h0 : n = 0
  · subst h0
    go_enter Tryz.func65, Tryz.ntmps65
    go_wp2_with fail
    go_ret
    exact ⟨none, 0, rfl, Own.nil_ _ _ _, Below.refl _ _⟩
  · have hp : 0 < n := by omega
    have hpi : (0 : Int) < (n : Int) := by omega
    clear h0
    go_enter Tryz.func65, Tryz.ntmps65
    go_wp2_with (first
      | (at_builtin
         refine Lib.wpList_append_run _ rfl (.tmp 20) (.tmp 21) _ _ rfl _ _ rfl rfl _ _ (Lib.run_append_nil_zeros w 22 3 _ 5 i0 (.int .u8 0) .i64 .i64 Tryz.underlying22 Tryz.underlying3 hi hz0 n hp (by omega) (by omega) (by rw [hz2]; omega)) ?_)
      | fail)
    obtain ⟨G, hG⟩ : ∃ G, G = grownCap w n 0 5 := ⟨_, rfl⟩
    have hge : n ≤ G := by rw [hG]; exact grownCap_ge w n 0 _
    have hle : G ≤ maxLen := by rw [hG]; exact grownCap_le_maxLen w n 0 _ (by unfold maxLen; omega)
    rw [← hG]
    go_ret
    refine ⟨_, _, rfl, ⟨rfl, .inr ⟨w.heap.size, G, _, rfl, Nat.le_refl _, heap_alloc_new w.drew _, Nat.zero_le _, hle, ?_, rfl⟩⟩, (Below.refl w.heap.size w).drew.alloc (Nat.le_refl _) _⟩
    rw [Array.size_append, size_zeroCells, size_zeroCells]
    show n * 1 + (G - n) * 1 = G * 1
    omega
def FlatAt (w : World) (g : Nat) (ls : List (List UInt8)) : Prop := ∀ (k : Nat) (h : k < ls.length), ∃ A c, w.cell? ⟨g, k, none⟩ = some (.slice A ls[k].length c) ∧ Sees w w.heap.size A (bvs ls[k])
theorem FlatAt.below {w w' : World} {g : Nat} {ls : List (List UInt8)} (h : FlatAt w g ls) (hg : g < w.heap.size) (hb : Below w.heap.size w w') : FlatAt w' g ls := fun k hk => by
  obtain ⟨A, c, h1, h2⟩ := h k hk
  exact ⟨A, c, (hb.cell (p := ⟨g, k, none⟩) hg).trans h1, (h2.below hb).more hb.size⟩
theorem flat_take {ls : List (List UInt8)} {k : Nat} (h : k < ls.length) : (ls.take (k + 1)).flatten = (ls.take k).flatten ++ ls[k] := by
  rw [List.take_succ_eq_append_getElem h, List.flatten_append]; simp
theorem flat_le {ls : List (List UInt8)} (k : Nat) : (ls.take k).flatten.length ≤ ls.flatten.length := by
  conv => rhs; rw [← List.take_append_drop k ls, List.flatten_append, List.length_append]
  omega
theorem concat_any (g N c0 : Nat) (ls : List (List UInt8)) (w : World) (hN : ls.length = N) (hg : g < w.heap.size) (hf : FlatAt w g ls) (hN9 : N ≤ 100000) (hm : ls.flatten.length ≤ 100000) :
    Calls Tryz.prog 32 #[.slice (some ⟨g, 0, none⟩) N c0] w (GivesBytes w ls.flatten) := by
  obtain ⟨i0, hi, hz0, hz1, hz2⟩ := oct_parts
  have HF := hid (fun (wx : World) (hb : Below w.heap.size w wx) => hf.below hg hb)
  have HN := hid hN
  have HM := hid hm
  obtain ⟨R, hR⟩ : ∃ R, R = ls.flatten := ⟨_, rfl⟩
  have HR := hid hR
  rw [← hR]
  clear hf hN hm hR
  go_enter Tryz.func32, Tryz.ntmps32
  go_wp2_with fail
  go_loop [3, 11] (fun s i => ∃ k tot : Nat, k ≤ N ∧ i = .int .i64 k ∧ s = .int .i64 tot ∧ tot ≤ 100000 ∧ Hid (tot = (ls.take k).flatten.length)) (fun _ i => N - (intOf i).toNat)
  case atStart => exact ⟨0, 0, Nat.zero_le _, rfl, rfl, by omega, hid rfl⟩
  case round =>
    obtain ⟨k, tot, hk, rfl, rfl, ht, HT⟩ := hrel
    by_cases hlt : k < N
    · have hkl : k < ls.length := by rw [HN.out]; exact hlt
      obtain ⟨Ak, ck, hc, hs⟩ := HF.out w (Below.refl _ _) k hkl
      have HT2 : Hid (tot + ls[k].length = (ls.take (k + 1)).flatten.length) := hid (by rw [flat_take hkl, List.length_append, ← HT.out])
      have ht2 : tot + ls[k].length ≤ 100000 := by rw [HT2.out]; exact Nat.le_trans (flat_le _) HM.out
      obtain ⟨nk, hnk⟩ : ∃ nk, nk = ls[k].length := ⟨_, rfl⟩
      rw [← hnk] at hc HT2 ht2
      have hki : (k : Int) < (N : Int) := by omega
      clear hnk hs hkl
      go_wp2_with fail
      go_round
      case rel => exact ⟨k + 1, tot + nk, by omega, by go_num, by go_num, ht2, HT2⟩
      case measure => simp [intOf]; omega
    · obtain rfl : k = N := by omega
      have HTT : Hid (tot = R.length) := hid (by rw [HT.out, HR.out, ← HN.out, List.take_length])
      clear HT
      have HG := hid (grow_any tot w (by omega))
      go_wp2_with fail
      refine HG.out.mono ?_
      rintro e w1 ⟨A1, c1, rfl, hown1, hb1⟩
      go_wp2_with fail
      go_loopw [6, 27] (fun v i wr => ∃ (j la : Nat) (acc : List UInt8), j ≤ k ∧ i = .int .i64 j ∧ (∃ A2 c2, v = .slice A2 la c2 ∧ Own wr w.heap.size 5 (.slice A2 la c2) (bvs acc)) ∧ Hid (acc.length = la) ∧ la ≤ 100000 ∧ Hid (acc = (ls.take j).flatten) ∧ Below w.heap.size w wr) (fun _ i _ => k - (intOf i).toNat)
      case atStart => exact ⟨0, 0, [], Nat.zero_le _, rfl, ⟨A1, c1, rfl, hown1⟩, hid rfl, by omega, hid rfl, hb1⟩
      case round =>
        obtain ⟨j, la, acc, hj, rfl, ⟨A2, c2, rfl, hown⟩, HLA, hla, HACC, hbr⟩ := hrel
        by_cases hlt2 : j < k
        · have hkl : j < ls.length := by rw [HN.out]; exact hlt2
          obtain ⟨Ak, ck, hc, hs⟩ := HF.out wr hbr j hkl
          have HA2 : Hid (acc ++ ls[j] = (ls.take (j + 1)).flatten) := hid (by rw [flat_take hkl, ← HACC.out])
          have ht2 : la + ls[j].length ≤ 100000 := by rw [← HLA.out, ← List.length_append, HA2.out]; exact Nat.le_trans (flat_le _) HM.out
          obtain ⟨lk, hlk⟩ : ∃ lk, lk = ls[j] := ⟨_, rfl⟩
          rw [← hlk] at hc HA2 ht2 hs
          obtain ⟨nk, hnk⟩ : ∃ nk, nk = lk.length := ⟨_, rfl⟩
          rw [← hnk] at hc ht2
          have HNK := hid hnk
          have hki : (j : Int) < (k : Int) := by omega
          clear hnk hlk hkl
          go_wp2_with (first
            | (at_builtin
               refine wpList_app _ rfl (.tmp 31) (.tmp 32) _ rfl w.heap.size 5 i0 _ 1 Tryz.underlying22 hi hz0 hz1 hz2 rfl (.slice A2 la c2) (bvs acc) la rfl (by rw [bvs_length, HLA.out]) hown wr.heap.size Ak ck (bvs lk) nk rfl (by rw [bvs_length, HNK.out]) hs (bvs_one _) (by simp [maxLen]; omega) (by omega) hbr.size ?_
               intro A3 c3 w3 hown3 hb3 hg3 hat3
               rw [← bvs_append] at hown3
               have hbr3 := hbr.trans hb3
               clear hg3 hat3 hb3 hown hbr)
            | fail)
          go_roundw
          case rel => exact ⟨j + 1, la + nk, acc ++ lk, by omega, by go_num, ⟨A3, c3, rfl, hown3⟩, hid (by rw [List.length_append, HLA.out, HNK.out]), ht2, HA2, hbr3⟩
          case measure => simp [intOf]; omega
        · obtain rfl : j = k := by omega
          have HA2 : Hid (acc = R) := hid (by rw [HACC.out, HR.out, ← HN.out, List.take_length])
          go_wp2_with fail
          go_ret
          rw [HA2.out] at hown
          have hl : R.length = la := by rw [← HA2.out]; exact HLA.out
          rw [← hl] at hown
          exact ⟨A2, c2, by rw [hl]; rfl, hown, hbr⟩
def fbs (L : List Int) (f : List V3) : List UInt8 := L.flatMap fun i => vbs (f.getD i.toNat zv)
end Go.Proofs.YtnhcjadkbogioaaGreat
namespace Go.Proofs.YtnhcjadkbogioaaGreat
open Go Go.RowKit BitM
section
variable {P : Program} {ops : Array Oper} {rest : List Oper} {op : Oper} {a : Act} {w : World} {Q : Exit → Act → World → Prop}
end
theorem mix_getD (p : Nat → Bool) (a c : List V3) (i : Nat) (h : i < 8) : (mix p a c).getD i zv = if p i then a.getD i zv else c.getD i zv := by
  have hl : i < (mix p a c).length := by rw [mix_len]; exact h
  rw [List.getD_eq_getElem?_getD, List.getElem?_eq_getElem hl, Option.getD_some, mix_get]
def vk (f : List V3) (k : Nat) : Bool := (List.range k).all fun i => vchk (f.getD i zv)
theorem vk_succ (f : List V3) (k : Nat) : vk f (k + 1) = (vk f k && vchk (f.getD k zv)) := by
  unfold vk
  rw [List.range_succ, List.all_append]
  simp
theorem vk_mono (f : List V3) {j k : Nat} (h : j ≤ k) (hf : vk f j = false) : vk f k = false := by
  induction k with
  | zero => obtain rfl : j = 0 := by omega
            exact hf
  | succ k ih =>
    by_cases e : j = k + 1
    · subst e; exact hf
    · rw [vk_succ, ih (by omega)]; rfl
theorem zp26 : (pcells 0 0 zeros).toArray = #[Value.int .u32 0, .int .u32 0, .int .i64 0, .int .i64 0, .string { data := #[] }, .int .i64 0, .int .i64 0, .string { data := #[] }, .int .i64 0, .int .i64 0, .string { data := #[] }, .int .i64 0, .int .i64 0, .string { data := #[] }, .int .i64 0, .int .i64 0, .string { data := #[] }, .int .i64 0, .int .i64 0, .string { data := #[] }, .int .i64 0, .int .i64 0, .string { data := #[] }, .int .i64 0, .int .i64 0, .string { data := #[] }] := rfl
theorem zv3 : (vcells zv).toArray = #[Value.int .i64 0, .int .i64 0, .string { data := #[] }] := rfl
theorem run_index_val (f : List V3) (k : Nat) (hk : k < f.length) (hf : f.length = 8) (w : World) :
    (Instr.index 34 (.agg (fcells f).toArray) (.int .i64 (k : Int))).run Tryz.prog w = .ok (.agg (vcells f[k]).toArray) w := by
  have hsz : ∀ w, (sizeOf 33).run Tryz.prog w = .ok 3 w := fun w => by kernel_rfl
  have hag : ∀ w, (isAgg 33).run Tryz.prog w = .ok true w := fun w => by kernel_rfl
  have h8 : (0 : Int) ≤ (k : Int) ∧ (k : Int) < ((8 : Nat) : Int) := by omega
  have hp : (part 33 (fcells f).toArray (k * 3)).run Tryz.prog w = .ok (.agg (vcells f[k]).toArray) w := by
    simp only [part, Sem.run_bind, hag, Result.andThen_ok, hsz, if_true, Sem.run_pure, fcells_ext f k hk]
  simp only [Instr.index, asIntOf, Sem.run_bind, Sem.run_pure, Result.andThen_ok, run_underlying Tryz.underlying34, if_pos h8, hsz, Int.toNat_natCast, hp]
theorem exec_index {a : Act} {w : World} {op : Oper} (f : List V3) (k : Nat) (hk : k < f.length) (hf : f.length = 8) (x y : Operand) (ho : op.op = .index 34 x y) (hx : a.eval x = .agg (fcells f).toArray) (hy : a.eval y = .int .i64 (k : Int)) :
    (execOp a.eval op).run Tryz.prog w = .ok (.value (.agg (vcells f[k]).toArray)) w := by
  unfold execOp
  simp only [ho, hx, hy, Sem.run_bind, run_index_val f k hk hf, Result.andThen_ok, Sem.run_pure]
theorem values_any (f : List V3) (w : World) (hf : f.length = 8) :
    Calls Tryz.prog 74 #[.agg (fcells f).toArray] w fun e w' => e = .returned (.bool (vk f 8)) ∧ Below w.heap.size w w' := by
  have HF := hid hf
  have HFL : Hid ((fcells f).length = 24) := hid (by rw [fcells_len, hf])
  have B0 := Blk.new w (fcells f) 34
  obtain ⟨fa, hfa⟩ : ∃ fa, fa = (fcells f).toArray := ⟨_, rfl⟩
  rw [← hfa] at B0 ⊢
  have HB := hid ((Below.refl w.heap.size w).alloc (Nat.le_refl _) (.cells fa 34))
  obtain ⟨R, hR⟩ : ∃ R, R = vk f 8 := ⟨_, rfl⟩
  rw [← hR]
  have HR := hid hR
  have RG := B0.wholeC
  have hu8 := Tryz.underlying34
  have hu := Tryz.underlying33
  have HFA := hid hfa
  clear hfa hf hR B0
  go_enter Tryz.func74, Tryz.ntmps74
  go_wp2_with (first
    | (refine wpList_load_mid rfl 34 (.tmp 1) rfl w.heap.size 0 rfl (fcells f) _ RG hu8 rfl (by rw [HFL.out]; exact info_fields) ?_))
  clear RG
  go_loopw [6] (fun i wr => ∃ k : Nat, k ≤ 8 ∧ i = .int .i64 k ∧ Hid (vk f k = true) ∧ Below w.heap.size w wr) (fun i _ => 8 - (intOf i).toNat)
  case atStart => exact ⟨0, by omega, rfl, hid rfl, HB.out⟩
  case round =>
    obtain ⟨k, hk, rfl, HK, hbr⟩ := hrel
    clear HB
    by_cases hlt : k < 8
    · have hkf : k < f.length := by rw [HF.out]; exact hlt
      have d8 : (k : Int) < 8 := by omega
      have HS := hid (vk_succ f k)
      obtain ⟨v, hv⟩ : ∃ v, v = f[k] := ⟨_, rfl⟩
      have hg : f.getD k zv = v := by rw [hv]; simp [List.getD, hkf]
      have HG := hid hg
      have HV := hid hv
      obtain ⟨v0, v1, v2⟩ := v
      have HC := hid (fun wx : World => vcheck_any v0 v1 v2 wx)
      have A1 := Blk.new wr (vcells zv) 33
      have TH := A1.there 0 3 (by simp [vcells])
      have E1 := A1.whole (ds := vcells (v0, v1, v2)) rfl
      have RGV := E1.wholeC
      have EB := below_sets (B := w.heap.size) (b := wr.heap.size) hbr.size (vcells (v0, v1, v2)) 0 (hbr.alloc hbr.size (.cells (vcells zv).toArray 33))
      have hone : ∀ u ∈ vcells (v0, v1, v2), u.oneCell' = true := by intro u hu; simp [vcells] at hu; rcases hu with rfl | rfl | rfl <;> rfl
      rw [zv3] at TH RGV EB
      have HEB := hid EB
      clear hv hg A1 E1 EB
      cases hc : vchk (v0, v1, v2) with
      | false =>
        rw [hc] at HC
        have HCC := hid hc
        clear hc
        go_wp2_with (first
          | (refine wpList_exec (op := ⟨some 8, .index 34 _ _, _, _, _, _⟩) (by rfl) (.agg (vcells (v0, v1, v2)).toArray) (by rw [HV.out]; exact exec_index f k hkf HF.out (.tmp 5) (.tmp 6) rfl rfl rfl) ?_)
          | (refine wpList_store_mid rfl 33 (.tmp 4) (.tmp 8) rfl wr.heap.size 0 (vcells (v0, v1, v2)).toArray rfl rfl (by simpa [vcells] using TH) (by simpa [vcells] using info_val) (all_oneCell_toArray hone) ?_)
          | (refine wpList_load_mid rfl 33 (.tmp 4) rfl wr.heap.size 0 rfl (vcells (v0, v1, v2)) _ RGV hu rfl info_val ?_))
        refine (HC.out _).mono ?_
        rintro e w1 ⟨rfl, hb⟩
        have hbw := HEB.out.trans (hb.mono HEB.out.size)
        clear TH RGV HEB hb
        go_wp2_with fail
        go_ret
        refine ⟨?_, hbw⟩
        have hfin : R = false := by rw [HR.out]; exact vk_mono f (j := k + 1) (by omega) (by rw [HS.out, HG.out, HCC.out]; simp)
        rw [hfin]
        rfl
      | true =>
        rw [hc] at HC
        have HCC := hid hc
        clear hc
        go_wp2_with (first
          | (refine wpList_exec (op := ⟨some 8, .index 34 _ _, _, _, _, _⟩) (by rfl) (.agg (vcells (v0, v1, v2)).toArray) (by rw [HV.out]; exact exec_index f k hkf HF.out (.tmp 5) (.tmp 6) rfl rfl rfl) ?_)
          | (refine wpList_store_mid rfl 33 (.tmp 4) (.tmp 8) rfl wr.heap.size 0 (vcells (v0, v1, v2)).toArray rfl rfl (by simpa [vcells] using TH) (by simpa [vcells] using info_val) (all_oneCell_toArray hone) ?_)
          | (refine wpList_load_mid rfl 33 (.tmp 4) rfl wr.heap.size 0 rfl (vcells (v0, v1, v2)) _ RGV hu rfl info_val ?_))
        refine (HC.out _).mono ?_
        rintro e w1 ⟨rfl, hb⟩
        have hbw := HEB.out.trans (hb.mono HEB.out.size)
        clear TH RGV HEB hb
        go_wp2_with fail
        go_roundw
        case rel => exact ⟨k + 1, by omega, by go_num, hid (by rw [HS.out, HK.out, HG.out, HCC.out]; rfl), hbw⟩
        case measure => simp [intOf]; omega
    · obtain rfl : k = 8 := by omega
      go_wp2_with fail
      go_ret
      exact ⟨by rw [HR.out, HK.out]; rfl, hbr⟩
theorem vchk_none {v : V3} (h : vchk v = true) (h0 : v.1 = 0) : v = zv := by
  obtain ⟨k, n, s⟩ := v
  simp only at h0
  subst h0
  rw [vchk_0, decide_eq_true_eq] at h
  obtain ⟨rfl, hs⟩ := h
  rw [nil_str_iff] at hs
  subst hs
  rfl
theorem vk_iff (f : List V3) (k : Nat) : vk f k = true ↔ ∀ i, i < k → vchk (f.getD i zv) = true := by
  unfold vk
  simp only [List.all_eq_true, List.mem_range]
theorem fok_iff (x : BitVec 32) (f : List V3) (k : Nat) : fok x f k = true ↔ ∀ i, i < k → vchk (f.getD i zv) = true ∧ ((f.getD i zv).1 = 0 ∨ has x (i : Int) = true) := by
  unfold fok
  simp only [List.all_eq_true, List.mem_range, Bool.and_eq_true, Bool.or_eq_true, decide_eq_true_eq]
theorem zeros_getD (i : Nat) : zeros.getD i zv = zv := by
  unfold zeros
  rw [List.getD_eq_getElem?_getD, List.getElem?_replicate]
  split <;> rfl
theorem mix_same (x : BitVec 32) (f : List V3) (hf : f.length = 8) : mix (fun i => has x (i : Int)) f zeros = f ↔ ∀ i : Nat, i < 8 → has x (i : Int) = true ∨ f.getD i zv = zv := by
  constructor
  · intro h i hi
    have h1 := mix_getD (fun i => has x (i : Int)) f zeros i hi
    rw [h] at h1
    cases hx : has x (i : Int)
    · right
      rw [h1, hx]
      exact zeros_getD i
    · exact .inl rfl
  · intro h
    apply List.ext_getElem
    · rw [mix_len, hf]
    · intro i h1 h2
      have hi : i < 8 := by rw [hf] at h2; exact h2
      have e : f.getD i zv = f[i] := by simp [List.getD, h2]
      rw [mix_get]
      rcases h i hi with hx | hz
      · rw [hx, ← e]; rfl
      · cases hx : has x (i : Int)
        · rw [← e, hz]; exact zeros_getD i
        · rw [← e]; rfl
theorem fok_eq (x : BitVec 32) (f : List V3) (hf : f.length = 8) : fok x f 8 = (decide (mix (fun i => has x (i : Int)) f zeros = f) && vk (mix (fun i => has x (i : Int)) f zeros) 8) := by
  rw [Bool.eq_iff_iff, Bool.and_eq_true, decide_eq_true_eq]
  constructor
  · intro h
    rw [fok_iff] at h
    have hm : mix (fun i => has x (i : Int)) f zeros = f := (mix_same x f hf).2 (fun i hi => by
      rcases (h i hi).2 with h0 | hx
      · exact .inr (vchk_none (h i hi).1 h0)
      · exact .inl hx)
    refine ⟨hm, ?_⟩
    rw [hm, vk_iff]
    exact fun i hi => (h i hi).1
  · rintro ⟨hm, hv⟩
    rw [hm, vk_iff] at hv
    rw [fok_iff]
    intro i hi
    refine ⟨hv i hi, ?_⟩
    rcases (mix_same x f hf).1 hm i hi with hx | hz
    · exact .inr hx
    · exact .inl (by rw [hz]; rfl)
theorem guard_arr : Tryz.prog.eqGuardType Tryz.prog.depth 34 = false := by kernel_rfl
theorem pcheck_any (x : BitVec 32) (lab : Int) (f : List V3) (w : World) (hf : f.length = 8) :
    Calls Tryz.prog 44 #[.agg (pcells (x.toNat : Int) lab f).toArray] w fun e w' => e = .returned (.int .i64 (pchk x lab f)) ∧ Below w.heap.size w w' := by
  have HS := hid (fun wx : World => shown_any lab x f wx hf)
  have HM := hid (fun wx : World => mcheck_any x wx)
  have HFL : Hid ((fcells f).length = 24) := hid (by rw [fcells_len, hf])
  obtain ⟨l, hl⟩ : ∃ l : Int, l = (if has x 8 then lab else 0) := ⟨_, rfl⟩
  obtain ⟨sf, hsf⟩ : ∃ sf, sf = mix (fun i => has x (i : Int)) f zeros := ⟨_, rfl⟩
  have hs8 : sf.length = 8 := by rw [hsf, mix_len]
  have HSF : Hid ((fcells sf).length = 24) := hid (by rw [fcells_len, hs8])
  have HV := hid (fun wx : World => values_any sf wx hs8)
  have HE := hid (fun wx : World => eq_fields 9997 sf f hs8 hf wx)
  have hfk := fok_eq x f hf
  rw [← hl, ← hsf] at HS
  rw [← hsf] at hfk
  have hone : ∀ v ∈ fcells sf, v.oneCell' = true := fcells_one sf
  obtain ⟨R, hR⟩ : ∃ R, R = pchk x lab f := ⟨_, rfl⟩
  rw [← hR]
  have HR := hid hR
  have HFK := hid hfk
  have HLL := hid hl
  have HZ8 : Hid ((fcells zeros).toArray = #[Value.int .i64 0, .int .i64 0, .string { data := #[] }, .int .i64 0, .int .i64 0, .string { data := #[] }, .int .i64 0, .int .i64 0, .string { data := #[] }, .int .i64 0, .int .i64 0, .string { data := #[] }, .int .i64 0, .int .i64 0, .string { data := #[] }, .int .i64 0, .int .i64 0, .string { data := #[] }, .int .i64 0, .int .i64 0, .string { data := #[] }, .int .i64 0, .int .i64 0, .string { data := #[] }]) := hid rfl
  have B0 := Blk.new w (pcells (x.toNat : Int) lab f) 36
  obtain ⟨pa, hpa⟩ : ∃ pa, pa = (pcells (x.toNat : Int) lab f).toArray := ⟨_, rfl⟩
  rw [← hpa] at B0 ⊢
  have hw0 := (Below.refl w.heap.size w).alloc (Nat.le_refl _) (.cells pa 36)
  have hsz : (w.alloc (.cells pa 36)).heap.size = w.heap.size + 1 := by simp
  generalize hW : w.alloc (.cells pa 36) = W at *
  have HW := hid hW
  have HB := hid hw0
  have HSZ := hid hsz
  clear hl hsf hs8 hfk hR hpa hw0 hf hsz hW
  obtain ⟨p0, p1⟩ := B0.patch
  have RF := B0.fieldsP
  have hu8 := Tryz.underlying34
  have HC0 := hid B0
  have HP1 := hid p1
  have HRF := hid RF
  clear B0 p1 RF
  rw [← HW.out] at p0
  by_cases h2 : x.toNat = 0
  · have b2 : ((x.toNat : Int) == 0) = true := by rw [h2]; rfl
    have HRR : Hid (R = 11) := hid (by rw [HR.out]; unfold pchk; rw [if_pos (.inr h2)])
    clear h2
    go_enter Tryz.func44, Tryz.ntmps44
    go_wp2_with fail
    go_ret
    exact ⟨by rw [HRR.out]; rfl, by rw [HW.out]; exact HB.out⟩
  · have b2 : ((x.toNat : Int) == 0) = false := by rw [beq_eq_false_iff_ne]; omega
    by_cases h1 : x.toNat ≤ 511
    · rw [decide_eq_true h1] at HM
      have hn : ¬ (511 < x.toNat ∨ x.toNat = 0) := by omega
      have HRN : Hid (R = if 65536 ≤ lab ∨ (lab ≠ 0 ∧ has x 8 = false) then 1 else if fok x f 8 then 0 else 1) := hid (by rw [HR.out]; unfold pchk; rw [if_neg hn])
      clear h1 h2 hn
      go_enter Tryz.func44, Tryz.ntmps44
      go_wp2_with fail
      rw [HW.out]
      clear p0
      obtain ⟨p0, p1⟩ := HC0.out.patch
      refine (HM.out _).mono ?_
      rintro e w' ⟨rfl, rfl⟩
      have RF := HRF.out
      go_wp2_with (first
        | (refine wpList_load_mid rfl 34 (.tmp 17) rfl w.heap.size 2 rfl (fcells f) _ RF hu8 rfl (by rw [HFL.out]; exact info_fields) ?_))
      clear p0 p1 RF
      refine (HS.out _).mono ?_
      rintro e w1 ⟨rfl, hb⟩
      have hb1 := HB.out.trans (hb.mono HB.out.size)
      have C0 := (HC0.out.later hb).alloc (.cells (fcells zeros).toArray 34)
      have hlt : w.heap.size < w1.heap.size := (HC0.out.later hb).lt
      have A5 := Blk.new w1 (fcells zeros) 34
      have TH := A5.there 0 24 (by rw [fcells_len, zeros_len]; omega)
      have E5 := A5.whole (ds := fcells sf) (by rw [HSF.out, fcells_len, zeros_len])
      have E0 := Blk.setsOther (b := w1.heap.size) (g := w.heap.size) (by omega) (fcells sf) 0 C0
      have EB := below_sets (B := w.heap.size) (b := w1.heap.size) (by omega) (fcells sf) 0 (hb1.alloc (by omega) (.cells (fcells zeros).toArray 34))
      have RS := E5.wholeC
      have RF := E0.fieldsP
      obtain ⟨p0, p1⟩ := E0.patch
      clear p0
      rw [HZ8.out] at TH RS RF p1 EB
      have HEB := hid EB
      clear hb hb1 C0 A5 E5 E0 EB HM HS HB HC0 HP1 HRF HW HSZ
      cases hll : decide (l = lab) with
      | false =>
        have bl : (l != lab) = true := by simpa using hll
        have HRR : Hid (R = 1) := Lib.hid (by
          rw [HRN.out, if_pos]
          have h : ¬ l = lab := by simpa using hll
          rw [HLL.out] at h
          right
          cases h8 : has x 8
          · rw [h8] at h
            exact ⟨fun e => h (by rw [e]; rfl), rfl⟩
          · rw [h8] at h
            exact absurd rfl h)
        clear hll
        go_wp2_with (first
          | (refine wpList_store_mid rfl 34 (.tmp 4) (.tmp 23) rfl w1.heap.size 0 (fcells sf).toArray rfl rfl (by simpa [HSF.out] using TH) (by simpa [HSF.out] using info_fields) (all_oneCell_toArray hone) ?_))
        go_ret
        exact ⟨by rw [HRR.out]; rfl, HEB.out⟩
      | true =>
        have bl : (l != lab) = false := by simpa using hll
        have hle : l = lab := by simpa using hll
        have HN8 : Hid (¬ (lab ≠ 0 ∧ has x 8 = false)) := Lib.hid (by
          rintro ⟨h1, h2⟩
          rw [HLL.out, h2] at hle
          exact h1 hle.symm)
        have HLE := hid hle
        clear hll hle
        cases hs : decide (sf = f) with
        | false =>
          have HRR : Hid (R = 1) := hid (by rw [HRN.out, HFK.out, hs]; simp)
          rw [hs] at HE
          clear hs
          go_wp2_with (first
            | (refine wpList_store_mid rfl 34 (.tmp 4) (.tmp 23) rfl w1.heap.size 0 (fcells sf).toArray rfl rfl (by simpa [HSF.out] using TH) (by simpa [HSF.out] using info_fields) (all_oneCell_toArray hone) ?_)
            | (refine wpList_load_g (by rfl) 34 (.tmp 4) rfl w1.heap.size 0 rfl (fcells sf) _ RS hu8 rfl (by rw [HSF.out]; exact info_fields) ?_)
            | (refine wpList_load_g (by rfl) 34 (.tmp 30) rfl w.heap.size 2 rfl (fcells f) _ RF hu8 rfl (by rw [HFL.out]; exact info_fields) ?_)
            | (refine wpList_exec (by rfl) (.bool true) (exec_neq 34 _ (.tmp 29) (.tmp 31) rfl _ _ rfl rfl guard_arr false (HE.out _)) ?_))
          go_ret
          exact ⟨by rw [HRR.out]; rfl, HEB.out⟩
        | true =>
          rw [hs] at HE
          have HSS := hid hs
          clear hs
          by_cases hg : 65535 < l
          · have dg : decide (65535 < l) = true := by simpa using hg
            have HRR : Hid (R = 1) := hid (by rw [HRN.out, if_pos]; left; rw [← HLE.out]; omega)
            clear hg
            go_wp2_with (first
              | (refine wpList_store_mid rfl 34 (.tmp 4) (.tmp 23) rfl w1.heap.size 0 (fcells sf).toArray rfl rfl (by simpa [HSF.out] using TH) (by simpa [HSF.out] using info_fields) (all_oneCell_toArray hone) ?_)
              | (refine wpList_load_g (by rfl) 34 (.tmp 4) rfl w1.heap.size 0 rfl (fcells sf) _ RS hu8 rfl (by rw [HSF.out]; exact info_fields) ?_)
              | (refine wpList_load_g (by rfl) 34 (.tmp 30) rfl w.heap.size 2 rfl (fcells f) _ RF hu8 rfl (by rw [HFL.out]; exact info_fields) ?_)
              | (refine wpList_exec (by rfl) (.bool false) (exec_neq 34 _ (.tmp 29) (.tmp 31) rfl _ _ rfl rfl guard_arr true (HE.out _)) ?_))
            go_ret
            exact ⟨by rw [HRR.out]; rfl, HEB.out⟩
          · have dg : decide (65535 < l) = false := by simpa using hg
            have HRV : Hid (R = if vk sf 8 then 0 else 1) := Lib.hid (by
              rw [HRN.out, if_neg (by rw [← HLE.out]; rintro (h | h); exact hg (by omega); exact HN8.out (by rw [← HLE.out]; exact h)), HFK.out, HSS.out, Bool.true_and])
            clear hg
            cases hv : vk sf 8 with
            | false =>
              rw [hv] at HV HRV
              have HRR : Hid (R = 1) := hid (by rw [HRV.out]; rfl)
              clear hv
              go_wp2_with (first
                | (refine wpList_store_mid rfl 34 (.tmp 4) (.tmp 23) rfl w1.heap.size 0 (fcells sf).toArray rfl rfl (by simpa [HSF.out] using TH) (by simpa [HSF.out] using info_fields) (all_oneCell_toArray hone) ?_)
                | (refine wpList_load_g (by rfl) 34 (.tmp 4) rfl w1.heap.size 0 rfl (fcells sf) _ RS hu8 rfl (by rw [HSF.out]; exact info_fields) ?_)
                | (refine wpList_load_g (by rfl) 34 (.tmp 30) rfl w.heap.size 2 rfl (fcells f) _ RF hu8 rfl (by rw [HFL.out]; exact info_fields) ?_)
                | (refine wpList_exec (by rfl) (.bool false) (exec_neq 34 _ (.tmp 29) (.tmp 31) rfl _ _ rfl rfl guard_arr true (HE.out _)) ?_))
              refine (HV.out _).mono ?_
              rintro e w2 ⟨rfl, hb⟩
              have hb2 := HEB.out.trans (hb.mono HEB.out.size)
              clear TH RS RF p1 HEB hb
              go_wp2_with fail
              go_ret
              exact ⟨by rw [HRR.out]; rfl, hb2⟩
            | true =>
              rw [hv] at HV HRV
              have HRR : Hid (R = 0) := hid (by rw [HRV.out]; rfl)
              clear hv
              go_wp2_with (first
                | (refine wpList_store_mid rfl 34 (.tmp 4) (.tmp 23) rfl w1.heap.size 0 (fcells sf).toArray rfl rfl (by simpa [HSF.out] using TH) (by simpa [HSF.out] using info_fields) (all_oneCell_toArray hone) ?_)
                | (refine wpList_load_g (by rfl) 34 (.tmp 4) rfl w1.heap.size 0 rfl (fcells sf) _ RS hu8 rfl (by rw [HSF.out]; exact info_fields) ?_)
                | (refine wpList_load_g (by rfl) 34 (.tmp 30) rfl w.heap.size 2 rfl (fcells f) _ RF hu8 rfl (by rw [HFL.out]; exact info_fields) ?_)
                | (refine wpList_exec (by rfl) (.bool false) (exec_neq 34 _ (.tmp 29) (.tmp 31) rfl _ _ rfl rfl guard_arr true (HE.out _)) ?_))
              refine (HV.out _).mono ?_
              rintro e w2 ⟨rfl, hb⟩
              have hb2 := HEB.out.trans (hb.mono HEB.out.size)
              clear TH RS RF p1 HEB hb
              go_wp2_with fail
              go_ret
              exact ⟨by rw [HRR.out]; rfl, hb2⟩
    · rw [decide_eq_false h1] at HM
      have HRR : Hid (R = 11) := hid (by rw [HR.out]; unfold pchk; rw [if_pos (.inl (by omega))])
      clear h1 h2
      go_enter Tryz.func44, Tryz.ntmps44
      go_wp2_with fail
      rw [HW.out]
      refine (HM.out _).mono ?_
      rintro e w' ⟨rfl, rfl⟩
      clear p0
      go_wp2_with fail
      go_ret
      exact ⟨by rw [HRR.out]; rfl, HB.out⟩
end Go.Proofs.YtnhcjadkbogioaaGreat
namespace Go.Proofs.YtnhcjadkbogioaaGreat
open Go Go.RowKit BitM OctM
def kl (f : List V3) (k : Nat) : List Int := ((List.range k).filter fun i => decide ((f.getD i zv).1 ≠ 0)).map fun i : Nat => (i : Int)
theorem lst_end {x : BitVec 32} {j : Nat} (h : ∀ i : Nat, j ≤ i → has x (i : Int) = false) : ∀ k, j ≤ k → lst x k = lst x j
  | 0, hk => by rw [show j = 0 by omega]
  | k + 1, hk => by
    by_cases e : j = k + 1
    · rw [e]
    · rw [lst_succ, h k (by omega), lst_end h k (by omega)]; simp
def pbs (x : BitVec 32) (lab : Int) (f : List V3) : List UInt8 := if pchk x lab f ≠ 0 then [] else (enc (held (x.toNat : Int)) ++ (if has x 8 = true then enc (held lab) else [])) ++ fbs (flds x) f
theorem flat2 {w : World} {A B : Option Addr} {n c m d : Nat} {l r : List UInt8} (T : TypeId) (hn : l.length = n) (hm : r.length = m) (hs : Sees w w.heap.size A (bvs l)) (ht : Sees w w.heap.size B (bvs r)) :
    FlatAt (w.alloc (.cells #[.slice A n c, .slice B m d] T)) w.heap.size [l, r] := fun k hk => by
  have hB := Blk.new w [.slice A n c, .slice B m d] T
  match k, hk with
  | 0, _ => exact ⟨A, c, by subst hn; exact hB.cell (j := 0) rfl, (hs.alloc (Nat.le_refl _) _).more (by simp)⟩
  | 1, _ => exact ⟨B, d, by subst hm; exact hB.cell (j := 1) rfl, (ht.alloc (Nat.le_refl _) _).more (by simp)⟩
def relSee (n : Nat) (l : List UInt8) : Rel where
  rel v w := ∃ A c, v = .slice A n c ∧ Sees w w.heap.size A (bvs l)
  mono := fun v w w' h ⟨A, c, e, hs⟩ => ⟨A, c, e, (hs.below h).more h.size⟩
  real := fun w ⟨A, c, e, _⟩ => by cases e
theorem gives_see {w : World} {xs : List UInt8} {n : Nat} (hn : xs.length = n) {e : Ending} {w' : World} (h : GivesBytes w xs e w') : ∃ v, e = .returned v ∧ Below w.heap.size w w' ∧ (relSee n xs).rel v w' := by
  obtain ⟨A, c, rfl, ho, hb⟩ := h
  subst hn
  exact ⟨_, rfl, hb, A, c, rfl, ho.sees⟩
end Go.Proofs.YtnhcjadkbogioaaGreat
namespace Go.Proofs.YtnhcjadkbogioaaGreat
open Go Go.RowKit OctM BitM
def fromL (x : BitVec 32) : Nat → Nat → List Int
  | 0, _ => []
  | n + 1, k => (if has x (k : Int) = true then [(k : Int)] else []) ++ fromL x n (k + 1)
theorem from_lst (x : BitVec 32) : ∀ (n k : Nat), lst x (k + n) = lst x k ++ fromL x n k
  | 0, k => by simp [fromL]
  | n + 1, k => by
    have h := from_lst x n (k + 1)
    rw [show k + (n + 1) = k + 1 + n by omega, h, lst_succ, fromL, List.append_assoc]
theorem from_and (x : BitVec 32) : ∀ (n k : Nat), k + n ≤ 8 → fromL (x &&& 255#32) n k = fromL x n k
  | 0, _, _ => rfl
  | n + 1, k, h => by
    rw [fromL, fromL, from_and x n (k + 1) (by omega), has_and_255, decide_eq_true (show (k : Int) < 8 by omega), Bool.and_true]
theorem flds_from (x : BitVec 32) : flds x = fromL x 8 0 := by
  unfold flds
  rw [lst_end (j := 8) (fun i hi => by rw [has_and_255, decide_eq_false (by omega), Bool.and_false]) 32 (by omega)]
  have h := from_lst (x &&& 255#32) 8 0
  rw [Nat.zero_add] at h
  rw [h, from_and x 8 0 (by omega)]
  rfl
theorem numOut_err (l : List UInt8) (a : Nat) (e m : Int) (h : (numOut l a e m).2.2 ≠ 0) : (numOut l a e m).1 = 0 := by
  unfold numOut at *
  split at h
  · rename_i h1; rw [if_pos h1]
  · rename_i h1
    split at h
    · rename_i h2; rw [if_neg h1, if_pos h2]
    · rename_i h2
      split at h
      · rename_i h3; rw [if_neg h1, if_neg h2, if_pos h3]
      · exact absurd rfl h
def patA (l : List UInt8) (a : Nat) (e : Int) : Nat × Nat × Int := abvOut l a e 511
def patX (l : List UInt8) (a : Nat) (e : Int) : BitVec 32 := BitVec.ofNat 32 (patA l a e).1
def patB (l : List UInt8) (a : Nat) (e : Int) : Nat × Nat × Int := if has (patX l a e) 8 = true then numOut l (patA l a e).2.1 (patA l a e).2.2 65535 else (0, (patA l a e).2)
def patE (l : List UInt8) (a : Nat) (e : Int) : List V3 × Nat × Int := fldsOut false l (flds (patX l a e)) zeros (patB l a e).2.1 (patB l a e).2.2
def patOut (l : List UInt8) (a : Nat) (e : Int) : (Int × Int × List V3) × Nat × Int :=
  (if (patE l a e).2.2 = 0 then (((patX l a e).toNat : Int), ((patB l a e).1 : Int), (patE l a e).1) else (0, 0, zeros), (patE l a e).2)
theorem patB_at (l : List UInt8) (a : Nat) (e : Int) (h : a ≤ l.length) : (patB l a e).2.1 ≤ l.length := by
  unfold patB
  split
  · exact numOut_at _ _ _ _ (abvOut_at _ _ _ _ h)
  · exact abvOut_at _ _ _ _ h
theorem patOut_at (l : List UInt8) (a : Nat) (e : Int) (h : a ≤ l.length) : (patOut l a e).2.1 ≤ l.length :=
  fldsOut_at _ _ _ _ _ _ (patB_at _ _ _ h)
theorem patOut_len (l : List UInt8) (a : Nat) (e : Int) : (patOut l a e).1.2.2.length = 8 := by
  unfold patOut
  simp only
  split
  · simp only [patE, fldsOut_len, zeros_len]
  · exact zeros_len
def pc3 (t : Int × Int × List V3) : List Value := pcells t.1 t.2.1 t.2.2
theorem fld_natP {x : BitVec 32} {k : Nat} {L : List Int} (hL : L = flds x) (hk : k < L.length) : ∃ j : Nat, L[k] = (j : Int) ∧ j < 8 := by
  obtain ⟨h0, h8, _⟩ := (mem_flds x L[k]).1 (by rw [← hL]; exact List.getElem_mem hk)
  obtain ⟨j, hj⟩ := Int.eq_ofNat_of_zero_le h0
  exact ⟨j, hj, by omega⟩
theorem rd_patch (base g : Nat) (l : List UInt8) (a : Nat) (e : Int) (w : World) (h : Rd w base g l a e) (ha : a ≤ l.length) (hm : l.length ≤ 4000) :
    Calls Tryz.prog 39 #[.pointer (some ⟨g, 0, none⟩)] w fun x w' => x = .returned (.agg (pc3 (patOut l a e).1).toArray) ∧ Rd w' base g l (patOut l a e).2.1 (patOut l a e).2.2 ∧ w.grownBy w' (some g) := by
  have hg := h.block.2
  obtain ⟨T, hT⟩ : ∃ T, T = patOut l a e := ⟨_, rfl⟩
  rw [← hT]
  have HA := hid (fun wx (hx : Rd wx base g l a e) => rd_above base g l a e 511 wx hx ha hm)
  have A1 := abvOut_at l a e 511 ha
  have BA := numOut_le l a e 511 (by omega)
  obtain ⟨rA, hA⟩ : ∃ r, r = abvOut l a e 511 := ⟨_, rfl⟩
  have BA2 : (rA.1 : Int) ≤ 511 := by rw [hA]; exact BA
  rw [← hA] at HA A1
  obtain ⟨vA, aA, eA⟩ := rA
  simp only at HA A1 BA2
  obtain ⟨x, hx⟩ : ∃ x : BitVec 32, vA = x.toNat := ⟨BitVec.ofNat 32 vA, by rw [BitVec.toNat_ofNat]; omega⟩
  subst hx
  have HC := hid (fun wx (hx : Rd wx base g l aA eA) => rd_num base g l aA eA 65535 wx hx A1 (by omega))
  have A2 := numOut_at l aA eA 65535 A1
  have BC := numOut_le l aA eA 65535 (by omega)
  have kA : patA l a e = (x.toNat, aA, eA) := hA.symm
  have kX : patX l a e = x := by unfold patX; rw [kA, BitVec.ofNat_toNat, BitVec.setWidth_eq]
  have kB : patB l a e = if has x 8 = true then numOut l aA eA 65535 else (0, aA, eA) := by unfold patB; rw [kX, kA]
  obtain ⟨rC, hC⟩ : ∃ r, r = numOut l aA eA 65535 := ⟨_, rfl⟩
  rw [← hC] at HC A2 BC kB
  obtain ⟨vC, aC, eC⟩ := rC
  simp only at HC A2 BC
  obtain ⟨labC, hlabC⟩ : ∃ z : Int, z = (vC : Int) := ⟨_, rfl⟩
  rw [← hlabC] at HC
  obtain ⟨rB, hB⟩ : ∃ r : Nat × Nat × Int, r = if has x 8 = true then (vC, aC, eC) else (0, aA, eA) := ⟨_, rfl⟩
  rw [← hB] at kB
  obtain ⟨vB, aB, eB⟩ := rB
  obtain ⟨lab, hlab⟩ : ∃ z : Int, z = (vB : Int) := ⟨_, rfl⟩
  obtain ⟨L, hL⟩ : ∃ L, L = flds x := ⟨_, rfl⟩
  have kE : patE l a e = fldsOut false l L zeros aB eB := by
    unfold patE
    rw [kB, kX, hL]
  unfold patOut at hT
  rw [kX, kB, kE] at hT
  obtain ⟨FR, hFR⟩ : ∃ FR, FR = fldsOut false l L zeros aB eB := ⟨_, rfl⟩
  rw [← hFR] at hT
  simp only at hT
  rw [← hlab] at hT
  have A4 : aB ≤ l.length := by
    have : aB = if has x 8 = true then aC else aA := by
      have := congrArg (fun r : Nat × Nat × Int => r.2.1) hB
      simp only at this
      rw [this]
      split <;> rfl
    rw [this]
    split
    · exact A2
    · exact A1
  have HT := hid hT
  have HFR := hid hFR
  have HFI := hid (fun wx : World => fields_any x wx)
  have HLB := hid (fun wx : World => labels_any x wx)
  have hfl := flds_len x
  have HJ := hid (fun k (hk : k < L.length) => fld_natP hL hk)
  rw [← hL] at HFI hfl
  obtain ⟨m, hm2⟩ : ∃ m, m = L.length := ⟨_, rfl⟩
  rw [← hm2] at HFI hfl
  have HLM := hid hm2
  have HA4 := hid A4
  have HM := hid hm
  have hwc : IntKind.u32.wrap labC = labC := by
    have h2 := wrap_nat (BitVec.ofNat 32 vC)
    rwa [BitVec.toNat_ofNat, Nat.mod_eq_of_lt (by omega), ← hlabC] at h2
  have hwx : IntKind.u32.wrap (x.toNat : Int) = (x.toNat : Int) := wrap_nat x
  have HBV : Hid ((has x 8 = true → lab = labC ∧ aB = aC ∧ eB = eC) ∧ (has x 8 = false → lab = 0 ∧ aB = aA ∧ eB = eA)) := Lib.hid (by
    constructor
    · intro hh
      rw [if_pos hh] at hB
      injection hB with h1 h2
      injection h2 with h2 h3
      exact ⟨by rw [hlab, h1, hlabC], h2, h3⟩
    · intro hh
      rw [if_neg (by rw [hh]; exact Bool.false_ne_true)] at hB
      injection hB with h1 h2
      injection h2 with h2 h3
      exact ⟨by rw [hlab, h1]; rfl, h2, h3⟩)
  clear hlab hlabC hB BC BA BA2
  clear hT hFR kA kX kB kE hA hC hL hm2 ha hm A1 A2 A4
  have B1 : Blk (w.alloc (.cells #[.pointer (some ⟨g, 0, none⟩)] 24)) w.heap.size [.pointer (some ⟨g, 0, none⟩)] := Blk.new w [.pointer (some ⟨g, 0, none⟩)] 24
  have B2 := Blk.new (w.alloc (.cells #[.pointer (some ⟨g, 0, none⟩)] 24)) (pcells 0 0 zeros) 36
  replace B1 := B1.alloc (.cells (pcells 0 0 zeros).toArray 36)
  have hs1 : (w.alloc (.cells #[.pointer (some ⟨g, 0, none⟩)] 24)).heap.size = w.heap.size + 1 := by simp
  rw [hs1] at B2
  have hw0 : Below w.heap.size w ((w.alloc (.cells #[.pointer (some ⟨g, 0, none⟩)] 24)).alloc (.cells (pcells 0 0 zeros).toArray 36)) := ((Below.refl w.heap.size w).alloc (Nat.le_refl _) _).alloc (by simp) _
  have R0 := h.later hw0
  have G0 : w.grownBy ((w.alloc (.cells #[.pointer (some ⟨g, 0, none⟩)] 24)).alloc (.cells (pcells 0 0 zeros).toArray 36)) (some g) := grown_none hw0 _
  have hsz : w.heap.size + 2 ≤ ((w.alloc (.cells #[.pointer (some ⟨g, 0, none⟩)] 24)).alloc (.cells (pcells 0 0 zeros).toArray 36)).heap.size := by simp
  generalize hW : (w.alloc (.cells #[.pointer (some ⟨g, 0, none⟩)] 24)).alloc (.cells (pcells 0 0 zeros).toArray 36) = W at *
  have hu := Tryz.underlying36
  have HZ := hid zp26
  have ne1 : (some g : Option Nat) ≠ some w.heap.size := by simp; omega
  have ne2 : (some g : Option Nat) ≠ some (w.heap.size + 1) := by simp; omega
  have x0 : W.cell? ⟨w.heap.size, 0, none⟩ = some (.pointer (some ⟨g, 0, none⟩)) := B1.cell rfl
  obtain ⟨zs, hzs⟩ : ∃ zs, zs = pcells 0 0 zeros := ⟨_, rfl⟩
  obtain ⟨xs, hxs⟩ : ∃ xs, xs = pcells (x.toNat : Int) 0 zeros := ⟨_, rfl⟩
  have HZL := hid (show zs.length = 26 by rw [hzs]; exact pcells_len 0 0 zeros_len)
  have HXL := hid (show xs.length = 26 by rw [hxs]; exact pcells_len _ 0 zeros_len)
  have hone : xs.toArray.all (·.oneCell') = true := all_oneCell_toArray (by rw [hxs]; exact pcells_one _ _ _)
  rw [← hzs] at B2 HZ
  rw [← hzs] at hW
  have HW := hid hW
  have HZS := hid hzs
  have HXS := hid hxs
  clear hW hw0 hs1 h hzs hxs
  obtain ⟨r, hr⟩ : ∃ r, r = w.heap.size := ⟨_, rfl⟩
  obtain ⟨b8, hb8⟩ : ∃ b, b = has x 8 := ⟨_, rfl⟩
  rw [← hb8] at HLB HBV
  clear hb8
  cases b8
  all_goals
    go_enter Tryz.func39, Tryz.ntmps39
    go_wp2_with fail
    rw [← HZ.out, HW.out]
    rw [← hr] at B1 B2 x0 hsz ne1 ne2 hg
    have HRS := hid hr
    rw [← hr]
    clear hr HW
    refine (HA.out _ R0).mono ?_
    rintro e' w1 ⟨rfl, R1, G1⟩
    replace B1 := B1.kept G1 ne1
    replace B2 := B2.kept G1 ne2
    have hs2 := G1.size
    replace G1 := G0.trans G1
    have B3 := Blk.new w1 zs 36
    have T3 := B3.there 0 26 (by rw [HZL.out]; omega)
    have S3 := B3.wholeT (ds := xs) (by rw [HXL.out, HZL.out])
    have LE3 : Le w1 (World.setCells (w1.alloc (.cells zs.toArray 36)) w1.heap.size 0 xs) := below_sets (Nat.le_refl _) _ 0 ((Below.refl w1.heap.size w1).alloc (Nat.le_refl _) _)
    obtain ⟨gC, hgC⟩ : ∃ z, z = w1.heap.size := ⟨_, rfl⟩
    rw [← hgC] at T3 S3 LE3 hs2
    have HG3 := hid hgC
    clear hgC B3 x0 R0 G0
    go_wp2_with (first
      | (rw [← HZ.out, ← HG3.out]
         refine wpList_store_mid rfl 36 (.tmp 3) (.tmp 10) rfl gC 0 xs.toArray rfl (by rw [HXS.out]; rfl) (by simpa [HXL.out] using T3) (by simpa [HXL.out] using info_patch) hone ?_
         simp only [Act.put]
         generalize hw3 : World.setCells _ gC 0 xs.toArray.toList = w3
         have S3' : Blk w3 gC (pcells (x.toNat : Int) 0 zeros) := by rw [← HXS.out]; exact hw3 ▸ S3
         have LE3' : Le w1 w3 := hw3 ▸ LE3
         have q3 : w3.cell? ⟨gC, 0, none⟩ = some (.int .u32 (x.toNat : Int)) := S3'.cell rfl
         clear hw3 T3 S3 LE3)
      | fail)
    refine (HLB.out _).mono ?_
    rintro e' w3' ⟨rfl, rfl⟩
    have R3 := R1.later LE3'
    have X3 := B1.later LE3'
    have B3 := B2.later LE3'
    have G3 := G1.trans (grown_none LE3' _)
    have x3 : w3.cell? ⟨r, 0, none⟩ = some (.pointer (some ⟨g, 0, none⟩)) := X3.cell rfl
    have hgC2 : r + 2 ≤ gC := by omega
    have ne3 : (some g : Option Nat) ≠ some gC := by simp; omega
    clear R1 B1 B2 G1 LE3' hs2 hsz
  · -- no labels
    obtain ⟨p1, p2, p3⟩ := HBV.out.2 trivial
    have R4 : Rd w3 base g l aB eB := by rw [p2, p3]; exact R3
    have S4 : Blk w3 gC (pcells (x.toNat : Int) lab zeros) := by rw [p1]; exact S3'
    have X4 := X3
    have B4 := B3
    have G4 := G3
    have q4 := q3
    have x4 := x3
    clear p1 p2 p3 R3 S3' X3 B3 G3 q3 x3
    obtain ⟨w4, hw4⟩ : ∃ w4, w4 = w3 := ⟨_, rfl⟩
    rw [← hw4] at R4 S4 X4 B4 G4 q4 x4 ⊢
    clear hw4
    go_wp2_with fail
    refine (HFI.out _).mono ?_
    rintro e' w5 ⟨A, c, rfl, O5, hb5⟩
    have R5 := R4.later hb5
    have hC4 := S4.lt
    have S5 := S4.later hb5
    have X5 := X4.later hb5
    have B5 := B4.later hb5
    have G5 := G4.trans (grown_none hb5 _)
    obtain ⟨b5, hbe⟩ : ∃ z, z = w4.heap.size := ⟨_, rfl⟩
    rw [← hbe] at O5 hC4
    clear hbe R4 S4 X4 B4 G4 hb5 q4 x4
    go_wp2_with fail
    go_loopw [23] (fun i wr => ∃ (k a' : Nat) (e' : Int) (f : List V3), k ≤ m ∧ i = .int .i64 k ∧ Rd wr base g l a' e' ∧ Hid (a' ≤ l.length) ∧ Blk wr gC (pcells (x.toNat : Int) lab f) ∧ Hid (f.length = 8) ∧ Blk wr r [.pointer (some ⟨g, 0, none⟩)] ∧ Blk wr (r + 1) zs ∧ Own wr b5 3 (.slice A m c) (ivs L) ∧ Hid (fldsOut false l (L.drop k) f a' e' = FR) ∧ w.grownBy wr (some g)) (fun i _ => m - (intOf i).toNat)
    case atStart => exact ⟨0, aB, eB, zeros, Nat.zero_le _, rfl, R5, HA4, S5, hid zeros_len, X5, B5, O5, hid (by rw [List.drop_zero]; exact HFR.out.symm), G5⟩
    case round =>
      obtain ⟨k, a', e', f, hk, rfl, R, HAt, S, HFL, X, B, O, HQ, G⟩ := hrel
      have hrr : r = w.heap.size := HRS.out
      by_cases hlt : k < m
      · have hkl : k < L.length := by rw [← HLM.out]; exact hlt
        obtain ⟨j, hj, hj8⟩ := HJ.out k hkl
        obtain ⟨b, rfl, hbb, _⟩ := Own.block O (by omega)
        have ck : wr.cell? ⟨b, k, none⟩ = some (.int .i64 (j : Int)) := by
          have h2 := Own.cell O k (by rw [ivs_length]; exact hkl)
          rw [h2]
          simp [ivs, hj]
        have H1 := hid (rd_patchfield base g r gC j hj8 l a' e' (x.toNat : Int) lab f HFL.out wr R HAt.out HM.out S X (by omega) (by omega) (by omega))
        have GO := fun h => fldsOut_go (must := false) (l := l) (f := f) (a := a') (e := e') k hkl h
        have ST := fun h => fldsOut_stop (must := false) (l := l) (f := f) (a := a') (e := e') k hkl h
        rw [hj, Int.toNat_natCast] at GO ST
        have A2 := hid (fldOut_at false l a' e' HAt.out)
        obtain ⟨⟨v, a2, e2⟩, hq⟩ : ∃ q, q = fldOut false l a' e' := ⟨_, rfl⟩
        rw [← hq] at H1 GO ST A2
        simp only at H1 GO ST A2
        have ki : (k : Int) < (m : Int) := by omega
        have hF2 : Hid ((f.set j v).length = 8) := hid (by rw [List.length_set]; exact HFL.out)
        clear hq hj
        by_cases e0 : (e2 == 0) = true
        · have HN : Hid (fldsOut false l (L.drop (k + 1)) (f.set j v) a2 e2 = FR) := hid ((GO e0).symm.trans HQ.out)
          rw [e0] at H1
          clear GO ST e0 hrr hkl
          go_wp2_with fail
          refine H1.out.mono ?_
          rintro x' wn ⟨rfl, Rn, Sn, Tn⟩
          have hrr : r = w.heap.size := HRS.out
          have Xn := Tn.blk X (by omega) (by omega)
          have Bn := Tn.blk B (by omega) (by omega)
          have On := Tn.own O (by omega) (by omega)
          have Gn := Tn.new G (by omega)
          clear R S X B O G Tn hrr
          go_wp2_with fail
          go_roundw
          case rel => exact ⟨k + 1, a2, e2, f.set j v, by omega, by go_num, Rn, A2, Sn, hF2, Xn, Bn, On, HN, Gn⟩
          case measure => simp [intOf]; omega
        · have e1 : (e2 == 0) = false := by simpa using e0
          have ke : (e2 != 0) = true := by simpa using e0
          have HTE : Hid (T = ((0, 0, zeros), a2, e2)) := Lib.hid (by
            have h2 := (ST e1).symm.trans HQ.out
            rw [HT.out, ← h2]
            simp only
            rw [if_neg (by simpa using e0)])
          rw [e1] at H1
          clear GO ST e0 e1 hrr hkl
          go_wp2_with fail
          refine H1.out.mono ?_
          rintro x' wn ⟨rfl, Rn, Sn, Tn⟩
          have hrr : r = w.heap.size := HRS.out
          have Xn := Tn.blk X (by omega) (by omega)
          have Bn := Tn.blk B (by omega) (by omega)
          have Gn := Tn.new G (by omega)
          have xn : wn.cell? ⟨r, 0, none⟩ = some (.pointer (some ⟨g, 0, none⟩)) := Xn.cell rfl
          clear R S X B O G Tn hrr
          go_wp2_with fail
          have hrr : r = w.heap.size := HRS.out
          refine (rd_err base g l a2 e2 wn Rn).mono ?_
          rintro x' w9 ⟨rfl, rfl⟩
          obtain ⟨cs, hcs⟩ : ∃ cs, cs = (pcells 0 0 zeros) := ⟨_, rfl⟩
          have HCL := hid (show cs.length = 26 by rw [hcs]; exact (pcells_len 0 0 zeros_len))
          have hone : ∀ u ∈ cs, u.oneCell' = true := by rw [hcs]; exact pcells_one _ _ _
          have T8 := Bn.there 0 26 (by rw [HZL.out]; omega)
          have FIN := Bn.wholeT (ds := cs) (by rw [HCL.out, HZL.out])
          have O8 : cs.toArray.all (·.oneCell') = true := all_oneCell_toArray hone
          have R9 := Rn.other (grown_sets4 (r + 1) cs 0 wn) (by omega)
          have G9 := grown_new Gn (grown_sets4 (r + 1) cs 0 wn) (by omega)
          have HCS := hid hcs
          clear Sn Rn Bn Gn hrr hcs hone
          go_wp2_with (first
            | (refine wpList_store_mid rfl 36 (.tmp 2) (.tmp 35) rfl (r + 1) 0 cs.toArray rfl (by rw [HCS.out]; rfl) (by simpa [HCL.out] using T8) (by simpa [HCL.out] using info_patch) O8 ?_)
            | fail)
          exact bodyPost_ret (v := .agg cs.toArray) (tok_results (q := 2) rfl _ _ (r + 1) cs _ rfl FIN hu rfl (by rw [HCL.out]; exact info_patch)) rfl ⟨by rw [HTE.out, HCS.out]; rfl, by rw [HTE.out]; exact R9, G9⟩
      · obtain rfl : k = m := by omega
        have hq2 : FR = (f, a', e') := by
          have h2 := HQ.out
          rw [HLM.out, List.drop_length] at h2
          exact h2.symm
        have xn : wr.cell? ⟨r, 0, none⟩ = some (.pointer (some ⟨g, 0, none⟩)) := X.cell rfl
        have HFE := HFL
        by_cases e0 : e' = 0
        · have ke : (e' != 0) = false := by simpa using e0
          have HTE : Hid (T = (((x.toNat : Int), lab, f), a', e')) := Lib.hid (by
            rw [HT.out, hq2]
            simp only
            rw [if_pos e0])
          clear hq2 e0 hrr
          go_wp2_with fail
          have hrr : r = w.heap.size := HRS.out
          refine (rd_err base g l a' e' wr R).mono ?_
          rintro x' w9 ⟨rfl, rfl⟩
          obtain ⟨cs, hcs⟩ : ∃ cs, cs = (pcells (x.toNat : Int) lab f) := ⟨_, rfl⟩
          have HCL := hid (show cs.length = 26 by rw [hcs]; exact (pcells_len (x.toNat : Int) lab HFE.out))
          have hone : ∀ u ∈ cs, u.oneCell' = true := by rw [hcs]; exact pcells_one _ _ _
          have T8 := B.there 0 26 (by rw [HZL.out]; omega)
          have FIN := B.wholeT (ds := cs) (by rw [HCL.out, HZL.out])
          have O8 : cs.toArray.all (·.oneCell') = true := all_oneCell_toArray hone
          rw [← hcs] at S
          have RG := S.range 0 cs (by rw [List.drop_zero, List.take_length])
          have R9 := R.other (grown_sets4 (r + 1) cs 0 wr) (by omega)
          have G9 := grown_new G (grown_sets4 (r + 1) cs 0 wr) (by omega)
          have HCS := hid hcs
          clear S R B G hrr hcs hone
          go_wp2_with (first
            | (refine wpList_load_mid rfl 36 (.tmp 3) rfl gC 0 rfl cs _ RG hu rfl (by rw [HCL.out]; exact info_patch) ?_)
            | (refine wpList_store_mid rfl 36 (.tmp 2) (.tmp 36) rfl (r + 1) 0 cs.toArray rfl rfl (by simpa [HCL.out] using T8) (by simpa [HCL.out] using info_patch) O8 ?_)
            | fail)
          exact bodyPost_ret (v := .agg cs.toArray) (tok_results (q := 2) rfl _ _ (r + 1) cs _ rfl FIN hu rfl (by rw [HCL.out]; exact info_patch)) rfl ⟨by rw [HTE.out, HCS.out]; rfl, by rw [HTE.out]; exact R9, G9⟩
        · have ke : (e' != 0) = true := by simpa using e0
          have HTE : Hid (T = ((0, 0, zeros), a', e')) := Lib.hid (by
            rw [HT.out, hq2]
            simp only
            rw [if_neg e0])
          clear hq2 e0 hrr
          go_wp2_with fail
          have hrr : r = w.heap.size := HRS.out
          refine (rd_err base g l a' e' wr R).mono ?_
          rintro x' w9 ⟨rfl, rfl⟩
          obtain ⟨cs, hcs⟩ : ∃ cs, cs = (pcells 0 0 zeros) := ⟨_, rfl⟩
          have HCL := hid (show cs.length = 26 by rw [hcs]; exact (pcells_len 0 0 zeros_len))
          have hone : ∀ u ∈ cs, u.oneCell' = true := by rw [hcs]; exact pcells_one _ _ _
          have T8 := B.there 0 26 (by rw [HZL.out]; omega)
          have FIN := B.wholeT (ds := cs) (by rw [HCL.out, HZL.out])
          have O8 : cs.toArray.all (·.oneCell') = true := all_oneCell_toArray hone
          have R9 := R.other (grown_sets4 (r + 1) cs 0 wr) (by omega)
          have G9 := grown_new G (grown_sets4 (r + 1) cs 0 wr) (by omega)
          have HCS := hid hcs
          clear S R B G hrr hcs hone
          go_wp2_with (first
            | (refine wpList_store_mid rfl 36 (.tmp 2) (.tmp 35) rfl (r + 1) 0 cs.toArray rfl (by rw [HCS.out]; rfl) (by simpa [HCL.out] using T8) (by simpa [HCL.out] using info_patch) O8 ?_)
            | fail)
          exact bodyPost_ret (v := .agg cs.toArray) (tok_results (q := 2) rfl _ _ (r + 1) cs _ rfl FIN hu rfl (by rw [HCL.out]; exact info_patch)) rfl ⟨by rw [HTE.out, HCS.out]; rfl, by rw [HTE.out]; exact R9, G9⟩
  · obtain ⟨p1, p2, p3⟩ := HBV.out.1 trivial
    have HP := hid (And.intro p1 (And.intro p2 p3))
    clear p1 p2 p3
    go_wp2_with fail
    refine (HC.out _ R3).mono ?_
    rintro e' wy ⟨rfl, Ry, Gy⟩
    have Sy := S3'.kept Gy ne3
    have Xy := (X3.kept Gy ne1).setOther (b := gC) 1 (.int .u32 labC) (by omega)
    have By := (B3.kept Gy ne2).setOther (b := gC) 1 (.int .u32 labC) (by omega)
    have fy := Sy.frozen 1
    have qy : wy.cell? ⟨gC, 1, none⟩ = some (.int .u32 0) := Sy.cell rfl
    have S4 : Blk (wy.setCell ⟨gC, 1, none⟩ (.int .u32 labC)) gC (pcells (x.toNat : Int) labC zeros) := Sy.set 1 _
    have R4 := Ry.other (grown_set1 wy gC 1 (.int .u32 labC)) (by omega)
    have hrr : r = w.heap.size := HRS.out
    have G4 := grown_new (G3.trans Gy) (grown_set1 wy gC 1 (.int .u32 labC)) (by omega)
    clear R3 S3' X3 B3 G3 q3 x3 Ry Gy Sy hrr
    have q4 : (wy.setCell ⟨gC, 1, none⟩ (.int .u32 labC)).cell? ⟨gC, 0, none⟩ = some (.int .u32 (x.toNat : Int)) := S4.cell rfl
    have x4 : (wy.setCell ⟨gC, 1, none⟩ (.int .u32 labC)).cell? ⟨r, 0, none⟩ = some (.pointer (some ⟨g, 0, none⟩)) := Xy.cell rfl
    go_wp2_with fail
    obtain ⟨w4, hw4⟩ : ∃ w4, w4 = wy.setCell ⟨gC, 1, none⟩ (.int .u32 labC) := ⟨_, rfl⟩
    rw [← hw4] at S4 R4 Xy By G4 q4 x4 ⊢
    clear hw4 fy qy
    have X4 := Xy
    have B4 := By
    rw [← HP.out.2.1, ← HP.out.2.2] at R4
    rw [← HP.out.1] at S4
    clear Xy By
    refine (HFI.out _).mono ?_
    rintro e' w5 ⟨A, c, rfl, O5, hb5⟩
    have R5 := R4.later hb5
    have hC4 := S4.lt
    have S5 := S4.later hb5
    have X5 := X4.later hb5
    have B5 := B4.later hb5
    have G5 := G4.trans (grown_none hb5 _)
    obtain ⟨b5, hbe⟩ : ∃ z, z = w4.heap.size := ⟨_, rfl⟩
    rw [← hbe] at O5 hC4
    clear hbe R4 S4 X4 B4 G4 hb5 q4 x4
    go_wp2_with fail
    go_loopw [23] (fun i wr => ∃ (k a' : Nat) (e' : Int) (f : List V3), k ≤ m ∧ i = .int .i64 k ∧ Rd wr base g l a' e' ∧ Hid (a' ≤ l.length) ∧ Blk wr gC (pcells (x.toNat : Int) lab f) ∧ Hid (f.length = 8) ∧ Blk wr r [.pointer (some ⟨g, 0, none⟩)] ∧ Blk wr (r + 1) zs ∧ Own wr b5 3 (.slice A m c) (ivs L) ∧ Hid (fldsOut false l (L.drop k) f a' e' = FR) ∧ w.grownBy wr (some g)) (fun i _ => m - (intOf i).toNat)
    case atStart => exact ⟨0, aB, eB, zeros, Nat.zero_le _, rfl, R5, HA4, S5, hid zeros_len, X5, B5, O5, hid (by rw [List.drop_zero]; exact HFR.out.symm), G5⟩
    case round =>
      obtain ⟨k, a', e', f, hk, rfl, R, HAt, S, HFL, X, B, O, HQ, G⟩ := hrel
      have hrr : r = w.heap.size := HRS.out
      by_cases hlt : k < m
      · have hkl : k < L.length := by rw [← HLM.out]; exact hlt
        obtain ⟨j, hj, hj8⟩ := HJ.out k hkl
        obtain ⟨b, rfl, hbb, _⟩ := Own.block O (by omega)
        have ck : wr.cell? ⟨b, k, none⟩ = some (.int .i64 (j : Int)) := by
          have h2 := Own.cell O k (by rw [ivs_length]; exact hkl)
          rw [h2]
          simp [ivs, hj]
        have H1 := hid (rd_patchfield base g r gC j hj8 l a' e' (x.toNat : Int) lab f HFL.out wr R HAt.out HM.out S X (by omega) (by omega) (by omega))
        have GO := fun h => fldsOut_go (must := false) (l := l) (f := f) (a := a') (e := e') k hkl h
        have ST := fun h => fldsOut_stop (must := false) (l := l) (f := f) (a := a') (e := e') k hkl h
        rw [hj, Int.toNat_natCast] at GO ST
        have A2 := hid (fldOut_at false l a' e' HAt.out)
        obtain ⟨⟨v, a2, e2⟩, hq⟩ : ∃ q, q = fldOut false l a' e' := ⟨_, rfl⟩
        rw [← hq] at H1 GO ST A2
        simp only at H1 GO ST A2
        have ki : (k : Int) < (m : Int) := by omega
        have hF2 : Hid ((f.set j v).length = 8) := hid (by rw [List.length_set]; exact HFL.out)
        clear hq hj
        by_cases e0 : (e2 == 0) = true
        · have HN : Hid (fldsOut false l (L.drop (k + 1)) (f.set j v) a2 e2 = FR) := hid ((GO e0).symm.trans HQ.out)
          rw [e0] at H1
          clear GO ST e0 hrr hkl
          go_wp2_with fail
          refine H1.out.mono ?_
          rintro x' wn ⟨rfl, Rn, Sn, Tn⟩
          have hrr : r = w.heap.size := HRS.out
          have Xn := Tn.blk X (by omega) (by omega)
          have Bn := Tn.blk B (by omega) (by omega)
          have On := Tn.own O (by omega) (by omega)
          have Gn := Tn.new G (by omega)
          clear R S X B O G Tn hrr
          go_wp2_with fail
          go_roundw
          case rel => exact ⟨k + 1, a2, e2, f.set j v, by omega, by go_num, Rn, A2, Sn, hF2, Xn, Bn, On, HN, Gn⟩
          case measure => simp [intOf]; omega
        · have e1 : (e2 == 0) = false := by simpa using e0
          have ke : (e2 != 0) = true := by simpa using e0
          have HTE : Hid (T = ((0, 0, zeros), a2, e2)) := Lib.hid (by
            have h2 := (ST e1).symm.trans HQ.out
            rw [HT.out, ← h2]
            simp only
            rw [if_neg (by simpa using e0)])
          rw [e1] at H1
          clear GO ST e0 e1 hrr hkl
          go_wp2_with fail
          refine H1.out.mono ?_
          rintro x' wn ⟨rfl, Rn, Sn, Tn⟩
          have hrr : r = w.heap.size := HRS.out
          have Xn := Tn.blk X (by omega) (by omega)
          have Bn := Tn.blk B (by omega) (by omega)
          have Gn := Tn.new G (by omega)
          have xn : wn.cell? ⟨r, 0, none⟩ = some (.pointer (some ⟨g, 0, none⟩)) := Xn.cell rfl
          clear R S X B O G Tn hrr
          go_wp2_with fail
          have hrr : r = w.heap.size := HRS.out
          refine (rd_err base g l a2 e2 wn Rn).mono ?_
          rintro x' w9 ⟨rfl, rfl⟩
          obtain ⟨cs, hcs⟩ : ∃ cs, cs = (pcells 0 0 zeros) := ⟨_, rfl⟩
          have HCL := hid (show cs.length = 26 by rw [hcs]; exact (pcells_len 0 0 zeros_len))
          have hone : ∀ u ∈ cs, u.oneCell' = true := by rw [hcs]; exact pcells_one _ _ _
          have T8 := Bn.there 0 26 (by rw [HZL.out]; omega)
          have FIN := Bn.wholeT (ds := cs) (by rw [HCL.out, HZL.out])
          have O8 : cs.toArray.all (·.oneCell') = true := all_oneCell_toArray hone
          have R9 := Rn.other (grown_sets4 (r + 1) cs 0 wn) (by omega)
          have G9 := grown_new Gn (grown_sets4 (r + 1) cs 0 wn) (by omega)
          have HCS := hid hcs
          clear Sn Rn Bn Gn hrr hcs hone
          go_wp2_with (first
            | (refine wpList_store_mid rfl 36 (.tmp 2) (.tmp 35) rfl (r + 1) 0 cs.toArray rfl (by rw [HCS.out]; rfl) (by simpa [HCL.out] using T8) (by simpa [HCL.out] using info_patch) O8 ?_)
            | fail)
          exact bodyPost_ret (v := .agg cs.toArray) (tok_results (q := 2) rfl _ _ (r + 1) cs _ rfl FIN hu rfl (by rw [HCL.out]; exact info_patch)) rfl ⟨by rw [HTE.out, HCS.out]; rfl, by rw [HTE.out]; exact R9, G9⟩
      · obtain rfl : k = m := by omega
        have hq2 : FR = (f, a', e') := by
          have h2 := HQ.out
          rw [HLM.out, List.drop_length] at h2
          exact h2.symm
        have xn : wr.cell? ⟨r, 0, none⟩ = some (.pointer (some ⟨g, 0, none⟩)) := X.cell rfl
        have HFE := HFL
        by_cases e0 : e' = 0
        · have ke : (e' != 0) = false := by simpa using e0
          have HTE : Hid (T = (((x.toNat : Int), lab, f), a', e')) := Lib.hid (by
            rw [HT.out, hq2]
            simp only
            rw [if_pos e0])
          clear hq2 e0 hrr
          go_wp2_with fail
          have hrr : r = w.heap.size := HRS.out
          refine (rd_err base g l a' e' wr R).mono ?_
          rintro x' w9 ⟨rfl, rfl⟩
          obtain ⟨cs, hcs⟩ : ∃ cs, cs = (pcells (x.toNat : Int) lab f) := ⟨_, rfl⟩
          have HCL := hid (show cs.length = 26 by rw [hcs]; exact (pcells_len (x.toNat : Int) lab HFE.out))
          have hone : ∀ u ∈ cs, u.oneCell' = true := by rw [hcs]; exact pcells_one _ _ _
          have T8 := B.there 0 26 (by rw [HZL.out]; omega)
          have FIN := B.wholeT (ds := cs) (by rw [HCL.out, HZL.out])
          have O8 : cs.toArray.all (·.oneCell') = true := all_oneCell_toArray hone
          rw [← hcs] at S
          have RG := S.range 0 cs (by rw [List.drop_zero, List.take_length])
          have R9 := R.other (grown_sets4 (r + 1) cs 0 wr) (by omega)
          have G9 := grown_new G (grown_sets4 (r + 1) cs 0 wr) (by omega)
          have HCS := hid hcs
          clear S R B G hrr hcs hone
          go_wp2_with (first
            | (refine wpList_load_mid rfl 36 (.tmp 3) rfl gC 0 rfl cs _ RG hu rfl (by rw [HCL.out]; exact info_patch) ?_)
            | (refine wpList_store_mid rfl 36 (.tmp 2) (.tmp 36) rfl (r + 1) 0 cs.toArray rfl rfl (by simpa [HCL.out] using T8) (by simpa [HCL.out] using info_patch) O8 ?_)
            | fail)
          exact bodyPost_ret (v := .agg cs.toArray) (tok_results (q := 2) rfl _ _ (r + 1) cs _ rfl FIN hu rfl (by rw [HCL.out]; exact info_patch)) rfl ⟨by rw [HTE.out, HCS.out]; rfl, by rw [HTE.out]; exact R9, G9⟩
        · have ke : (e' != 0) = true := by simpa using e0
          have HTE : Hid (T = ((0, 0, zeros), a', e')) := Lib.hid (by
            rw [HT.out, hq2]
            simp only
            rw [if_neg e0])
          clear hq2 e0 hrr
          go_wp2_with fail
          have hrr : r = w.heap.size := HRS.out
          refine (rd_err base g l a' e' wr R).mono ?_
          rintro x' w9 ⟨rfl, rfl⟩
          obtain ⟨cs, hcs⟩ : ∃ cs, cs = (pcells 0 0 zeros) := ⟨_, rfl⟩
          have HCL := hid (show cs.length = 26 by rw [hcs]; exact (pcells_len 0 0 zeros_len))
          have hone : ∀ u ∈ cs, u.oneCell' = true := by rw [hcs]; exact pcells_one _ _ _
          have T8 := B.there 0 26 (by rw [HZL.out]; omega)
          have FIN := B.wholeT (ds := cs) (by rw [HCL.out, HZL.out])
          have O8 : cs.toArray.all (·.oneCell') = true := all_oneCell_toArray hone
          have R9 := R.other (grown_sets4 (r + 1) cs 0 wr) (by omega)
          have G9 := grown_new G (grown_sets4 (r + 1) cs 0 wr) (by omega)
          have HCS := hid hcs
          clear S R B G hrr hcs hone
          go_wp2_with (first
            | (refine wpList_store_mid rfl 36 (.tmp 2) (.tmp 35) rfl (r + 1) 0 cs.toArray rfl (by rw [HCS.out]; rfl) (by simpa [HCL.out] using T8) (by simpa [HCL.out] using info_patch) O8 ?_)
            | fail)
          exact bodyPost_ret (v := .agg cs.toArray) (tok_results (q := 2) rfl _ _ (r + 1) cs _ rfl FIN hu rfl (by rw [HCL.out]; exact info_patch)) rfl ⟨by rw [HTE.out, HCS.out]; rfl, by rw [HTE.out]; exact R9, G9⟩
end Go.Proofs.YtnhcjadkbogioaaGreat
