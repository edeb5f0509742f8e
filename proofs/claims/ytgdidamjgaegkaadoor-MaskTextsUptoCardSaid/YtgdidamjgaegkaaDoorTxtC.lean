/- mask.Read of any text: what it returns. -/
import Derived.Test.YtgdidamjgaegkaaDoorTxtB
namespace Go.Proofs.YtgdidamjgaegkaaDoor
set_option linter.unusedVariables false
open Go Go.RowKit BitM MskM

theorem num_more (l : List UInt8) : ∀ n : Nat, 1 ≤ n → l ≠ [] → 10 ≤ l.foldl (fun n c => 10 * n + (c.toNat - 48)) n := by
  induction l with
  | nil => intro n _ h; exact absurd rfl h
  | cons x l ih =>
    intro n hn _
    rw [List.foldl_cons]
    rcases l with _ | ⟨y, l⟩
    · simp only [List.foldl_nil]; omega
    · exact ih _ (by omega) (by simp)
def askv (l : List UInt8) : Nat := (askP l).getD 1
theorem mk_fin : ∀ k, k < 8 → (mkm false [((k : Nat) : Int)]).toNat = 2 ^ k := by decide +kernel
theorem pint_ask (l : List UInt8) (h : l ≠ [108]) : (pint l 7).2 = (askP l).isSome ∧ (mkm false [(pint l 7).1]).toNat = askv l := by
  match l with
  | [] => exact ⟨by simp [pint, askP], by simp only [pint, true_or, if_true, askv, askP]; exact mk_fin 0 (by omega)⟩
  | [c] =>
    have hc : c ≠ 108 := fun e => h (by rw [e])
    by_cases hd : 48 ≤ c.toNat ∧ c.toNat < 56
    · have hp : pint [c] 7 = (((c.toNat - 48 : Nat) : Int), true) := by
        have hn : num [c] = c.toNat - 48 := by simp [num]
        unfold pint
        rw [if_neg, hn]
        rintro (h | h | h | h | h)
        · cases h
        · simp at h
        · simp at h
        · simp only [List.all_cons, List.all_nil, Bool.and_true, dig] at h
          rw [decide_eq_true hd.1, decide_eq_true (by omega)] at h
          cases h
        · rw [hn] at h; omega
      have ha : askP [c] = some (2 ^ (c.toNat - 48)) := by simp only [askP]; rw [if_neg hc, if_pos hd]
      rw [hp]
      unfold askv
      rw [ha]
      exact ⟨rfl, mk_fin (c.toNat - 48) (by omega)⟩
    · have hp : pint [c] 7 = (0, false) := by
        unfold pint
        rw [if_pos]
        by_cases hg : dig c = true
        · refine Or.inr (Or.inr (Or.inr (Or.inr ?_)))
          have hn : num [c] = c.toNat - 48 := by simp [num]
          unfold dig at hg
          simp only [Bool.and_eq_true, decide_eq_true_eq] at hg
          rw [hn]; omega
        · exact Or.inr (Or.inr (Or.inr (Or.inl (by simp [hg]))))
      have ha : askP [c] = none := by simp only [askP]; rw [if_neg hc, if_neg hd]
      rw [hp]
      unfold askv
      rw [ha]
      exact ⟨rfl, mk_fin 0 (by omega)⟩
  | c :: d :: r =>
    have hp : pint (c :: d :: r) 7 = (0, false) := by
      unfold pint
      rw [if_pos]
      by_cases hg : (c :: d :: r).all dig = true
      · by_cases h0 : c = 48
        · exact Or.inr (Or.inr (Or.inl ⟨by simp, h0⟩))
        · refine Or.inr (Or.inr (Or.inr (Or.inr ?_)))
          have hc : 1 ≤ c.toNat - 48 := by
            simp only [List.all_cons, Bool.and_eq_true, dig, decide_eq_true_eq] at hg
            have : c.toNat ≠ 48 := fun e => h0 (UInt8.toNat_inj.1 e)
            omega
          have := num_more (d :: r) (c.toNat - 48) hc (by simp)
          have hn : num (c :: d :: r) = (d :: r).foldl (fun n c => 10 * n + (c.toNat - 48)) (c.toNat - 48) := by unfold num; rw [List.foldl_cons, Nat.mul_zero, Nat.zero_add]
          rw [hn]; omega
      · exact Or.inr (Or.inr (Or.inr (Or.inl (by simpa using hg))))
    rw [hp]
    exact ⟨rfl, mk_fin 0 (by omega)⟩

set_option maxRecDepth 100000 in
set_option maxHeartbeats 1600000 in
theorem read1_any (s : ByteArray) (w : World) : Calls Tryd.prog 88 #[.string s] w fun e w' =>
    e = .returned (.tuple #[.int .u32 (askv s.data.toList : Int), .bool (askP s.data.toList).isSome]) ∧ Below w.heap.size w w' := by
  by_cases h : s.data.toList = [108]
  · have HA : Hid (askv s.data.toList = 256 ∧ (askP s.data.toList).isSome = true) := Lib.hid (by rw [h]; exact ⟨rfl, rfl⟩)
    have e0 : s.toList = [108] := by rw [ByteArray.toList_eq]; exact h
    clear h
    go_enter Tryd.func88, Tryd.ntmps88
    go_wp2_with fail
    go_ret2
    exact ⟨by rw [HA.out.1, HA.out.2]; rfl, Below.refl _ _⟩
  · have HA := Lib.hid (pint_ask s.data.toList h)
    have e0 : (s.toList == [108]) = false := by rw [ByteArray.toList_eq, beq_eq_false_iff_ne]; exact h
    have HI := Lib.hid (int_any s 7 w)
    obtain ⟨f, hf⟩ : ∃ f, f = (pint s.data.toList 7).1 := ⟨_, rfl⟩
    obtain ⟨ok, hok⟩ : ∃ ok, ok = (pint s.data.toList 7).2 := ⟨_, rfl⟩
    rw [← hf, ← hok] at HI HA
    have HMK := Lib.hid (make_any false (some ⟨w.heap.size, 0, none⟩) 1 1 [f] (w.alloc (.cells #[.int .i64 f] 3)) (w.heap.size + 1) rfl (sees_lit w #[.int .i64 f] 3 (0, 0) _ rfl) (by omega))
    obtain ⟨v, hv⟩ : ∃ v, v = (mkm false [f]).toNat := ⟨_, rfl⟩
    rw [← hv] at HMK HA
    clear h hf hok hv
    go_enter Tryd.func88, Tryd.ntmps88
    go_wp2_with fail
    refine HI.out.mono ?_
    rintro e w1 ⟨rfl, rfl⟩
    go_wp2_with fail
    refine HMK.out.mono ?_
    rintro e w1 ⟨rfl, rfl⟩
    go_wp2_with fail
    go_ret2
    exact ⟨by rw [← HA.out.1, ← HA.out.2]; rfl, (Below.refl _ _).alloc (Nat.le_refl _) _⟩

def gout (ps : List (List UInt8)) (m : Nat) : Nat × Bool := match gath ps m with
  | some m => (m, true)
  | none => (0, false)
theorem or_nat (a b : Nat) (ha : a < 512) (hb : b < 512) : bits .or .u32 (a : Int) (b : Int) = ((a ||| b : Nat) : Int) := by
  have h := BitM.u32_or (BitVec.ofNat 32 a) (BitVec.ofNat 32 b)
  rw [BitVec.toNat_or, BitVec.toNat_ofNat, BitVec.toNat_ofNat, Nat.mod_eq_of_lt (by omega), Nat.mod_eq_of_lt (by omega)] at h
  exact h
theorem ask_lt {p : List UInt8} {b : Nat} (h : askP p = some b) : b < 512 := by
  obtain ⟨k, hk, rfl, _⟩ := askP_tok h
  exact Nat.lt_of_le_of_lt (Nat.pow_le_pow_right (by omega) (by omega : k ≤ 8)) (by omega)
theorem or_lt {a b : Nat} (ha : a < 512) (hb : b < 512) : a ||| b < 512 := Nat.or_lt_two_pow (n := 9) ha hb

set_option maxRecDepth 100000 in
set_option maxHeartbeats 3200000 in
theorem gather_any (s : ByteArray) (mm : Int) (w : World) (hs : s.size < 4294967281) (hmm : w.cell? ⟨0, 0, none⟩ = some (.int .i64 mm)) :
    Calls Tryd.prog 87 #[.string s, .func (.func 88) #[] #[]] w fun e w' =>
      e = .returned (.tuple #[.int .u32 ((gout (parts 44 s.data.toList) 0).1 : Int), .bool (gout (parts 44 s.data.toList) 0).2]) ∧ Below w.heap.size w w' := by
  have HSP := Lib.hid (Tryd.strings_Split s { data := #[44] } mm w hs hmm (by decide))
  have HD := Lib.hid (split_data 44 s)
  have hcl : Lib.countB s { data := #[44] } ≤ s.size := Lib.countB_le _ (by decide) _ s (Nat.le_refl _)
  have HLN : Hid ((Lib.splitB { data := #[44] } 0 (Lib.countB s { data := #[44] }) s).length = Lib.countB s { data := #[44] } + 1) := Lib.hid (Lib.splitB_all _ (by decide) 0 _ s rfl)
  obtain ⟨ps, hps⟩ : ∃ ps, ps = Lib.splitB { data := #[44] } 0 (Lib.countB s { data := #[44] }) s := ⟨_, rfl⟩
  rw [← hps] at HSP HD HLN
  obtain ⟨q, hq⟩ : ∃ q, q = Lib.countB s { data := #[44] } := ⟨_, rfl⟩
  rw [← hq] at HSP HLN hcl
  obtain ⟨T, hT⟩ : ∃ T, T = parts 44 s.data.toList := ⟨_, rfl⟩
  rw [← hT] at HD ⊢
  have hq1 : q + 1 ≤ 4294967281 := by omega
  clear hps hq hT hs hmm hcl
  go_enter Tryd.func87, Tryd.ntmps87
  go_wp2_with fail
  refine HSP.out.mono ?_
  rintro e w1 ⟨rfl, hw1⟩
  have hb1 : Below w.heap.size w w1 := by rw [hw1]; exact (Below.refl _ _).alloc (Nat.le_refl _) _
  have hcell : ∀ k (hk : k < ps.length), w1.cell? ⟨w.heap.size, k, none⟩ = some (.string ps[k]) := fun k hk => by
    rw [hw1]
    have e1 : (w.alloc (.cells (ps.map Value.string).toArray 9)).heap[w.heap.size]? = some (.cells (ps.map Value.string).toArray 9) := heap_alloc_new w _
    simp only [World.cell?, e1]
    simp [hk]
  have hsz : w.heap.size < w1.heap.size := by rw [hw1]; simp
  have HC := Lib.hid hcell
  clear hw1 hcell
  go_wp2_with fail
  go_loopw [6, 14] (fun m i wr => ∃ k z : Nat, k ≤ q + 1 ∧ i = .int .i64 k ∧ m = .int .u32 z ∧ z < 512 ∧ Hid (gath T 0 = gath (T.drop k) z) ∧ Below w.heap.size w wr ∧ Below w1.heap.size w1 wr) (fun _ i _ => q + 1 - (intOf i).toNat)
  case atStart => exact ⟨0, 0, by omega, rfl, rfl, by omega, Lib.hid rfl, hb1, Below.refl _ _⟩
  case round =>
    obtain ⟨k, z, hk, rfl, rfl, hz, HG, hbr, hbw⟩ := hrel
    by_cases hlt : k < q + 1
    · have hkp : k < ps.length := by rw [HLN.out]; exact hlt
      have hc : wr.cell? ⟨w.heap.size, k, none⟩ = some (.string ps[k]) := (hbw.cell (p := ⟨w.heap.size, k, none⟩) hsz).trans (HC.out k hkp)
      have hkT : k < T.length := by rw [← HD.out, List.length_map]; exact hkp
      have hTk : T[k] = (ps[k]).data.toList := by simp only [← HD.out, List.getElem_map]
      obtain ⟨p, hp⟩ : ∃ p, p = ps[k] := ⟨_, rfl⟩
      rw [← hp] at hc hTk
      have HR := Lib.hid (fun wx : World => read1_any p wx)
      have HG1 : Hid (gath T 0 = match askP p.data.toList with
        | none => none
        | some b => if b ≤ z then none else gath (T.drop (k + 1)) (z ||| b)) := Lib.hid (by
          rw [HG.out, List.drop_eq_getElem_cons hkT, hTk]; rfl)
      clear hp hTk hkT hkp
      cases ha : askP p.data.toList with
      | none =>
        rw [ha] at HG1 HR
        have HO : Hid (gout T 0 = (0, false)) := Lib.hid (by unfold gout; rw [HG1.out])
        clear ha
        go_wp2_with fail
        refine (HR.out _).mono ?_
        rintro e w4 ⟨rfl, hb4⟩
        have hb5 := hbr.trans (hb4.mono hbr.size)
        go_wp2_with fail
        go_ret2
        exact ⟨by rw [HO.out]; rfl, hb5⟩
      | some b =>
        have hbl := ask_lt ha
        have HV : Hid (askv p.data.toList = b) := Lib.hid (by unfold askv; rw [ha]; rfl)
        rw [ha, HV.out] at HR
        rw [ha] at HG1
        have HOR := or_nat z b hz hbl
        have hol := or_lt hz hbl
        obtain ⟨zb, hzb⟩ : ∃ zb, zb = z ||| b := ⟨_, rfl⟩
        simp only [← hzb] at HG1 HOR hol
        clear ha hzb
        by_cases hle : b ≤ z
        · have HO : Hid (gout T 0 = (0, false)) := Lib.hid (by unfold gout; rw [HG1.out]; simp only [if_pos hle])
          have hle' : (b : Int) ≤ (z : Int) := by omega
          clear hle
          go_wp2_with fail
          refine (HR.out _).mono ?_
          rintro e w4 ⟨rfl, hb4⟩
          have hb5 := hbr.trans (hb4.mono hbr.size)
          go_wp2_with fail
          go_ret2
          exact ⟨by rw [HO.out]; rfl, hb5⟩
        · have HO : Hid (gath T 0 = gath (T.drop (k + 1)) zb) := Lib.hid (by rw [HG1.out]; simp only [if_neg hle])
          have hle' : (z : Int) < (b : Int) := by omega
          clear hle
          go_wp2_with fail
          refine (HR.out _).mono ?_
          rintro e w4 ⟨rfl, hb4⟩
          have hb5 := hbr.trans (hb4.mono hbr.size)
          have hb6 := hbw.trans (hb4.mono hbw.size)
          go_wp2_with fail
          go_roundw
          case rel => exact ⟨k + 1, zb, by omega, by go_num, rfl, hol, HO, hb5, hb6⟩
          case measure => simp [intOf]; omega
    · obtain rfl : k = q + 1 := by omega
      have HO : Hid (gout T 0 = (z, true)) := Lib.hid (by
        unfold gout
        rw [HG.out, List.drop_eq_nil_of_le (by rw [← HD.out, List.length_map, HLN.out]; omega)]
        rfl)
      go_wp2_with fail
      go_ret2
      exact ⟨by rw [HO.out]; rfl, hbr⟩

theorem mread_any (s : ByteArray) (mm : Int) (w : World) (hs : s.size < 4294967281) (hmm : w.cell? ⟨0, 0, none⟩ = some (.int .i64 mm)) :
    Calls Tryd.prog 65 #[.string s] w fun e w' =>
      e = .returned (.tuple #[.int .u32 ((mout s.data.toList).1 : Int), .bool (mout s.data.toList).2]) ∧ Below w.heap.size w w' := by
  have HG := Lib.hid (gather_any s mm w hs hmm)
  clear hs hmm
  by_cases h : s.data.toList = [45]
  · have HO : Hid (mout s.data.toList = (0, true)) := Lib.hid (by unfold mout mrd; rw [if_pos h])
    have e0 : s.toList = [45] := by rw [ByteArray.toList_eq]; exact h
    clear h
    go_enter Tryd.func65, Tryd.ntmps65
    go_wp2_with fail
    go_ret2
    exact ⟨by rw [HO.out]; rfl, Below.refl _ _⟩
  · have HO : Hid (mout s.data.toList = gout (parts 44 s.data.toList) 0) := Lib.hid (by unfold mout mrd gout; rw [if_neg h]; cases gath (parts 44 s.data.toList) 0 <;> rfl)
    have e0 : (s.toList == [45]) = false := by rw [ByteArray.toList_eq, beq_eq_false_iff_ne]; exact h
    clear h
    go_enter Tryd.func65, Tryd.ntmps65
    go_wp2_with fail
    refine HG.out.mono ?_
    rintro e w4 ⟨rfl, hb4⟩
    go_wp2_with fail
    go_ret2
    exact ⟨by rw [HO.out]; rfl, hb4⟩
end Go.Proofs.YtgdidamjgaegkaaDoor
