/- Filters as lists of nodes: which nodes may be, where trees end, how deep they are: mathematics. -/
import Derived.Test.YtnhcjadkbogioaaGreatM4
import Derived.Test.YtnhcjadkbogioaaGreatM3
import Derived.Test.YtnhcjadkbogioaaGreatM9
set_option maxRecDepth 100000
set_option maxHeartbeats 3200000
namespace Go.Proofs.YtnhcjadkbogioaaGreat
set_option linter.unusedVariables false
set_option linter.unusedSimpArgs false
open Go Go.RowKit
abbrev Nd := Int × Int × V3
def ncells (n : Nd) : List Value := [.int .i64 n.1, .int .i64 n.2.1, .int .i64 n.2.2.1, .int .i64 n.2.2.2.1, .string n.2.2.2.2]
def ncs (l : List Nd) : List Value := l.flatMap ncells
theorem ncells_len (n : Nd) : (ncells n).length = 5 := rfl
theorem ncs_cons (n : Nd) (l : List Nd) : ncs (n :: l) = ncells n ++ ncs l := rfl
theorem ncs_append (l m : List Nd) : ncs (l ++ m) = ncs l ++ ncs m := by simp [ncs]
theorem ncs_len (l : List Nd) : (ncs l).length = 5 * l.length := by
  induction l with
  | nil => rfl
  | cons n l ih => rw [ncs_cons, List.length_append, ih, ncells_len, List.length_cons]; omega
theorem ncs_one (l : List Nd) : ∀ u ∈ ncs l, u.oneCell' = true := by
  intro u hu
  simp only [ncs, List.mem_flatMap, ncells] at hu
  obtain ⟨v, _, hv⟩ := hu
  simp at hv
  rcases hv with rfl | rfl | rfl | rfl | rfl <;> rfl
theorem ncs_drop (l : List Nd) (k : Nat) : (ncs l).drop (5 * k) = ncs (l.drop k) := by
  induction l generalizing k with
  | nil => simp [ncs]
  | cons n l ih =>
    cases k with
    | zero => simp
    | succ k =>
      rw [ncs_cons, List.drop_succ_cons, show 5 * (k + 1) = 5 + 5 * k by omega, ← List.drop_drop]
      rw [show (ncells n ++ ncs l).drop 5 = ncs l from by rw [List.drop_append_of_le_length (by simp [ncells])]; simp [ncells]]
      exact ih k
theorem ncs_take (l : List Nd) (k : Nat) : (ncs l).take (5 * k) = ncs (l.take k) := by
  induction l generalizing k with
  | nil => simp [ncs]
  | cons n l ih =>
    cases k with
    | zero => simp [ncs]
    | succ k =>
      rw [ncs_cons, List.take_succ_cons, ncs_cons, show 5 * (k + 1) = (ncells n).length + 5 * k by rw [ncells_len]; omega, List.take_length_add_append, ih k]
theorem ncs_get (l : List Nd) (k : Nat) (h : k < l.length) : ((ncs l).drop (5 * k)).take 5 = ncells l[k] := by
  rw [ncs_drop, List.drop_eq_getElem_cons h, ncs_cons, List.take_append_of_le_length (by simp [ncells])]
  simp [ncells]
def par (op : Int) : Nat := if op = 10 then 1 else if op = 11 ∨ op = 12 then 2 else 0
theorem par_le (op : Int) : par op ≤ 2 := by unfold par; split; · omega
                                             · split <;> omega
def nok (n : Nd) : Bool :=
  if n.1 = 1 ∨ n.1 = 2 ∨ n.1 = 10 ∨ n.1 = 11 ∨ n.1 = 12 then decide (n.2.1 = 0 ∧ n.2.2 = zv)
  else if n.1 = 3 ∨ n.1 = 4 then decide (0 ≤ n.2.1 ∧ n.2.1 < 16 ∧ n.2.2 = zv)
  else if n.1 = 5 then decide (0 ≤ n.2.1 ∧ n.2.1 < 8 ∧ n.2.2 = zv)
  else if n.1 = 6 ∨ n.1 = 7 ∨ n.1 = 8 then decide (0 ≤ n.2.1 ∧ n.2.1 < 8 ∧ vchk n.2.2 = true ∧ n.2.2 ≠ zv)
  else if n.1 = 9 then decide (0 ≤ n.2.1 ∧ n.2.1 < 8 ∧ vchk n.2.2 = true ∧ n.2.2.1 = 2)
  else false
theorem vchk_isz {v : V3} (h : vchk v = true) : v.1 = 0 ↔ v = zv := by
  obtain ⟨k, n, s⟩ := v
  constructor
  · intro hk
    have hk : k = 0 := hk
    subst hk
    rw [vchk_0] at h
    simp only [decide_eq_true_eq, nil_str_iff] at h
    rw [h.1, h.2]
    rfl
  · intro e
    rw [e]
    rfl
def endOf : List Nd → Nat → Option Nat
  | _, 0 => some 0
  | [], _ + 1 => none
  | x :: l, k + 1 => (endOf l (k + par x.1)).map (· + 1)
theorem endOf_zero (l : List Nd) : endOf l 0 = some 0 := by cases l <;> rfl
theorem endOf_cons (x : Nd) (l : List Nd) (k : Nat) : endOf (x :: l) (k + 1) = (endOf l (k + par x.1)).map (· + 1) := rfl
theorem endOf_le : ∀ {l : List Nd} {k m : Nat}, endOf l k = some m → m ≤ l.length
  | l, 0, m, h => by rw [endOf_zero] at h; cases h; omega
  | [], k + 1, m, h => by cases h
  | x :: l, k + 1, m, h => by
    rw [endOf_cons, Option.map_eq_some_iff] at h
    obtain ⟨m', h', rfl⟩ := h
    have := endOf_le h'
    simp; omega
def endAt (l : List Nd) (at_ : Int) : Int := if at_ < 0 then -1 else match endOf (l.drop at_.toNat) 1 with
  | some m => at_ + m
  | none => -1
theorem endAt_nat (l : List Nd) (j : Nat) : endAt l (j : Int) = match endOf (l.drop j) 1 with
    | some m => (j : Int) + m
    | none => -1 := by
  unfold endAt
  rw [if_neg (by omega)]
  simp
theorem endAt_neg (l : List Nd) (j : Int) (h : j < 0) : endAt l j = -1 := by unfold endAt; rw [if_pos h]
def Wood (l : List Nd) (k : Nat) : Prop := endOf l k = some l.length
instance (l : List Nd) (k : Nat) : Decidable (Wood l k) := inferInstanceAs (Decidable (_ = _))
theorem wood_nil : Wood [] 0 := rfl
theorem wood_cons {x : Nd} {l : List Nd} {k : Nat} (h : Wood (x :: l) k) : ∃ j, k = j + 1 ∧ Wood l (j + par x.1) := by
  cases k with
  | zero => unfold Wood at h; rw [endOf_zero] at h; simp at h
  | succ j =>
    refine ⟨j, rfl, ?_⟩
    unfold Wood at h ⊢
    rw [endOf_cons, Option.map_eq_some_iff] at h
    obtain ⟨m, h1, h2⟩ := h
    simp at h2
    rw [h1, h2]
theorem wood_mk {x : Nd} {l : List Nd} {k : Nat} (h : Wood l (k + par x.1)) : Wood (x :: l) (k + 1) := by
  unfold Wood at h ⊢
  rw [endOf_cons, h]
  rfl
theorem wood_drop {l : List Nd} {k : Nat} (h : Wood l k) (j : Nat) (hj : j ≤ l.length) : ∃ k', Wood (l.drop j) k' := by
  induction j generalizing l k with
  | zero => exact ⟨k, h⟩
  | succ j ih =>
    cases l with
    | nil => simp at hj
    | cons x l =>
      obtain ⟨i, _, h'⟩ := wood_cons h
      exact ih h' (by simpa using hj)
theorem wood_uniq {l : List Nd} {k k' : Nat} (h : Wood l k) (h' : Wood l k') : k = k' := by
  induction l generalizing k k' with
  | nil =>
    cases k with
    | zero => cases k' with
      | zero => rfl
      | succ _ => cases h'
    | succ _ => cases h
  | cons x l ih =>
    obtain ⟨j, rfl, h1⟩ := wood_cons h
    obtain ⟨j', rfl, h1'⟩ := wood_cons h'
    have := ih h1 h1'
    omega
theorem endOf_split {l : List Nd} : ∀ (j k m : Nat), endOf l (j + k) = some m → ∃ m1, endOf l j = some m1 ∧ Wood (l.take m1) j ∧ m1 ≤ m ∧ endOf (l.drop m1) k = some (m - m1) := by
  induction l with
  | nil =>
    intro j k m h
    cases j with
    | zero => exact ⟨0, rfl, rfl, by omega, by simpa using h⟩
    | succ j => rw [show j + 1 + k = (j + k) + 1 by omega] at h; cases h
  | cons x l ih =>
    intro j k m h
    cases j with
    | zero => exact ⟨0, rfl, by simpa using wood_nil, by omega, by simpa using h⟩
    | succ j =>
      rw [show j + 1 + k = (j + k) + 1 by omega, endOf_cons, Option.map_eq_some_iff] at h
      obtain ⟨m', h1, rfl⟩ := h
      rw [show j + k + par x.1 = (j + par x.1) + k by omega] at h1
      obtain ⟨m1, e1, e2, e3, e4⟩ := ih _ _ _ h1
      refine ⟨m1 + 1, by rw [endOf_cons, e1]; rfl, ?_, by omega, ?_⟩
      · rw [List.take_succ_cons]; exact wood_mk e2
      · rw [List.drop_succ_cons, e4]; congr 1; omega
theorem wood_split {l : List Nd} {j k : Nat} (h : Wood l (j + k)) : ∃ m1, endOf l j = some m1 ∧ m1 ≤ l.length ∧ Wood (l.take m1) j ∧ Wood (l.drop m1) k := by
  obtain ⟨m1, e1, e2, e3, e4⟩ := endOf_split j k _ h
  refine ⟨m1, e1, e3, e2, ?_⟩
  unfold Wood
  rw [e4, List.length_drop]
def stk : List Nd → List Nat
  | [] => []
  | x :: l => (((stk l).take (par x.1)).foldl max 0 + 1) :: (stk l).drop (par x.1)
theorem stk_cons (x : Nd) (l : List Nd) : stk (x :: l) = (((stk l).take (par x.1)).foldl max 0 + 1) :: (stk l).drop (par x.1) := rfl
theorem stk_len {l : List Nd} {k : Nat} (h : Wood l k) : (stk l).length = k := by
  induction l generalizing k with
  | nil => rw [wood_uniq h wood_nil]; rfl
  | cons x l ih =>
    obtain ⟨j, rfl, h1⟩ := wood_cons h
    have := ih h1
    simp [stk, this]
theorem stk_app {a b : List Nd} {k : Nat} (h : Wood a k) : stk (a ++ b) = stk a ++ stk b := by
  induction a generalizing k with
  | nil => rfl
  | cons x a ih =>
    obtain ⟨j, rfl, h1⟩ := wood_cons h
    have hl := stk_len h1
    rw [List.cons_append, stk_cons, stk_cons, ih h1]
    rw [List.take_append_of_le_length (by omega), List.drop_append_of_le_length (by omega)]
    rfl
theorem stk_lt (l : List Nd) : ∀ d ∈ stk l, 1 ≤ d ∧ d ≤ l.length := by
  induction l with
  | nil => simp [stk]
  | cons x l ih =>
    intro d hd
    rw [stk_cons, List.mem_cons] at hd
    rcases hd with rfl | hd
    · have hmax : ∀ (q : List Nat) (a : Nat), (∀ y ∈ q, y ≤ l.length) → a ≤ l.length → q.foldl max a ≤ l.length := by
        intro q
        induction q with
        | nil => intro a _ h; exact h
        | cons y q ihq =>
          intro a hq ha
          refine ihq _ (fun z hz => hq z (List.mem_cons_of_mem _ hz)) ?_
          have := hq y (by simp)
          omega
      have := hmax ((stk l).take (par x.1)) 0 (fun y hy => (ih y (List.mem_of_mem_take hy)).2) (by omega)
      simp only [List.length_cons]
      omega
    · have := ih d (List.mem_of_mem_drop hd)
      simp only [List.length_cons]
      omega
def dep (l : List Nd) : Nat := if Wood l 1 then (stk l).headD 0 else 0
theorem dep_not {l : List Nd} (h : ¬ Wood l 1) : dep l = 0 := by unfold dep; rw [if_neg h]
theorem dep_wood {l : List Nd} (h : Wood l 1) : stk l = [dep l] := by
  unfold dep
  rw [if_pos h]
  have hl := stk_len h
  match hs : stk l, hl with
  | [d], _ => rfl
theorem dep_le (l : List Nd) : dep l ≤ l.length := by
  unfold dep
  split
  · cases hs : stk l with
    | nil => simp
    | cons d q => exact (stk_lt l d (by rw [hs]; simp)).2
  · omega
theorem wood_end (l : List Nd) : endAt l 0 = (l.length : Int) ↔ Wood l 1 := by
  have := endAt_nat l 0
  simp only [Int.ofNat_zero, List.drop_zero, Int.zero_add, Int.natCast_zero] at this
  rw [show endAt l 0 = _ from this]
  unfold Wood
  cases endOf l 1 with
  | none => simp
  | some m => simp; omega
def lchk (l : List Nd) : Int :=
  if 31 < l.length then 4 else if l.all nok = false then 1 else if ¬ Wood l 1 then 1 else if 8 < dep l then 5 else 0
theorem info_node : (Tryz.prog.info? 73).map (·.size) = some 5 := by kernel_rfl
theorem info_val3 : (Tryz.prog.info? 33).map (·.size) = some 3 := by kernel_rfl
theorem parts_any (op : Int) (w : World) : Calls Tryz.prog 94 #[.int .i64 op] w fun e w' => e = .returned (.int .i64 (par op)) ∧ w = w' := by
  by_cases h0 : op = 10
  · subst h0
    go_enter Tryz.func94, Tryz.ntmps94
    go_wp2
    go_ret
    exact ⟨rfl, rfl⟩
  by_cases h1 : op = 11
  · subst h1
    go_enter Tryz.func94, Tryz.ntmps94
    go_wp2
    go_ret
    exact ⟨rfl, rfl⟩
  by_cases h2 : op = 12
  · subst h2
    go_enter Tryz.func94, Tryz.ntmps94
    go_wp2
    go_ret
    exact ⟨rfl, rfl⟩
  have hp : Hid (par op = 0) := hid (by unfold par; simp [h0, h1, h2])
  have b0 : (op == 10) = false := by simpa using h0
  have b1 : (op == 11) = false := by simpa using h1
  have b2 : (op == 12) = false := by simpa using h2
  clear h0 h1 h2
  go_enter Tryz.func94, Tryz.ntmps94
  go_wp2
  go_ret
  exact ⟨by rw [hp.out]; rfl, rfl⟩
theorem rparts_any (op : Int) (w : World) : Calls Tryz.prog 97 #[.int .i64 op] w fun e w' => e = .returned (.int .i64 (par op)) ∧ w = w' := by
  by_cases h0 : op = 10
  · subst h0
    go_enter Tryz.func97, Tryz.ntmps97
    go_wp2
    go_ret
    exact ⟨rfl, rfl⟩
  by_cases h1 : op = 11
  · subst h1
    go_enter Tryz.func97, Tryz.ntmps97
    go_wp2
    go_ret
    exact ⟨rfl, rfl⟩
  by_cases h2 : op = 12
  · subst h2
    go_enter Tryz.func97, Tryz.ntmps97
    go_wp2
    go_ret
    exact ⟨rfl, rfl⟩
  have hp : Hid (par op = 0) := hid (by unfold par; simp [h0, h1, h2])
  have b0 : (op == 10) = false := by simpa using h0
  have b1 : (op == 11) = false := by simpa using h1
  have b2 : (op == 12) = false := by simpa using h2
  clear h0 h1 h2
  go_enter Tryz.func97, Tryz.ntmps97
  go_wp2
  go_ret
  exact ⟨by rw [hp.out]; rfl, rfl⟩
theorem node_1 (m k z : Int) (s : ByteArray) (w : World) :
    Calls Tryz.prog 75 #[.agg #[.int .i64 1, .int .i64 m, .int .i64 k, .int .i64 z, .string s]] w fun e w' => e = .returned (.bool (nok (1, m, k, z, s))) ∧ Below w.heap.size w w' := by
  have HV := hid (fun wx : World => vcheck_any k z s wx)
  have HQ : Hid (∀ wx : World, (Op.equalIn 10000 33 (.agg #[.int .i64 k, .int .i64 z, .string s]) (.agg #[.int .i64 0, .int .i64 0, .string ⟨#[]⟩])).run Tryz.prog wx = .ok (decide ((k, z, s) = zv)) wx) := hid (fun wx => eq_val 9998 (k, z, s) zv wx)
  have B0 := Blk.new w [.int .i64 1, .int .i64 m, .int .i64 k, .int .i64 z, .string s] 73
  have hb0 := (Below.refl w.heap.size w).alloc (Nat.le_refl _) (.cells #[.int .i64 1, .int .i64 m, .int .i64 k, .int .i64 z, .string s] 73)
  have RP := B0.range 2 [.int .i64 k, .int .i64 z, .string s] rfl
  have hu := Tryz.underlying33
  obtain ⟨vb, hvb⟩ : ∃ b, b = vchk (k, z, s) := ⟨_, rfl⟩
  obtain ⟨zb, hzb⟩ : ∃ b, b = decide ((k, z, s) = zv) := ⟨_, rfl⟩
  have hvz := vchk_isz (v := (k, z, s))
  rw [← hvb] at HV hvz
  rw [← hzb] at HQ
  obtain ⟨b0, kb0⟩ : ∃ b, (m == 0) = b := ⟨_, rfl⟩
  have HR : Hid (nok (1, m, k, z, s) = (b0 && zb)) := hid (by unfold nok; rw [if_pos (by simp)]; rw [hzb, ← kb0]; by_cases h : m = 0 <;> simp [h])
  rw [HR.out]
  clear hvz hvb hzb HR
  go_enter Tryz.func75, Tryz.ntmps75
  go_wp2_with (first
    | (refine wpList_load_g (by rfl) 33 (.tmp 5) rfl w.heap.size 2 rfl [.int .i64 k, .int .i64 z, .string s] _ RP hu rfl info_val3 ?_)
    | (refine wpList_exec (by rfl) (.bool zb) (exec_eql 33 _ (.tmp 6) (.tmp 7) rfl _ _ rfl rfl guard_val zb (HQ.out _)) ?_)
    | (refine wpList_load_g (by rfl) 33 (.tmp 9) rfl w.heap.size 2 rfl [.int .i64 k, .int .i64 z, .string s] _ RP hu rfl info_val3 ?_)
    | fail)
  refine (HV.out _).mono ?_
  rintro e' w' ⟨rfl, hb⟩
  have B1 := B0.later hb
  have hb1 := hb0.trans (hb.mono hb0.size)
  have q0 := B1.cell (j := 0) rfl
  have q1 := B1.cell (j := 1) rfl
  have q2 := B1.cell (j := 2) rfl
  clear B0 hb0 RP hb B1
  cases b0
  · skip
    go_wp2_with fail
    go_ret
    exact ⟨by simp, hb1⟩
  · skip
    go_wp2_with fail
    go_ret
    exact ⟨by simp, hb1⟩
theorem node_2 (m k z : Int) (s : ByteArray) (w : World) :
    Calls Tryz.prog 75 #[.agg #[.int .i64 2, .int .i64 m, .int .i64 k, .int .i64 z, .string s]] w fun e w' => e = .returned (.bool (nok (2, m, k, z, s))) ∧ Below w.heap.size w w' := by
  have HV := hid (fun wx : World => vcheck_any k z s wx)
  have HQ : Hid (∀ wx : World, (Op.equalIn 10000 33 (.agg #[.int .i64 k, .int .i64 z, .string s]) (.agg #[.int .i64 0, .int .i64 0, .string ⟨#[]⟩])).run Tryz.prog wx = .ok (decide ((k, z, s) = zv)) wx) := hid (fun wx => eq_val 9998 (k, z, s) zv wx)
  have B0 := Blk.new w [.int .i64 2, .int .i64 m, .int .i64 k, .int .i64 z, .string s] 73
  have hb0 := (Below.refl w.heap.size w).alloc (Nat.le_refl _) (.cells #[.int .i64 2, .int .i64 m, .int .i64 k, .int .i64 z, .string s] 73)
  have RP := B0.range 2 [.int .i64 k, .int .i64 z, .string s] rfl
  have hu := Tryz.underlying33
  obtain ⟨vb, hvb⟩ : ∃ b, b = vchk (k, z, s) := ⟨_, rfl⟩
  obtain ⟨zb, hzb⟩ : ∃ b, b = decide ((k, z, s) = zv) := ⟨_, rfl⟩
  have hvz := vchk_isz (v := (k, z, s))
  rw [← hvb] at HV hvz
  rw [← hzb] at HQ
  obtain ⟨b0, kb0⟩ : ∃ b, (m == 0) = b := ⟨_, rfl⟩
  have HR : Hid (nok (2, m, k, z, s) = (b0 && zb)) := hid (by unfold nok; rw [if_pos (by simp)]; rw [hzb, ← kb0]; by_cases h : m = 0 <;> simp [h])
  rw [HR.out]
  clear hvz hvb hzb HR
  go_enter Tryz.func75, Tryz.ntmps75
  go_wp2_with (first
    | (refine wpList_load_g (by rfl) 33 (.tmp 5) rfl w.heap.size 2 rfl [.int .i64 k, .int .i64 z, .string s] _ RP hu rfl info_val3 ?_)
    | (refine wpList_exec (by rfl) (.bool zb) (exec_eql 33 _ (.tmp 6) (.tmp 7) rfl _ _ rfl rfl guard_val zb (HQ.out _)) ?_)
    | (refine wpList_load_g (by rfl) 33 (.tmp 9) rfl w.heap.size 2 rfl [.int .i64 k, .int .i64 z, .string s] _ RP hu rfl info_val3 ?_)
    | fail)
  refine (HV.out _).mono ?_
  rintro e' w' ⟨rfl, hb⟩
  have B1 := B0.later hb
  have hb1 := hb0.trans (hb.mono hb0.size)
  have q0 := B1.cell (j := 0) rfl
  have q1 := B1.cell (j := 1) rfl
  have q2 := B1.cell (j := 2) rfl
  clear B0 hb0 RP hb B1
  cases b0
  · skip
    go_wp2_with fail
    go_ret
    exact ⟨by simp, hb1⟩
  · skip
    go_wp2_with fail
    go_ret
    exact ⟨by simp, hb1⟩
theorem node_3 (m k z : Int) (s : ByteArray) (w : World) :
    Calls Tryz.prog 75 #[.agg #[.int .i64 3, .int .i64 m, .int .i64 k, .int .i64 z, .string s]] w fun e w' => e = .returned (.bool (nok (3, m, k, z, s))) ∧ Below w.heap.size w w' := by
  have HV := hid (fun wx : World => vcheck_any k z s wx)
  have HQ : Hid (∀ wx : World, (Op.equalIn 10000 33 (.agg #[.int .i64 k, .int .i64 z, .string s]) (.agg #[.int .i64 0, .int .i64 0, .string ⟨#[]⟩])).run Tryz.prog wx = .ok (decide ((k, z, s) = zv)) wx) := hid (fun wx => eq_val 9998 (k, z, s) zv wx)
  have B0 := Blk.new w [.int .i64 3, .int .i64 m, .int .i64 k, .int .i64 z, .string s] 73
  have hb0 := (Below.refl w.heap.size w).alloc (Nat.le_refl _) (.cells #[.int .i64 3, .int .i64 m, .int .i64 k, .int .i64 z, .string s] 73)
  have RP := B0.range 2 [.int .i64 k, .int .i64 z, .string s] rfl
  have hu := Tryz.underlying33
  obtain ⟨vb, hvb⟩ : ∃ b, b = vchk (k, z, s) := ⟨_, rfl⟩
  obtain ⟨zb, hzb⟩ : ∃ b, b = decide ((k, z, s) = zv) := ⟨_, rfl⟩
  have hvz := vchk_isz (v := (k, z, s))
  rw [← hvb] at HV hvz
  rw [← hzb] at HQ
  obtain ⟨g0, kg0⟩ : ∃ b, decide (0 ≤ m) = b := ⟨_, rfl⟩
  obtain ⟨g1, kg1⟩ : ∃ b, decide (m < 16) = b := ⟨_, rfl⟩
  have HR : Hid (nok (3, m, k, z, s) = (g0 && g1 && zb)) := hid (by unfold nok; rw [if_neg (by simp), if_pos (by simp)]; rw [hzb, ← kg0, ← kg1]; simp [Bool.and_assoc])
  rw [HR.out]
  clear hvz hvb hzb HR
  go_enter Tryz.func75, Tryz.ntmps75
  go_wp2_with (first
    | (refine wpList_load_g (by rfl) 33 (.tmp 5) rfl w.heap.size 2 rfl [.int .i64 k, .int .i64 z, .string s] _ RP hu rfl info_val3 ?_)
    | (refine wpList_exec (by rfl) (.bool zb) (exec_eql 33 _ (.tmp 6) (.tmp 7) rfl _ _ rfl rfl guard_val zb (HQ.out _)) ?_)
    | (refine wpList_load_g (by rfl) 33 (.tmp 9) rfl w.heap.size 2 rfl [.int .i64 k, .int .i64 z, .string s] _ RP hu rfl info_val3 ?_)
    | fail)
  refine (HV.out _).mono ?_
  rintro e' w' ⟨rfl, hb⟩
  have B1 := B0.later hb
  have hb1 := hb0.trans (hb.mono hb0.size)
  have q0 := B1.cell (j := 0) rfl
  have q1 := B1.cell (j := 1) rfl
  have q2 := B1.cell (j := 2) rfl
  clear B0 hb0 RP hb B1
  cases g0
  · skip
    go_wp2_with fail
    go_ret
    exact ⟨by simp, hb1⟩
  · skip
    cases g1
    · skip
      go_wp2_with fail
      go_ret
      exact ⟨by simp, hb1⟩
    · skip
      go_wp2_with fail
      go_ret
      exact ⟨by simp, hb1⟩
theorem node_4 (m k z : Int) (s : ByteArray) (w : World) :
    Calls Tryz.prog 75 #[.agg #[.int .i64 4, .int .i64 m, .int .i64 k, .int .i64 z, .string s]] w fun e w' => e = .returned (.bool (nok (4, m, k, z, s))) ∧ Below w.heap.size w w' := by
  have HV := hid (fun wx : World => vcheck_any k z s wx)
  have HQ : Hid (∀ wx : World, (Op.equalIn 10000 33 (.agg #[.int .i64 k, .int .i64 z, .string s]) (.agg #[.int .i64 0, .int .i64 0, .string ⟨#[]⟩])).run Tryz.prog wx = .ok (decide ((k, z, s) = zv)) wx) := hid (fun wx => eq_val 9998 (k, z, s) zv wx)
  have B0 := Blk.new w [.int .i64 4, .int .i64 m, .int .i64 k, .int .i64 z, .string s] 73
  have hb0 := (Below.refl w.heap.size w).alloc (Nat.le_refl _) (.cells #[.int .i64 4, .int .i64 m, .int .i64 k, .int .i64 z, .string s] 73)
  have RP := B0.range 2 [.int .i64 k, .int .i64 z, .string s] rfl
  have hu := Tryz.underlying33
  obtain ⟨vb, hvb⟩ : ∃ b, b = vchk (k, z, s) := ⟨_, rfl⟩
  obtain ⟨zb, hzb⟩ : ∃ b, b = decide ((k, z, s) = zv) := ⟨_, rfl⟩
  have hvz := vchk_isz (v := (k, z, s))
  rw [← hvb] at HV hvz
  rw [← hzb] at HQ
  obtain ⟨g0, kg0⟩ : ∃ b, decide (0 ≤ m) = b := ⟨_, rfl⟩
  obtain ⟨g1, kg1⟩ : ∃ b, decide (m < 16) = b := ⟨_, rfl⟩
  have HR : Hid (nok (4, m, k, z, s) = (g0 && g1 && zb)) := hid (by unfold nok; rw [if_neg (by simp), if_pos (by simp)]; rw [hzb, ← kg0, ← kg1]; simp [Bool.and_assoc])
  rw [HR.out]
  clear hvz hvb hzb HR
  go_enter Tryz.func75, Tryz.ntmps75
  go_wp2_with (first
    | (refine wpList_load_g (by rfl) 33 (.tmp 5) rfl w.heap.size 2 rfl [.int .i64 k, .int .i64 z, .string s] _ RP hu rfl info_val3 ?_)
    | (refine wpList_exec (by rfl) (.bool zb) (exec_eql 33 _ (.tmp 6) (.tmp 7) rfl _ _ rfl rfl guard_val zb (HQ.out _)) ?_)
    | (refine wpList_load_g (by rfl) 33 (.tmp 9) rfl w.heap.size 2 rfl [.int .i64 k, .int .i64 z, .string s] _ RP hu rfl info_val3 ?_)
    | fail)
  refine (HV.out _).mono ?_
  rintro e' w' ⟨rfl, hb⟩
  have B1 := B0.later hb
  have hb1 := hb0.trans (hb.mono hb0.size)
  have q0 := B1.cell (j := 0) rfl
  have q1 := B1.cell (j := 1) rfl
  have q2 := B1.cell (j := 2) rfl
  clear B0 hb0 RP hb B1
  cases g0
  · skip
    go_wp2_with fail
    go_ret
    exact ⟨by simp, hb1⟩
  · skip
    cases g1
    · skip
      go_wp2_with fail
      go_ret
      exact ⟨by simp, hb1⟩
    · skip
      go_wp2_with fail
      go_ret
      exact ⟨by simp, hb1⟩
theorem node_5 (m k z : Int) (s : ByteArray) (w : World) :
    Calls Tryz.prog 75 #[.agg #[.int .i64 5, .int .i64 m, .int .i64 k, .int .i64 z, .string s]] w fun e w' => e = .returned (.bool (nok (5, m, k, z, s))) ∧ Below w.heap.size w w' := by
  have HV := hid (fun wx : World => vcheck_any k z s wx)
  have HQ : Hid (∀ wx : World, (Op.equalIn 10000 33 (.agg #[.int .i64 k, .int .i64 z, .string s]) (.agg #[.int .i64 0, .int .i64 0, .string ⟨#[]⟩])).run Tryz.prog wx = .ok (decide ((k, z, s) = zv)) wx) := hid (fun wx => eq_val 9998 (k, z, s) zv wx)
  have B0 := Blk.new w [.int .i64 5, .int .i64 m, .int .i64 k, .int .i64 z, .string s] 73
  have hb0 := (Below.refl w.heap.size w).alloc (Nat.le_refl _) (.cells #[.int .i64 5, .int .i64 m, .int .i64 k, .int .i64 z, .string s] 73)
  have RP := B0.range 2 [.int .i64 k, .int .i64 z, .string s] rfl
  have hu := Tryz.underlying33
  obtain ⟨vb, hvb⟩ : ∃ b, b = vchk (k, z, s) := ⟨_, rfl⟩
  obtain ⟨zb, hzb⟩ : ∃ b, b = decide ((k, z, s) = zv) := ⟨_, rfl⟩
  have hvz := vchk_isz (v := (k, z, s))
  rw [← hvb] at HV hvz
  rw [← hzb] at HQ
  obtain ⟨g0, kg0⟩ : ∃ b, decide (0 ≤ m) = b := ⟨_, rfl⟩
  obtain ⟨g1, kg1⟩ : ∃ b, decide (m < 8) = b := ⟨_, rfl⟩
  have HR : Hid (nok (5, m, k, z, s) = (g0 && g1 && zb)) := hid (by unfold nok; rw [if_neg (by simp), if_neg (by simp), if_pos (by simp)]; rw [hzb, ← kg0, ← kg1]; simp [Bool.and_assoc])
  rw [HR.out]
  clear hvz hvb hzb HR
  go_enter Tryz.func75, Tryz.ntmps75
  go_wp2_with (first
    | (refine wpList_load_g (by rfl) 33 (.tmp 5) rfl w.heap.size 2 rfl [.int .i64 k, .int .i64 z, .string s] _ RP hu rfl info_val3 ?_)
    | (refine wpList_exec (by rfl) (.bool zb) (exec_eql 33 _ (.tmp 6) (.tmp 7) rfl _ _ rfl rfl guard_val zb (HQ.out _)) ?_)
    | (refine wpList_load_g (by rfl) 33 (.tmp 9) rfl w.heap.size 2 rfl [.int .i64 k, .int .i64 z, .string s] _ RP hu rfl info_val3 ?_)
    | fail)
  refine (HV.out _).mono ?_
  rintro e' w' ⟨rfl, hb⟩
  have B1 := B0.later hb
  have hb1 := hb0.trans (hb.mono hb0.size)
  have q0 := B1.cell (j := 0) rfl
  have q1 := B1.cell (j := 1) rfl
  have q2 := B1.cell (j := 2) rfl
  clear B0 hb0 RP hb B1
  cases zb
  · skip
    go_wp2_with fail
    go_ret
    exact ⟨by simp, hb1⟩
  · skip
    cases g0
    · skip
      go_wp2_with fail
      go_ret
      exact ⟨by simp, hb1⟩
    · skip
      go_wp2_with fail
      go_ret
      exact ⟨by simp, hb1⟩
theorem node_6 (m k z : Int) (s : ByteArray) (w : World) :
    Calls Tryz.prog 75 #[.agg #[.int .i64 6, .int .i64 m, .int .i64 k, .int .i64 z, .string s]] w fun e w' => e = .returned (.bool (nok (6, m, k, z, s))) ∧ Below w.heap.size w w' := by
  have HV := hid (fun wx : World => vcheck_any k z s wx)
  have HQ : Hid (∀ wx : World, (Op.equalIn 10000 33 (.agg #[.int .i64 k, .int .i64 z, .string s]) (.agg #[.int .i64 0, .int .i64 0, .string ⟨#[]⟩])).run Tryz.prog wx = .ok (decide ((k, z, s) = zv)) wx) := hid (fun wx => eq_val 9998 (k, z, s) zv wx)
  have B0 := Blk.new w [.int .i64 6, .int .i64 m, .int .i64 k, .int .i64 z, .string s] 73
  have hb0 := (Below.refl w.heap.size w).alloc (Nat.le_refl _) (.cells #[.int .i64 6, .int .i64 m, .int .i64 k, .int .i64 z, .string s] 73)
  have RP := B0.range 2 [.int .i64 k, .int .i64 z, .string s] rfl
  have hu := Tryz.underlying33
  obtain ⟨vb, hvb⟩ : ∃ b, b = vchk (k, z, s) := ⟨_, rfl⟩
  obtain ⟨zb, hzb⟩ : ∃ b, b = decide ((k, z, s) = zv) := ⟨_, rfl⟩
  have hvz := vchk_isz (v := (k, z, s))
  rw [← hvb] at HV hvz
  rw [← hzb] at HQ
  obtain ⟨g0, kg0⟩ : ∃ b, decide (0 ≤ m) = b := ⟨_, rfl⟩
  obtain ⟨g1, kg1⟩ : ∃ b, decide (m < 8) = b := ⟨_, rfl⟩
  obtain ⟨kb, kkb⟩ : ∃ b, (k != 0) = b := ⟨_, rfl⟩
  have HR : Hid (nok (6, m, k, z, s) = (g0 && g1 && vb && kb)) := hid (by unfold nok; rw [if_neg (by simp), if_neg (by simp), if_neg (by simp), if_pos (by simp)]; rw [← kkb, ← kg0, ← kg1, hvb]; rw [Bool.eq_iff_iff]; simp only [Bool.and_eq_true, decide_eq_true_eq, bne_iff_ne]; exact ⟨fun ⟨h1, h2, h3, h4⟩ => ⟨⟨⟨h1, h2⟩, h3⟩, fun h => h4 ((hvz (hvb.trans h3)).1 h)⟩, fun ⟨⟨⟨h1, h2⟩, h3⟩, h4⟩ => ⟨h1, h2, h3, fun h => h4 ((hvz (hvb.trans h3)).2 h)⟩⟩)
  rw [HR.out]
  clear hvz hvb hzb HR
  go_enter Tryz.func75, Tryz.ntmps75
  go_wp2_with (first
    | (refine wpList_load_g (by rfl) 33 (.tmp 5) rfl w.heap.size 2 rfl [.int .i64 k, .int .i64 z, .string s] _ RP hu rfl info_val3 ?_)
    | (refine wpList_exec (by rfl) (.bool zb) (exec_eql 33 _ (.tmp 6) (.tmp 7) rfl _ _ rfl rfl guard_val zb (HQ.out _)) ?_)
    | (refine wpList_load_g (by rfl) 33 (.tmp 9) rfl w.heap.size 2 rfl [.int .i64 k, .int .i64 z, .string s] _ RP hu rfl info_val3 ?_)
    | fail)
  refine (HV.out _).mono ?_
  rintro e' w' ⟨rfl, hb⟩
  have B1 := B0.later hb
  have hb1 := hb0.trans (hb.mono hb0.size)
  have q0 := B1.cell (j := 0) rfl
  have q1 := B1.cell (j := 1) rfl
  have q2 := B1.cell (j := 2) rfl
  clear B0 hb0 RP hb B1
  cases vb
  · skip
    go_wp2_with fail
    go_ret
    exact ⟨by simp, hb1⟩
  · skip
    cases kb
    · skip
      go_wp2_with fail
      go_ret
      exact ⟨by simp, hb1⟩
    · skip
      cases g0
      · skip
        go_wp2_with fail
        go_ret
        exact ⟨by simp, hb1⟩
      · skip
        go_wp2_with fail
        go_ret
        exact ⟨by simp, hb1⟩
theorem node_7 (m k z : Int) (s : ByteArray) (w : World) :
    Calls Tryz.prog 75 #[.agg #[.int .i64 7, .int .i64 m, .int .i64 k, .int .i64 z, .string s]] w fun e w' => e = .returned (.bool (nok (7, m, k, z, s))) ∧ Below w.heap.size w w' := by
  have HV := hid (fun wx : World => vcheck_any k z s wx)
  have HQ : Hid (∀ wx : World, (Op.equalIn 10000 33 (.agg #[.int .i64 k, .int .i64 z, .string s]) (.agg #[.int .i64 0, .int .i64 0, .string ⟨#[]⟩])).run Tryz.prog wx = .ok (decide ((k, z, s) = zv)) wx) := hid (fun wx => eq_val 9998 (k, z, s) zv wx)
  have B0 := Blk.new w [.int .i64 7, .int .i64 m, .int .i64 k, .int .i64 z, .string s] 73
  have hb0 := (Below.refl w.heap.size w).alloc (Nat.le_refl _) (.cells #[.int .i64 7, .int .i64 m, .int .i64 k, .int .i64 z, .string s] 73)
  have RP := B0.range 2 [.int .i64 k, .int .i64 z, .string s] rfl
  have hu := Tryz.underlying33
  obtain ⟨vb, hvb⟩ : ∃ b, b = vchk (k, z, s) := ⟨_, rfl⟩
  obtain ⟨zb, hzb⟩ : ∃ b, b = decide ((k, z, s) = zv) := ⟨_, rfl⟩
  have hvz := vchk_isz (v := (k, z, s))
  rw [← hvb] at HV hvz
  rw [← hzb] at HQ
  obtain ⟨g0, kg0⟩ : ∃ b, decide (0 ≤ m) = b := ⟨_, rfl⟩
  obtain ⟨g1, kg1⟩ : ∃ b, decide (m < 8) = b := ⟨_, rfl⟩
  obtain ⟨kb, kkb⟩ : ∃ b, (k != 0) = b := ⟨_, rfl⟩
  have HR : Hid (nok (7, m, k, z, s) = (g0 && g1 && vb && kb)) := hid (by unfold nok; rw [if_neg (by simp), if_neg (by simp), if_neg (by simp), if_pos (by simp)]; rw [← kkb, ← kg0, ← kg1, hvb]; rw [Bool.eq_iff_iff]; simp only [Bool.and_eq_true, decide_eq_true_eq, bne_iff_ne]; exact ⟨fun ⟨h1, h2, h3, h4⟩ => ⟨⟨⟨h1, h2⟩, h3⟩, fun h => h4 ((hvz (hvb.trans h3)).1 h)⟩, fun ⟨⟨⟨h1, h2⟩, h3⟩, h4⟩ => ⟨h1, h2, h3, fun h => h4 ((hvz (hvb.trans h3)).2 h)⟩⟩)
  rw [HR.out]
  clear hvz hvb hzb HR
  go_enter Tryz.func75, Tryz.ntmps75
  go_wp2_with (first
    | (refine wpList_load_g (by rfl) 33 (.tmp 5) rfl w.heap.size 2 rfl [.int .i64 k, .int .i64 z, .string s] _ RP hu rfl info_val3 ?_)
    | (refine wpList_exec (by rfl) (.bool zb) (exec_eql 33 _ (.tmp 6) (.tmp 7) rfl _ _ rfl rfl guard_val zb (HQ.out _)) ?_)
    | (refine wpList_load_g (by rfl) 33 (.tmp 9) rfl w.heap.size 2 rfl [.int .i64 k, .int .i64 z, .string s] _ RP hu rfl info_val3 ?_)
    | fail)
  refine (HV.out _).mono ?_
  rintro e' w' ⟨rfl, hb⟩
  have B1 := B0.later hb
  have hb1 := hb0.trans (hb.mono hb0.size)
  have q0 := B1.cell (j := 0) rfl
  have q1 := B1.cell (j := 1) rfl
  have q2 := B1.cell (j := 2) rfl
  clear B0 hb0 RP hb B1
  cases vb
  · skip
    go_wp2_with fail
    go_ret
    exact ⟨by simp, hb1⟩
  · skip
    cases kb
    · skip
      go_wp2_with fail
      go_ret
      exact ⟨by simp, hb1⟩
    · skip
      cases g0
      · skip
        go_wp2_with fail
        go_ret
        exact ⟨by simp, hb1⟩
      · skip
        go_wp2_with fail
        go_ret
        exact ⟨by simp, hb1⟩
theorem node_8 (m k z : Int) (s : ByteArray) (w : World) :
    Calls Tryz.prog 75 #[.agg #[.int .i64 8, .int .i64 m, .int .i64 k, .int .i64 z, .string s]] w fun e w' => e = .returned (.bool (nok (8, m, k, z, s))) ∧ Below w.heap.size w w' := by
  have HV := hid (fun wx : World => vcheck_any k z s wx)
  have HQ : Hid (∀ wx : World, (Op.equalIn 10000 33 (.agg #[.int .i64 k, .int .i64 z, .string s]) (.agg #[.int .i64 0, .int .i64 0, .string ⟨#[]⟩])).run Tryz.prog wx = .ok (decide ((k, z, s) = zv)) wx) := hid (fun wx => eq_val 9998 (k, z, s) zv wx)
  have B0 := Blk.new w [.int .i64 8, .int .i64 m, .int .i64 k, .int .i64 z, .string s] 73
  have hb0 := (Below.refl w.heap.size w).alloc (Nat.le_refl _) (.cells #[.int .i64 8, .int .i64 m, .int .i64 k, .int .i64 z, .string s] 73)
  have RP := B0.range 2 [.int .i64 k, .int .i64 z, .string s] rfl
  have hu := Tryz.underlying33
  obtain ⟨vb, hvb⟩ : ∃ b, b = vchk (k, z, s) := ⟨_, rfl⟩
  obtain ⟨zb, hzb⟩ : ∃ b, b = decide ((k, z, s) = zv) := ⟨_, rfl⟩
  have hvz := vchk_isz (v := (k, z, s))
  rw [← hvb] at HV hvz
  rw [← hzb] at HQ
  obtain ⟨g0, kg0⟩ : ∃ b, decide (0 ≤ m) = b := ⟨_, rfl⟩
  obtain ⟨g1, kg1⟩ : ∃ b, decide (m < 8) = b := ⟨_, rfl⟩
  obtain ⟨kb, kkb⟩ : ∃ b, (k != 0) = b := ⟨_, rfl⟩
  have HR : Hid (nok (8, m, k, z, s) = (g0 && g1 && vb && kb)) := hid (by unfold nok; rw [if_neg (by simp), if_neg (by simp), if_neg (by simp), if_pos (by simp)]; rw [← kkb, ← kg0, ← kg1, hvb]; rw [Bool.eq_iff_iff]; simp only [Bool.and_eq_true, decide_eq_true_eq, bne_iff_ne]; exact ⟨fun ⟨h1, h2, h3, h4⟩ => ⟨⟨⟨h1, h2⟩, h3⟩, fun h => h4 ((hvz (hvb.trans h3)).1 h)⟩, fun ⟨⟨⟨h1, h2⟩, h3⟩, h4⟩ => ⟨h1, h2, h3, fun h => h4 ((hvz (hvb.trans h3)).2 h)⟩⟩)
  rw [HR.out]
  clear hvz hvb hzb HR
  go_enter Tryz.func75, Tryz.ntmps75
  go_wp2_with (first
    | (refine wpList_load_g (by rfl) 33 (.tmp 5) rfl w.heap.size 2 rfl [.int .i64 k, .int .i64 z, .string s] _ RP hu rfl info_val3 ?_)
    | (refine wpList_exec (by rfl) (.bool zb) (exec_eql 33 _ (.tmp 6) (.tmp 7) rfl _ _ rfl rfl guard_val zb (HQ.out _)) ?_)
    | (refine wpList_load_g (by rfl) 33 (.tmp 9) rfl w.heap.size 2 rfl [.int .i64 k, .int .i64 z, .string s] _ RP hu rfl info_val3 ?_)
    | fail)
  refine (HV.out _).mono ?_
  rintro e' w' ⟨rfl, hb⟩
  have B1 := B0.later hb
  have hb1 := hb0.trans (hb.mono hb0.size)
  have q0 := B1.cell (j := 0) rfl
  have q1 := B1.cell (j := 1) rfl
  have q2 := B1.cell (j := 2) rfl
  clear B0 hb0 RP hb B1
  cases vb
  · skip
    go_wp2_with fail
    go_ret
    exact ⟨by simp, hb1⟩
  · skip
    cases kb
    · skip
      go_wp2_with fail
      go_ret
      exact ⟨by simp, hb1⟩
    · skip
      cases g0
      · skip
        go_wp2_with fail
        go_ret
        exact ⟨by simp, hb1⟩
      · skip
        go_wp2_with fail
        go_ret
        exact ⟨by simp, hb1⟩
theorem node_9 (m k z : Int) (s : ByteArray) (w : World) :
    Calls Tryz.prog 75 #[.agg #[.int .i64 9, .int .i64 m, .int .i64 k, .int .i64 z, .string s]] w fun e w' => e = .returned (.bool (nok (9, m, k, z, s))) ∧ Below w.heap.size w w' := by
  have HV := hid (fun wx : World => vcheck_any k z s wx)
  have HQ : Hid (∀ wx : World, (Op.equalIn 10000 33 (.agg #[.int .i64 k, .int .i64 z, .string s]) (.agg #[.int .i64 0, .int .i64 0, .string ⟨#[]⟩])).run Tryz.prog wx = .ok (decide ((k, z, s) = zv)) wx) := hid (fun wx => eq_val 9998 (k, z, s) zv wx)
  have B0 := Blk.new w [.int .i64 9, .int .i64 m, .int .i64 k, .int .i64 z, .string s] 73
  have hb0 := (Below.refl w.heap.size w).alloc (Nat.le_refl _) (.cells #[.int .i64 9, .int .i64 m, .int .i64 k, .int .i64 z, .string s] 73)
  have RP := B0.range 2 [.int .i64 k, .int .i64 z, .string s] rfl
  have hu := Tryz.underlying33
  obtain ⟨vb, hvb⟩ : ∃ b, b = vchk (k, z, s) := ⟨_, rfl⟩
  obtain ⟨zb, hzb⟩ : ∃ b, b = decide ((k, z, s) = zv) := ⟨_, rfl⟩
  have hvz := vchk_isz (v := (k, z, s))
  rw [← hvb] at HV hvz
  rw [← hzb] at HQ
  obtain ⟨g0, kg0⟩ : ∃ b, decide (0 ≤ m) = b := ⟨_, rfl⟩
  obtain ⟨g1, kg1⟩ : ∃ b, decide (m < 8) = b := ⟨_, rfl⟩
  obtain ⟨kb, kkb⟩ : ∃ b, (k == 2) = b := ⟨_, rfl⟩
  have HR : Hid (nok (9, m, k, z, s) = (g0 && g1 && vb && kb)) := hid (by unfold nok; rw [if_neg (by simp), if_neg (by simp), if_neg (by simp), if_neg (by simp), if_pos (by simp)]; rw [← kkb, ← kg0, ← kg1, hvb]; rw [Bool.eq_iff_iff]; simp [and_assoc])
  rw [HR.out]
  clear hvz hvb hzb HR
  go_enter Tryz.func75, Tryz.ntmps75
  go_wp2_with (first
    | (refine wpList_load_g (by rfl) 33 (.tmp 5) rfl w.heap.size 2 rfl [.int .i64 k, .int .i64 z, .string s] _ RP hu rfl info_val3 ?_)
    | (refine wpList_exec (by rfl) (.bool zb) (exec_eql 33 _ (.tmp 6) (.tmp 7) rfl _ _ rfl rfl guard_val zb (HQ.out _)) ?_)
    | (refine wpList_load_g (by rfl) 33 (.tmp 9) rfl w.heap.size 2 rfl [.int .i64 k, .int .i64 z, .string s] _ RP hu rfl info_val3 ?_)
    | fail)
  refine (HV.out _).mono ?_
  rintro e' w' ⟨rfl, hb⟩
  have B1 := B0.later hb
  have hb1 := hb0.trans (hb.mono hb0.size)
  have q0 := B1.cell (j := 0) rfl
  have q1 := B1.cell (j := 1) rfl
  have q2 := B1.cell (j := 2) rfl
  clear B0 hb0 RP hb B1
  cases vb
  · skip
    go_wp2_with fail
    go_ret
    exact ⟨by simp, hb1⟩
  · skip
    cases kb
    · skip
      go_wp2_with fail
      go_ret
      exact ⟨by simp, hb1⟩
    · skip
      cases g0
      · skip
        go_wp2_with fail
        go_ret
        exact ⟨by simp, hb1⟩
      · skip
        go_wp2_with fail
        go_ret
        exact ⟨by simp, hb1⟩
theorem node_10 (m k z : Int) (s : ByteArray) (w : World) :
    Calls Tryz.prog 75 #[.agg #[.int .i64 10, .int .i64 m, .int .i64 k, .int .i64 z, .string s]] w fun e w' => e = .returned (.bool (nok (10, m, k, z, s))) ∧ Below w.heap.size w w' := by
  have HV := hid (fun wx : World => vcheck_any k z s wx)
  have HQ : Hid (∀ wx : World, (Op.equalIn 10000 33 (.agg #[.int .i64 k, .int .i64 z, .string s]) (.agg #[.int .i64 0, .int .i64 0, .string ⟨#[]⟩])).run Tryz.prog wx = .ok (decide ((k, z, s) = zv)) wx) := hid (fun wx => eq_val 9998 (k, z, s) zv wx)
  have B0 := Blk.new w [.int .i64 10, .int .i64 m, .int .i64 k, .int .i64 z, .string s] 73
  have hb0 := (Below.refl w.heap.size w).alloc (Nat.le_refl _) (.cells #[.int .i64 10, .int .i64 m, .int .i64 k, .int .i64 z, .string s] 73)
  have RP := B0.range 2 [.int .i64 k, .int .i64 z, .string s] rfl
  have hu := Tryz.underlying33
  obtain ⟨vb, hvb⟩ : ∃ b, b = vchk (k, z, s) := ⟨_, rfl⟩
  obtain ⟨zb, hzb⟩ : ∃ b, b = decide ((k, z, s) = zv) := ⟨_, rfl⟩
  have hvz := vchk_isz (v := (k, z, s))
  rw [← hvb] at HV hvz
  rw [← hzb] at HQ
  obtain ⟨b0, kb0⟩ : ∃ b, (m == 0) = b := ⟨_, rfl⟩
  have HR : Hid (nok (10, m, k, z, s) = (b0 && zb)) := hid (by unfold nok; rw [if_pos (by simp)]; rw [hzb, ← kb0]; by_cases h : m = 0 <;> simp [h])
  rw [HR.out]
  clear hvz hvb hzb HR
  go_enter Tryz.func75, Tryz.ntmps75
  go_wp2_with (first
    | (refine wpList_load_g (by rfl) 33 (.tmp 5) rfl w.heap.size 2 rfl [.int .i64 k, .int .i64 z, .string s] _ RP hu rfl info_val3 ?_)
    | (refine wpList_exec (by rfl) (.bool zb) (exec_eql 33 _ (.tmp 6) (.tmp 7) rfl _ _ rfl rfl guard_val zb (HQ.out _)) ?_)
    | (refine wpList_load_g (by rfl) 33 (.tmp 9) rfl w.heap.size 2 rfl [.int .i64 k, .int .i64 z, .string s] _ RP hu rfl info_val3 ?_)
    | fail)
  refine (HV.out _).mono ?_
  rintro e' w' ⟨rfl, hb⟩
  have B1 := B0.later hb
  have hb1 := hb0.trans (hb.mono hb0.size)
  have q0 := B1.cell (j := 0) rfl
  have q1 := B1.cell (j := 1) rfl
  have q2 := B1.cell (j := 2) rfl
  clear B0 hb0 RP hb B1
  cases b0
  · skip
    go_wp2_with fail
    go_ret
    exact ⟨by simp, hb1⟩
  · skip
    go_wp2_with fail
    go_ret
    exact ⟨by simp, hb1⟩
theorem node_11 (m k z : Int) (s : ByteArray) (w : World) :
    Calls Tryz.prog 75 #[.agg #[.int .i64 11, .int .i64 m, .int .i64 k, .int .i64 z, .string s]] w fun e w' => e = .returned (.bool (nok (11, m, k, z, s))) ∧ Below w.heap.size w w' := by
  have HV := hid (fun wx : World => vcheck_any k z s wx)
  have HQ : Hid (∀ wx : World, (Op.equalIn 10000 33 (.agg #[.int .i64 k, .int .i64 z, .string s]) (.agg #[.int .i64 0, .int .i64 0, .string ⟨#[]⟩])).run Tryz.prog wx = .ok (decide ((k, z, s) = zv)) wx) := hid (fun wx => eq_val 9998 (k, z, s) zv wx)
  have B0 := Blk.new w [.int .i64 11, .int .i64 m, .int .i64 k, .int .i64 z, .string s] 73
  have hb0 := (Below.refl w.heap.size w).alloc (Nat.le_refl _) (.cells #[.int .i64 11, .int .i64 m, .int .i64 k, .int .i64 z, .string s] 73)
  have RP := B0.range 2 [.int .i64 k, .int .i64 z, .string s] rfl
  have hu := Tryz.underlying33
  obtain ⟨vb, hvb⟩ : ∃ b, b = vchk (k, z, s) := ⟨_, rfl⟩
  obtain ⟨zb, hzb⟩ : ∃ b, b = decide ((k, z, s) = zv) := ⟨_, rfl⟩
  have hvz := vchk_isz (v := (k, z, s))
  rw [← hvb] at HV hvz
  rw [← hzb] at HQ
  obtain ⟨b0, kb0⟩ : ∃ b, (m == 0) = b := ⟨_, rfl⟩
  have HR : Hid (nok (11, m, k, z, s) = (b0 && zb)) := hid (by unfold nok; rw [if_pos (by simp)]; rw [hzb, ← kb0]; by_cases h : m = 0 <;> simp [h])
  rw [HR.out]
  clear hvz hvb hzb HR
  go_enter Tryz.func75, Tryz.ntmps75
  go_wp2_with (first
    | (refine wpList_load_g (by rfl) 33 (.tmp 5) rfl w.heap.size 2 rfl [.int .i64 k, .int .i64 z, .string s] _ RP hu rfl info_val3 ?_)
    | (refine wpList_exec (by rfl) (.bool zb) (exec_eql 33 _ (.tmp 6) (.tmp 7) rfl _ _ rfl rfl guard_val zb (HQ.out _)) ?_)
    | (refine wpList_load_g (by rfl) 33 (.tmp 9) rfl w.heap.size 2 rfl [.int .i64 k, .int .i64 z, .string s] _ RP hu rfl info_val3 ?_)
    | fail)
  refine (HV.out _).mono ?_
  rintro e' w' ⟨rfl, hb⟩
  have B1 := B0.later hb
  have hb1 := hb0.trans (hb.mono hb0.size)
  have q0 := B1.cell (j := 0) rfl
  have q1 := B1.cell (j := 1) rfl
  have q2 := B1.cell (j := 2) rfl
  clear B0 hb0 RP hb B1
  cases b0
  · skip
    go_wp2_with fail
    go_ret
    exact ⟨by simp, hb1⟩
  · skip
    go_wp2_with fail
    go_ret
    exact ⟨by simp, hb1⟩
theorem node_12 (m k z : Int) (s : ByteArray) (w : World) :
    Calls Tryz.prog 75 #[.agg #[.int .i64 12, .int .i64 m, .int .i64 k, .int .i64 z, .string s]] w fun e w' => e = .returned (.bool (nok (12, m, k, z, s))) ∧ Below w.heap.size w w' := by
  have HV := hid (fun wx : World => vcheck_any k z s wx)
  have HQ : Hid (∀ wx : World, (Op.equalIn 10000 33 (.agg #[.int .i64 k, .int .i64 z, .string s]) (.agg #[.int .i64 0, .int .i64 0, .string ⟨#[]⟩])).run Tryz.prog wx = .ok (decide ((k, z, s) = zv)) wx) := hid (fun wx => eq_val 9998 (k, z, s) zv wx)
  have B0 := Blk.new w [.int .i64 12, .int .i64 m, .int .i64 k, .int .i64 z, .string s] 73
  have hb0 := (Below.refl w.heap.size w).alloc (Nat.le_refl _) (.cells #[.int .i64 12, .int .i64 m, .int .i64 k, .int .i64 z, .string s] 73)
  have RP := B0.range 2 [.int .i64 k, .int .i64 z, .string s] rfl
  have hu := Tryz.underlying33
  obtain ⟨vb, hvb⟩ : ∃ b, b = vchk (k, z, s) := ⟨_, rfl⟩
  obtain ⟨zb, hzb⟩ : ∃ b, b = decide ((k, z, s) = zv) := ⟨_, rfl⟩
  have hvz := vchk_isz (v := (k, z, s))
  rw [← hvb] at HV hvz
  rw [← hzb] at HQ
  obtain ⟨b0, kb0⟩ : ∃ b, (m == 0) = b := ⟨_, rfl⟩
  have HR : Hid (nok (12, m, k, z, s) = (b0 && zb)) := hid (by unfold nok; rw [if_pos (by simp)]; rw [hzb, ← kb0]; by_cases h : m = 0 <;> simp [h])
  rw [HR.out]
  clear hvz hvb hzb HR
  go_enter Tryz.func75, Tryz.ntmps75
  go_wp2_with (first
    | (refine wpList_load_g (by rfl) 33 (.tmp 5) rfl w.heap.size 2 rfl [.int .i64 k, .int .i64 z, .string s] _ RP hu rfl info_val3 ?_)
    | (refine wpList_exec (by rfl) (.bool zb) (exec_eql 33 _ (.tmp 6) (.tmp 7) rfl _ _ rfl rfl guard_val zb (HQ.out _)) ?_)
    | (refine wpList_load_g (by rfl) 33 (.tmp 9) rfl w.heap.size 2 rfl [.int .i64 k, .int .i64 z, .string s] _ RP hu rfl info_val3 ?_)
    | fail)
  refine (HV.out _).mono ?_
  rintro e' w' ⟨rfl, hb⟩
  have B1 := B0.later hb
  have hb1 := hb0.trans (hb.mono hb0.size)
  have q0 := B1.cell (j := 0) rfl
  have q1 := B1.cell (j := 1) rfl
  have q2 := B1.cell (j := 2) rfl
  clear B0 hb0 RP hb B1
  cases b0
  · skip
    go_wp2_with fail
    go_ret
    exact ⟨by simp, hb1⟩
  · skip
    go_wp2_with fail
    go_ret
    exact ⟨by simp, hb1⟩
theorem node_op (op : Int) (m k z : Int) (s : ByteArray) (w : World) (h1 : op ≠ 1) (h2 : op ≠ 2) (h3 : op ≠ 3) (h4 : op ≠ 4) (h5 : op ≠ 5) (h6 : op ≠ 6) (h7 : op ≠ 7) (h8 : op ≠ 8) (h9 : op ≠ 9) (h10 : op ≠ 10) (h11 : op ≠ 11) (h12 : op ≠ 12) :
    Calls Tryz.prog 75 #[.agg #[.int .i64 op, .int .i64 m, .int .i64 k, .int .i64 z, .string s]] w fun e w' => e = .returned (.bool (nok (op, m, k, z, s))) ∧ Below w.heap.size w w' := by
  have HV := hid (fun wx : World => vcheck_any k z s wx)
  have HQ : Hid (∀ wx : World, (Op.equalIn 10000 33 (.agg #[.int .i64 k, .int .i64 z, .string s]) (.agg #[.int .i64 0, .int .i64 0, .string ⟨#[]⟩])).run Tryz.prog wx = .ok (decide ((k, z, s) = zv)) wx) := hid (fun wx => eq_val 9998 (k, z, s) zv wx)
  have B0 := Blk.new w [.int .i64 op, .int .i64 m, .int .i64 k, .int .i64 z, .string s] 73
  have hb0 := (Below.refl w.heap.size w).alloc (Nat.le_refl _) (.cells #[.int .i64 op, .int .i64 m, .int .i64 k, .int .i64 z, .string s] 73)
  have RP := B0.range 2 [.int .i64 k, .int .i64 z, .string s] rfl
  have hu := Tryz.underlying33
  obtain ⟨vb, hvb⟩ : ∃ b, b = vchk (k, z, s) := ⟨_, rfl⟩
  obtain ⟨zb, hzb⟩ : ∃ b, b = decide ((k, z, s) = zv) := ⟨_, rfl⟩
  have hvz := vchk_isz (v := (k, z, s))
  rw [← hvb] at HV hvz
  rw [← hzb] at HQ
  obtain ⟨g0, kg0⟩ : ∃ b, decide (0 ≤ m) = b := ⟨_, rfl⟩
  obtain ⟨g1, kg1⟩ : ∃ b, decide (m < 8) = b := ⟨_, rfl⟩
  have HR : Hid (nok (op, m, k, z, s) = false) := hid (by unfold nok; simp [h1, h2, h3, h4, h5, h6, h7, h8, h9, h10, h11, h12])
  rw [HR.out]
  have e1 : (op == 1) = false := by simpa using h1
  have e2 : (op == 2) = false := by simpa using h2
  have e3 : (op == 3) = false := by simpa using h3
  have e4 : (op == 4) = false := by simpa using h4
  have e5 : (op == 5) = false := by simpa using h5
  have e6 : (op == 6) = false := by simpa using h6
  have e7 : (op == 7) = false := by simpa using h7
  have e8 : (op == 8) = false := by simpa using h8
  have e9 : (op == 9) = false := by simpa using h9
  have e10 : (op == 10) = false := by simpa using h10
  have e11 : (op == 11) = false := by simpa using h11
  have e12 : (op == 12) = false := by simpa using h12
  clear h1 h2 h3 h4 h5 h6 h7 h8 h9 h10 h11 h12
  clear hvz hvb hzb HR
  go_enter Tryz.func75, Tryz.ntmps75
  go_wp2_with (first
    | (refine wpList_load_g (by rfl) 33 (.tmp 5) rfl w.heap.size 2 rfl [.int .i64 k, .int .i64 z, .string s] _ RP hu rfl info_val3 ?_)
    | (refine wpList_exec (by rfl) (.bool zb) (exec_eql 33 _ (.tmp 6) (.tmp 7) rfl _ _ rfl rfl guard_val zb (HQ.out _)) ?_)
    | (refine wpList_load_g (by rfl) 33 (.tmp 9) rfl w.heap.size 2 rfl [.int .i64 k, .int .i64 z, .string s] _ RP hu rfl info_val3 ?_)
    | fail)
  refine (HV.out _).mono ?_
  rintro e' w' ⟨rfl, hb⟩
  have B1 := B0.later hb
  have hb1 := hb0.trans (hb.mono hb0.size)
  have q0 := B1.cell (j := 0) rfl
  have q1 := B1.cell (j := 1) rfl
  have q2 := B1.cell (j := 2) rfl
  clear B0 hb0 RP hb B1
  go_wp2_with fail
  go_ret
  exact ⟨by simp, hb1⟩
theorem node_any (n : Nd) (w : World) : Calls Tryz.prog 75 #[.agg (ncells n).toArray] w fun e w' => e = .returned (.bool (nok n)) ∧ Below w.heap.size w w' := by
  obtain ⟨op, m, k, z, s⟩ := n
  by_cases h1 : op = 1
  · subst h1; exact node_1 m k z s w
  by_cases h2 : op = 2
  · subst h2; exact node_2 m k z s w
  by_cases h3 : op = 3
  · subst h3; exact node_3 m k z s w
  by_cases h4 : op = 4
  · subst h4; exact node_4 m k z s w
  by_cases h5 : op = 5
  · subst h5; exact node_5 m k z s w
  by_cases h6 : op = 6
  · subst h6; exact node_6 m k z s w
  by_cases h7 : op = 7
  · subst h7; exact node_7 m k z s w
  by_cases h8 : op = 8
  · subst h8; exact node_8 m k z s w
  by_cases h9 : op = 9
  · subst h9; exact node_9 m k z s w
  by_cases h10 : op = 10
  · subst h10; exact node_10 m k z s w
  by_cases h11 : op = 11
  · subst h11; exact node_11 m k z s w
  by_cases h12 : op = 12
  · subst h12; exact node_12 m k z s w
  exact node_op op m k z s w h1 h2 h3 h4 h5 h6 h7 h8 h9 h10 h11 h12
end Go.Proofs.YtnhcjadkbogioaaGreat
