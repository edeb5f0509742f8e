/- Pieces: Check, Many, To, From, of both; the example: what each returns. -/
import Derived.Test.YtgoebblcggdlgaaPieB
namespace Go.Proofs.Ytgoebblcggdlgaa
set_option linter.unusedVariables false
set_option linter.unusedSimpArgs false
open Go Go.RowKit OctM SumM

theorem Blk.wholeT {w : World} {g : Nat} {cs ds : List Value} (h : Blk w g cs) (hl : ds.length = cs.length) : Blk (w.setCells g 0 ds) g ds := by
  have h2 := h.sets ds 0 (by omega)
  rw [List.take_zero, List.nil_append, List.drop_eq_nil_of_le (by omega), List.append_nil] at h2
  exact h2
theorem pie_results {P : Program} {fn : Func} {q : Tmp} {ty : TypeId} (h : fn.results = #[.cell q ty]) (tmps : Array Value) (w : World) (g : Nat) (cs : List Value) (d : TypeDesc)
    (hq : tmps.getD q undef = .pointer (some ⟨g, 0, none⟩)) (hB : Blk w g cs)
    (hu : P.underlying ty = some d) (hd : (match d with | .struct _ | .array _ _ => true | _ => false) = true) (hi : (P.info? ty).map (·.size) = some cs.length) :
    (results fn tmps).run P w = .ok (.agg cs.toArray) w := by
  obtain ⟨t, hB⟩ := hB
  exact results_cell_row h tmps w g t cs.toArray (0, 0) d hq hB hu hd (by simpa using hi)
theorem box_put (w : World) (cs zs : List Value) (t u : TypeId) (h : cs.length = zs.length) : ((w.alloc (.cells cs.toArray t)).alloc (.cells zs.toArray u)).there (w.heap.size + 1) 0 cs.toArray.size ∧ Blk (((w.alloc (.cells cs.toArray t)).alloc (.cells zs.toArray u)).setCells (w.heap.size + 1) 0 cs) (w.heap.size + 1) cs ∧ Below w.heap.size w (((w.alloc (.cells cs.toArray t)).alloc (.cells zs.toArray u)).setCells (w.heap.size + 1) 0 cs) := by
  have h0 := Blk.new (w.alloc (.cells cs.toArray t)) zs u
  rw [show (w.alloc (.cells cs.toArray t)).heap.size = w.heap.size + 1 by simp] at h0
  refine ⟨?_, h0.wholeT h, below_sets (Nat.le_succ _) _ 0 (((Below.refl w.heap.size w).alloc (Nat.le_refl _) _).alloc (by simp) _)⟩
  have e : cs.toArray.size = cs.length := by simp
  rw [e]
  exact h0.there 0 _ (by omega)
theorem pcel_one (p : Pc) : ∀ u ∈ pcel p, u.oneCell' = true := by
  intro u hu
  unfold pcel at hu
  simp at hu
  rcases hu with h | h | h | h | h <;> subst h <;> rfl
theorem info_pie : (Try.prog.info? 25).map (·.size) = some 5 := by kernel_rfl
theorem info_rpie : (Try.prog.info? 23).map (·.size) = some 5 := by kernel_rfl
theorem stands_any (a b : Int) (w : World) : Calls Try.prog 26 #[.int .i64 a, .int .i64 b] w fun e w' => e = .returned (.bool (decide (1 ≤ a ∧ a ≤ 4294967295 ∧ 0 ≤ b ∧ b < 1099511627776))) ∧ w = w' := by
  go_enter Try.func26, Try.ntmps26
  by_cases h1 : 1 ≤ a
  · have dh1 : decide (1 ≤ a) = true := decide_eq_true h1
    by_cases h2 : a ≤ 4294967295
    · have dh2 : decide (a ≤ 4294967295) = true := decide_eq_true h2
      by_cases h3 : 0 ≤ b
      · have dh3 : decide (0 ≤ b) = true := decide_eq_true h3
        by_cases h4 : b < 1099511627776
        · have dh4 : decide (b < 1099511627776) = true := decide_eq_true h4
          have R : decide (1 ≤ a ∧ a ≤ 4294967295 ∧ 0 ≤ b ∧ b < 1099511627776) = true := by simp only [decide_eq_true_eq]; omega
          rw [R]
          clear R
          go_wp2_with fail
          go_ret
          exact ⟨rfl, rfl⟩
        · have dh4 : decide (b < 1099511627776) = false := decide_eq_false h4
          have R : decide (1 ≤ a ∧ a ≤ 4294967295 ∧ 0 ≤ b ∧ b < 1099511627776) = false := by simp only [decide_eq_false_iff_not]; omega
          rw [R]
          clear R
          go_wp2_with fail
          go_ret
          exact ⟨rfl, rfl⟩
      · have dh3 : decide (0 ≤ b) = false := decide_eq_false h3
        have R : decide (1 ≤ a ∧ a ≤ 4294967295 ∧ 0 ≤ b ∧ b < 1099511627776) = false := by simp only [decide_eq_false_iff_not]; omega
        rw [R]
        clear R
        go_wp2_with fail
        go_ret
        exact ⟨rfl, rfl⟩
    · have dh2 : decide (a ≤ 4294967295) = false := decide_eq_false h2
      have R : decide (1 ≤ a ∧ a ≤ 4294967295 ∧ 0 ≤ b ∧ b < 1099511627776) = false := by simp only [decide_eq_false_iff_not]; omega
      rw [R]
      clear R
      go_wp2_with fail
      go_ret
      exact ⟨rfl, rfl⟩
  · have dh1 : decide (1 ≤ a) = false := decide_eq_false h1
    have R : decide (1 ≤ a ∧ a ≤ 4294967295 ∧ 0 ≤ b ∧ b < 1099511627776) = false := by simp only [decide_eq_false_iff_not]; omega
    rw [R]
    clear R
    go_wp2_with fail
    go_ret
    exact ⟨rfl, rfl⟩
theorem check_any (p : Pc) (w : World) (hl : p.2.2.2.2.length ≤ 4096) : Calls Try.prog 9 #[.agg (pcel p).toArray] w fun e w' => e = .returned (.bool (pok p)) ∧ Below w.heap.size w w' := by
  obtain ⟨a, b, f, g, l⟩ := p
  show Calls _ _ #[.agg #[.int .i64 a, .int .i64 b, .bool f, .bool g, .string (str l)]] w fun e w' => e = .returned (.bool (decide (1 ≤ a ∧ a < 4294967296 ∧ 0 ≤ b ∧ b < 1099511627776 ∧ l.length ≤ 52))) ∧ Below w.heap.size w w'
  dsimp only at hl
  have hz := str_size l
  obtain ⟨sl, hsl⟩ : ∃ sl, sl = str l := ⟨_, rfl⟩
  rw [← hsl] at hz ⊢
  clear hsl
  obtain ⟨n, hn⟩ : ∃ n, n = l.length := ⟨_, rfl⟩
  rw [← hn] at hz hl ⊢
  clear hn
  have hb := (Below.refl w.heap.size w).alloc (Nat.le_refl _) (.cells #[.int .i64 a, .int .i64 b, .bool f, .bool g, .string sl] 25)
  go_enter Try.func9, Try.ntmps9
  go_wp2_with fail
  refine (stands_any a b _).mono ?_
  rintro e w1 ⟨rfl, h1⟩
  have c4 := (Blk.new w [Value.int .i64 a, .int .i64 b, .bool f, .bool g, .string sl] 25).cell (j := 4) rfl
  generalize w.alloc (.cells [Value.int .i64 a, .int .i64 b, .bool f, .bool g, .string sl].toArray 25) = w0 at hb h1 c4
  subst h1
  by_cases hs : 1 ≤ a ∧ a ≤ 4294967295 ∧ 0 ≤ b ∧ b < 1099511627776
  · rw [decide_eq_true hs]
    by_cases h5 : n ≤ 52
    · have d5 : decide ((n : Int) ≤ 52) = true := decide_eq_true (by omega)
      have R : decide (1 ≤ a ∧ a < 4294967296 ∧ 0 ≤ b ∧ b < 1099511627776 ∧ n ≤ 52) = true := decide_eq_true (by omega)
      go_wp2_with fail
      go_ret
      exact ⟨by rw [R]; rfl, hb⟩
    · have d5 : decide ((n : Int) ≤ 52) = false := decide_eq_false (by omega)
      have R : decide (1 ≤ a ∧ a < 4294967296 ∧ 0 ≤ b ∧ b < 1099511627776 ∧ n ≤ 52) = false := decide_eq_false (by omega)
      go_wp2_with fail
      go_ret
      exact ⟨by rw [R]; rfl, hb⟩
  · rw [decide_eq_false hs]
    have R : decide (1 ≤ a ∧ a < 4294967296 ∧ 0 ≤ b ∧ b < 1099511627776 ∧ n ≤ 52) = false := decide_eq_false (by omega)
    go_wp2_with fail
    go_ret
    exact ⟨by rw [R]; rfl, hb⟩
theorem rcheck_any (p : Pc) (w : World) (hl : p.2.2.2.2.length ≤ 4096) : Calls Try.prog 11 #[.agg (pcel p).toArray] w fun e w' => e = .returned (.bool (pok p)) ∧ Below w.heap.size w w' := by
  obtain ⟨a, b, f, g, l⟩ := p
  show Calls _ _ #[.agg #[.int .i64 a, .int .i64 b, .bool f, .bool g, .string (str l)]] w fun e w' => e = .returned (.bool (decide (1 ≤ a ∧ a < 4294967296 ∧ 0 ≤ b ∧ b < 1099511627776 ∧ l.length ≤ 52))) ∧ Below w.heap.size w w'
  dsimp only at hl
  have hz := str_size l
  obtain ⟨sl, hsl⟩ : ∃ sl, sl = str l := ⟨_, rfl⟩
  rw [← hsl] at hz ⊢
  clear hsl
  obtain ⟨n, hn⟩ : ∃ n, n = l.length := ⟨_, rfl⟩
  rw [← hn] at hz hl ⊢
  clear hn
  have hb := (Below.refl w.heap.size w).alloc (Nat.le_refl _) (.cells #[.int .i64 a, .int .i64 b, .bool f, .bool g, .string sl] 23)
  go_enter Try.func11, Try.ntmps11
  by_cases h1 : 1 ≤ a
  · have dh1 : decide (1 ≤ a) = true := decide_eq_true h1
    by_cases h2 : a < 4294967296
    · have dh2 : decide (a < 4294967296) = true := decide_eq_true h2
      by_cases h3 : 0 ≤ b
      · have dh3 : decide (0 ≤ b) = true := decide_eq_true h3
        by_cases h4 : b < 1099511627776
        · have dh4 : decide (b < 1099511627776) = true := decide_eq_true h4
          by_cases h5 : (n : Int) ≤ 52
          · have dh5 : decide ((n : Int) ≤ 52) = true := decide_eq_true h5
            have R : decide (1 ≤ a ∧ a < 4294967296 ∧ 0 ≤ b ∧ b < 1099511627776 ∧ n ≤ 52) = true := by simp only [decide_eq_true_eq]; omega
            rw [R]
            clear R
            go_wp2_with fail
            go_ret
            exact ⟨rfl, hb⟩
          · have dh5 : decide ((n : Int) ≤ 52) = false := decide_eq_false h5
            have R : decide (1 ≤ a ∧ a < 4294967296 ∧ 0 ≤ b ∧ b < 1099511627776 ∧ n ≤ 52) = false := by simp only [decide_eq_false_iff_not]; omega
            rw [R]
            clear R
            go_wp2_with fail
            go_ret
            exact ⟨rfl, hb⟩
        · have dh4 : decide (b < 1099511627776) = false := decide_eq_false h4
          have R : decide (1 ≤ a ∧ a < 4294967296 ∧ 0 ≤ b ∧ b < 1099511627776 ∧ n ≤ 52) = false := by simp only [decide_eq_false_iff_not]; omega
          rw [R]
          clear R
          go_wp2_with fail
          go_ret
          exact ⟨rfl, hb⟩
      · have dh3 : decide (0 ≤ b) = false := decide_eq_false h3
        have R : decide (1 ≤ a ∧ a < 4294967296 ∧ 0 ≤ b ∧ b < 1099511627776 ∧ n ≤ 52) = false := by simp only [decide_eq_false_iff_not]; omega
        rw [R]
        clear R
        go_wp2_with fail
        go_ret
        exact ⟨rfl, hb⟩
    · have dh2 : decide (a < 4294967296) = false := decide_eq_false h2
      have R : decide (1 ≤ a ∧ a < 4294967296 ∧ 0 ≤ b ∧ b < 1099511627776 ∧ n ≤ 52) = false := by simp only [decide_eq_false_iff_not]; omega
      rw [R]
      clear R
      go_wp2_with fail
      go_ret
      exact ⟨rfl, hb⟩
  · have dh1 : decide (1 ≤ a) = false := decide_eq_false h1
    have R : decide (1 ≤ a ∧ a < 4294967296 ∧ 0 ≤ b ∧ b < 1099511627776 ∧ n ≤ 52) = false := by simp only [decide_eq_false_iff_not]; omega
    rw [R]
    clear R
    go_wp2_with fail
    go_ret
    exact ⟨rfl, hb⟩
def many (n : Int) : Int := if n ≤ 52 then 1 else (n - 1) / 52 + 1
theorem many_any (n : Int) (h1 : n < 9223372036854775808) (w : World) : Calls Try.prog 15 #[.int .i64 n] w fun e w' => e = .returned (.int .i64 (many n)) ∧ w = w' := by
  unfold many
  go_enter Try.func15, Try.ntmps15
  by_cases h : n ≤ 52
  · have d : decide (n ≤ 52) = true := decide_eq_true h
    rw [if_pos h]
    go_wp2_with fail
    go_ret
    exact ⟨rfl, rfl⟩
  · have d : decide (n ≤ 52) = false := decide_eq_false h
    rw [if_neg h]
    go_wp2_with fail
    go_ret
    exact ⟨rfl, rfl⟩
def manyR (n : Int) : Int := if n ≤ 52 then 1 else (n - 1) / 52 + 1
theorem rmany_any (n : Int) (h1 : n < 9223372036854775808) (w : World) : Calls Try.prog 16 #[.int .i64 n] w fun e w' => e = .returned (.int .i64 (many n)) ∧ w = w' := by
  unfold many
  go_enter Try.func16, Try.ntmps16
  by_cases h : n ≤ 52
  · have d : decide (n ≤ 52) = true := decide_eq_true h
    rw [if_pos h]
    go_wp2_with fail
    go_ret
    exact ⟨rfl, rfl⟩
  · have d : decide (n ≤ 52) = false := decide_eq_false h
    rw [if_neg h]
    go_wp2_with fail
    go_ret
    exact ⟨rfl, rfl⟩
theorem to_any (p : Pc) (w : World) : Calls Try.prog 10 #[.agg (pcel p).toArray] w fun e w' => e = .returned (.agg (pcel p).toArray) ∧ Below w.heap.size w w' := by
  have hu := Try.underlying25
  have ON := all_oneCell_toArray (pcel_one p)
  obtain ⟨TH, B, LE⟩ := box_put w (pcel p) [.int .i64 0, .int .i64 0, .bool false, .bool false, .string { data := #[] }] 23 25 rfl
  obtain ⟨a, b, f, g, l⟩ := p
  have HB := Lib.hid B
  have HLE := Lib.hid LE
  clear B LE
  show Calls _ _ #[.agg #[.int .i64 a, .int .i64 b, .bool f, .bool g, .string (str l)]] w _
  go_enter Try.func10, Try.ntmps10
  go_wp2_with (first
    | (refine wpList_store_mid rfl 25 (.tmp 2) (.tmp 13) rfl (w.heap.size + 1) 0 (pcel (a, b, f, g, l)).toArray rfl rfl TH info_pie ON ?_
       simp only [Act.put]
       generalize hw4 : World.setCells _ (w.heap.size + 1) 0 (pcel (a, b, f, g, l)).toArray.toList = w4
       have FIN : Blk w4 (w.heap.size + 1) (pcel (a, b, f, g, l)) := by rw [← hw4]; exact HB.out
       have LEF : Below w.heap.size w w4 := by rw [← hw4]; exact HLE.out
       clear hw4)
    | fail)
  exact bodyPost_ret (v := .agg (pcel (a, b, f, g, l)).toArray) (pie_results (q := 2) rfl _ _ (w.heap.size + 1) _ _ rfl FIN hu rfl info_pie) rfl ⟨rfl, LEF⟩
theorem from_any (p : Pc) (w : World) : Calls Try.prog 14 #[.agg (pcel p).toArray] w fun e w' => e = .returned (.agg (pcel p).toArray) ∧ Below w.heap.size w w' := by
  have hu := Try.underlying23
  have ON := all_oneCell_toArray (pcel_one p)
  obtain ⟨TH, B, LE⟩ := box_put w (pcel p) [.int .i64 0, .int .i64 0, .bool false, .bool false, .string { data := #[] }] 25 23 rfl
  obtain ⟨a, b, f, g, l⟩ := p
  have HB := Lib.hid B
  have HLE := Lib.hid LE
  clear B LE
  show Calls _ _ #[.agg #[.int .i64 a, .int .i64 b, .bool f, .bool g, .string (str l)]] w _
  go_enter Try.func14, Try.ntmps14
  go_wp2_with (first
    | (refine wpList_store_mid rfl 23 (.tmp 2) (.tmp 13) rfl (w.heap.size + 1) 0 (pcel (a, b, f, g, l)).toArray rfl rfl TH info_rpie ON ?_
       simp only [Act.put]
       generalize hw4 : World.setCells _ (w.heap.size + 1) 0 (pcel (a, b, f, g, l)).toArray.toList = w4
       have FIN : Blk w4 (w.heap.size + 1) (pcel (a, b, f, g, l)) := by rw [← hw4]; exact HB.out
       have LEF : Below w.heap.size w w4 := by rw [← hw4]; exact HLE.out
       clear hw4)
    | fail)
  exact bodyPost_ret (v := .agg (pcel (a, b, f, g, l)).toArray) (pie_results (q := 2) rfl _ _ (w.heap.size + 1) _ _ rfl FIN hu rfl info_rpie) rfl ⟨rfl, LEF⟩
theorem awake_any (w : World) : Calls Try.prog 6 #[] w fun e w' => e = .returned (.bool true) ∧ w = w' := by
  go_enter Try.func6, Try.ntmps6
  go_wp2_with fail
  refine (many_any 0 (by omega) _).mono ?_
  rintro e w1 ⟨rfl, rfl⟩
  rw [show many 0 = 1 from rfl]
  go_wp2_with fail
  refine (many_any 52 (by omega) _).mono ?_
  rintro e w1 ⟨rfl, rfl⟩
  rw [show many 52 = 1 from rfl]
  go_wp2_with fail
  refine (many_any 53 (by omega) _).mono ?_
  rintro e w1 ⟨rfl, rfl⟩
  rw [show many 53 = 2 from rfl]
  go_wp2_with fail
  go_ret
  exact ⟨rfl, rfl⟩
end Go.Proofs.Ytgoebblcggdlgaa
