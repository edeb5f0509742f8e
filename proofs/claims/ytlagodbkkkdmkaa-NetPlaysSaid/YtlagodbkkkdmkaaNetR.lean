/- The document's nets: Look, Send, Twice; the program's nets that are nil; Len changes nothing. -/
import Derived.Test.YtlagodbkkkdmkaaNetO
import Derived.Test.YtlagodbkkkdmkaaRowC
namespace Go.Proofs.Ytlagodbkkkdmkaa
set_option linter.unusedVariables false
set_option linter.unusedSimpArgs false
open Go Go.RowKit Go.MuLone

theorem rpk_there (w : World) (n : Nat) (hn : n = 3) : (w.alloc (.cells #[.int .i64 0, .int .i64 0, .string ⟨#[]⟩] 56)).there w.heap.size 0 n := hn ▸ (Blk.new w (vcells zv) 56).there 0 3 (by simp [vcells])
set_option maxHeartbeats 1600000 in
theorem rpk_put (w W : World) (v : V3) (vc : List Value) (hvc : vc = vcells v) (hW : W = (w.alloc (.cells #[.int .i64 0, .int .i64 0, .string ⟨#[]⟩] 56)).setCells w.heap.size 0 vc) : Blk W w.heap.size vc ∧ Below w.heap.size w W ∧ W.heap.size = w.heap.size + 1 := by
  subst hvc hW
  have BN := Blk.new w (vcells zv) 56
  have FIN := BN.sets (vcells v) 0 (by simp [vcells])
  have e1 : (vcells zv).take 0 ++ vcells v ++ (vcells zv).drop (0 + (vcells v).length) = vcells v := by simp [vcells]
  rw [e1] at FIN
  exact ⟨FIN, below_sets (Nat.le_refl w.heap.size) (vcells v) 0 ((Below.refl w.heap.size w).alloc (Nat.le_refl _) (.cells (vcells zv).toArray 56)), by rw [size_sets]; simp⟩

set_option maxRecDepth 100000 in
set_option maxHeartbeats 3200000 in
theorem rlook_no (w : World) (A : Option Addr) (c n : Nat) (k : Int) (hk : k < 0 ∨ (n : Int) ≤ k) :
    Calls Try.prog 33 #[.slice A n c, .int .i64 k] w fun e w' => e = .returned (.tuple #[.agg (vcells zv).toArray, .bool false]) ∧ Below w.heap.size w w' := by
  have hu := Try.underlying56
  obtain ⟨W, hW⟩ : ∃ W, W = (w.alloc (.cells #[.int .i64 0, .int .i64 0, .string ⟨#[]⟩] 56)).setCells w.heap.size 0 (vcells zv) := ⟨_, rfl⟩
  obtain ⟨F, HB, _⟩ := rpk_put w W zv _ rfl hW
  have TH := rpk_there w 3 rfl
  have HW := Lib.hid hW
  clear hW
  by_cases h0 : k < 0
  · have d0 : decide (k < 0) = true := decide_eq_true h0
    clear hk
    go_enter Try.func33, Try.ntmps33
    go_wp2_with (first
      | (refine wpList_store_mid rfl 56 (.tmp 4) (.tmp 14) rfl w.heap.size 0 (vcells zv).toArray rfl rfl TH info_rpk (all_oneCell_toArray (vcells_one zv)) ?_
         rw [show (w.alloc (.cells #[.int .i64 0, .int .i64 0, .string ⟨#[]⟩] 56)).setCells w.heap.size 0 (vcells zv).toArray.toList = W from HW.out.symm])
      | fail)
    exact bodyPost_ret (v := .tuple #[.agg (vcells zv).toArray, .bool false]) (results_cellb (p := 5) (q := 4) rfl _ _ w.heap.size (vcells zv) _ _ rfl rfl F hu rfl info_rpk) rfl ⟨rfl, HB⟩
  · have d0 : decide (k < 0) = false := decide_eq_false h0
    have d1 : decide ((n : Int) ≤ k) = true := decide_eq_true (by omega)
    clear hk
    go_enter Try.func33, Try.ntmps33
    go_wp2_with (first
      | (refine wpList_store_mid rfl 56 (.tmp 4) (.tmp 14) rfl w.heap.size 0 (vcells zv).toArray rfl rfl TH info_rpk (all_oneCell_toArray (vcells_one zv)) ?_
         rw [show (w.alloc (.cells #[.int .i64 0, .int .i64 0, .string ⟨#[]⟩] 56)).setCells w.heap.size 0 (vcells zv).toArray.toList = W from HW.out.symm])
      | fail)
    exact bodyPost_ret (v := .tuple #[.agg (vcells zv).toArray, .bool false]) (results_cellb (p := 5) (q := 4) rfl _ _ w.heap.size (vcells zv) _ _ rfl rfl F hu rfl info_rpk) rfl ⟨rfl, HB⟩

set_option maxRecDepth 100000 in
set_option maxHeartbeats 3200000 in
theorem rlook_yes (w : World) (A : Option Addr) (c n i : Nat) (l : List V3) (hn : l.length = n) (hs : Sees w w.heap.size A (fcells l)) (hi : i < l.length) (hn40 : n ≤ 40) :
    Calls Try.prog 33 #[.slice A n c, .int .i64 i] w fun e w' => e = .returned (.tuple #[.agg (vcells l[i]).toArray, .bool true]) ∧ Below w.heap.size w w' := by
  have hu := Try.underlying56
  obtain ⟨vc, hvc⟩ : ∃ vc, vc = vcells l[i] := ⟨_, rfl⟩
  obtain ⟨b, o, rfl, hb, hrg⟩ := sees_pk (hs.below ((Below.refl w.heap.size w).alloc (Nat.le_refl _) (.cells #[.int .i64 0, .int .i64 0, .string ⟨#[]⟩] 56))) i hi
  obtain ⟨W, hW⟩ : ∃ W, W = (w.alloc (.cells #[.int .i64 0, .int .i64 0, .string ⟨#[]⟩] 56)).setCells w.heap.size 0 vc := ⟨_, rfl⟩
  obtain ⟨F, HB, _⟩ := rpk_put w W l[i] _ hvc hW
  have TH := rpk_there w vc.length (by rw [hvc]; rfl)
  have HW := Lib.hid hW
  have HI : Hid ((Try.prog.info? 56).map (·.size) = some vc.length) := Lib.hid (by rw [hvc]; exact info_rpk)
  have HONE := Lib.hid (hvc ▸ vcells_one l[i])
  rw [← hvc] at hrg ⊢
  have hin : i < n := by omega
  have dn : decide ((i : Int) < 0) = false := decide_eq_false (by omega)
  have d0 : decide ((n : Int) ≤ (i : Int)) = false := decide_eq_false (by omega)
  have d1 : decide (n ≤ i) = false := decide_eq_false (by omega)
  clear hW hvc hn hs hi
  go_enter Try.func33, Try.ntmps33
  go_wp2_with (first
    | (refine wpList_load_mid rfl 56 (.tmp 17) rfl b (o + i * 3) rfl vc _ hrg hu rfl HI.out ?_)
    | (refine wpList_store_mid rfl 56 (.tmp 4) (.tmp 18) rfl w.heap.size 0 vc.toArray rfl rfl TH (by simpa using HI.out) (all_oneCell_toArray HONE.out) ?_
       rw [show (w.alloc (.cells #[.int .i64 0, .int .i64 0, .string ⟨#[]⟩] 56)).setCells w.heap.size 0 vc.toArray.toList = W from HW.out.symm])
    | fail)
  exact bodyPost_ret (v := .tuple #[.agg vc.toArray, .bool true]) (results_cellb (p := 5) (q := 4) rfl _ _ w.heap.size vc _ _ rfl rfl F hu rfl HI.out) rfl ⟨rfl, HB⟩

set_option maxRecDepth 100000 in
set_option maxHeartbeats 3200000 in
theorem rsend_full (w : World) (ad : Addr) (c n : Nat) (v0 v1 : Int) (v2 : ByteArray) (hl : 40 ≤ n) :
    Calls Try.prog 27 #[.slice (some ad) n c, .agg #[.int .i64 v0, .int .i64 v1, .string v2]] w fun e w' => e = .returned (.tuple #[.slice (some ad) n c, .bool false]) ∧ Below w.heap.size w w' := by
  have d1 : decide ((40 : Int) ≤ (n : Int)) = true := decide_eq_true (by omega)
  have d2 : decide (40 ≤ n) = true := decide_eq_true (by omega)
  have hb := Lib.hid ((Below.refl w.heap.size w).alloc (Nat.le_refl _) (.cells #[.int .i64 v0, .int .i64 v1, .string v2] 56))
  clear hl
  go_enter Try.func27, Try.ntmps27
  go_wp2_with fail
  exact bodyPost_ret (results_tmp2 rfl _ _ _) rfl ⟨rfl, hb.out⟩

/-- A slice that is not nil, of a row of the call's own. -/
theorem row_some {w : World} {base n : Nat} {e : TypeId} {size : Nat} {A : Option Addr} {c : Nat} {xs : List Value} (h : w.ownsRow base e size (.slice A n c) n xs) (hn : 0 < n) : ∃ ad, A = some ad := by
  rcases h.2 with ⟨_, h0⟩ | ⟨g, cap, cur, e1, _⟩
  · omega
  · simp only [Value.slice.injEq] at e1
    exact ⟨_, e1.1⟩

set_option maxRecDepth 100000 in
set_option maxHeartbeats 3200000 in
theorem rtwice_no (w : World) (ad : Addr) (c n : Nat) (k : Int) (hk : k < 0 ∨ (n : Int) ≤ k) :
    Calls Try.prog 31 #[.slice (some ad) n c, .int .i64 k] w fun e w' => e = .returned (.tuple #[.slice (some ad) n c, .bool false]) ∧ Below w.heap.size w w' := by
  have HL := Lib.hid (fun wx => rlook_no wx (some ad) c n k hk)
  obtain ⟨q, hq⟩ : ∃ q : V3, q = zv := ⟨_, rfl⟩
  rw [← hq] at HL
  clear hq hk
  go_enter Try.func31, Try.ntmps31
  go_wp2_with fail
  refine (HL.out _).mono ?_
  rintro e w2 ⟨rfl, hb2⟩
  obtain ⟨W3, hW3⟩ : ∃ W3, W3 = (w2.alloc (.cells #[.int .i64 0, .int .i64 0, .string ⟨#[]⟩] 56)).setCells w2.heap.size 0 (vcells q) := ⟨_, rfl⟩
  obtain ⟨F3, B3, z3⟩ := rpk_put w2 W3 q _ rfl hW3
  have TH2 := rpk_there w2 3 rfl
  have HW3 := Lib.hid hW3
  have HB := Lib.hid (hb2.trans (B3.mono hb2.size))
  clear hW3 F3 B3 z3 HL hb2
  go_wp2_with (first
    | (refine wpList_store_mid rfl 56 (.tmp 6) (.tmp 12) rfl w2.heap.size 0 (vcells q).toArray rfl rfl TH2 info_rpk (all_oneCell_toArray (vcells_one q)) ?_
       rw [show (w2.alloc (.cells #[.int .i64 0, .int .i64 0, .string ⟨#[]⟩] 56)).setCells w2.heap.size 0 (vcells q).toArray.toList = W3 from HW3.out.symm])
    | fail)
  exact bodyPost_ret (results_tmp2 rfl _ _ _) rfl ⟨rfl, HB.out⟩

/-- What a function of the document gives: the slice as it was, or a row of its own. -/
def RS (w w' : World) (ad : Addr) (n c : Nat) (l : List V3) (ad' : Addr) (n' c' : Nat) (l' : List V3) : Prop :=
  Below w.heap.size w w' ∧ n' = l'.length ∧ ((ad' = ad ∧ n' = n ∧ c' = c ∧ l' = l) ∨ w'.ownsRow w.heap.size 56 3 (.slice (some ad') n' c') n' (fcells l'))
theorem RS.same {w w' : World} {ad : Addr} {n c : Nat} {l : List V3} (hn : l.length = n) (hb : Below w.heap.size w w') : RS w w' ad n c l ad n c l := ⟨hb, hn.symm, .inl ⟨rfl, rfl, rfl, rfl⟩⟩
theorem RS.after {w w1 w2 w' : World} {ad ad' : Addr} {n c n' c' : Nat} {l l' : List V3} (h : RS w1 w2 ad n c l ad' n' c' l') (h0 : Below w.heap.size w w1) (h1 : Below w2.heap.size w2 w') : RS w w' ad n c l ad' n' c' l' := by
  obtain ⟨hb, hn, h⟩ := h
  refine ⟨(h0.trans (hb.mono h0.size)).trans (h1.mono (Nat.le_trans h0.size hb.size)), hn, h.imp id fun h => ?_⟩
  exact row_later (row_lower h h0.size) h1

theorem rsend_any (w : World) (ad : Addr) (c n : Nat) (l : List V3) (v : V3) (hn : l.length = n) (hs : Sees w w.heap.size (some ad) (fcells l)) :
    Calls Try.prog 27 #[.slice (some ad) n c, .agg (vcells v).toArray] w fun e w' => ∃ ad' n' c', e = .returned (.tuple #[.slice (some ad') n' c', .bool (decide (l.length < 40))]) ∧ RS w w' ad n c l ad' n' c' (if l.length < 40 then l ++ [v] else l) := by
  obtain ⟨v0, v1, v2⟩ := v
  by_cases h : n < 40
  · refine (rsend_more w ad c n l v0 v1 v2 hn hs h).mono ?_
    rintro e w' ⟨A', c', rfl, hr, hb⟩
    obtain ⟨ad', rfl⟩ := row_some hr (by omega)
    have e1 : (l ++ [(v0, v1, v2)]).length = n + 1 := by rw [List.length_append, hn]; rfl
    rw [hn, decide_eq_true h, if_pos h]
    exact ⟨ad', n + 1, c', rfl, hb, e1.symm, .inr hr⟩
  · refine (rsend_full w ad c n v0 v1 v2 (by omega)).mono ?_
    rintro e w' ⟨rfl, hb⟩
    rw [hn, decide_eq_false h, if_neg h]
    exact ⟨ad, n, c, rfl, RS.same hn hb⟩
theorem rlook_any (w : World) (A : Option Addr) (c n : Nat) (l : List V3) (k : Int) (hn : l.length = n) (hs : Sees w w.heap.size A (fcells l)) (hn40 : n ≤ 40) :
    Calls Try.prog 33 #[.slice A n c, .int .i64 k] w fun e w' => e = .returned (.tuple #[.agg (vcells (pkAt l k)).toArray, .bool (pkIs l k)]) ∧ Below w.heap.size w w' := by
  by_cases h : k < 0 ∨ (l.length : Int) ≤ k
  · rw [(pkAt_no h).1, (pkAt_no h).2]
    exact rlook_no w A c n k (by rw [← hn]; exact h)
  · obtain ⟨i, rfl⟩ : ∃ i : Nat, k = (i : Int) := ⟨k.toNat, by omega⟩
    have hi : i < l.length := by omega
    rw [(pkAt_nat hi).1, (pkAt_nat hi).2]
    exact rlook_yes w A c n i l hn hs hi hn40

set_option maxRecDepth 100000 in
set_option maxHeartbeats 3200000 in
theorem rtwice_any (w : World) (ad : Addr) (c n : Nat) (l : List V3) (k : Int) (hn : l.length = n) (hs : Sees w w.heap.size (some ad) (fcells l)) (hn40 : n ≤ 40) :
    Calls Try.prog 31 #[.slice (some ad) n c, .int .i64 k] w fun e w' => ∃ ad' n' c', e = .returned (.tuple #[.slice (some ad') n' c', .bool (pkIs l k && decide (l.length < 40))]) ∧ RS w w' ad n c l ad' n' c' (if pkIs l k = true ∧ l.length < 40 then l ++ [pkAt l k] else l) := by
  by_cases h : k < 0 ∨ (l.length : Int) ≤ k
  · rw [(pkAt_no h).2]
    refine (rtwice_no w ad c n k (by rw [← hn]; exact h)).mono ?_
    rintro e w' ⟨rfl, hb⟩
    rw [if_neg (by simp)]
    exact ⟨ad, n, c, rfl, RS.same hn hb⟩
  · obtain ⟨i, rfl⟩ : ∃ i : Nat, k = (i : Int) := ⟨k.toNat, by omega⟩
    have hi : i < l.length := by omega
    rw [(pkAt_nat hi).1, (pkAt_nat hi).2]
    have HL := Lib.hid (rlook_yes w (some ad) c n i l hn hs hi hn40)
    obtain ⟨q, hq⟩ : ∃ q : V3, q = l[i] := ⟨_, rfl⟩
    rw [← hq] at HL ⊢
    have HS := Lib.hid (fun wx (hb : Below w.heap.size w wx) => rsend_any wx ad c n l q hn ((hs.below hb).more hb.size))
    obtain ⟨b, hb⟩ : ∃ b, b = decide (l.length < 40) := ⟨_, rfl⟩
    have e2 : (if true = true ∧ l.length < 40 then l ++ [q] else l) = if l.length < 40 then l ++ [q] else l := by simp
    rw [e2]
    obtain ⟨l', hl'⟩ : ∃ l', l' = if l.length < 40 then l ++ [q] else l := ⟨_, rfl⟩
    rw [← hb, ← hl'] at HS ⊢
    rw [Bool.true_and]
    clear hq h hs hb hl' e2
    go_enter Try.func31, Try.ntmps31
    go_wp2_with fail
    refine HL.out.mono ?_
    rintro e w2 ⟨rfl, hb2⟩
    obtain ⟨W3, hW3⟩ : ∃ W3, W3 = (w2.alloc (.cells #[.int .i64 0, .int .i64 0, .string ⟨#[]⟩] 56)).setCells w2.heap.size 0 (vcells q) := ⟨_, rfl⟩
    obtain ⟨F3, B3, z3⟩ := rpk_put w2 W3 q _ rfl hW3
    have TH2 := rpk_there w2 3 rfl
    have HW3 := Lib.hid hW3
    have HB := Lib.hid (hb2.trans (B3.mono hb2.size))
    have RX := Lib.hid (F3.range 0 (vcells q) (by simp [vcells]))
    have hup := Try.underlying56
    clear hW3 F3 B3 z3 HL hb2
    go_wp2_with (first
      | (refine wpList_store_mid rfl 56 (.tmp 6) (.tmp 12) rfl w2.heap.size 0 (vcells q).toArray rfl rfl TH2 info_rpk (all_oneCell_toArray (vcells_one q)) ?_
         rw [show (w2.alloc (.cells #[.int .i64 0, .int .i64 0, .string ⟨#[]⟩] 56)).setCells w2.heap.size 0 (vcells q).toArray.toList = W3 from HW3.out.symm])
      | (refine wpList_load_mid rfl 56 (.tmp 6) rfl w2.heap.size 0 rfl (vcells q) _ RX.out hup rfl info_rpk ?_)
      | fail)
    refine (HS.out _ HB.out).mono ?_
    rintro e w4 ⟨ad', n', c', rfl, hrs⟩
    have hrs2 := Lib.hid (hrs.after HB.out (Below.refl _ _))
    clear hrs HS
    go_wp2_with fail
    exact bodyPost_ret (results_tmp2 rfl _ _ _) rfl ⟨ad', n', c', rfl, hrs2.out⟩
end Go.Proofs.Ytlagodbkkkdmkaa
