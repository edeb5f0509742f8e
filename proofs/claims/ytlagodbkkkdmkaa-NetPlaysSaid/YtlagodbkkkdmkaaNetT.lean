/- The document's Take; the program's Take of any place; nets that are nil; Len. -/
import Derived.Test.YtlagodbkkkdmkaaNetR
import Derived.Test.YtlagodbkkkdmkaaFree
namespace Go.Proofs.Ytlagodbkkkdmkaa
set_option linter.unusedVariables false
set_option linter.unusedSimpArgs false
open Go Go.RowKit Go.MuLone

/-- What is left when a place is taken. -/
def tkl (l : List V3) (k : Int) : List V3 := if pkIs l k then l.take k.toNat ++ l.drop (k.toNat + 1) else l
theorem tkl_no {l : List V3} {k : Int} (h : k < 0 ∨ (l.length : Int) ≤ k) : tkl l k = l := by unfold tkl; rw [(pkAt_no h).2]; rfl
theorem tkl_nat {l : List V3} {i : Nat} (h : i < l.length) : tkl l i = l.take i ++ l.drop (i + 1) := by unfold tkl; rw [(pkAt_nat h).2]; rfl
theorem net_Take (w : World) (g : Nat) (r : Option Nat) (l : List V3) (k : Int) (h : NetAt w g 0 r l) (h40 : l.length ≤ 40) :
    Calls Try.prog 28 #[.pointer (some ⟨g, 0, none⟩), .int .i64 k] w (Put0 w g r (tkl l k) (.tuple #[.agg (vcells (pkAt l k)).toArray, .bool (pkIs l k)])) := by
  by_cases hk : k < 0 ∨ (l.length : Int) ≤ k
  · rw [tkl_no hk, (pkAt_no hk).1, (pkAt_no hk).2]
    exact take_no w g r l k h hk
  · obtain ⟨i, rfl⟩ : ∃ i : Nat, k = (i : Int) := ⟨k.toNat, by omega⟩
    have hi : i < l.length := by omega
    rw [tkl_nat hi, (pkAt_nat hi).1, (pkAt_nat hi).2]
    exact take_yes w g r l i h hi h40

/-- A row that is not the nil slice, as an open slot. -/
def relRowS (B : Nat) (e : TypeId) (size n : Nat) (xs : List Value) : Rel where
  rel x w := (∃ ad c, x = .slice (some ad) n c) ∧ w.ownsRow B e size x n xs
  mono := fun x w w' h ⟨ha, hr⟩ => ⟨ha, row_later hr h⟩
  real := fun w ⟨⟨ad, c, e⟩, _⟩ => by cases e
theorem appS_gives {P : Program} {a : Act} {op : Oper} (s x : Operand) (B : Nat) (t e : TypeId) (i : TypeInfo) (z : Value) (size bytes : Nat) (ho : op.op = .call { callee := .builtin .append, args := #[s, x], argTypes := #[t, t] })
    (ht : P.underlying t = some (.slice e)) (hi : P.info? e = some i) (hz : i.zero = some z) (hsize : i.size = size) (hby : i.bytes = bytes) (hzs : z.cells.size = size) (hpos : 0 < size)
    (w : World) (hv : (relRow0 B e size).rel (a.eval s) w) (ad : Addr) (m c : Nat) (news : List Value) (hx : a.eval x = .slice (some ad) m c) (hl : news.length = m * size) (hs : Sees w w.heap.size (some ad) news) (h1 : ∀ u ∈ news, u.oneCell' = true)
    (h63 : m ≤ maxLen) (hbytes : m * bytes ≤ 140737488355328) : gives P op a (relRowS B e size m news).rel w := by
  obtain ⟨hB, b, e0, hr⟩ := hv
  rw [e0] at hr
  by_cases hm : m = 0
  · subst hm
    have hn0 : news = [] := List.length_eq_zero_iff.1 (by simpa using hl)
    subst hn0
    subst hsize
    have hrun := run_append_room_cells (P := P) (w := w) t op.type e i ht hi b 0 0 0 ad 0 c [] (by simp) (by simp) (by simp) (by simp) (by simp) (by simp)
    unfold gives execOp
    simp only [ho, resolve, invoke, builtin, Sem.run_bind, Sem.run_pure, Result.andThen_ok, List.map_toArray, List.map_cons, List.map_nil, e0, hx, hrun]
    exact ⟨Le.refl _, ⟨_, _, rfl⟩, hr⟩
  · obtain ⟨v', w', hrun, hle, hrow⟩ := app_fresh (P := P) w B t op.type e i z size bytes ht hi hz hsize hby hzs hpos b hr ad m c news hl hs h1 h63 hbytes hB
    unfold gives execOp
    simp only [ho, resolve, invoke, builtin, Sem.run_bind, Sem.run_pure, Result.andThen_ok, List.map_toArray, List.map_cons, List.map_nil, e0, hx, hrun]
    refine ⟨hle, ?_, hrow⟩
    obtain ⟨A', c', rfl⟩ := row_form hrow
    obtain ⟨ad', rfl⟩ := row_some hrow (by omega)
    exact ⟨ad', c', rfl⟩
/-- What an append leaves of a slice that is not nil is not nil. -/
theorem some_of {A : Option Addr} {n c : Nat} {B : Nat} {ad : Addr} {m c' : Nat} (h : (Value.slice A n c).ownBlock = (Value.slice (some ad) m c').ownBlock ∨ (Value.slice A n c).ownBlock = some B) : ∃ ad', A = some ad' := by
  cases A with
  | some a => exact ⟨a, rfl⟩
  | none => rcases h with h | h <;> cases h

theorem heap_sets (b k : Nat) (hk : k ≠ b) : ∀ (vs : List Value) (o : Nat) (w : World), (w.setCells b o vs).heap[k]? = w.heap[k]?
  | [], _, _ => rfl
  | v :: vs, o, w => (heap_sets b k hk vs (o + 1) _).trans (Below.heap_setCell w ⟨b, o, none⟩ v k hk)
theorem row_sets {w : World} {base n size : Nat} {e : TypeId} {v : Value} {xs : List Value} (h : w.ownsRow base e size v n xs) {b : Nat} (hb : b < base) (vs : List Value) (o : Nat) : (w.setCells b o vs).ownsRow base e size v n xs := by
  obtain ⟨h1, h2⟩ := h
  exact ⟨h1, h2.imp id fun ⟨k, cap, cur, e1, e2, e3, e4⟩ => ⟨k, cap, cur, e1, e2, (heap_sets b k (by omega) vs o w).trans e3, e4⟩⟩
theorem results_tct {P : Program} {fn : Func} {p q r : Tmp} {ty : TypeId} (h : fn.results = #[.tmp r, .cell q ty, .tmp p]) (tmps : Array Value) (w : World) (g : Nat) (cs : List Value) (d : TypeDesc) (v u : Value) (hr : tmps.getD r undef = u) (hp : tmps.getD p undef = v)
    (hq : tmps.getD q undef = .pointer (some ⟨g, 0, none⟩)) (hB : Blk w g cs)
    (hu : P.underlying ty = some d) (hd : (match d with | .struct _ | .array _ _ => true | _ => false) = true) (hi : (P.info? ty).map (·.size) = some cs.length) :
    (results fn tmps).run P w = .ok (.tuple #[u, .agg cs.toArray, v]) w := by
  obtain ⟨t, hB⟩ := hB
  subst hp hr
  have hq' : tmps[q]?.getD undef = .pointer (some ⟨g, 0, none⟩) := by simpa using hq
  simp [results, h, hq', asAddr, run_loadVar_row w g t ty cs.toArray (0, 0) d hB hu hd (by simpa using hi)]

set_option maxRecDepth 100000 in
set_option maxHeartbeats 3200000 in
theorem rtake_yes (w : World) (b' o' : Nat) (c n i : Nat) (l : List V3) (hn : l.length = n) (hs : Sees w w.heap.size (some ⟨b', o', none⟩) (fcells l)) (hi : i < l.length) (hn40 : n ≤ 40) (hnc : n ≤ c) :
    Calls Try.prog 29 #[.slice (some ⟨b', o', none⟩) n c, .int .i64 i] w fun e w' => ∃ ad' n' c', e = .returned (.tuple #[.slice (some ad') n' c', .agg (vcells l[i]).toArray, .bool true]) ∧ RS w w' ⟨b', o', none⟩ n c l ad' n' c' (l.take i ++ l.drop (i + 1)) := by
  have hin : i < n := by omega
  obtain ⟨i0, hi0, hz0, hz1, hz2⟩ := info_parts info_rpkd
  have hup := Try.underlying56
  obtain ⟨ad1, hr1, hsee1⟩ := rowcut_h 54 56 i0 3 Try.underlying54 hi0 hz1 ⟨b', o', none⟩ n i c i .i64 (by omega) rfl hnc
  obtain ⟨mm, hmm⟩ : ∃ mm, mm = n - (i + 1) := ⟨_, rfl⟩
  obtain ⟨ad2, hr2, hsee2⟩ := rowcut_l 54 56 i0 3 Try.underlying54 hi0 hz1 ⟨b', o', none⟩ n mm (i + 1) c (i + 1) .i64 (by omega) (by omega) hnc
  have HI0 := Lib.hid (And.intro hi0 (And.intro hz0 (And.intro hz1 hz2)))
  have HFL : Hid ((fcells l).length = n * 3) := Lib.hid (by rw [fcells_len, hn]; omega)
  have hAS := Lib.hid hs
  have HS1 := Lib.hid (fun (w1 : World) (hl : Below w.heap.size w w1) => (show Sees w1 w1.heap.size (some ad1) (fcells (l.take i)) by rw [← fcells_take]; exact hsee1 w1 _ _ ((hAS.out.below hl).more hl.size)))
  have e6 : (fcells l).drop ((i + 1) * 3) = fcells (l.drop (i + 1)) := by
    have h1 : fcells l = fcells (l.take (i + 1)) ++ fcells (l.drop (i + 1)) := by rw [← fcells_app, List.take_append_drop]
    conv => lhs; rw [h1]
    rw [List.drop_append_of_le_length (by rw [fcells_len, List.length_take]; omega), List.drop_eq_nil_of_le (by rw [fcells_len, List.length_take]; omega), List.nil_append]
  have HS2 := Lib.hid (fun (w1 : World) (hl : Below w.heap.size w w1) => (show Sees w1 w1.heap.size (some ad2) (fcells (l.drop (i + 1))) by rw [← e6]; exact hsee2 w1 _ _ HFL.out ((hAS.out.below hl).more hl.size)))
  have HL1 : Hid ((fcells (l.take i)).length = i * 3) := Lib.hid (by rw [fcells_len, List.length_take]; omega)
  have HL2 : Hid ((fcells (l.drop (i + 1))).length = mm * 3) := Lib.hid (by rw [fcells_len, List.length_drop, hmm, hn]; omega)
  have HR1 := Lib.hid hr1
  have HR2 := Lib.hid hr2
  have hm40 : i + mm ≤ 40 := by omega
  have HLK := Lib.hid (fun wx (hb : Below w.heap.size w wx) => rlook_yes wx (some ⟨b', o', none⟩) c n i l hn ((hs.below hb).more hb.size) hi hn40)
  obtain ⟨q, hq⟩ : ∃ q : V3, q = l[i] := ⟨_, rfl⟩
  rw [← hq] at HLK ⊢
  obtain ⟨l1, hl1⟩ : ∃ l1, l1 = l.take i := ⟨_, rfl⟩
  obtain ⟨l2, hl2⟩ : ∃ l2, l2 = l.drop (i + 1) := ⟨_, rfl⟩
  rw [← hl1] at HS1 HL1
  rw [← hl2] at HS2 HL2
  rw [← hl1, ← hl2]
  have HE : Hid (i + mm = (l1 ++ l2).length) := Lib.hid (by rw [hl1, hl2, List.length_append, List.length_take, List.length_drop, hmm, hn]; omega)
  have BX := Blk.new w (vcells zv) 56
  have hb0 := (Below.refl w.heap.size w).alloc (Nat.le_refl _) (.cells #[.int .i64 0, .int .i64 0, .string ⟨#[]⟩] 56)
  clear hi0 hz0 hz1 hz2 hsee1 hsee2 hr1 hr2 e6 hl1 hl2 hmm hq hi hn hs hAS HFL
  go_enter Try.func29, Try.ntmps29
  go_wp2_with fail
  refine (HLK.out _ hb0).mono ?_
  rintro e w2 ⟨rfl, hb2⟩
  have BX2 := BX.later hb2
  have hb02 := hb0.trans (hb2.mono hb0.size)
  obtain ⟨W3, hW3⟩ : ∃ W3, W3 = (w2.alloc (.cells #[.int .i64 0, .int .i64 0, .string ⟨#[]⟩] 56)).setCells w2.heap.size 0 (vcells q) := ⟨_, rfl⟩
  obtain ⟨F3, B3, z3⟩ := rpk_put w2 W3 q _ rfl hW3
  have TH2 := rpk_there w2 3 rfl
  have HW3 := Lib.hid hW3
  have HF3 := Lib.hid F3
  have HX3 := Lib.hid (BX2.later B3)
  have HB3 := Lib.hid (hb02.trans (B3.mono hb02.size))
  have HXX : Hid (w.heap.size ≠ w2.heap.size) := Lib.hid (by have := BX2.lt; omega)
  clear hW3 F3 B3 z3 BX BX2 hb0 hb2 hb02 HLK
  go_wp2_with (first
    | (refine wpList_store_mid rfl 56 (.tmp 7) (.tmp 13) rfl w2.heap.size 0 (vcells q).toArray rfl rfl TH2 info_rpk (all_oneCell_toArray (vcells_one q)) ?_
       rw [show (w2.alloc (.cells #[.int .i64 0, .int .i64 0, .string ⟨#[]⟩] 56)).setCells w2.heap.size 0 (vcells q).toArray.toList = W3 from HW3.out.symm])
    | fail)
  have hup2 := hup
  refine wp_region_free 10 [0, 1, 2, 3, 4, 5, 6, 7, 8, 9, 11, 12, 13] (by kernel_rfl) (by simp [rmOps, rmO, renE, List.idxOf_cons]; rfl) _ rfl 29 7 56 rfl rfl (.agg (vcells q).toArray) (fun w' => w'.rangeAt w2.heap.size 0 (vcells q)) (fun w' hl => (HF3.out.later hl).range 0 _ (by simp [vcells]))
    (fun a' w' ha hS => exec_load 56 (.tmp 7) rfl w2.heap.size 0 ha (vcells q) _ hS hup rfl info_rpk)
    [(19, relRow0 W3.heap.size 56 3), (23, relRowS W3.heap.size 56 3 i (fcells l1))] 30 9 (by kernel_rfl) (by kernel_rfl) (by kernel_rfl) (by rfl) ?_
  simp only [Act.put, List.setIfInBounds_toArray, List.set_cons_zero, List.set_cons_succ]
  refine wpG_open (relRow0 W3.heap.size 56 3) (by rfl) (by rfl) (fun w1 hl => row0_gives 54 56 3 W3.heap.size rfl run_rpk0 w1 hl.1.size) ?_
  rintro _ ⟨_, _, _, ⟨_, bn, rfl, _⟩⟩
  simp only [Act.put, List.setIfInBounds_toArray, List.set_cons_zero, List.set_cons_succ]
  iterate 2 (refine wpG_quiet (by rfl) (by rfl) (by rfl) (fun K hK => ?_); go_big_quiet_op; refine hK _ ?_; clear hK K)
  refine wpG_run (by rfl) (by rfl) (.slice (some ad1) i c) (fun w1 hl => exec_slice_h 54 (.tmp 20) (.tmp 21) rfl 56 Try.underlying54 _ _ _ rfl rfl HR1.out) ?_
  simp only [Act.put, List.setIfInBounds_toArray, List.set_cons_zero, List.set_cons_succ]
  refine wpG_open (relRowS W3.heap.size 56 3 i (fcells l1)) (by rfl) (by rfl) (fun w1 hl => ?_) ?_
  · have h10 := hl.2 19 _ (by simp [Op.operands, Call.operands]) rfl (by intro h; cases h)
    exact appS_gives (.tmp 19) (.tmp 22) W3.heap.size 54 56 i0 _ 3 32 rfl Try.underlying54 HI0.out.1 HI0.out.2.1 HI0.out.2.2.1 HI0.out.2.2.2 rfl (by omega) w1 h10 ad1 i c (fcells l1) rfl HL1.out (HS1.out w1 (HB3.out.trans (Below.mono hl.1 HB3.out.size))) (fcells_one l1) (by unfold maxLen; omega) (by omega)
  rintro u ⟨_, _, _, ⟨⟨adA, c1, rfl⟩, _⟩⟩
  simp only [Act.put, List.setIfInBounds_toArray, List.set_cons_zero, List.set_cons_succ]
  iterate 3 (refine wpG_quiet (by rfl) (by rfl) (by rfl) (fun K hK => ?_); go_big_quiet_op; refine hK _ ?_; clear hK K)
  refine wpG_run (by rfl) (by rfl) (.slice (some ad2) mm (c - (i + 1))) (fun w1 hl => exec_slice_l 54 (.tmp 24) (.tmp 26) rfl 56 Try.underlying54 _ _ _ rfl rfl HR2.out) ?_
  simp only [Act.put, List.setIfInBounds_toArray, List.set_cons_zero, List.set_cons_succ]
  refine wpG_nil fun w1 hl hS => ?_
  obtain ⟨⟨_, _⟩, ⟨_, hrow⟩⟩ := hS
  have HROW := Lib.hid hrow
  have hsz1 : W3.heap.size ≤ w1.heap.size := hl.size
  have hb1 := HB3.out.trans (Below.mono hl HB3.out.size)
  have HSE := Lib.hid (HS2.out w1 hb1)
  have HF1 := Lib.hid (HF3.out.later hl)
  have HX1 := Lib.hid (HX3.out.later hl)
  refine wpListS_step (HF1.out.range 0 _ (by simp [vcells])) ?_
  refine wpList_appk _ rfl (.tmp 23) (.tmp 27) 54 rfl W3.heap.size 56 i0 _ 3 32 Try.underlying54 HI0.out.1 HI0.out.2.1 HI0.out.2.2.1 HI0.out.2.2.2 rfl (by omega) (.slice (some adA) i c1) i (fcells l1) (by rfl) HROW.out w1.heap.size (some ad2) (c - (i + 1)) (fcells l2) mm (by rfl) HL2.out HSE.out (fcells_one _) (by unfold maxLen; omega) (by omega) hsz1 ?_
  intro A3 c3 w3 hr3 hb3 hg3 hat3
  obtain ⟨ad3, rfl⟩ := some_of hat3
  have hlt3 : w2.heap.size < W3.heap.size := HF3.out.lt
  have hlt4 : w.heap.size < W3.heap.size := HX3.out.lt
  have F4 := HF3.out.below (Below.trans hl hb3) hlt3
  have X4 := HX3.out.below (Below.trans hl hb3) hlt4
  have TH4 := X4.there 0 3 (by simp [vcells])
  refine wpListS_one (wpListS_step (F4.range 0 _ (by simp [vcells])) ?_)
  simp only [Act.put, List.setIfInBounds_toArray, List.set_cons_zero, List.set_cons_succ]
  refine wpList_exec (by rfl) (.slice (some ad3) (i + mm) c3) (by simp [execOp, Act.eval]) ?_
  refine wpListS_one (wpListS_step (F4.range 0 _ (by simp [vcells])) ?_)
  simp only [Act.put, List.setIfInBounds_toArray, List.set_cons_zero, List.set_cons_succ]
  refine wpList_store_mid rfl 56 (.tmp 5) (.tmp 29) rfl w.heap.size 0 (vcells q).toArray rfl rfl TH4 info_rpk (all_oneCell_toArray (vcells_one q)) ?_
  have F5 := Blk.setsOther (b := w.heap.size) HXX.out (vcells q) 0 F4
  have X5 := X4.sets (vcells q) 0 (by simp [vcells])
  have e5 : (vcells zv).take 0 ++ vcells q ++ (vcells zv).drop (0 + (vcells q).length) = vcells q := by simp [vcells]
  rw [e5] at X5
  refine wpListS_one (wpListS_step (F5.range 0 _ (by simp [vcells])) ?_)
  simp only [Act.put, List.setIfInBounds_toArray, List.set_cons_zero, List.set_cons_succ]
  refine wpList_exec (by rfl) (.bool true) (by simp [execOp, Act.eval]) ?_
  refine wpListS_one (wpListS_nil (F5.range 0 _ (by simp [vcells])) ?_)
  go_wp2_with fail
  simp only [Act.put, List.setIfInBounds_toArray, List.set_cons_zero, List.set_cons_succ]
  have hbz : Below w.heap.size w (w3.setCells w.heap.size 0 (vcells q)) := below_sets (Nat.le_refl w.heap.size) (vcells q) 0 (hb1.trans (hb3.mono (Nat.le_of_lt hlt4)))
  have hrz := row_lower (row_sets hr3 hlt4 (vcells q) 0) (Nat.le_of_lt hlt4)
  exact bodyPost_ret (v := .tuple #[.slice (some ad3) (i + mm) c3, .agg (vcells q).toArray, .bool true]) (results_tct (p := 6) (q := 5) (r := 4) rfl _ _ w.heap.size (vcells q) _ _ _ rfl rfl rfl X5 hup rfl info_rpk) rfl ⟨ad3, i + mm, c3, rfl, hbz, HE.out, .inr (by rw [fcells_app]; exact hrz)⟩

set_option maxRecDepth 100000 in
set_option maxHeartbeats 3200000 in
theorem rtake_no (w : World) (ad : Addr) (c n : Nat) (k : Int) (hk : k < 0 ∨ (n : Int) ≤ k) :
    Calls Try.prog 29 #[.slice (some ad) n c, .int .i64 k] w fun e w' => e = .returned (.tuple #[.slice (some ad) n c, .agg (vcells zv).toArray, .bool false]) ∧ Below w.heap.size w w' := by
  have hup := Try.underlying56
  have HLK := Lib.hid (fun wx => rlook_no wx (some ad) c n k hk)
  have BX := Blk.new w (vcells zv) 56
  have hb0 := (Below.refl w.heap.size w).alloc (Nat.le_refl _) (.cells #[.int .i64 0, .int .i64 0, .string ⟨#[]⟩] 56)
  obtain ⟨q, hq⟩ : ∃ q : V3, q = zv := ⟨_, rfl⟩
  rw [← hq] at HLK ⊢
  have HQ := Lib.hid hq
  clear hq hk
  go_enter Try.func29, Try.ntmps29
  go_wp2_with fail
  refine (HLK.out _).mono ?_
  rintro e w2 ⟨rfl, hb2⟩
  have BX2 := BX.later hb2
  have hb02 := hb0.trans (hb2.mono hb0.size)
  obtain ⟨W3, hW3⟩ : ∃ W3, W3 = (w2.alloc (.cells #[.int .i64 0, .int .i64 0, .string ⟨#[]⟩] 56)).setCells w2.heap.size 0 (vcells q) := ⟨_, rfl⟩
  obtain ⟨F3, B3, z3⟩ := rpk_put w2 W3 q _ rfl hW3
  have TH2 := rpk_there w2 3 rfl
  have HW3 := Lib.hid hW3
  have HF3 := Lib.hid F3
  have HX3 := Lib.hid (BX2.later B3)
  have HB3 := Lib.hid (hb02.trans (B3.mono hb02.size))
  have HXX : Hid (w.heap.size ≠ w2.heap.size) := Lib.hid (by have := BX2.lt; omega)
  clear hW3 F3 B3 z3 BX BX2 hb0 hb2 hb02 HLK
  go_wp2_with (first
    | (refine wpList_store_mid rfl 56 (.tmp 7) (.tmp 13) rfl w2.heap.size 0 (vcells q).toArray rfl rfl TH2 info_rpk (all_oneCell_toArray (vcells_one q)) ?_
       rw [show (w2.alloc (.cells #[.int .i64 0, .int .i64 0, .string ⟨#[]⟩] 56)).setCells w2.heap.size 0 (vcells q).toArray.toList = W3 from HW3.out.symm])
    | fail)
  refine wp_region_free 1 [0, 2, 3, 4] (by kernel_rfl) (by simp [rmOps, rmO, renE, List.idxOf_cons]; rfl) _ rfl 18 7 56 rfl rfl (.agg (vcells q).toArray) (fun w' => w'.rangeAt w2.heap.size 0 (vcells q)) (fun w' hl => (HF3.out.later hl).range 0 _ (by simp [vcells]))
    (fun a' w' ha hS => exec_load 56 (.tmp 7) rfl w2.heap.size 0 ha (vcells q) _ hS hup rfl info_rpk)
    [] 30 1 (by kernel_rfl) (by kernel_rfl) (by kernel_rfl) (by rfl) ?_
  simp only [Act.put, List.setIfInBounds_toArray, List.set_cons_zero, List.set_cons_succ]
  iterate 1 (refine wpG_quiet (by rfl) (by rfl) (by rfl) (fun K hK => ?_); go_big_quiet_op; refine hK _ ?_; clear hK K)
  refine wpG_nil fun w1 hl hS => ?_
  have hb1 := HB3.out.trans (Below.mono hl HB3.out.size)
  have hlt4 : w.heap.size < W3.heap.size := HX3.out.lt
  have F4 := HF3.out.later hl
  have X4 := HX3.out.later hl
  have TH4 := X4.there 0 3 (by simp [vcells])
  refine wpListS_step (F4.range 0 _ (by simp [vcells])) ?_
  refine wpList_exec (by rfl) (.slice (some ad) n c) (by simp [execOp, Act.eval]) ?_
  refine wpListS_one (wpListS_step (F4.range 0 _ (by simp [vcells])) ?_)
  simp only [Act.put, List.setIfInBounds_toArray, List.set_cons_zero, List.set_cons_succ]
  refine wpList_store_mid rfl 56 (.tmp 5) (.tmp 18) rfl w.heap.size 0 (vcells q).toArray rfl rfl TH4 info_rpk (all_oneCell_toArray (vcells_one q)) ?_
  have F5 := Blk.setsOther (b := w.heap.size) HXX.out (vcells q) 0 F4
  have X5 := X4.sets (vcells q) 0 (by simp [vcells])
  have e5 : (vcells zv).take 0 ++ vcells q ++ (vcells zv).drop (0 + (vcells q).length) = vcells q := by simp [vcells]
  rw [e5] at X5
  refine wpListS_one (wpListS_step (F5.range 0 _ (by simp [vcells])) ?_)
  simp only [Act.put, List.setIfInBounds_toArray, List.set_cons_zero, List.set_cons_succ]
  refine wpList_exec (by rfl) (.bool false) (by simp [execOp, Act.eval]) ?_
  refine wpListS_one (wpListS_nil (F5.range 0 _ (by simp [vcells])) ?_)
  go_wp2_with fail
  simp only [Act.put, List.setIfInBounds_toArray, List.set_cons_zero, List.set_cons_succ]
  have hbz : Below w.heap.size w (w1.setCells w.heap.size 0 (vcells q)) := below_sets (Nat.le_refl w.heap.size) (vcells q) 0 hb1
  exact bodyPost_ret (v := .tuple #[.slice (some ad) n c, .agg (vcells q).toArray, .bool false]) (results_tct (p := 6) (q := 5) (r := 4) rfl _ _ w.heap.size (vcells q) _ _ _ rfl rfl rfl X5 hup rfl info_rpk) rfl ⟨rfl, hbz⟩

theorem rtake_any (w : World) (ad : Addr) (c n : Nat) (l : List V3) (k : Int) (hn : l.length = n) (hs : Sees w w.heap.size (some ad) (fcells l)) (hn40 : n ≤ 40) (hnc : n ≤ c) :
    Calls Try.prog 29 #[.slice (some ad) n c, .int .i64 k] w fun e w' => ∃ ad' n' c', e = .returned (.tuple #[.slice (some ad') n' c', .agg (vcells (pkAt l k)).toArray, .bool (pkIs l k)]) ∧ RS w w' ad n c l ad' n' c' (tkl l k) := by
  by_cases h : k < 0 ∨ (l.length : Int) ≤ k
  · rw [(pkAt_no h).1, (pkAt_no h).2, tkl_no h]
    refine (rtake_no w ad c n k (by rw [← hn]; exact h)).mono ?_
    rintro e w' ⟨rfl, hb⟩
    exact ⟨ad, n, c, rfl, RS.same hn hb⟩
  · obtain ⟨i, rfl⟩ : ∃ i : Nat, k = (i : Int) := ⟨k.toNat, by omega⟩
    have hi : i < l.length := by omega
    rw [(pkAt_nat hi).1, (pkAt_nat hi).2, tkl_nat hi]
    obtain ⟨b, o, e, _, _⟩ := sees_pk hs i hi
    cases e
    exact rtake_yes w b o c n i l hn hs hi hn40 hnc
end Go.Proofs.Ytlagodbkkkdmkaa
