/- Nets that are nil; Len leaves memory as it is. -/
import Derived.Test.YtlagodbkkkdmkaaNetT
namespace Go.Proofs.Ytlagodbkkkdmkaa
set_option linter.unusedVariables false
set_option linter.unusedSimpArgs false
open Go Go.RowKit Go.MuLone

set_option maxHeartbeats 1600000 in
theorem nil_Len (w : World) : Calls Try.prog 34 #[.pointer none] w fun e w' => e = .returned (.int .i64 0) ∧ Below w.heap.size w w' := by
  go_enter_defers Try.func34, Try.ntmps34
  go_wp2_with fail
  exact ⟨_, results_tmp rfl _ _ _, rfl, Below.refl _ _⟩
set_option maxHeartbeats 1600000 in
theorem nil_Look (w : World) (k : Int) : Calls Try.prog 32 #[.pointer none, .int .i64 k] w fun e w' => e = .returned (.tuple #[.agg (vcells zv).toArray, .bool false]) ∧ Below w.heap.size w w' := by
  have hu := Try.underlying59
  obtain ⟨W, hW⟩ : ∃ W, W = (w.alloc (.cells #[.int .i64 0, .int .i64 0, .string ⟨#[]⟩] 59)).setCells w.heap.size 0 (vcells zv) := ⟨_, rfl⟩
  obtain ⟨F, HB, _⟩ := pk_put w W zv _ rfl hW
  have TH := pk_there w 3 rfl
  have HW := Lib.hid hW
  clear hW
  go_enter_defers Try.func32, Try.ntmps32
  go_wp2_with (first
    | (refine wpList_store_mid rfl 59 (.tmp 4) (.tmp 8) rfl w.heap.size 0 (vcells zv).toArray rfl rfl TH info_pk (all_oneCell_toArray (vcells_one zv)) ?_
       rw [show (w.alloc (.cells #[.int .i64 0, .int .i64 0, .string ⟨#[]⟩] 59)).setCells w.heap.size 0 (vcells zv).toArray.toList = W from HW.out.symm])
    | fail)
  exact ⟨_, results_cellb (p := 5) (q := 4) rfl _ _ w.heap.size (vcells zv) _ _ rfl rfl F hu rfl info_pk, rfl, HB⟩
set_option maxHeartbeats 1600000 in
theorem nil_Take (w : World) (k : Int) : Calls Try.prog 28 #[.pointer none, .int .i64 k] w fun e w' => e = .returned (.tuple #[.agg (vcells zv).toArray, .bool false]) ∧ Below w.heap.size w w' := by
  have hu := Try.underlying59
  obtain ⟨W, hW⟩ : ∃ W, W = (w.alloc (.cells #[.int .i64 0, .int .i64 0, .string ⟨#[]⟩] 59)).setCells w.heap.size 0 (vcells zv) := ⟨_, rfl⟩
  obtain ⟨F, HB, _⟩ := pk_put w W zv _ rfl hW
  have TH := pk_there w 3 rfl
  have HW := Lib.hid hW
  clear hW
  go_enter_defers Try.func28, Try.ntmps28
  go_wp2_with (first
    | (refine wpList_store_mid rfl 59 (.tmp 4) (.tmp 10) rfl w.heap.size 0 (vcells zv).toArray rfl rfl TH info_pk (all_oneCell_toArray (vcells_one zv)) ?_
       rw [show (w.alloc (.cells #[.int .i64 0, .int .i64 0, .string ⟨#[]⟩] 59)).setCells w.heap.size 0 (vcells zv).toArray.toList = W from HW.out.symm])
    | fail)
  exact ⟨_, results_cellb (p := 5) (q := 4) rfl _ _ w.heap.size (vcells zv) _ _ rfl rfl F hu rfl info_pk, rfl, HB⟩
set_option maxHeartbeats 1600000 in
theorem nil_Twice (w : World) (k : Int) : Calls Try.prog 30 #[.pointer none, .int .i64 k] w fun e w' => e = .returned (.bool false) ∧ Below w.heap.size w w' := by
  go_enter_defers Try.func30, Try.ntmps30
  go_wp2_with fail
  exact ⟨_, results_tmp rfl _ _ _, rfl, Below.refl _ _⟩
set_option maxHeartbeats 1600000 in
theorem nil_Send (w : World) (v0 v1 : Int) (v2 : ByteArray) : Calls Try.prog 25 #[.pointer none, .agg #[.int .i64 v0, .int .i64 v1, .string v2]] w fun e w' => e = .returned (.bool false) ∧ Below w.heap.size w w' := by
  have hb := Lib.hid ((Below.refl w.heap.size w).alloc (Nat.le_refl _) (.cells #[.int .i64 v0, .int .i64 v1, .string v2] 59))
  go_enter_defers Try.func25, Try.ntmps25
  go_wp2_with fail
  exact ⟨_, results_tmp rfl _ _ _, rfl, hb.out⟩
theorem net_len2 (w : World) (g : Nat) (r : Option Nat) (l : List V3) (h : NetAt w g 0 r l) :
    Calls Try.prog 34 #[.pointer (some ⟨g, 0, none⟩)] w fun e w' => e = .returned (.int .i64 l.length) ∧ Below w.heap.size w w' := by
  obtain ⟨h0, f0⟩ := h.cell0
  have HBB : Below w.heap.size w ((w.setCell ⟨g, 0, none⟩ (.int .i32 1)).setCell ⟨g, 0, none⟩ (.int .i32 0)) := by
    obtain ⟨A, c, ⟨t, B⟩, _⟩ := h
    have B0 : BlkT w g _ t := B
    have B1 := (B0.set 0 (.int .i32 1)).set 0 (.int .i32 0)
    have hb := below_sets (B := g) (b := g) (Nat.le_refl g) [.int .i32 0] 0 (below_sets (B := g) (b := g) (Nat.le_refl g) [.int .i32 1] 0 (Below.refl g w))
    refine ⟨hb.os, hb.tape, hb.output, hb.size, fun k hk => ?_⟩
    by_cases e : k = g
    · subst e
      refine Eq.trans B1 (Eq.trans ?_ B.symm)
      simp
    · exact (Below.heap_setCell _ ⟨g, 0, none⟩ _ k e).trans (Below.heap_setCell _ ⟨g, 0, none⟩ _ k e)
  have HT := Lib.hid HBB
  obtain ⟨A, c, B, _⟩ := h.lock 1
  have h2' := B.cell (j := 2) rfl
  have h1' := Lib.hid (h.lock 1).cell0.1
  clear B h HBB
  obtain ⟨n, hn⟩ : ∃ n, n = l.length := ⟨_, rfl⟩
  rw [← hn] at h2' ⊢
  clear hn
  go_enter_defers Try.func34, Try.ntmps34
  go_wp2_with (go_at_call 44; refine (lock_free muLib ⟨g, 0, none⟩ _ h0 f0).mono ?_; rintro e w' ⟨rfl, rfl⟩)
  refine leaves_cons (f := 45) (args := #[.pointer (some ⟨g, 0, none⟩)]) (by simp) (by simp [go_sem]) ?_
  refine (unlock_deferred muLib ⟨g, 0, none⟩ .returning _ ?_ ?_).mono ?_
  · exact h1'.out
  · simp [f0]
  rintro e u' w'' ⟨rfl, rfl, rfl⟩
  exact ⟨_, results_tmp rfl _ _ _, rfl, HT.out⟩
/-- The net at g has nl under way; s, the document's packets, lie in a row of the law's own. -/
structure NR (w0 wr : World) (g : Nat) (s nl : List V3) (A : Option Addr) (c : Nat) : Prop where
  net : ∃ r, NetAt wr g 0 r nl ∧ ((Value.slice A s.length c).ownBlock = none ∨ (Value.slice A s.length c).ownBlock ≠ r) ∧ ∀ k, r = some k → w0.heap.size ≤ k
  row : wr.ownsRow (g + 1) 56 3 (.slice A s.length c) s.length (fcells s)
  at_ : w0.heap.size ≤ g
  below : Below w0.heap.size w0 wr
theorem NR.own {w0 wr : World} {g : Nat} {s nl : List V3} {A : Option Addr} {c : Nat} (h : NR w0 wr g s nl A c) : (Value.slice A s.length c).ownBlock ≠ some g := fun e => by
  have := h.row.lt g e
  omega
theorem NR.later {w0 wr wx : World} {g : Nat} {s nl : List V3} {A : Option Addr} {c : Nat} (h : NR w0 wr g s nl A c) (hb : Below wr.heap.size wr wx) : NR w0 wx g s nl A c := by
  obtain ⟨⟨r, N, hr, hr0⟩, row, a, b⟩ := h
  exact ⟨⟨r, N.later hb, hr, hr0⟩, row_later row hb, a, b.trans (hb.mono b.size)⟩
/-- A call of the net. -/
theorem NR.turn {w0 wr wx : World} {g : Nat} {s nl nl' : List V3} {A : Option Addr} {c : Nat} {r r' : Option Nat} (h : NR w0 wr g s nl A c) (N : NetAt wr g 0 r nl) (hr : (Value.slice A s.length c).ownBlock = none ∨ (Value.slice A s.length c).ownBlock ≠ r) (hr0 : ∀ k, r = some k → w0.heap.size ≤ k)
    (N' : NetAt wx g 0 r' nl') (T : Turn2 wr wx g r) (h' : r' = r ∨ ∀ k, r' = some k → wr.heap.size ≤ k) :
    NR w0 wx g s nl' A c ∧ NetAt wx g 0 r' nl' ∧ ((Value.slice A s.length c).ownBlock = none ∨ (Value.slice A s.length c).ownBlock ≠ r') ∧ ∀ k, r' = some k → w0.heap.size ≤ k := by
  have ho := h.own
  obtain ⟨_, row, a, b⟩ := h
  have H1 : (Value.slice A s.length c).ownBlock = none ∨ (Value.slice A s.length c).ownBlock ≠ r' := by
    rcases h' with rfl | h'
    · exact hr
    · cases hA : (Value.slice A s.length c).ownBlock with
      | none => exact .inl rfl
      | some k =>
        refine .inr fun e => ?_
        have h1 := row.lt k hA
        have h2 := h' k e.symm
        omega
  have H2 : ∀ k, r' = some k → w0.heap.size ≤ k := by
    intro k hk
    rcases h' with rfl | h'
    · exact hr0 k hk
    · exact Nat.le_trans b.size (h' k hk)
  exact ⟨⟨⟨r', N', H1, H2⟩, row_turn row T ho hr, a, b.trans (T.below a hr0 b.size)⟩, N', H1, H2⟩
/-- What grows is the row. -/
theorem NR.grow {w0 wr wx : World} {g : Nat} {s nl s' : List V3} {A A' : Option Addr} {c c' : Nat} (h : NR w0 wr g s nl A c) (G : wr.grownBy wx (Value.slice A s.length c).ownBlock)
    (row : wx.ownsRow (g + 1) 56 3 (.slice A' s'.length c') s'.length (fcells s')) (hA : (Value.slice A' s'.length c').ownBlock = (Value.slice A s.length c).ownBlock ∨ ∀ k, (Value.slice A' s'.length c').ownBlock = some k → wr.heap.size ≤ k)
    (hb : Below w0.heap.size w0 wx) : NR w0 wx g s' nl A' c' := by
  have ho := h.own
  obtain ⟨⟨r, N, hr, hr0⟩, _, a, b⟩ := h
  refine ⟨⟨r, N.grown G ho hr, ?_, hr0⟩, row, a, hb⟩
  rcases hA with e | hA
  · rw [e]; exact hr
  · cases hk : (Value.slice A' s'.length c').ownBlock with
    | none => exact .inl rfl
    | some k =>
      refine .inr fun e => ?_
      have h1 := hA k hk
      have h2 := (N.row k e.symm).2
      omega
/-- The row is a new one. -/
theorem NR.fresh {w0 wr wx : World} {g : Nat} {s nl s' : List V3} {A A' : Option Addr} {c c' : Nat} (h : NR w0 wr g s nl A c) (hb : Below wr.heap.size wr wx)
    (row : wx.ownsRow wr.heap.size 56 3 (.slice A' s'.length c') s'.length (fcells s')) : NR w0 wx g s' nl A' c' := by
  obtain ⟨⟨r, N, hr, hr0⟩, _, a, b⟩ := h
  have hlt : g < wr.heap.size := by obtain ⟨_, _, B, _⟩ := N; exact B.lt
  refine ⟨⟨r, N.later hb, ?_, hr0⟩, row_lower row (by omega), a, b.trans (hb.mono b.size)⟩
  cases hk : (Value.slice A' s'.length c').ownBlock with
  | none => exact .inl rfl
  | some k =>
    refine .inr fun e => ?_
    have h1 := row.lt k hk
    have h2 := (N.row k e.symm).2
    omega
/-- What a function of the document gives goes on. -/
theorem NR.rs {w0 wr wx : World} {g : Nat} {s nl s' : List V3} {ad ad' : Addr} {c n n' c' : Nat} (h : NR w0 wr g s nl (some ad) c) (hn : s.length = n) (h' : RS wr wx ad n c s ad' n' c' s') : NR w0 wx g s' nl (some ad') c' := by
  obtain ⟨hb, hn', h'⟩ := h'
  subst hn'
  rcases h' with ⟨rfl, _, rfl, rfl⟩ | hr
  · exact h.later hb
  · exact h.fresh hb hr
theorem NR.sees {w0 wr : World} {g : Nat} {s nl : List V3} {A : Option Addr} {c : Nat} (h : NR w0 wr g s nl A c) : Sees wr wr.heap.size A (fcells s) := row_sees h.row
theorem NR.cap {w0 wr : World} {g : Nat} {s nl : List V3} {A : Option Addr} {c : Nat} (h : NR w0 wr g s nl A c) : s.length ≤ c := by
  rcases h.row.2 with ⟨e, h0⟩ | ⟨_, cap, _, e, _, _, h1, _⟩
  · omega
  · simp only [Value.slice.injEq] at e
    obtain ⟨_, _, rfl⟩ := e
    exact h1
end Go.Proofs.Ytlagodbkkkdmkaa
