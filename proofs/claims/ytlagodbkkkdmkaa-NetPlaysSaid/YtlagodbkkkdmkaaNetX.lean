/- NetPlays: what the law's round keeps: the net, the document's packets, and blocks of the round's own. -/
import Derived.Test.YtlagodbkkkdmkaaNetV
namespace Go.Proofs.Ytlagodbkkkdmkaa
set_option linter.unusedVariables false
set_option linter.unusedSimpArgs false
open Go Go.RowKit Go.MuLone

theorem row_apart {w : World} {base n size : Nat} {e : TypeId} {v : Value} {xs : List Value} (h : w.ownsRow base e size v n xs) {b : Nat} (hb : v.ownBlock ≠ some b) (vs : List Value) (o : Nat) : (w.setCells b o vs).ownsRow base e size v n xs := by
  obtain ⟨h1, h2⟩ := h
  refine ⟨h1, h2.imp id fun ⟨k, cap, cur, e1, e2, e3, e4⟩ => ⟨k, cap, cur, e1, e2, (heap_sets b k (fun e => ?_) vs o w).trans e3, e4⟩⟩
  subst e
  rw [e1] at hb
  exact hb rfl

structure NF (w0 wx : World) (g : Nat) (s nl : List V3) (A : Option Addr) (c : Nat) (r : Option Nat) (bs : List (Nat × List Value)) : Prop where
  net : NetAt wx g 0 r nl
  apart : (Value.slice A s.length c).ownBlock = none ∨ (Value.slice A s.length c).ownBlock ≠ r
  r0 : ∀ k, r = some k → w0.heap.size ≤ k
  row : wx.ownsRow (g + 1) 56 3 (.slice A s.length c) s.length (fcells s)
  at_ : w0.heap.size ≤ g
  below : Below w0.heap.size w0 wx
  blks : ∀ b cs, (b, cs) ∈ bs → Blk wx b cs ∧ b ≠ g ∧ some b ≠ r ∧ (Value.slice A s.length c).ownBlock ≠ some b ∧ w0.heap.size ≤ b
section
variable {w0 wx wy : World} {g : Nat} {s nl : List V3} {A : Option Addr} {c : Nat} {r : Option Nat} {bs : List (Nat × List Value)}
theorem NF.nr (h : NF w0 wx g s nl A c r bs) : NR w0 wx g s nl A c := ⟨⟨r, h.net, h.apart, h.r0⟩, h.row, h.at_, h.below⟩
theorem NF.of {wr : World} (h : NR w0 wr g s nl A c) (hb : Below wr.heap.size wr wx) (hbs : ∀ b cs, (b, cs) ∈ bs → Blk wx b cs ∧ wr.heap.size ≤ b) : ∃ r, NF w0 wx g s nl A c r bs := by
  obtain ⟨⟨r, N, hr, hr0⟩, row, a, b⟩ := h
  have hlt : g < wr.heap.size := by obtain ⟨_, _, B, _⟩ := N; exact B.lt
  refine ⟨r, N.later hb, hr, hr0, row_later row hb, a, b.trans (hb.mono b.size), fun k cs hk => ?_⟩
  obtain ⟨h1, h2⟩ := hbs k cs hk
  have h3 := b.size
  refine ⟨h1, by omega, fun e => ?_, fun e => ?_, by omega⟩
  · have := (N.row k e.symm).2
    omega
  · have := (row.lt k e).2
    omega
theorem NF.later (h : NF w0 wx g s nl A c r bs) (hb : Below wx.heap.size wx wy) : NF w0 wy g s nl A c r bs := by
  obtain ⟨N, hr, hr0, row, a, b, bl⟩ := h
  exact ⟨N.later hb, hr, hr0, row_later row hb, a, b.trans (hb.mono b.size), fun k cs hk => ⟨(bl k cs hk).1.later hb, (bl k cs hk).2⟩⟩
theorem NF.more (h : NF w0 wx g s nl A c r bs) (hb : Below wx.heap.size wx wy) {b : Nat} {cs : List Value} (hB : Blk wy b cs) (hle : wx.heap.size ≤ b) : NF w0 wy g s nl A c r ((b, cs) :: bs) := by
  have h2 := h.later hb
  refine ⟨h2.net, h2.apart, h2.r0, h2.row, h2.at_, h2.below, fun k cs' hk => ?_⟩
  rcases List.mem_cons.1 hk with e | hk
  · cases e
    have hlt : g < wx.heap.size := by obtain ⟨_, _, B, _⟩ := h.net; exact B.lt
    have h3 := h.below.size
    refine ⟨hB, by omega, fun e => ?_, fun e => ?_, by omega⟩
    · have := (h.net.row _ e.symm).2
      omega
    · have := (h.row.lt _ e).2
      omega
  · exact h2.blks k cs' hk
theorem NF.turn {nl' : List V3} {r' : Option Nat} (h : NF w0 wx g s nl A c r bs) (N' : NetAt wy g 0 r' nl') (T : Turn2 wx wy g r) (h' : r' = r ∨ ∀ k, r' = some k → wx.heap.size ≤ k) : NF w0 wy g s nl' A c r' bs := by
  obtain ⟨hNR, _, H1, H2⟩ := h.nr.turn h.net h.apart h.r0 N' T h'
  exact ⟨N', H1, H2, hNR.row, hNR.at_, hNR.below, fun k cs hk => by
    obtain ⟨h1, h2, h3, h4, h5⟩ := h.blks k cs hk
    obtain ⟨h6, h7⟩ := turn_blk h1 h2 h3 T h'
    exact ⟨h6, h2, h7, h4, h5⟩⟩
theorem NF.rs {s' : List V3} {ad ad' : Addr} {n n' c' : Nat} (h : NF w0 wx g s nl (some ad) c r bs) (hn : s.length = n) (h' : RS wx wy ad n c s ad' n' c' s') : NF w0 wy g s' nl (some ad') c' r bs := by
  obtain ⟨hb, hn', h'⟩ := h'
  subst hn'
  rcases h' with ⟨rfl, _, rfl, rfl⟩ | hr
  · exact h.later hb
  · have h2 := h.later hb
    have h1 := h.nr.fresh hb hr
    have hlt : g < wx.heap.size := by obtain ⟨_, _, B, _⟩ := h.net; exact B.lt
    refine ⟨h2.net, ?_, h2.r0, h1.row, h1.at_, h1.below, fun k cs hk => ?_⟩
    · cases hk : (Value.slice (some ad') s'.length c').ownBlock with
      | none => exact .inl rfl
      | some k =>
        refine .inr fun e => ?_
        have h3 := (hr.lt k hk).1
        have h4 := (h.net.row k e.symm).2
        omega
    · obtain ⟨h3, h4, h5, h6, h7⟩ := h2.blks k cs hk
      refine ⟨h3, h4, h5, fun e => ?_, h7⟩
      have h8 := (hr.lt k e).1
      have h9 := (h.blks k cs hk).1.lt
      omega
theorem NF.swap {x y : Nat × List Value} (h : NF w0 wx g s nl A c r (x :: y :: bs)) : NF w0 wx g s nl A c r (y :: x :: bs) :=
  ⟨h.net, h.apart, h.r0, h.row, h.at_, h.below, fun k cs hk => h.blks k cs (by simp only [List.mem_cons] at hk ⊢; rcases hk with e | e | e <;> simp [e])⟩
theorem NF.drop {x : Nat × List Value} (h : NF w0 wx g s nl A c r (x :: bs)) : NF w0 wx g s nl A c r bs :=
  ⟨h.net, h.apart, h.r0, h.row, h.at_, h.below, fun k cs hk => h.blks k cs (List.mem_cons_of_mem _ hk)⟩
theorem NF.store {b : Nat} {cs vs : List Value} (h : NF w0 wx g s nl A c r ((b, cs) :: bs)) (hl : vs.length = cs.length) (hne : ∀ k cs', (k, cs') ∈ bs → k ≠ b) : NF w0 (wx.setCells b 0 vs) g s nl A c r ((b, vs) :: bs) := by
  obtain ⟨h1, h2, h3, h4, h5⟩ := h.blks b cs (by simp)
  have e1 : cs.take 0 ++ vs ++ cs.drop (0 + vs.length) = vs := by simp [hl]
  have B1 := h1.sets vs 0 (by omega)
  rw [e1] at B1
  refine ⟨h.net.same fun k hk => heap_sets b k ?_ vs 0 wx, h.apart, h.r0, row_apart h.row h4 vs 0, h.at_, below_sets h5 vs 0 h.below, fun k cs' hk => ?_⟩
  · rcases hk with rfl | hk
    · exact fun e => h2 e.symm
    · exact fun e => h3 (e ▸ hk)
  · rcases List.mem_cons.1 hk with e | hk
    · cases e
      exact ⟨B1, h2, h3, h4, h5⟩
    · obtain ⟨g1, g2⟩ := h.blks k cs' (List.mem_cons_of_mem _ hk)
      exact ⟨Blk.setsOther (fun e => hne k cs' hk e.symm) vs 0 g1, g2⟩
theorem NF.at {b : Nat} {cs : List Value} (h : NF w0 wx g s nl A c r ((b, cs) :: bs)) : Blk wx b cs := (h.blks b cs (by simp)).1
end

set_option maxHeartbeats 1600000 in
/-- Two packets of the round's own, both empty. -/
theorem xy_put (w Wa Wb : World) (hWa : Wa = ((w.alloc (.cells #[.int .i64 0, .int .i64 0, .string ⟨#[]⟩] 59)).alloc (.cells #[.int .i64 0, .int .i64 0, .string ⟨#[]⟩] 56)).setCells w.heap.size 0 (vcells zv)) (hWb : Wb = Wa.setCells (w.heap.size + 1) 0 (vcells zv)) :
    Blk Wb w.heap.size (vcells zv) ∧ Blk Wb (w.heap.size + 1) (vcells zv) ∧ Below w.heap.size w Wb ∧ Wa.there (w.heap.size + 1) 0 3 := by
  have e1 : (vcells zv).take 0 ++ vcells zv ++ (vcells zv).drop (0 + (vcells zv).length) = vcells zv := by simp [vcells]
  have X1 := Blk.new w (vcells zv) 59
  have X2 := X1.alloc (.cells #[.int .i64 0, .int .i64 0, .string ⟨#[]⟩] 56)
  have Y2 := Blk.new (w.alloc (.cells (vcells zv).toArray 59)) (vcells zv) 56
  have hz : (w.alloc (.cells (vcells zv).toArray 59)).heap.size = w.heap.size + 1 := by simp
  rw [hz] at Y2
  have X3 := X2.sets (vcells zv) 0 (by simp [vcells])
  rw [e1] at X3
  have Y3 := Blk.setsOther (b := w.heap.size) (by omega) (vcells zv) 0 Y2
  have Y4 := Y3.sets (vcells zv) 0 (by simp [vcells])
  rw [e1] at Y4
  have X4 := Blk.setsOther (b := w.heap.size + 1) (by omega) (vcells zv) 0 X3
  have hb : Below w.heap.size w Wa := by
    rw [hWa]
    exact below_sets (Nat.le_refl _) (vcells zv) 0 (((Below.refl w.heap.size w).alloc (Nat.le_refl _) _).alloc (by simp) _)
  subst hWb
  refine ⟨?_, ?_, below_sets (by omega) (vcells zv) 0 hb, ?_⟩
  · rw [hWa]; exact X4
  · rw [hWa]; exact Y4
  · rw [hWa]; exact Y3.there 0 3 (by simp [vcells])
theorem tkl_len (l : List V3) (k : Int) (h : l.length ≤ 40) : (tkl l k).length ≤ 40 := by
  unfold tkl
  split
  · rw [List.length_append, List.length_take, List.length_drop]; omega
  · exact h
end Go.Proofs.Ytlagodbkkkdmkaa
