/- Commands as they are read: what lies there amid Read. -/
import Derived.Test.YtnhcjadkbogioaaJ26
import Derived.Laws.EntriesVeiled
import Derived.Test.YtnhcjadkbogioaaJ24
set_option maxRecDepth 100000
set_option maxHeartbeats 3200000
namespace Go.Proofs.Ytnhcjadkbogioaa
set_option linter.unusedVariables false
set_option linter.unusedSimpArgs false
open Go Go.RowKit OctM BitM
theorem row_capC {w : World} {base : Nat} {e : TypeId} {size n c : Nat} {A : Option Addr} {xs : List Value} (h : w.ownsRow base e size (.slice A n c) n xs) : n ≤ c ∧ c ≤ maxLen := by
  rcases h.2 with ⟨e, h0⟩ | ⟨g, cap, cur, e, hx⟩
  · cases e; exact ⟨by omega, by simp [maxLen]⟩
  · cases e; exact ⟨hx.2.2.1, hx.2.2.2.1⟩
def farCm (g : Nat) (x : Cm) : Prop := ∀ ad, x.A = some ad → 0 < x.n → ad.block ≠ g
def lowCm (g : Nat) (x : Cm) : Prop := ∀ ad, x.A = some ad → 0 < x.n → g < ad.block
theorem lowCm.far {g b : Nat} {x : Cm} (h : lowCm g x) (hb : b ≤ g) : farCm b x := fun ad e hn => by have := h ad e hn; omega
section
variable {w w' wx : World} {g c b : Nat} {x : Cm}
theorem Blk.kept2 {cs : List Value} (h : Blk w b cs) (hG : Grown2 w w' g c) (h1 : b ≠ g) (h2 : b ≠ c) : Blk w' b cs := by
  have hlt := h.lt
  obtain ⟨t, ht⟩ := h
  exact ⟨t, (hG.block b hlt h1 h2).trans ht⟩
theorem okCm.pos (h : okCm w x) (hx : 0 < (ncs x.f).length) : 0 < x.n := by
  rw [ncs_len] at hx
  have := h.len
  omega
theorem okCm.kept2 (h : okCm w x) (h1 : farCm g x) (h2 : farCm c x) (hG : Grown2 w w' g c) : okCm w' x := by
  refine ⟨h.e8, h.p8, h.len, h.cap, h.max, fun hx => ?_⟩
  obtain ⟨b, o', e, hb, hc⟩ := h.see hx
  refine ⟨b, o', e, Nat.lt_of_lt_of_le hb hG.size, fun j hj => ?_⟩
  have n1 : b ≠ g := h1 ⟨b, o', none⟩ e (h.pos hx)
  have n2 : b ≠ c := h2 ⟨b, o', none⟩ e (h.pos hx)
  rw [World.cell?_of_block (a := ⟨b, o' + j, none⟩) (hG.block b hb n1 n2)]
  exact hc j hj
theorem okCm.low (h : okCm w x) (hg : w.heap.size ≤ g) : farCm g x := fun ad e hn => by
  have hx : 0 < (ncs x.f).length := by rw [ncs_len]; have := h.len; omega
  obtain ⟨b, o', e', hb, _⟩ := h.see hx
  rw [e] at e'
  injection e' with e'
  rw [e']
  show b ≠ g
  omega
end
structure RC (w : World) (base g b2 b3 gC : Nat) (l : List UInt8) (wx : World) (x : Cm) (a : Nat) (e : Int) : Prop where
  rd : Rd wx base g l a e
  p2 : Blk wx b2 [.pointer (some ⟨g, 0, none⟩)]
  p3 : Blk wx b3 [.pointer (some ⟨gC, 0, none⟩)]
  c : Blk wx gC (cmc x)
  ok : okCm wx x
  n31 : x.n ≤ 31
  fl : lowCm gC x
  gr : w.grownBy wx (some g)
  hg : g < w.heap.size
  h2 : w.heap.size ≤ b2
  h3 : w.heap.size ≤ b3
  hC : w.heap.size ≤ gC
  n2 : b2 ≠ gC
  n3 : b3 ≠ gC
section
variable {w wx w' : World} {base g b2 b3 gC : Nat} {l : List UInt8} {x : Cm} {a a' : Nat} {e e' : Int}
theorem RC.grow (h : RC w base g b2 b3 gC l wx x a e) (hr : Rd w' base g l a' e') (hG : wx.grownBy w' (some g)) : RC w base g b2 b3 gC l w' x a' e' := by
  have h1 := h.hg
  have h2 := h.h2
  have h3 := h.h3
  have hC := h.hC
  exact ⟨hr, h.p2.kept hG (by intro e; injection e with e; omega), h.p3.kept hG (by intro e; injection e with e; omega), h.c.kept hG (by intro e; injection e with e; omega), h.ok.kept2 (h.fl.far (by omega)) (h.fl.far (Nat.le_refl _)) (Grown2.one hG), h.n31, h.fl, h.gr.trans hG, h.hg, h.h2, h.h3, h.hC, h.n2, h.n3⟩
theorem RC.later (h : RC w base g b2 b3 gC l wx x a e) (hb : Below wx.heap.size wx w') : RC w base g b2 b3 gC l w' x a e :=
  ⟨h.rd.later hb, h.p2.later hb, h.p3.later hb, h.c.later hb, h.ok.later hb, h.n31, h.fl, grown_onto h.gr hb, h.hg, h.h2, h.h3, h.hC, h.n2, h.n3⟩
theorem RC.drew (h : RC w base g b2 b3 gC l wx x a e) : RC w base g b2 b3 gC l wx.drew x a e := h.later (Below.refl _ _).drew
theorem RC.low (h : RC w base g b2 b3 gC l wx x a e) {x' : Cm} (hA : x'.A = x.A) (hn : x'.n = x.n) : lowCm gC x' := fun ad e hn' => h.fl ad (hA ▸ e) (hn ▸ hn')
theorem RC.puts (h : RC w base g b2 b3 gC l wx x a e) (x' : Cm) (ok' : okCm wx x') (n' : x'.n ≤ 31) (fl' : lowCm gC x') (o : Nat) (vs : List Value) (ho : o + vs.length ≤ 63) (hset : (cmc x).take o ++ vs ++ (cmc x).drop (o + vs.length) = cmc x') :
    RC w base g b2 b3 gC l (wx.setCells gC o vs) x' a e ∧ Grown2 wx (wx.setCells gC o vs) g gC := by
  have h1 := h.hg
  have hC := h.hC
  have hG : Grown2 wx (wx.setCells gC o vs) g gC := Grown2.two (grown_sets gC vs o wx)
  have B := h.c.sets vs o (by rw [cmc_len h.ok.e8 h.ok.p8]; exact ho)
  rw [hset] at B
  exact ⟨⟨h.rd.sets2 (by omega), h.p2.kept2 hG (by have := h.h2; omega) h.n2, h.p3.kept2 hG (by have := h.h3; omega) h.n3, B, ok'.kept2 (fl'.far (by omega)) (fl'.far (Nat.le_refl _)) hG, n', fl', (Grown2.trans (Grown2.one h.gr) hG).grown hC, h.hg, h.h2, h.h3, h.hC, h.n2, h.n3⟩, hG⟩
theorem RC.put (h : RC w base g b2 b3 gC l wx x a e) (x' : Cm) (ok' : okCm wx x') (n' : x'.n ≤ 31) (fl' : lowCm gC x') (j : Nat) (v : Value) (hset : (cmc x).set j v = cmc x') :
    RC w base g b2 b3 gC l (wx.setCell ⟨gC, j, none⟩ v) x' a e ∧ Grown2 wx (wx.setCell ⟨gC, j, none⟩ v) g gC := by
  have h1 := h.hg
  have hC := h.hC
  have hG : Grown2 wx (wx.setCell ⟨gC, j, none⟩ v) g gC := Grown2.two (grown_setCell wx gC j v)
  have B := h.c.set j v
  rw [hset] at B
  exact ⟨⟨h.rd.set2 (by omega), h.p2.kept2 hG (by have := h.h2; omega) h.n2, h.p3.kept2 hG (by have := h.h3; omega) h.n3, B, ok'.kept2 (fl'.far (by omega)) (fl'.far (Nat.le_refl _)) hG, n', fl', (Grown2.trans (Grown2.one h.gr) hG).grown hC, h.hg, h.h2, h.h3, h.hC, h.n2, h.n3⟩, hG⟩
theorem RC.two (h : RC w base g b2 b3 gC l wx x a e) : wx.cell? ⟨b2, 0, none⟩ = some (.pointer (some ⟨g, 0, none⟩)) ∧ wx.cell? ⟨b3, 0, none⟩ = some (.pointer (some ⟨gC, 0, none⟩)) := ⟨h.p2.cell (j := 0) rfl, h.p3.cell (j := 0) rfl⟩
theorem RC.num (h : RC w base g b2 b3 gC l wx x a e) (ha : a ≤ l.length) (hm : l.length ≤ 4000) (m : Int) (q : Nat × Nat × Int) (hq : q = numOut l a e m) (k : Int) (hk : k = (q.1 : Int)) :
    Calls Try.prog 67 #[.pointer (some ⟨g, 0, none⟩), .int .i64 m] wx fun r w' => r = .returned (.int .i64 k) ∧ RC w base g b2 b3 gC l w' x q.2.1 q.2.2 ∧ Grown2 wx w' g gC := by
  subst hk
  subst hq
  refine (rd_num base g l a e m wx h.rd ha (by omega)).mono ?_
  rintro r w' ⟨rfl, hr, hG⟩
  exact ⟨rfl, h.grow hr hG, Grown2.one hG⟩
theorem cm_above (base g : Nat) (l : List UInt8) (a : Nat) (e m : Int) (w : World) (h : Rd w base g l a e) (ha : a ≤ l.length) (hm : l.length ≤ 4000) :
    Calls Try.prog 33 #[.pointer (some ⟨g, 0, none⟩), .int .i64 m] w fun x w' => x = .returned (.int .i64 ((abvOut l a e m).1 : Nat)) ∧ Rd w' base g l (abvOut l a e m).2.1 (abvOut l a e m).2.2 ∧ w.grownBy w' (some g) := by
  have H1 := hid (rd_num base g l a e m w h ha (by omega))
  unfold abvOut
  simp only
  obtain ⟨r1, hr1⟩ : ∃ r, r = numOut l a e m := ⟨_, rfl⟩
  rw [← hr1] at H1 ⊢
  obtain ⟨v1, a1, e1⟩ := r1
  simp only at H1 ⊢
  have HF := hid (fun wx (hx : Rd wx base g l a1 e1) => rd_fail base g l a1 e1 3 wx hx)
  clear hr1
  by_cases c1 : v1 = 0
  · subst c1
    rw [if_pos rfl]
    have HK := hid (show ((0 : Nat) : Int) = 0 from rfl)
    obtain ⟨k, hk⟩ : ∃ k : Int, k = ((0 : Nat) : Int) := ⟨_, rfl⟩
    rw [← hk] at H1 ⊢
    have t1 : (k == 0) = true := by rw [hk]; rfl
    clear hk
    go_enter Try.func33, Try.ntmps33
    go_wp2_with fail
    refine H1.out.mono ?_
    rintro x w1 ⟨rfl, R1, G1⟩
    go_wp2_with fail
    refine (HF.out _ R1).mono ?_
    rintro x w2 ⟨rfl, R2, G2⟩
    go_wp2_with fail
    go_ret
    exact ⟨rfl, R2, G1.trans G2⟩
  · rw [if_neg c1]
    obtain ⟨k, hk⟩ : ∃ k : Int, k = (v1 : Int) := ⟨_, rfl⟩
    have t1 : (k == 0) = false := by rw [hk]; simpa using c1
    rw [← hk] at H1 ⊢
    clear hk c1
    go_enter Try.func33, Try.ntmps33
    go_wp2_with fail
    refine H1.out.mono ?_
    rintro x w1 ⟨rfl, R1, G1⟩
    go_wp2_with fail
    go_ret
    exact ⟨rfl, R1, G1⟩
theorem RC.abv (h : RC w base g b2 b3 gC l wx x a e) (ha : a ≤ l.length) (hm : l.length ≤ 4000) (m : Int) (q : Nat × Nat × Int) (hq : q = abvOut l a e m) (k : Int) (hk : k = (q.1 : Int)) :
    Calls Try.prog 33 #[.pointer (some ⟨g, 0, none⟩), .int .i64 m] wx fun r w' => r = .returned (.int .i64 k) ∧ RC w base g b2 b3 gC l w' x q.2.1 q.2.2 ∧ Grown2 wx w' g gC := by
  subst hk
  subst hq
  refine (cm_above base g l a e m wx h.rd ha hm).mono ?_
  rintro r w' ⟨rfl, hr, hG⟩
  exact ⟨rfl, h.grow hr hG, Grown2.one hG⟩
theorem RC.edit (h : RC w base g b2 b3 gC l wx x a e) (ha : a ≤ l.length) (hm : l.length ≤ 4000) (q : (Int × Int × Int × Int × Int × List V3) × Nat × Int) (hq : q = editOut l a e) (cs : Array Value) (hk : cs = (ec6 q.1).toArray) :
    Calls Try.prog 70 #[.pointer (some ⟨g, 0, none⟩)] wx fun r w' => r = .returned (.agg cs) ∧ RC w base g b2 b3 gC l w' x q.2.1 q.2.2 ∧ Grown2 wx w' g gC := by
  subst hk
  subst hq
  refine (rd_edit base g l a e wx h.rd ha hm).mono ?_
  rintro r w' ⟨rfl, hr, hG⟩
  exact ⟨rfl, h.grow hr hG, Grown2.one hG⟩
theorem RC.patch (h : RC w base g b2 b3 gC l wx x a e) (ha : a ≤ l.length) (hm : l.length ≤ 4000) (q : (Int × Int × List V3) × Nat × Int) (hq : q = patOut l a e) (cs : Array Value) (hk : cs = (pc3 q.1).toArray) :
    Calls Try.prog 73 #[.pointer (some ⟨g, 0, none⟩)] wx fun r w' => r = .returned (.agg cs) ∧ RC w base g b2 b3 gC l w' x q.2.1 q.2.2 ∧ Grown2 wx w' g gC := by
  subst hk
  subst hq
  refine (rd_patch base g l a e wx h.rd ha hm).mono ?_
  rintro r w' ⟨rfl, hr, hG⟩
  exact ⟨rfl, h.grow hr hG, Grown2.one hG⟩
theorem RC.filt (h : RC w base g b2 b3 gC l wx x a e) (ha : a ≤ l.length) (hm : l.length ≤ 4000) (q : List Nd × Nat × Int) (hq : q = filtOut l a e) (n : Nat) (hn : n = q.1.length) :
    Calls Try.prog 75 #[.pointer (some ⟨g, 0, none⟩)] wx fun r w' => ∃ A c, r = .returned (.slice A n c) ∧ okCm w' { x with A := A, n := n, c := c, f := q.1 } ∧ lowCm gC { x with A := A, n := n, c := c, f := q.1 } ∧ RC w base g b2 b3 gC l w' x q.2.1 q.2.2 ∧ Grown2 wx w' g gC := by
  subst hn
  subst hq
  have hlt := h.c.lt
  have hlt2 := h.rd.block.2
  refine (rd_filter base g l a e wx h.rd ha hm).mono ?_
  rintro r w' ⟨⟨A, c, rfl, ho⟩, hr, hG⟩
  refine ⟨A, c, rfl, ?_, ?_, h.grow hr hG, Grown2.one hG⟩
  · have hc := row_capC ho
    exact ⟨h.ok.e8, h.ok.p8, rfl, hc.1, hc.2, row_sees ho⟩
  · intro ad e hp
    have e' : A = some ad := e
    have := (World.ownsRow.lt ho ad.block (by rw [e']; rfl)).1
    omega
end
section
variable {w wx : World} {base g b2 b3 gC : Nat} {l : List UInt8} {x : Cm} {a : Nat} {e : Int}
theorem tk_req (h : RC w base g b2 b3 gC l wx x a e) (ha : a ≤ l.length) (hm : l.length ≤ 4000) :
    Calls Try.prog 68 #[.pointer (some ⟨b2, 0, none⟩), .pointer (some ⟨b3, 0, none⟩)] wx fun r w' => r = .returned (.tuple #[]) ∧ RC w base g b2 b3 gC l w' { x with dv := ((numOut l a e 5).1 : Int), rq := ((abvOut l (numOut l a e 5).2.1 (numOut l a e 5).2.2 1099511627776).1 : Int) } (abvOut l (numOut l a e 5).2.1 (numOut l a e 5).2.2 1099511627776).2.1 (abvOut l (numOut l a e 5).2.1 (numOut l a e 5).2.2 1099511627776).2.2 ∧ Grown2 wx w' g gC := by
  have HR := h
  have HG := Grown2.refl wx g gC
  clear h
  obtain ⟨q1, hq1⟩ : ∃ q, q = numOut l a e 5 := ⟨_, rfl⟩
  obtain ⟨k1, hk1⟩ : ∃ k : Int, k = (q1.1 : Int) := ⟨_, rfl⟩
  obtain ⟨q2, hq2⟩ : ∃ q, q = abvOut l q1.2.1 q1.2.2 1099511627776 := ⟨_, rfl⟩
  obtain ⟨k2, hk2⟩ : ∃ k : Int, k = (q2.1 : Int) := ⟨_, rfl⟩
  have at1 : q1.2.1 ≤ l.length := by rw [hq1]; exact numOut_at _ _ _ _ ha
  rw [← hq1, ← hq2, ← hk1, ← hk2]
  have EQ1 := hid hq1
  have HK1 := hid hk1
  have EQ2 := hid hq2
  have HK2 := hid hk2
  clear hq1 hq2 hk1 hk2
  go_enter Try.func68, Try.ntmps68
  refine wp_region_held (S := fun wz => wz.cell? ⟨b2, 0, none⟩ = some (.pointer (some ⟨g, 0, none⟩)) ∧ wz.cell? ⟨b3, 0, none⟩ = some (.pointer (some ⟨gC, 0, none⟩))) (by kernel_rfl) ?_
  show Go.wpAnyH Try.prog Region.Mode.any _ _ _ _ _ _ wx.drew
  have HR := HR.drew
  have HG := Grown2.trans HG (Grown2.none_ (Below.refl wx.heap.size wx).drew)
  have hS := HR.two
  generalize wx.drew = wd at HR HG hS ⊢
  refine takeH (i := 0) (oi := _) (v := (.pointer (some ⟨gC, 0, none⟩))) (fuel := 11) (some 2) rfl rfl (by kernel_rfl) (by kernel_rfl) (by kernel_rfl) (fun _ _ _ h => h) (.inl ⟨by rfl, fun wz hS => by simp [go_sem, hS.2]⟩) hS ?_
  simp only [pq4]
  refine takeH (i := 1) (oi := _) (v := (.pointer (some ⟨gC, 0, none⟩))) (fuel := 10) (some 3) rfl rfl (by kernel_rfl) (by kernel_rfl) (by kernel_rfl) (fun _ _ _ h => h) (.inl ⟨by rfl, fun wz hS => by simp [go_sem, hS.2]⟩) hS ?_
  simp only [pq4]
  refine takeH (i := 2) (oi := _) (v := (.pointer (some ⟨g, 0, none⟩))) (fuel := 9) (some 4) rfl rfl (by kernel_rfl) (by kernel_rfl) (by kernel_rfl) (fun _ _ _ h => h) (.inl ⟨by rfl, fun wz hS => by simp [go_sem, hS.1]⟩) hS ?_
  simp only [pq4]
  refine takeH (i := 4) (oi := _) (v := (.pointer (some ⟨g, 0, none⟩))) (fuel := 8) (some 6) rfl rfl (by kernel_rfl) (by kernel_rfl) (by kernel_rfl) (fun _ _ _ h => h) (.inl ⟨by rfl, fun wz hS => by simp [go_sem, hS.1]⟩) hS ?_
  simp only [pq4]
  refine allH [3] 3 (fuel := 7) (by kernel_rfl) ?_
  refine callH (some 5) _ rfl rfl 67 #[.pointer (some ⟨g, 0, none⟩), .int .i64 5] (by simp [go_sem]) (by rfl) ?_
  refine (HR.num ha hm 5 q1 EQ1.out k1 HK1.out).mono ?_
  rintro r w1 ⟨rfl, HR1, HG1⟩
  have HG := HG.trans HG1
  have HR := HR1
  clear HR1 HG1
  have hS := HR.two
  refine ⟨_, rfl, hS, ?_⟩
  simp only [pq4]
  refine allH [5] 5 (fuel := 6) (by kernel_rfl) ?_
  refine callH (some 7) _ rfl rfl 33 #[.pointer (some ⟨g, 0, none⟩), .int .i64 1099511627776] (by simp [go_sem]) (by rfl) ?_
  refine (HR.abv at1 hm 1099511627776 q2 EQ2.out k2 HK2.out).mono ?_
  rintro r w2 ⟨rfl, HR1, HG1⟩
  have HG := HG.trans HG1
  have HR := HR1
  clear HR1 HG1
  have hS := HR.two
  refine ⟨_, rfl, hS, ?_⟩
  simp only [pq4]
  refine takeH (i := 6) (oi := _) (v := (.pointer (some ⟨gC, 0, none⟩))) (fuel := 5) (some 8) rfl rfl (by kernel_rfl) (by kernel_rfl) (by kernel_rfl) (fun _ _ _ h => h) (.inl ⟨by rfl, fun wz hS => by simp [go_sem]⟩) hS ?_
  simp only [pq4]
  refine takeH (i := 7) (oi := _) (v := (.pointer (some ⟨gC, 30, none⟩))) (fuel := 4) (some 9) rfl rfl (by kernel_rfl) (by kernel_rfl) (by kernel_rfl) (fun _ _ _ h => h) (.inl ⟨by rfl, fun wz hS => by simp [go_sem]⟩) hS ?_
  simp only [pq4]
  have cz := HR.c.cell (cm_at HR.ok.e8 HR.ok.p8).2.1
  have fz := HR.c.frozen 30
  obtain ⟨HR1, HG1⟩ := HR.put { x with dv := k1 } ⟨HR.ok.e8, HR.ok.p8, HR.ok.len, HR.ok.cap, HR.ok.max, HR.ok.see⟩ (HR.n31) (HR.low rfl rfl) 30 (.int .i64 k1) (cm_sets HR.ok.e8 HR.ok.p8 k1 0#32).2.1
  have hS := HR1.two
  refine allH [8] 8 (fuel := 3) (by kernel_rfl) ?_
  refine store1H _ rfl rfl (by rfl) 3 (.tmp 9) (.tmp 5) rfl gC 30 _ (.int .i64 k1) rfl rfl (fun w => by kernel_rfl) (fun cs => by simp) rfl cz fz ⟨hS, ?_⟩
  have HG := HG.trans HG1
  have HR := HR1
  clear HR1 HG1 cz fz
  generalize w2.setCell ⟨gC, 30, none⟩ (.int .i64 k1) = w3 at HR HG hS ⊢
  refine takeH (i := 9) (oi := _) (v := (.pointer (some ⟨gC, 0, none⟩))) (fuel := 2) (some 10) rfl rfl (by kernel_rfl) (by kernel_rfl) (by kernel_rfl) (fun _ _ _ h => h) (.inl ⟨by rfl, fun wz hS => by simp [go_sem]⟩) hS ?_
  simp only [pq4]
  refine takeH (i := 10) (oi := _) (v := (.pointer (some ⟨gC, 31, none⟩))) (fuel := 1) (some 11) rfl rfl (by kernel_rfl) (by kernel_rfl) (by kernel_rfl) (fun _ _ _ h => h) (.inl ⟨by rfl, fun wz hS => by simp [go_sem]⟩) hS ?_
  simp only [pq4]
  have cz := HR.c.cell (cm_at HR.ok.e8 HR.ok.p8).2.2.1
  have fz := HR.c.frozen 31
  obtain ⟨HR1, HG1⟩ := HR.put { x with dv := k1, rq := k2 } ⟨HR.ok.e8, HR.ok.p8, HR.ok.len, HR.ok.cap, HR.ok.max, HR.ok.see⟩ (HR.n31) (HR.low rfl rfl) 31 (.int .i64 k2) (cm_sets HR.ok.e8 HR.ok.p8 k2 0#32).2.2.1
  have hS := HR1.two
  refine allH [11] 11 (fuel := 0) (by kernel_rfl) ?_
  refine store1H _ rfl rfl (by rfl) 3 (.tmp 11) (.tmp 7) rfl gC 31 _ (.int .i64 k2) rfl rfl (fun w => by kernel_rfl) (fun cs => by simp) rfl cz fz ⟨hS, ?_⟩
  have HG := HG.trans HG1
  have HR := HR1
  clear HR1 HG1 cz fz
  generalize w3.setCell ⟨gC, 31, none⟩ (.int .i64 k2) = w4 at HR HG hS ⊢
  refine wpAnyH_done (by kernel_rfl) ?_ 0
  go_end0
  exact ⟨rfl, HR, HG⟩
theorem tk_keep (h : RC w base g b2 b3 gC l wx x a e) (ha : a ≤ l.length) (hm : l.length ≤ 4000) :
    Calls Try.prog 71 #[.pointer (some ⟨b2, 0, none⟩), .pointer (some ⟨b3, 0, none⟩)] wx fun r w' => r = .returned (.tuple #[]) ∧ RC w base g b2 b3 gC l w' { x with kp := ((numOut l a e 1099511627776).1 : Int) } (numOut l a e 1099511627776).2.1 (numOut l a e 1099511627776).2.2 ∧ Grown2 wx w' g gC := by
  have HR := h
  have HG := Grown2.refl wx g gC
  clear h
  obtain ⟨q1, hq1⟩ : ∃ q, q = numOut l a e 1099511627776 := ⟨_, rfl⟩
  obtain ⟨k1, hk1⟩ : ∃ k : Int, k = (q1.1 : Int) := ⟨_, rfl⟩
  rw [← hq1, ← hk1]
  have EQ1 := hid hq1
  have HK1 := hid hk1
  clear hq1 hk1
  go_enter Try.func71, Try.ntmps71
  refine wp_region_held (S := fun wz => wz.cell? ⟨b2, 0, none⟩ = some (.pointer (some ⟨g, 0, none⟩)) ∧ wz.cell? ⟨b3, 0, none⟩ = some (.pointer (some ⟨gC, 0, none⟩))) (by kernel_rfl) ?_
  show Go.wpAnyH Try.prog Region.Mode.any _ _ _ _ _ _ wx.drew
  have HR := HR.drew
  have HG := Grown2.trans HG (Grown2.none_ (Below.refl wx.heap.size wx).drew)
  have hS := HR.two
  generalize wx.drew = wd at HR HG hS ⊢
  refine takeH (i := 0) (oi := _) (v := (.pointer (some ⟨gC, 0, none⟩))) (fuel := 5) (some 2) rfl rfl (by kernel_rfl) (by kernel_rfl) (by kernel_rfl) (fun _ _ _ h => h) (.inl ⟨by rfl, fun wz hS => by simp [go_sem, hS.2]⟩) hS ?_
  simp only [pq4]
  refine takeH (i := 1) (oi := _) (v := (.pointer (some ⟨g, 0, none⟩))) (fuel := 4) (some 3) rfl rfl (by kernel_rfl) (by kernel_rfl) (by kernel_rfl) (fun _ _ _ h => h) (.inl ⟨by rfl, fun wz hS => by simp [go_sem, hS.1]⟩) hS ?_
  simp only [pq4]
  refine allH [2] 2 (fuel := 3) (by kernel_rfl) ?_
  refine callH (some 4) _ rfl rfl 67 #[.pointer (some ⟨g, 0, none⟩), .int .i64 1099511627776] (by simp [go_sem]) (by rfl) ?_
  refine (HR.num ha hm 1099511627776 q1 EQ1.out k1 HK1.out).mono ?_
  rintro r w1 ⟨rfl, HR1, HG1⟩
  have HG := HG.trans HG1
  have HR := HR1
  clear HR1 HG1
  have hS := HR.two
  refine ⟨_, rfl, hS, ?_⟩
  simp only [pq4]
  refine takeH (i := 3) (oi := _) (v := (.pointer (some ⟨gC, 0, none⟩))) (fuel := 2) (some 5) rfl rfl (by kernel_rfl) (by kernel_rfl) (by kernel_rfl) (fun _ _ _ h => h) (.inl ⟨by rfl, fun wz hS => by simp [go_sem]⟩) hS ?_
  simp only [pq4]
  refine takeH (i := 4) (oi := _) (v := (.pointer (some ⟨gC, 34, none⟩))) (fuel := 1) (some 6) rfl rfl (by kernel_rfl) (by kernel_rfl) (by kernel_rfl) (fun _ _ _ h => h) (.inl ⟨by rfl, fun wz hS => by simp [go_sem]⟩) hS ?_
  simp only [pq4]
  have cz := HR.c.cell (cm_at HR.ok.e8 HR.ok.p8).2.2.2.2.2.1
  have fz := HR.c.frozen 34
  obtain ⟨HR1, HG1⟩ := HR.put { x with kp := k1 } ⟨HR.ok.e8, HR.ok.p8, HR.ok.len, HR.ok.cap, HR.ok.max, HR.ok.see⟩ (HR.n31) (HR.low rfl rfl) 34 (.int .i64 k1) (cm_sets HR.ok.e8 HR.ok.p8 k1 0#32).2.2.2.2.2.1
  have hS := HR1.two
  refine allH [5] 5 (fuel := 0) (by kernel_rfl) ?_
  refine store1H _ rfl rfl (by rfl) 3 (.tmp 6) (.tmp 4) rfl gC 34 _ (.int .i64 k1) rfl rfl (fun w => by kernel_rfl) (fun cs => by simp) rfl cz fz ⟨hS, ?_⟩
  have HG := HG.trans HG1
  have HR := HR1
  clear HR1 HG1 cz fz
  generalize w1.setCell ⟨gC, 34, none⟩ (.int .i64 k1) = w2 at HR HG hS ⊢
  refine wpAnyH_done (by kernel_rfl) ?_ 0
  go_end0
  exact ⟨rfl, HR, HG⟩
end
theorem cm_putE {x : Cm} (h1 : x.ef.length = 8) (h2 : x.pf.length = 8) (t : Int × Int × Int × Int × Int × List V3) (h3 : t.2.2.2.2.2.length = 8) (hm : ((u32 t.2.2.2.1).toNat : Int) = t.2.2.2.1) (hl : ((u32 t.2.2.2.2.1).toNat : Int) = t.2.2.2.2.1) :
    (cmc x).take 1 ++ ec6 t ++ (cmc x).drop (1 + (ec6 t).length) = cmc (edCm t x) := by
  obtain ⟨kd, ek, eid, eg, em, el, ef, dv, rq, id, bs, kp, pm, pl, pf, A, n, c, f, ms⟩ := x
  obtain ⟨k, i, gr, m, lb, ff⟩ := t
  simp only at hm hl h1 h2 h3
  obtain ⟨a1, a2, a3, a4, a5, a6, a7, a8, rfl⟩ := eight8 h1
  obtain ⟨b1, b2, b3, b4, b5, b6, b7, b8, rfl⟩ := eight8 h2
  obtain ⟨c1, c2, c3, c4, c5, c6, c7, c8, rfl⟩ := eight8 h3
  show _ = Value.int .i64 kd :: (ecells k i gr ((u32 m).toNat : Int) ((u32 lb).toNat : Int) [c1, c2, c3, c4, c5, c6, c7, c8] ++ _)
  rw [hm, hl]
  rfl
theorem cm_putP {x : Cm} (h1 : x.ef.length = 8) (h2 : x.pf.length = 8) (t : Int × Int × List V3) (h3 : t.2.2.length = 8) (hm : ((u32 t.1).toNat : Int) = t.1) (hl : ((u32 t.2.1).toNat : Int) = t.2.1) :
    (cmc x).take 35 ++ pc3 t ++ (cmc x).drop (35 + (pc3 t).length) = cmc (ptCm t x) := by
  obtain ⟨kd, ek, eid, eg, em, el, ef, dv, rq, id, bs, kp, pm, pl, pf, A, n, c, f, ms⟩ := x
  obtain ⟨m, lb, ff⟩ := t
  simp only at hm hl h1 h2 h3
  obtain ⟨a1, a2, a3, a4, a5, a6, a7, a8, rfl⟩ := eight8 h1
  obtain ⟨b1, b2, b3, b4, b5, b6, b7, b8, rfl⟩ := eight8 h2
  obtain ⟨c1, c2, c3, c4, c5, c6, c7, c8, rfl⟩ := eight8 h3
  unfold ptCm cmc cmP
  simp only
  rw [hm, hl]
  rfl
section
variable {w wx : World} {base g b2 b3 gC : Nat} {l : List UInt8} {x : Cm} {a : Nat} {e : Int}
theorem tk_edit (h : RC w base g b2 b3 gC l wx x a e) (ha : a ≤ l.length) (hm : l.length ≤ 4000) :
    Calls Try.prog 69 #[.pointer (some ⟨b2, 0, none⟩), .pointer (some ⟨b3, 0, none⟩)] wx fun r w' => r = .returned (.tuple #[]) ∧ RC w base g b2 b3 gC l w' (edCm (editOut l a e).1 x) (editOut l a e).2.1 (editOut l a e).2.2 ∧ Grown2 wx w' g gC := by
  have HR := h
  have HG := Grown2.refl wx g gC
  clear h
  obtain ⟨q1, hq1⟩ : ∃ q, q = editOut l a e := ⟨_, rfl⟩
  obtain ⟨cs, hcs⟩ : ∃ cs, cs = (ec6 q1.1).toArray := ⟨_, rfl⟩
  have h8 : q1.1.2.2.2.2.2.length = 8 := by rw [hq1]; exact editOut_len _ _ _
  have HCS : Hid (cs.size = 29) := hid (by rw [hcs]; exact ecells_len _ _ _ _ _ h8)
  have HON : Hid (cs.all (·.oneCell') = true) := hid (by rw [hcs]; exact all_oneCell_toArray (ecells_one _ _ _ _ _ _))
  have HU := hid (by rw [hq1]; exact editOut_u32 l a e : ((u32 q1.1.2.2.2.1).toNat : Int) = q1.1.2.2.2.1 ∧ ((u32 q1.1.2.2.2.2.1).toNat : Int) = q1.1.2.2.2.2.1)
  rw [← hq1]
  have EQ1 := hid hq1
  have HC := hid hcs
  have H8 := hid h8
  clear hq1 hcs h8
  go_enter Try.func69, Try.ntmps69
  refine wp_region_held (S := fun wz => wz.cell? ⟨b2, 0, none⟩ = some (.pointer (some ⟨g, 0, none⟩)) ∧ wz.cell? ⟨b3, 0, none⟩ = some (.pointer (some ⟨gC, 0, none⟩))) (by kernel_rfl) ?_
  show Go.wpAnyH Try.prog Region.Mode.any _ _ _ _ _ _ wx.drew
  have HR := HR.drew
  have HG := Grown2.trans HG (Grown2.none_ (Below.refl wx.heap.size wx).drew)
  have hS := HR.two
  generalize wx.drew = wd at HR HG hS ⊢
  refine takeH (i := 0) (oi := _) (v := (.pointer (some ⟨gC, 0, none⟩))) (fuel := 5) (some 2) rfl rfl (by kernel_rfl) (by kernel_rfl) (by kernel_rfl) (fun _ _ _ h => h) (.inl ⟨by rfl, fun wz hS => by simp [go_sem, hS.2]⟩) hS ?_
  simp only [pq4]
  refine takeH (i := 1) (oi := _) (v := (.pointer (some ⟨g, 0, none⟩))) (fuel := 4) (some 3) rfl rfl (by kernel_rfl) (by kernel_rfl) (by kernel_rfl) (fun _ _ _ h => h) (.inl ⟨by rfl, fun wz hS => by simp [go_sem, hS.1]⟩) hS ?_
  simp only [pq4]
  refine allH [2] 2 (fuel := 3) (by kernel_rfl) ?_
  refine callH (some 4) _ rfl rfl 70 #[.pointer (some ⟨g, 0, none⟩)] (by simp [go_sem]) (by rfl) ?_
  refine (HR.edit ha hm q1 EQ1.out cs HC.out).mono ?_
  rintro r w1 ⟨rfl, HR1, HG1⟩
  have HG := HG.trans HG1
  have HR := HR1
  clear HR1 HG1
  have hS := HR.two
  refine ⟨_, rfl, hS, ?_⟩
  simp only [pq4]
  refine takeH (i := 3) (oi := _) (v := (.pointer (some ⟨gC, 0, none⟩))) (fuel := 2) (some 5) rfl rfl (by kernel_rfl) (by kernel_rfl) (by kernel_rfl) (fun _ _ _ h => h) (.inl ⟨by rfl, fun wz hS => by simp [go_sem]⟩) hS ?_
  simp only [pq4]
  refine takeH (i := 4) (oi := _) (v := (.pointer (some ⟨gC, 1, none⟩))) (fuel := 1) (some 6) rfl rfl (by kernel_rfl) (by kernel_rfl) (by kernel_rfl) (fun _ _ _ h => h) (.inl ⟨by rfl, fun wz hS => by simp [go_sem]⟩) hS ?_
  simp only [pq4]
  have th := HR.c.there 1 29 (by rw [cmc_len HR.ok.e8 HR.ok.p8]; omega)
  obtain ⟨HR1, HG1⟩ := HR.puts (edCm q1.1 x) ⟨H8.out, HR.ok.p8, HR.ok.len, HR.ok.cap, HR.ok.max, HR.ok.see⟩ HR.n31 (HR.low rfl rfl) 1 cs.toList (by rw [Array.length_toList, HCS.out]; omega) (by rw [HC.out]; exact cm_putE HR.ok.e8 HR.ok.p8 q1.1 H8.out HU.out.1 HU.out.2)
  have hS := HR1.two
  refine allH [5] 5 (fuel := 0) (by kernel_rfl) ?_
  refine storeH _ rfl rfl (by rfl) 29 (.tmp 6) (.tmp 4) rfl gC 1 cs rfl rfl (by rw [HCS.out]; exact th) (by rw [HCS.out]; exact info_edit) HON.out ⟨hS, ?_⟩
  have HG := HG.trans HG1
  have HR := HR1
  clear HR1 HG1 th
  generalize w1.setCells gC 1 cs.toList = w2 at HR HG hS ⊢
  refine wpAnyH_done (by kernel_rfl) ?_ 0
  go_end0
  exact ⟨rfl, HR, HG⟩
end
section
variable {w wx : World} {base g b2 b3 gC : Nat} {l : List UInt8} {x : Cm} {a : Nat} {e : Int}
theorem tk_put (h : RC w base g b2 b3 gC l wx x a e) (ha : a ≤ l.length) (hm : l.length ≤ 4000) {b5 : Nat} (hB5 : Blk wx b5 [.func (.func 68) #[] #[.pointer (some ⟨b2, 0, none⟩), .pointer (some ⟨b3, 0, none⟩)]]) :
    Calls Try.prog 72 #[.pointer (some ⟨b5, 0, none⟩), .pointer (some ⟨b2, 0, none⟩), .pointer (some ⟨b3, 0, none⟩)] wx fun r w' => r = .returned (.tuple #[]) ∧ RC w base g b2 b3 gC l w' (ptCm (patOut l (abvOut l (abvOut l (abvOut l (numOut l a e 5).2.1 (numOut l a e 5).2.2 1099511627776).2.1 (abvOut l (numOut l a e 5).2.1 (numOut l a e 5).2.2 1099511627776).2.2 1073741823).2.1 (abvOut l (abvOut l (numOut l a e 5).2.1 (numOut l a e 5).2.2 1099511627776).2.1 (abvOut l (numOut l a e 5).2.1 (numOut l a e 5).2.2 1099511627776).2.2 1073741823).2.2 1099511627776).2.1 (abvOut l (abvOut l (abvOut l (numOut l a e 5).2.1 (numOut l a e 5).2.2 1099511627776).2.1 (abvOut l (numOut l a e 5).2.1 (numOut l a e 5).2.2 1099511627776).2.2 1073741823).2.1 (abvOut l (abvOut l (numOut l a e 5).2.1 (numOut l a e 5).2.2 1099511627776).2.1 (abvOut l (numOut l a e 5).2.1 (numOut l a e 5).2.2 1099511627776).2.2 1073741823).2.2 1099511627776).2.2).1 { x with dv := ((numOut l a e 5).1 : Int), rq := ((abvOut l (numOut l a e 5).2.1 (numOut l a e 5).2.2 1099511627776).1 : Int), id := ((abvOut l (abvOut l (numOut l a e 5).2.1 (numOut l a e 5).2.2 1099511627776).2.1 (abvOut l (numOut l a e 5).2.1 (numOut l a e 5).2.2 1099511627776).2.2 1073741823).1 : Int), bs := ((abvOut l (abvOut l (abvOut l (numOut l a e 5).2.1 (numOut l a e 5).2.2 1099511627776).2.1 (abvOut l (numOut l a e 5).2.1 (numOut l a e 5).2.2 1099511627776).2.2 1073741823).2.1 (abvOut l (abvOut l (numOut l a e 5).2.1 (numOut l a e 5).2.2 1099511627776).2.1 (abvOut l (numOut l a e 5).2.1 (numOut l a e 5).2.2 1099511627776).2.2 1073741823).2.2 1099511627776).1 : Int) }) (patOut l (abvOut l (abvOut l (abvOut l (numOut l a e 5).2.1 (numOut l a e 5).2.2 1099511627776).2.1 (abvOut l (numOut l a e 5).2.1 (numOut l a e 5).2.2 1099511627776).2.2 1073741823).2.1 (abvOut l (abvOut l (numOut l a e 5).2.1 (numOut l a e 5).2.2 1099511627776).2.1 (abvOut l (numOut l a e 5).2.1 (numOut l a e 5).2.2 1099511627776).2.2 1073741823).2.2 1099511627776).2.1 (abvOut l (abvOut l (abvOut l (numOut l a e 5).2.1 (numOut l a e 5).2.2 1099511627776).2.1 (abvOut l (numOut l a e 5).2.1 (numOut l a e 5).2.2 1099511627776).2.2 1073741823).2.1 (abvOut l (abvOut l (numOut l a e 5).2.1 (numOut l a e 5).2.2 1099511627776).2.1 (abvOut l (numOut l a e 5).2.1 (numOut l a e 5).2.2 1099511627776).2.2 1073741823).2.2 1099511627776).2.2).2.1 (patOut l (abvOut l (abvOut l (abvOut l (numOut l a e 5).2.1 (numOut l a e 5).2.2 1099511627776).2.1 (abvOut l (numOut l a e 5).2.1 (numOut l a e 5).2.2 1099511627776).2.2 1073741823).2.1 (abvOut l (abvOut l (numOut l a e 5).2.1 (numOut l a e 5).2.2 1099511627776).2.1 (abvOut l (numOut l a e 5).2.1 (numOut l a e 5).2.2 1099511627776).2.2 1073741823).2.2 1099511627776).2.1 (abvOut l (abvOut l (abvOut l (numOut l a e 5).2.1 (numOut l a e 5).2.2 1099511627776).2.1 (abvOut l (numOut l a e 5).2.1 (numOut l a e 5).2.2 1099511627776).2.2 1073741823).2.1 (abvOut l (abvOut l (numOut l a e 5).2.1 (numOut l a e 5).2.2 1099511627776).2.1 (abvOut l (numOut l a e 5).2.1 (numOut l a e 5).2.2 1099511627776).2.2 1073741823).2.2 1099511627776).2.2).2.2 ∧ Grown2 wx w' g gC := by
  have HR := h
  have HG := Grown2.refl wx g gC
  clear h
  have HQ := hid (fun wz (h : RC w base g b2 b3 gC l wz x a e) => tk_req h ha hm)
  obtain ⟨d0, hd0⟩ : ∃ q, q = numOut l a e 5 := ⟨_, rfl⟩
  obtain ⟨r0, hr0⟩ : ∃ q, q = abvOut l d0.2.1 d0.2.2 1099511627776 := ⟨_, rfl⟩
  rw [← hd0, ← hr0] at HQ
  rw [← hd0, ← hr0]
  have at0 : r0.2.1 ≤ l.length := by rw [hr0]; exact abvOut_at _ _ _ _ (by rw [hd0]; exact numOut_at _ _ _ _ ha)
  obtain ⟨x1, hx1⟩ : ∃ x1 : Cm, x1 = { x with dv := (d0.1 : Int), rq := (r0.1 : Int) } := ⟨_, rfl⟩
  rw [← hx1] at HQ
  obtain ⟨q1, hq1⟩ : ∃ q, q = abvOut l r0.2.1 r0.2.2 1073741823 := ⟨_, rfl⟩
  obtain ⟨k1, hk1⟩ : ∃ k : Int, k = (q1.1 : Int) := ⟨_, rfl⟩
  obtain ⟨q2, hq2⟩ : ∃ q, q = abvOut l q1.2.1 q1.2.2 1099511627776 := ⟨_, rfl⟩
  obtain ⟨k2, hk2⟩ : ∃ k : Int, k = (q2.1 : Int) := ⟨_, rfl⟩
  obtain ⟨q3, hq3⟩ : ∃ q, q = patOut l q2.2.1 q2.2.2 := ⟨_, rfl⟩
  obtain ⟨cs, hcs⟩ : ∃ cs, cs = (pc3 q3.1).toArray := ⟨_, rfl⟩
  have h8 : q3.1.2.2.length = 8 := by rw [hq3]; exact patOut_len _ _ _
  have HCS : Hid (cs.size = 26) := hid (by rw [hcs]; exact pcells_len _ _ h8)
  have HON : Hid (cs.all (·.oneCell') = true) := hid (by rw [hcs]; exact all_oneCell_toArray (pcells_one _ _ _))
  have HU := hid (by rw [hq3]; exact patOut_u32 l q2.2.1 q2.2.2 : ((u32 q3.1.1).toNat : Int) = q3.1.1 ∧ ((u32 q3.1.2.1).toNat : Int) = q3.1.2.1)
  have at1 : q1.2.1 ≤ l.length := by rw [hq1]; exact abvOut_at _ _ _ _ at0
  have at2 : q2.2.1 ≤ l.length := by rw [hq2]; exact abvOut_at _ _ _ _ at1
  rw [← hq1, ← hq2, ← hq3, ← hk1, ← hk2]
  have HX : Hid (ptCm q3.1 { x with dv := (d0.1 : Int), rq := (r0.1 : Int), id := k1, bs := k2 } = ptCm q3.1 { x1 with id := k1, bs := k2 }) := hid (by rw [hx1])
  rw [HX.out]
  have k5 := hB5.cell (j := 0) rfl
  have EQ3 := hid hq3
  have HC := hid hcs
  have H8 := hid h8
  have EQ1 := hid hq1
  have HK1 := hid hk1
  have EQ2 := hid hq2
  have HK2 := hid hk2
  clear hq1 hq2 hq3 hk1 hk2 hcs h8 hd0 hr0 hx1 hB5
  go_enter Try.func72, Try.ntmps72
  go_wp2_with fail
  refine (HQ.out wx HR).mono ?_
  rintro r w1 ⟨rfl, HR1, HG1⟩
  have HR := HR1
  have HG := HG.trans HG1
  clear HR1 HG1 k5 HQ
  go_wp2_with fail
  refine wp_region_held (S := fun wz => wz.cell? ⟨b2, 0, none⟩ = some (.pointer (some ⟨g, 0, none⟩)) ∧ wz.cell? ⟨b3, 0, none⟩ = some (.pointer (some ⟨gC, 0, none⟩))) (by kernel_rfl) ?_
  show Go.wpAnyH Try.prog Region.Mode.any _ _ _ _ _ _ w1.drew
  have HR := HR.drew
  have HG := Grown2.trans HG (Grown2.none_ (Below.refl w1.heap.size w1).drew)
  have hS := HR.two
  generalize w1.drew = wd at HR HG hS ⊢
  refine takeH (i := 0) (oi := _) (v := (.pointer (some ⟨gC, 0, none⟩))) (fuel := 11) (some 5) rfl rfl (by kernel_rfl) (by kernel_rfl) (by kernel_rfl) (fun _ _ _ h => h) (.inl ⟨by rfl, fun wz hS => by simp [go_sem, hS.2]⟩) hS ?_
  simp only [pq4]
  refine takeH (i := 1) (oi := _) (v := (.pointer (some ⟨gC, 0, none⟩))) (fuel := 10) (some 6) rfl rfl (by kernel_rfl) (by kernel_rfl) (by kernel_rfl) (fun _ _ _ h => h) (.inl ⟨by rfl, fun wz hS => by simp [go_sem, hS.2]⟩) hS ?_
  simp only [pq4]
  refine takeH (i := 2) (oi := _) (v := (.pointer (some ⟨g, 0, none⟩))) (fuel := 9) (some 7) rfl rfl (by kernel_rfl) (by kernel_rfl) (by kernel_rfl) (fun _ _ _ h => h) (.inl ⟨by rfl, fun wz hS => by simp [go_sem, hS.1]⟩) hS ?_
  simp only [pq4]
  refine takeH (i := 4) (oi := _) (v := (.pointer (some ⟨g, 0, none⟩))) (fuel := 8) (some 9) rfl rfl (by kernel_rfl) (by kernel_rfl) (by kernel_rfl) (fun _ _ _ h => h) (.inl ⟨by rfl, fun wz hS => by simp [go_sem, hS.1]⟩) hS ?_
  simp only [pq4]
  refine allH [3] 3 (fuel := 7) (by kernel_rfl) ?_
  refine callH (some 8) _ rfl rfl 33 #[.pointer (some ⟨g, 0, none⟩), .int .i64 1073741823] (by simp [go_sem]) (by rfl) ?_
  refine (HR.abv at0 hm 1073741823 q1 EQ1.out k1 HK1.out).mono ?_
  rintro r w2 ⟨rfl, HR1, HG1⟩
  have HG := HG.trans HG1
  have HR := HR1
  clear HR1 HG1
  have hS := HR.two
  refine ⟨_, rfl, hS, ?_⟩
  simp only [pq4]
  refine allH [5] 5 (fuel := 6) (by kernel_rfl) ?_
  refine callH (some 10) _ rfl rfl 33 #[.pointer (some ⟨g, 0, none⟩), .int .i64 1099511627776] (by simp [go_sem]) (by rfl) ?_
  refine (HR.abv at1 hm 1099511627776 q2 EQ2.out k2 HK2.out).mono ?_
  rintro r w3 ⟨rfl, HR1, HG1⟩
  have HG := HG.trans HG1
  have HR := HR1
  clear HR1 HG1
  have hS := HR.two
  refine ⟨_, rfl, hS, ?_⟩
  simp only [pq4]
  refine takeH (i := 6) (oi := _) (v := (.pointer (some ⟨gC, 0, none⟩))) (fuel := 5) (some 11) rfl rfl (by kernel_rfl) (by kernel_rfl) (by kernel_rfl) (fun _ _ _ h => h) (.inl ⟨by rfl, fun wz hS => by simp [go_sem]⟩) hS ?_
  simp only [pq4]
  refine takeH (i := 7) (oi := _) (v := (.pointer (some ⟨gC, 32, none⟩))) (fuel := 4) (some 12) rfl rfl (by kernel_rfl) (by kernel_rfl) (by kernel_rfl) (fun _ _ _ h => h) (.inl ⟨by rfl, fun wz hS => by simp [go_sem]⟩) hS ?_
  simp only [pq4]
  have cz := HR.c.cell (cm_at HR.ok.e8 HR.ok.p8).2.2.2.1
  have fz := HR.c.frozen 32
  obtain ⟨HR1, HG1⟩ := HR.put { x1 with id := k1 } ⟨HR.ok.e8, HR.ok.p8, HR.ok.len, HR.ok.cap, HR.ok.max, HR.ok.see⟩ (HR.n31) (HR.low rfl rfl) 32 (.int .i64 k1) (cm_sets HR.ok.e8 HR.ok.p8 k1 0#32).2.2.2.1
  have hS := HR1.two
  refine allH [8] 8 (fuel := 3) (by kernel_rfl) ?_
  refine store1H _ rfl rfl (by rfl) 3 (.tmp 12) (.tmp 8) rfl gC 32 _ (.int .i64 k1) rfl rfl (fun w => by kernel_rfl) (fun cs => by simp) rfl cz fz ⟨hS, ?_⟩
  have HG := HG.trans HG1
  have HR := HR1
  clear HR1 HG1 cz fz
  generalize w3.setCell ⟨gC, 32, none⟩ (.int .i64 k1) = w4 at HR HG hS ⊢
  refine takeH (i := 9) (oi := _) (v := (.pointer (some ⟨gC, 0, none⟩))) (fuel := 2) (some 13) rfl rfl (by kernel_rfl) (by kernel_rfl) (by kernel_rfl) (fun _ _ _ h => h) (.inl ⟨by rfl, fun wz hS => by simp [go_sem]⟩) hS ?_
  simp only [pq4]
  refine takeH (i := 10) (oi := _) (v := (.pointer (some ⟨gC, 33, none⟩))) (fuel := 1) (some 14) rfl rfl (by kernel_rfl) (by kernel_rfl) (by kernel_rfl) (fun _ _ _ h => h) (.inl ⟨by rfl, fun wz hS => by simp [go_sem]⟩) hS ?_
  simp only [pq4]
  have cz := HR.c.cell (cm_at HR.ok.e8 HR.ok.p8).2.2.2.2.1
  have fz := HR.c.frozen 33
  obtain ⟨HR1, HG1⟩ := HR.put { x1 with id := k1, bs := k2 } ⟨HR.ok.e8, HR.ok.p8, HR.ok.len, HR.ok.cap, HR.ok.max, HR.ok.see⟩ (HR.n31) (HR.low rfl rfl) 33 (.int .i64 k2) (cm_sets HR.ok.e8 HR.ok.p8 k2 0#32).2.2.2.2.1
  have hS := HR1.two
  refine allH [11] 11 (fuel := 0) (by kernel_rfl) ?_
  refine store1H _ rfl rfl (by rfl) 3 (.tmp 14) (.tmp 10) rfl gC 33 _ (.int .i64 k2) rfl rfl (fun w => by kernel_rfl) (fun cs => by simp) rfl cz fz ⟨hS, ?_⟩
  have HG := HG.trans HG1
  have HR := HR1
  clear HR1 HG1 cz fz
  generalize w4.setCell ⟨gC, 33, none⟩ (.int .i64 k2) = w5 at HR HG hS ⊢
  refine wpAnyH_done (by kernel_rfl) ?_ 0
  go_wp2_with fail
  refine wp_region_held (S := fun wz => wz.cell? ⟨b2, 0, none⟩ = some (.pointer (some ⟨g, 0, none⟩)) ∧ wz.cell? ⟨b3, 0, none⟩ = some (.pointer (some ⟨gC, 0, none⟩))) (by kernel_rfl) ?_
  show Go.wpAnyH Try.prog Region.Mode.any _ _ _ _ _ _ w5.drew
  have HR := HR.drew
  have HG := Grown2.trans HG (Grown2.none_ (Below.refl w5.heap.size w5).drew)
  have hS := HR.two
  generalize w5.drew = wd at HR HG hS ⊢
  refine takeH (i := 0) (oi := _) (v := (.pointer (some ⟨gC, 0, none⟩))) (fuel := 5) (some 15) rfl rfl (by kernel_rfl) (by kernel_rfl) (by kernel_rfl) (fun _ _ _ h => h) (.inl ⟨by rfl, fun wz hS => by simp [go_sem, hS.2]⟩) hS ?_
  simp only [pq4]
  refine takeH (i := 1) (oi := _) (v := (.pointer (some ⟨g, 0, none⟩))) (fuel := 4) (some 16) rfl rfl (by kernel_rfl) (by kernel_rfl) (by kernel_rfl) (fun _ _ _ h => h) (.inl ⟨by rfl, fun wz hS => by simp [go_sem, hS.1]⟩) hS ?_
  simp only [pq4]
  refine allH [2] 2 (fuel := 3) (by kernel_rfl) ?_
  refine callH (some 17) _ rfl rfl 73 #[.pointer (some ⟨g, 0, none⟩)] (by simp [go_sem]) (by rfl) ?_
  refine (HR.patch at2 hm q3 EQ3.out cs HC.out).mono ?_
  rintro r w6 ⟨rfl, HR1, HG1⟩
  have HG := HG.trans HG1
  have HR := HR1
  clear HR1 HG1
  have hS := HR.two
  refine ⟨_, rfl, hS, ?_⟩
  simp only [pq4]
  refine takeH (i := 3) (oi := _) (v := (.pointer (some ⟨gC, 0, none⟩))) (fuel := 2) (some 18) rfl rfl (by kernel_rfl) (by kernel_rfl) (by kernel_rfl) (fun _ _ _ h => h) (.inl ⟨by rfl, fun wz hS => by simp [go_sem]⟩) hS ?_
  simp only [pq4]
  refine takeH (i := 4) (oi := _) (v := (.pointer (some ⟨gC, 35, none⟩))) (fuel := 1) (some 19) rfl rfl (by kernel_rfl) (by kernel_rfl) (by kernel_rfl) (fun _ _ _ h => h) (.inl ⟨by rfl, fun wz hS => by simp [go_sem]⟩) hS ?_
  simp only [pq4]
  have th := HR.c.there 35 26 (by rw [cmc_len HR.ok.e8 HR.ok.p8]; omega)
  obtain ⟨HR1, HG1⟩ := HR.puts (ptCm q3.1 { x1 with id := k1, bs := k2 }) ⟨HR.ok.e8, H8.out, HR.ok.len, HR.ok.cap, HR.ok.max, HR.ok.see⟩ HR.n31 (HR.low rfl rfl) 35 cs.toList (by rw [Array.length_toList, HCS.out]; omega) (by rw [HC.out]; exact cm_putP HR.ok.e8 HR.ok.p8 q3.1 H8.out HU.out.1 HU.out.2)
  have hS := HR1.two
  refine allH [5] 5 (fuel := 0) (by kernel_rfl) ?_
  refine storeH _ rfl rfl (by rfl) 27 (.tmp 19) (.tmp 17) rfl gC 35 cs rfl rfl (by rw [HCS.out]; exact th) (by rw [HCS.out]; exact info_patch) HON.out ⟨hS, ?_⟩
  have HG := HG.trans HG1
  have HR := HR1
  clear HR1 HG1 th
  generalize w6.setCells gC 35 cs.toList = w7 at HR HG hS ⊢
  refine wpAnyH_done (by kernel_rfl) ?_ 0
  go_end0
  exact ⟨rfl, HR, HG⟩
end
section
variable {w wx : World} {base g b2 b3 gC : Nat} {l : List UInt8} {x : Cm} {a : Nat} {e : Int}
theorem filt31C (l : List UInt8) (a : Nat) (e : Int) : (filtOut l a e).1.length ≤ 31 := by
  have hk := nodes_len (l := l) (a := (mny l a e).2.1) (mny l a e).1
  have hm := mny_le l a e
  unfold filtOut
  split
  · simp
  · split
    · simp
    · split
      · omega
      · simp
theorem cm_setF {x : Cm} (h1 : x.ef.length = 8) (h2 : x.pf.length = 8) (AF : Option Addr) (nf cF : Nat) (f : List Nd) : (cmc x).set 61 (.slice AF nf cF) = cmc { x with A := AF, n := nf, c := cF, f := f } := by
  obtain ⟨kd, ek, eid, eg, em, el, ef, dv, rq, id, bs, kp, pm, pl, pf, A, n, c, f, ms⟩ := x
  obtain ⟨a1, a2, a3, a4, a5, a6, a7, a8, rfl⟩ := eight8 h1
  obtain ⟨b1, b2, b3, b4, b5, b6, b7, b8, rfl⟩ := eight8 h2
  rfl
theorem tk_sub (h : RC w base g b2 b3 gC l wx x a e) (ha : a ≤ l.length) (hm : l.length ≤ 4000) {b5 : Nat} (hB5 : Blk wx b5 [.func (.func 68) #[] #[.pointer (some ⟨b2, 0, none⟩), .pointer (some ⟨b3, 0, none⟩)]]) :
    Calls Try.prog 74 #[.pointer (some ⟨b5, 0, none⟩), .pointer (some ⟨b2, 0, none⟩), .pointer (some ⟨b3, 0, none⟩)] wx fun r w' => r = .returned (.tuple #[]) ∧ ∃ AF cF, RC w base g b2 b3 gC l w' { x with dv := ((numOut l a e 5).1 : Int), rq := ((abvOut l (numOut l a e 5).2.1 (numOut l a e 5).2.2 1099511627776).1 : Int), A := AF, n := (filtOut l (abvOut l (numOut l a e 5).2.1 (numOut l a e 5).2.2 1099511627776).2.1 (abvOut l (numOut l a e 5).2.1 (numOut l a e 5).2.2 1099511627776).2.2).1.length, c := cF, f := (filtOut l (abvOut l (numOut l a e 5).2.1 (numOut l a e 5).2.2 1099511627776).2.1 (abvOut l (numOut l a e 5).2.1 (numOut l a e 5).2.2 1099511627776).2.2).1, ms := BitVec.ofNat 32 (numOut l (filtOut l (abvOut l (numOut l a e 5).2.1 (numOut l a e 5).2.2 1099511627776).2.1 (abvOut l (numOut l a e 5).2.1 (numOut l a e 5).2.2 1099511627776).2.2).2.1 (filtOut l (abvOut l (numOut l a e 5).2.1 (numOut l a e 5).2.2 1099511627776).2.1 (abvOut l (numOut l a e 5).2.1 (numOut l a e 5).2.2 1099511627776).2.2).2.2 511).1 } (numOut l (filtOut l (abvOut l (numOut l a e 5).2.1 (numOut l a e 5).2.2 1099511627776).2.1 (abvOut l (numOut l a e 5).2.1 (numOut l a e 5).2.2 1099511627776).2.2).2.1 (filtOut l (abvOut l (numOut l a e 5).2.1 (numOut l a e 5).2.2 1099511627776).2.1 (abvOut l (numOut l a e 5).2.1 (numOut l a e 5).2.2 1099511627776).2.2).2.2 511).2.1 (numOut l (filtOut l (abvOut l (numOut l a e 5).2.1 (numOut l a e 5).2.2 1099511627776).2.1 (abvOut l (numOut l a e 5).2.1 (numOut l a e 5).2.2 1099511627776).2.2).2.1 (filtOut l (abvOut l (numOut l a e 5).2.1 (numOut l a e 5).2.2 1099511627776).2.1 (abvOut l (numOut l a e 5).2.1 (numOut l a e 5).2.2 1099511627776).2.2).2.2 511).2.2 ∧ Grown2 wx w' g gC := by
  have HR := h
  have HG := Grown2.refl wx g gC
  clear h
  have HQ := hid (fun wz (h : RC w base g b2 b3 gC l wz x a e) => tk_req h ha hm)
  obtain ⟨d0, hd0⟩ : ∃ q, q = numOut l a e 5 := ⟨_, rfl⟩
  obtain ⟨r0, hr0⟩ : ∃ q, q = abvOut l d0.2.1 d0.2.2 1099511627776 := ⟨_, rfl⟩
  rw [← hd0, ← hr0] at HQ
  rw [← hd0, ← hr0]
  have at0 : r0.2.1 ≤ l.length := by rw [hr0]; exact abvOut_at _ _ _ _ (by rw [hd0]; exact numOut_at _ _ _ _ ha)
  obtain ⟨x1, hx1⟩ : ∃ x1 : Cm, x1 = { x with dv := (d0.1 : Int), rq := (r0.1 : Int) } := ⟨_, rfl⟩
  rw [← hx1] at HQ
  obtain ⟨q1, hq1⟩ : ∃ q, q = filtOut l r0.2.1 r0.2.2 := ⟨_, rfl⟩
  obtain ⟨nf, hnf⟩ : ∃ n, n = q1.1.length := ⟨_, rfl⟩
  obtain ⟨q2, hq2⟩ : ∃ q, q = numOut l q1.2.1 q1.2.2 511 := ⟨_, rfl⟩
  obtain ⟨k2, hk2⟩ : ∃ k : Int, k = (q2.1 : Int) := ⟨_, rfl⟩
  have at1 : q1.2.1 ≤ l.length := by rw [hq1]; exact filt_at at0
  have hn31 : nf ≤ 31 := by rw [hnf, hq1]; exact filt31C _ _ _
  have hk2le : k2 ≤ 511 := by rw [hk2, hq2]; exact numOut_le _ _ _ _ (by omega)
  have hk2ge : 0 ≤ k2 := by rw [hk2]; omega
  obtain ⟨ms, hms⟩ : ∃ m, m = BitVec.ofNat 32 q2.1 := ⟨_, rfl⟩
  have hmsk : (ms.toNat : Int) = k2 := by rw [hms, hk2, BitVec.toNat_ofNat, Nat.mod_eq_of_lt (by omega)]
  rw [← hq1, ← hq2, ← hms]
  have k5 := hB5.cell (j := 0) rfl
  have HX1 := hid hx1
  have HMS := hid hmsk
  have EQ1 := hid hq1
  have HNF := hid hnf
  have HN31 := hid hn31
  have EQ2 := hid hq2
  have HK2 := hid hk2
  clear hq1 hq2 hk2 hd0 hr0 hx1 hB5 hnf hms hmsk hn31
  go_enter Try.func74, Try.ntmps74
  go_wp2_with fail
  refine (HQ.out wx HR).mono ?_
  rintro r w1 ⟨rfl, HR1, HG1⟩
  have HR := HR1
  have HG := HG.trans HG1
  clear HR1 HG1 k5 HQ
  go_wp2_with fail
  refine wp_region_held (S := fun wz => wz.cell? ⟨b2, 0, none⟩ = some (.pointer (some ⟨g, 0, none⟩)) ∧ wz.cell? ⟨b3, 0, none⟩ = some (.pointer (some ⟨gC, 0, none⟩))) (by kernel_rfl) ?_
  show Go.wpAnyH Try.prog Region.Mode.any _ _ _ _ _ _ w1.drew
  have HR := HR.drew
  have HG := Grown2.trans HG (Grown2.none_ (Below.refl w1.heap.size w1).drew)
  have hS := HR.two
  generalize w1.drew = wd at HR HG hS ⊢
  refine takeH (i := 0) (oi := _) (v := (.pointer (some ⟨gC, 0, none⟩))) (fuel := 5) (some 5) rfl rfl (by kernel_rfl) (by kernel_rfl) (by kernel_rfl) (fun _ _ _ h => h) (.inl ⟨by rfl, fun wz hS => by simp [go_sem, hS.2]⟩) hS ?_
  simp only [pq4]
  refine takeH (i := 1) (oi := _) (v := (.pointer (some ⟨g, 0, none⟩))) (fuel := 4) (some 6) rfl rfl (by kernel_rfl) (by kernel_rfl) (by kernel_rfl) (fun _ _ _ h => h) (.inl ⟨by rfl, fun wz hS => by simp [go_sem, hS.1]⟩) hS ?_
  simp only [pq4]
  refine allH [2] 2 (fuel := 3) (by kernel_rfl) ?_
  refine callH (some 7) _ rfl rfl 75 #[.pointer (some ⟨g, 0, none⟩)] (by simp [go_sem]) (by rfl) ?_
  refine (HR.filt at0 hm q1 EQ1.out nf HNF.out).mono ?_
  rintro r w2 ⟨AF, cF, rfl, HOK, HF1, HR1, HG1⟩
  have HG := HG.trans HG1
  have HR := HR1
  clear HR1 HG1
  have hS := HR.two
  refine ⟨_, rfl, hS, ?_⟩
  simp only [pq4]
  refine takeH (i := 3) (oi := _) (v := (.pointer (some ⟨gC, 0, none⟩))) (fuel := 2) (some 8) rfl rfl (by kernel_rfl) (by kernel_rfl) (by kernel_rfl) (fun _ _ _ h => h) (.inl ⟨by rfl, fun wz hS => by simp [go_sem]⟩) hS ?_
  simp only [pq4]
  refine takeH (i := 4) (oi := _) (v := (.pointer (some ⟨gC, 61, none⟩))) (fuel := 1) (some 9) rfl rfl (by kernel_rfl) (by kernel_rfl) (by kernel_rfl) (fun _ _ _ h => h) (.inl ⟨by rfl, fun wz hS => by simp [go_sem]⟩) hS ?_
  simp only [pq4]
  have cz := HR.c.cell (cm_at HR.ok.e8 HR.ok.p8).2.2.2.2.2.2.1
  have fz := HR.c.frozen 61
  obtain ⟨HR1, HG1⟩ := HR.put { x1 with A := AF, n := nf, c := cF, f := q1.1 } HOK (HN31.out) (HF1) 61 (.slice AF nf cF) (cm_setF HR.ok.e8 HR.ok.p8 AF nf cF q1.1)
  have hS := HR1.two
  refine allH [5] 5 (fuel := 0) (by kernel_rfl) ?_
  refine store1H _ rfl rfl (by rfl) 30 (.tmp 9) (.tmp 7) rfl gC 61 _ (.slice AF nf cF) rfl rfl (fun w => by kernel_rfl) (fun cs => by simp) rfl cz fz ⟨hS, ?_⟩
  have HG := HG.trans HG1
  have HR := HR1
  clear HR1 HG1 cz fz
  generalize w2.setCell ⟨gC, 61, none⟩ (.slice AF nf cF) = w3 at HR HG hS ⊢
  refine wpAnyH_done (by kernel_rfl) ?_ 0
  go_wp2_with fail
  refine wp_region_held (S := fun wz => wz.cell? ⟨b2, 0, none⟩ = some (.pointer (some ⟨g, 0, none⟩)) ∧ wz.cell? ⟨b3, 0, none⟩ = some (.pointer (some ⟨gC, 0, none⟩))) (by kernel_rfl) ?_
  show Go.wpAnyH Try.prog Region.Mode.any _ _ _ _ _ _ w3.drew
  have HR := HR.drew
  have HG := Grown2.trans HG (Grown2.none_ (Below.refl w3.heap.size w3).drew)
  have hS := HR.two
  generalize w3.drew = wd at HR HG hS ⊢
  refine takeH (i := 0) (oi := _) (v := (.pointer (some ⟨gC, 0, none⟩))) (fuel := 6) (some 10) rfl rfl (by kernel_rfl) (by kernel_rfl) (by kernel_rfl) (fun _ _ _ h => h) (.inl ⟨by rfl, fun wz hS => by simp [go_sem, hS.2]⟩) hS ?_
  simp only [pq4]
  refine takeH (i := 1) (oi := _) (v := (.pointer (some ⟨g, 0, none⟩))) (fuel := 5) (some 11) rfl rfl (by kernel_rfl) (by kernel_rfl) (by kernel_rfl) (fun _ _ _ h => h) (.inl ⟨by rfl, fun wz hS => by simp [go_sem, hS.1]⟩) hS ?_
  simp only [pq4]
  refine allH [2] 2 (fuel := 4) (by kernel_rfl) ?_
  refine callH (some 12) _ rfl rfl 67 #[.pointer (some ⟨g, 0, none⟩), .int .i64 511] (by simp [go_sem]) (by rfl) ?_
  refine (HR.num at1 hm 511 q2 EQ2.out k2 HK2.out).mono ?_
  rintro r w4 ⟨rfl, HR1, HG1⟩
  have HG := HG.trans HG1
  have HR := HR1
  clear HR1 HG1
  have hS := HR.two
  refine ⟨_, rfl, hS, ?_⟩
  simp only [pq4]
  have hcv : IntKind.u32.wrap k2 = k2 := by
    simp only [IntKind.wrap, IntKind.signed, IntKind.bits, Bool.false_and, Bool.false_eq_true, if_false]
    omega
  refine takeH (i := 3) (oi := _) (v := (.int .u32 k2)) (fuel := 3) (some 13) rfl rfl (by kernel_rfl) (by kernel_rfl) (by kernel_rfl) (fun _ _ _ h => h) (.inl ⟨by rfl, fun wz hS => by simp [go_sem, hcv]⟩) hS ?_
  simp only [pq4]
  refine takeH (i := 4) (oi := _) (v := (.pointer (some ⟨gC, 0, none⟩))) (fuel := 2) (some 14) rfl rfl (by kernel_rfl) (by kernel_rfl) (by kernel_rfl) (fun _ _ _ h => h) (.inl ⟨by rfl, fun wz hS => by simp [go_sem]⟩) hS ?_
  simp only [pq4]
  refine takeH (i := 5) (oi := _) (v := (.pointer (some ⟨gC, 62, none⟩))) (fuel := 1) (some 15) rfl rfl (by kernel_rfl) (by kernel_rfl) (by kernel_rfl) (fun _ _ _ h => h) (.inl ⟨by rfl, fun wz hS => by simp [go_sem]⟩) hS ?_
  simp only [pq4]
  obtain ⟨mz, hmz⟩ : ∃ z : Int, z = (ms.toNat : Int) := ⟨_, rfl⟩
  rw [show k2 = mz by rw [hmz]; exact HMS.out.symm]
  have cz := HR.c.cell (cm_at HR.ok.e8 HR.ok.p8).2.2.2.2.2.2.2
  have fz := HR.c.frozen 62
  obtain ⟨HR1, HG1⟩ := HR.put { x1 with A := AF, n := nf, c := cF, f := q1.1, ms := ms } ⟨HR.ok.e8, HR.ok.p8, HR.ok.len, HR.ok.cap, HR.ok.max, HR.ok.see⟩ (HR.n31) (HR.low rfl rfl) 62 (.int .u32 mz) (by rw [hmz]; exact (cm_sets HR.ok.e8 HR.ok.p8 0 ms).2.2.2.2.2.2.2)
  have hS := HR1.two
  refine allH [6] 6 (fuel := 0) (by kernel_rfl) ?_
  refine store1H _ rfl rfl (by rfl) 22 (.tmp 15) (.tmp 13) rfl gC 62 _ (.int .u32 mz) rfl rfl (fun w => by kernel_rfl) (fun cs => by simp) rfl cz fz ⟨hS, ?_⟩
  have HG := HG.trans HG1
  have HR := HR1
  clear HR1 HG1 cz fz
  generalize w4.setCell ⟨gC, 62, none⟩ (.int .u32 mz) = w5 at HR HG hS ⊢
  refine wpAnyH_done (by kernel_rfl) ?_ 0
  go_end0
  rw [← HNF.out]
  have ex1 := HX1.out
  subst ex1
  exact ⟨rfl, AF, cF, HR, HG⟩
end
section
variable {P : Program} {k t e : TypeId} {w : World} {b N : Nat} {mm : IM} {ops : Array Oper} {rest : List Oper} {o : Oper} {a : Act} {Q : Exit → Act → World → Prop}
theorem wpList_insI (hg : o.guard = none) (m v : Operand) (z : Int) (hop : o.op = Op.insert t m (.const (.int .i64 z)) v) (hI : MapI P k w b N mm) (hk : P.underlying k = some (.int .i64)) (ht : P.underlying t = some (.map k e)) (hn : N < maxLen) (hm : a.eval m = .map (some b)) (hz : (Lit.int .i64 z).wf = true)
    (val : Value) (hv : a.eval v = val) (hK : ∀ w', MapI P k w' b (N + 1) (mput mm z val) → w.grownBy w' (some b) → wpList P ops Q rest (a.put o.dst undef) w') : wpList P ops Q (o :: rest) a w := by
  refine wpList_plain hg fun K' hK' => ?_
  obtain ⟨w', hrun, r1, r2⟩ := hI.store hk ht hn hz val
  unfold Oper.wp
  have hx : a.eval (.const (.int .i64 z)) = .int .i64 z := rfl
  simp [execOp, hop, hm, hx, hv, hrun, Result.andThen]
  exact hK' _ _ (hK w' r1 r2)
theorem exec_lookI (m x : Operand) (ho : o.op = .lookup t m x true) (z : Int) (hm : a.eval m = .map (some b)) (hx : a.eval x = .int .i64 z) {v : Value} (hr : (Instr.lookup t (.map (some b)) (.int .i64 z) true).run P w = .ok v w) : (execOp a.eval o).run P w = .ok (.value v) w := by
  unfold execOp
  simp only [ho, hm, hx, Sem.run_bind, hr, Result.andThen_ok, Sem.run_pure]
theorem wpList_mkI (hg : o.guard = none) (r : Option Operand) (hop : o.op = Op.makeMap t none) (hK : ∀ w', MapI P k w' w.heap.size 0 [] → Below w.heap.size w w' → wpList P ops Q rest (a.put o.dst (.map (some w.heap.size))) w') : wpList P ops Q (o :: rest) a w := by
  refine wpList_plain hg fun K' hK' => ?_
  unfold Oper.wp
  simp [execOp, hop, Instr.makeMap, Result.andThen]
  exact hK' _ _ (hK (w.alloc (.map #[] 0)) (MapI.new P k w) (below_a1C w _))
theorem below_rowI {w' : World} {B : Nat} (hg : w.grownBy w' (some b)) (hb : B ≤ b) (hz : B ≤ w.heap.size) : Below B w w' := ⟨hg.os, hg.tape, hg.output, hg.size, fun k hk => hg.block k (by omega) (fun e => by injection e with e; omega)⟩
end
def fnR (s : Nat) : Value := .func (.func 68) #[] #[.pointer (some ⟨s, 0, none⟩), .pointer (some ⟨s + 1, 0, none⟩)]
def fnE (s : Nat) : Value := .func (.func 69) #[] #[.pointer (some ⟨s, 0, none⟩), .pointer (some ⟨s + 1, 0, none⟩)]
def fnT (s : Nat) : Value := .func (.func 71) #[] #[.pointer (some ⟨s, 0, none⟩), .pointer (some ⟨s + 1, 0, none⟩)]
def fnP (s : Nat) : Value := .func (.func 72) #[] #[.pointer (some ⟨s + 2, 0, none⟩), .pointer (some ⟨s, 0, none⟩), .pointer (some ⟨s + 1, 0, none⟩)]
def fnS (s : Nat) : Value := .func (.func 74) #[] #[.pointer (some ⟨s + 2, 0, none⟩), .pointer (some ⟨s, 0, none⟩), .pointer (some ⟨s + 1, 0, none⟩)]
def tkm (s : Nat) : IM := mput (mput (mput (mput (mput [] 1 (fnE s)) 5 (fnT s)) 2 (fnP s)) 3 (fnS s)) 4 (fnR s)
theorem tkm_get (s : Nat) : mget (tkm s) 0 = none ∧ mget (tkm s) 1 = some (fnE s) ∧ mget (tkm s) 2 = some (fnP s) ∧ mget (tkm s) 3 = some (fnS s) ∧ mget (tkm s) 4 = some (fnR s) ∧ mget (tkm s) 5 = some (fnT s) := ⟨rfl, rfl, rfl, rfl, rfl, rfl⟩
theorem zero_fn (w : World) : (zeroValue 1).run Try.prog w = .ok .nilFunc w := by kernel_rfl
theorem tk_new (g gC : Nat) (w : World) :
    Calls Try.prog 34 #[.pointer (some ⟨g, 0, none⟩), .pointer (some ⟨gC, 0, none⟩)] w fun r w' => r = .returned (.map (some (w.heap.size + 3))) ∧ (Blk w' w.heap.size [.pointer (some ⟨g, 0, none⟩)] ∧ Blk w' (w.heap.size + 1) [.pointer (some ⟨gC, 0, none⟩)] ∧ Blk w' (w.heap.size + 2) [fnR w.heap.size]) ∧ MapI Try.prog 3 w' (w.heap.size + 3) 5 (tkm w.heap.size) ∧ Below w.heap.size w w' := by
  have hki := Try.underlying3
  have htm := Try.underlying67
  obtain ⟨W, hW⟩ : ∃ W, W = ((w.alloc (.cells #[.pointer (some ⟨g, 0, none⟩)] 40)).alloc (.cells #[.pointer (some ⟨gC, 0, none⟩)] 69)).alloc (.cells #[.func (.func 68) #[] #[.pointer (some ⟨w.heap.size, 0, none⟩), .pointer (some ⟨w.heap.size + 1, 0, none⟩)]] 1) := ⟨_, rfl⟩
  have hz : W.heap.size = w.heap.size + 3 := by rw [hW]; simp
  have b1 := below_a1C w (.cells #[.pointer (some ⟨g, 0, none⟩)] 40)
  have b2 := b1.alloc b1.size (.cells #[.pointer (some ⟨gC, 0, none⟩)] 69)
  have hb : Below w.heap.size w W := by rw [hW]; exact b2.alloc b2.size _
  have hB1 : Blk W w.heap.size [.pointer (some ⟨g, 0, none⟩)] := by rw [hW]; exact ((Blk.new w [.pointer (some ⟨g, 0, none⟩)] _).alloc _).alloc _
  have hB2 : Blk W (w.heap.size + 1) [.pointer (some ⟨gC, 0, none⟩)] := by
    have h := (Blk.new (w.alloc (.cells #[.pointer (some ⟨g, 0, none⟩)] 40)) [.pointer (some ⟨gC, 0, none⟩)] 69)
    rw [show (w.alloc (.cells #[.pointer (some ⟨g, 0, none⟩)] 40)).heap.size = w.heap.size + 1 by simp] at h
    rw [hW]; exact h.alloc _
  have hB3 : Blk W (w.heap.size + 2) [fnR w.heap.size] := by
    have h := (Blk.new ((w.alloc (.cells #[.pointer (some ⟨g, 0, none⟩)] 40)).alloc (.cells #[.pointer (some ⟨gC, 0, none⟩)] 69)) [fnR w.heap.size] 1)
    rw [show ((w.alloc (.cells #[.pointer (some ⟨g, 0, none⟩)] 40)).alloc (.cells #[.pointer (some ⟨gC, 0, none⟩)] 69)).heap.size = w.heap.size + 2 by simp] at h
    rw [hW]; exact h
  obtain ⟨s, hs⟩ : ∃ s, s = w.heap.size := ⟨_, rfl⟩
  have HW := hid hW
  have HZ := hid hz
  have HB := hid hb
  have HB1 := hid hB1
  have HB2 := hid hB2
  have HB3 := hid hB3
  clear hW hz hb hB1 hB2 hB3 b1 b2 hs
  go_enter Try.func34, Try.ntmps34
  go_wp2_with (first
    | (rw [← HW.out]
       refine wpList_mkI (k := 3) rfl none rfl (fun w1 HM1 HBM => ?_)
       rw [HZ.out] at HM1 ⊢
       have HM := HM1
       have BW := hid (HB.out.trans (HBM.mono HB.out.size))
       have B1 := hid (HB1.out.later HBM)
       have B2 := hid (HB2.out.later HBM)
       have B3 := hid (HB3.out.later HBM)
       have kf := B3.out.cell (j := 0) rfl
       clear HM1 HBM HB HB1 HB2 HB3 HW)
    | (refine wpList_insI rfl (.tmp 7) (.tmp 8) 1 rfl HM hki htm (by simp [maxLen]) rfl rfl (fnE w.heap.size) rfl ?_
       intro w' HM' HG'
       have BW := hid (BW.out.trans (below_rowI HG' (by omega) BW.out.size))
       have B1 := hid (B1.out.kept HG' (by intro e; injection e with e; omega))
       have B2 := hid (B2.out.kept HG' (by intro e; injection e with e; omega))
       have B3 := hid (B3.out.kept HG' (by intro e; injection e with e; omega))
       have HM := HM'
       have kf := B3.out.cell (j := 0) rfl
       clear HM' HG')
    | (refine wpList_insI rfl (.tmp 7) (.tmp 9) 5 rfl HM hki htm (by simp [maxLen]) rfl rfl (fnT w.heap.size) rfl ?_
       intro w' HM' HG'
       have BW := hid (BW.out.trans (below_rowI HG' (by omega) BW.out.size))
       have B1 := hid (B1.out.kept HG' (by intro e; injection e with e; omega))
       have B2 := hid (B2.out.kept HG' (by intro e; injection e with e; omega))
       have B3 := hid (B3.out.kept HG' (by intro e; injection e with e; omega))
       have HM := HM'
       have kf := B3.out.cell (j := 0) rfl
       clear HM' HG')
    | (refine wpList_insI rfl (.tmp 7) (.tmp 10) 2 rfl HM hki htm (by simp [maxLen]) rfl rfl (fnP w.heap.size) rfl ?_
       intro w' HM' HG'
       have BW := hid (BW.out.trans (below_rowI HG' (by omega) BW.out.size))
       have B1 := hid (B1.out.kept HG' (by intro e; injection e with e; omega))
       have B2 := hid (B2.out.kept HG' (by intro e; injection e with e; omega))
       have B3 := hid (B3.out.kept HG' (by intro e; injection e with e; omega))
       have HM := HM'
       have kf := B3.out.cell (j := 0) rfl
       clear HM' HG')
    | (refine wpList_insI rfl (.tmp 7) (.tmp 11) 3 rfl HM hki htm (by simp [maxLen]) rfl rfl (fnS w.heap.size) rfl ?_
       intro w' HM' HG'
       have BW := hid (BW.out.trans (below_rowI HG' (by omega) BW.out.size))
       have B1 := hid (B1.out.kept HG' (by intro e; injection e with e; omega))
       have B2 := hid (B2.out.kept HG' (by intro e; injection e with e; omega))
       have B3 := hid (B3.out.kept HG' (by intro e; injection e with e; omega))
       have HM := HM'
       have kf := B3.out.cell (j := 0) rfl
       clear HM' HG')
    | (refine wpList_insI rfl (.tmp 7) (.tmp 12) 4 rfl HM hki htm (by simp [maxLen]) rfl rfl (fnR w.heap.size) rfl ?_
       intro w' HM' HG'
       have BW := hid (BW.out.trans (below_rowI HG' (by omega) BW.out.size))
       have B1 := hid (B1.out.kept HG' (by intro e; injection e with e; omega))
       have B2 := hid (B2.out.kept HG' (by intro e; injection e with e; omega))
       have B3 := hid (B3.out.kept HG' (by intro e; injection e with e; omega))
       have HM := HM'
       have kf := B3.out.cell (j := 0) rfl
       clear HM' HG')
    | fail)
  go_ret
  exact ⟨rfl, ⟨B1.out, B2.out, B3.out⟩, HM, BW.out⟩
theorem ro_cok {l : List UInt8} {a : Nat} {e : Int} (h : (roRaw l a e).2.2 = 0) : cok (roRaw l a e).1 := by
  have h1 := (cm_only (l := l) (a := a) (e := e) h).2.1
  have h2 : (cmOut l a e).1 = (roRaw l a e).1 := by unfold cmOut; simp only; rw [if_pos h]
  rwa [h2] at h1
def CmRead (w : World) (base g : Nat) (l : List UInt8) (q : Cm × Nat × Int) : Ending → World → Prop := fun r w' => (∃ x : Cm, r = .returned (.agg (cmc x).toArray) ∧ okCm w' x ∧ cab x = q.1 ∧ x.n ≤ 31 ∧ lowCm g x) ∧ Rd w' base g l q.2.1 q.2.2 ∧ w.grownBy w' (some g)
section
variable {w wz : World} {base g b2 b3 b5 gC : Nat} {l : List UInt8} {a : Nat} {e : Int}
theorem clo_1 (ha : a ≤ l.length) (hm : l.length ≤ 4000) (hk : (roA l a e).1 = 1) (h : RC w base g b2 b3 gC l wz { zcm with kd := 1 } (roA l a e).2.1 (roA l a e).2.2) (hB : Blk wz b5 [.func (.func 68) #[] #[.pointer (some ⟨b2, 0, none⟩), .pointer (some ⟨b3, 0, none⟩)]]) :
    Calls Try.prog 69 #[.pointer (some ⟨b2, 0, none⟩), .pointer (some ⟨b3, 0, none⟩)] wz fun r w' => r = .returned (.tuple #[]) ∧ ∃ X, cab X = (roRaw l a e).1 ∧ ((roRaw l a e).2.2 = 0 → cok X) ∧ RC w base g b2 b3 gC l w' X (roRaw l a e).2.1 (roRaw l a e).2.2 ∧ Grown2 wz w' g gC := by
  have hA : (roA l a e).2.1 ≤ l.length := abvOut_at _ _ _ _ ha
  have hc := ro_cok (l := l) (a := a) (e := e)
  rw [ro_1 hk] at hc ⊢
  refine (tk_edit h hA hm).mono ?_
  rintro r w' ⟨rfl, hR, hG⟩
  exact ⟨rfl, rx1 l a e, rfl, hc, hR, hG⟩
theorem clo_5 (ha : a ≤ l.length) (hm : l.length ≤ 4000) (hk : (roA l a e).1 = 5) (h : RC w base g b2 b3 gC l wz { zcm with kd := 5 } (roA l a e).2.1 (roA l a e).2.2) (hB : Blk wz b5 [.func (.func 68) #[] #[.pointer (some ⟨b2, 0, none⟩), .pointer (some ⟨b3, 0, none⟩)]]) :
    Calls Try.prog 71 #[.pointer (some ⟨b2, 0, none⟩), .pointer (some ⟨b3, 0, none⟩)] wz fun r w' => r = .returned (.tuple #[]) ∧ ∃ X, cab X = (roRaw l a e).1 ∧ ((roRaw l a e).2.2 = 0 → cok X) ∧ RC w base g b2 b3 gC l w' X (roRaw l a e).2.1 (roRaw l a e).2.2 ∧ Grown2 wz w' g gC := by
  have hA : (roA l a e).2.1 ≤ l.length := abvOut_at _ _ _ _ ha
  have hc := ro_cok (l := l) (a := a) (e := e)
  rw [ro_5 hk] at hc ⊢
  refine (tk_keep h hA hm).mono ?_
  rintro r w' ⟨rfl, hR, hG⟩
  exact ⟨rfl, rx5 l a e, rfl, hc, hR, hG⟩
theorem clo_2 (ha : a ≤ l.length) (hm : l.length ≤ 4000) (hk : (roA l a e).1 = 2) (h : RC w base g b2 b3 gC l wz { zcm with kd := 2 } (roA l a e).2.1 (roA l a e).2.2) (hB : Blk wz b5 [.func (.func 68) #[] #[.pointer (some ⟨b2, 0, none⟩), .pointer (some ⟨b3, 0, none⟩)]]) :
    Calls Try.prog 72 #[.pointer (some ⟨b5, 0, none⟩), .pointer (some ⟨b2, 0, none⟩), .pointer (some ⟨b3, 0, none⟩)] wz fun r w' => r = .returned (.tuple #[]) ∧ ∃ X, cab X = (roRaw l a e).1 ∧ ((roRaw l a e).2.2 = 0 → cok X) ∧ RC w base g b2 b3 gC l w' X (roRaw l a e).2.1 (roRaw l a e).2.2 ∧ Grown2 wz w' g gC := by
  have hA : (roA l a e).2.1 ≤ l.length := abvOut_at _ _ _ _ ha
  have hc := ro_cok (l := l) (a := a) (e := e)
  rw [ro_2 hk] at hc ⊢
  refine (tk_put h hA hm hB).mono ?_
  rintro r w' ⟨rfl, hR, hG⟩
  exact ⟨rfl, rx2 l a e, rfl, hc, hR, hG⟩
theorem clo_3 (ha : a ≤ l.length) (hm : l.length ≤ 4000) (hk : (roA l a e).1 = 3) (h : RC w base g b2 b3 gC l wz { zcm with kd := 3 } (roA l a e).2.1 (roA l a e).2.2) (hB : Blk wz b5 [.func (.func 68) #[] #[.pointer (some ⟨b2, 0, none⟩), .pointer (some ⟨b3, 0, none⟩)]]) :
    Calls Try.prog 74 #[.pointer (some ⟨b5, 0, none⟩), .pointer (some ⟨b2, 0, none⟩), .pointer (some ⟨b3, 0, none⟩)] wz fun r w' => r = .returned (.tuple #[]) ∧ ∃ X, cab X = (roRaw l a e).1 ∧ ((roRaw l a e).2.2 = 0 → cok X) ∧ RC w base g b2 b3 gC l w' X (roRaw l a e).2.1 (roRaw l a e).2.2 ∧ Grown2 wz w' g gC := by
  have hA : (roA l a e).2.1 ≤ l.length := abvOut_at _ _ _ _ ha
  have hc := ro_cok (l := l) (a := a) (e := e)
  rw [ro_3 hk] at hc ⊢
  refine (tk_sub h hA hm hB).mono ?_
  rintro r w' ⟨rfl, AF, cF, hR, hG⟩
  exact ⟨rfl, { rx3 l a e with A := AF, n := (roF l a e).1.length, c := cF }, rfl, fun h0 => (cab_cok (show cab { rx3 l a e with A := AF, n := (roF l a e).1.length, c := cF } = cab (rx3 l a e) from rfl)).2 (hc h0), hR, hG⟩
theorem clo_4 (ha : a ≤ l.length) (hm : l.length ≤ 4000) (hk : (roA l a e).1 = 4) (h : RC w base g b2 b3 gC l wz { zcm with kd := 4 } (roA l a e).2.1 (roA l a e).2.2) (hB : Blk wz b5 [.func (.func 68) #[] #[.pointer (some ⟨b2, 0, none⟩), .pointer (some ⟨b3, 0, none⟩)]]) :
    Calls Try.prog 68 #[.pointer (some ⟨b2, 0, none⟩), .pointer (some ⟨b3, 0, none⟩)] wz fun r w' => r = .returned (.tuple #[]) ∧ ∃ X, cab X = (roRaw l a e).1 ∧ ((roRaw l a e).2.2 = 0 → cok X) ∧ RC w base g b2 b3 gC l w' X (roRaw l a e).2.1 (roRaw l a e).2.2 ∧ Grown2 wz w' g gC := by
  have hA : (roA l a e).2.1 ≤ l.length := abvOut_at _ _ _ _ ha
  have hc := ro_cok (l := l) (a := a) (e := e)
  rw [ro_4 hk] at hc ⊢
  refine (tk_req h hA hm).mono ?_
  rintro r w' ⟨rfl, hR, hG⟩
  exact ⟨rfl, rxq l a e 4, rfl, hc, hR, hG⟩
end
end Go.Proofs.Ytnhcjadkbogioaa
