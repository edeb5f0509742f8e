/- Ledger: a number as it is read; a number above 0 of the document. -/
import Derived.Test.YtadmaalhhigbeaaW18
import Derived.Test.YtadmaalhhigbeaaW14
import Derived.Test.YtadmaalhhigbeaaW15
namespace Go.Proofs.Ytadmaalhhigbeaa
set_option linter.unusedVariables false
set_option linter.unusedSimpArgs false
open Go Go.RowKit OctM BitM

set_option maxRecDepth 100000 in
set_option maxHeartbeats 1600000 in
theorem rd_lst (base g bx : Nat) (l : List UInt8) (a : Nat) (e least most : Int) (w : World) (h : Rd w base g l a e) (ha : a ≤ l.length) (hm : l.length ≤ 4000) (hX : Blk w bx [.pointer (some ⟨g, 0, none⟩)]) (hne : g ≠ bx) :
    Calls Try.prog 49 #[.int .i64 least, .int .i64 most, .pointer (some ⟨bx, 0, none⟩)] w fun x w' => x = .returned (.int .i64 ((lstOut l a e least most).1 : Nat)) ∧ Rd w' base g l (lstOut l a e least most).2.1 (lstOut l a e least most).2.2 ∧ w.grownBy w' (some g) := by
  have H1 := Lib.hid (rd_num base g l a e most w h ha (by omega))
  unfold lstOut
  simp only
  obtain ⟨r1, hr1⟩ : ∃ r, r = numOut l a e most := ⟨_, rfl⟩
  rw [← hr1] at H1 ⊢
  obtain ⟨v1, a1, e1⟩ := r1
  simp only at H1 ⊢
  have HF := Lib.hid (fun wx (hx : Rd wx base g l a1 e1) => rd_fail base g l a1 e1 3 wx hx)
  have HX := Lib.hid hX
  have kx := hX.cell (j := 0) rfl
  clear hr1 hX
  by_cases c1 : (v1 : Int) < least
  · rw [if_pos c1]
    obtain ⟨k, hk⟩ : ∃ k : Int, k = (v1 : Int) := ⟨_, rfl⟩
    rw [← hk] at H1 c1 ⊢
    have t1 : decide (k < least) = true := decide_eq_true c1
    clear hk c1
    go_enter Try.func49, Try.ntmps49
    go_wp2_with fail
    refine H1.out.mono ?_
    rintro x w1 ⟨rfl, R1, G1⟩
    have kx1 := (HX.out.kept G1 (by intro e; injection e with e; exact hne e)).cell (j := 0) rfl
    go_wp2_with fail
    refine (HF.out _ R1).mono ?_
    rintro x w2 ⟨rfl, R2, G2⟩
    go_wp2_with fail
    go_ret
    exact ⟨rfl, R2, G1.trans G2⟩
  · rw [if_neg c1]
    obtain ⟨k, hk⟩ : ∃ k : Int, k = (v1 : Int) := ⟨_, rfl⟩
    rw [← hk] at H1 c1 ⊢
    have t1 : decide (k < least) = false := decide_eq_false c1
    clear hk c1
    go_enter Try.func49, Try.ntmps49
    go_wp2_with fail
    refine H1.out.mono ?_
    rintro x w1 ⟨rfl, R1, G1⟩
    go_wp2_with fail
    go_ret
    exact ⟨rfl, R1, G1⟩
set_option maxRecDepth 100000 in
set_option maxHeartbeats 1600000 in
theorem rr_abv19 (base g : Nat) (l : List UInt8) (a : Nat) (e y : Int) (w : World) (h : Rr w base g (l.drop a) e) (hm : l.length ≤ 4000) :
    Calls Try.prog 55 #[.pointer (some ⟨g, 0, none⟩), .int .i64 y] w fun x w' => x = .returned (.int .i64 ((numOut l a e y).1 : Nat)) ∧ Rr w' base g (l.drop (numOut l a e y).2.1) (if (numOut l a e y).1 = 0 then failOut (numOut l a e y).2.2 3 else (numOut l a e y).2.2) ∧ w.grownBy w' (some g) := by
  have H1 := Lib.hid (rr_numd base g l a e y w h hm)
  obtain ⟨r1, hr1⟩ : ∃ r, r = numOut l a e y := ⟨_, rfl⟩
  rw [← hr1] at H1 ⊢
  clear hr1 h hm
  obtain ⟨v1, a1, e1⟩ := r1
  simp only at H1 ⊢
  have HF : Hid (∀ wx, Rr wx base g (l.drop a1) e1 → Calls Try.prog 54 #[.pointer (some ⟨g, 0, none⟩), .int .i64 3] wx fun x w' => x = .returned (.tuple #[]) ∧ Rr w' base g (l.drop a1) (failOut e1 3) ∧ wx.grownBy w' (some g)) := Lib.hid fun wx hx => rr_fail base g (l.drop a1) e1 3 wx hx
  obtain ⟨E, hE⟩ : ∃ z, z = (if v1 = 0 then failOut e1 3 else e1) := ⟨_, rfl⟩
  rw [← hE]
  obtain ⟨bz, hbz⟩ : ∃ b, b = (((v1 : Nat) : Int) == 0) := ⟨_, rfl⟩
  obtain ⟨be, hbe⟩ : ∃ b, b = (e1 == 0) := ⟨_, rfl⟩
  have ke : (e1 == 0) = be := hbe.symm
  have kz : (((v1 : Nat) : Int) == 0) = bz := hbz.symm
  cases be
  · have HE : Hid (E = e1) := Lib.hid (by rw [hE]; have : e1 ≠ 0 := by simpa using hbe.symm
                                          unfold failOut; rw [if_neg this]; split <;> rfl)
    clear hE hbz hbe kz
    go_enter Try.func55, Try.ntmps55
    go_wp2_with fail
    refine H1.out.mono ?_
    rintro x w1 ⟨rfl, R1, G1⟩
    obtain ⟨q0, q1, f0, f1⟩ := R1.facts
    go_wp2_with fail
    go_ret
    exact ⟨rfl, by rw [HE.out]; exact R1, G1⟩
  · cases bz
    · have HE : Hid (E = e1) := Lib.hid (by rw [hE]; exact if_neg (by simpa using hbz))
      clear hE hbz hbe
      go_enter Try.func55, Try.ntmps55
      go_wp2_with fail
      refine H1.out.mono ?_
      rintro x w1 ⟨rfl, R1, G1⟩
      obtain ⟨q0, q1, f0, f1⟩ := R1.facts
      go_wp2_with fail
      go_ret
      exact ⟨rfl, by rw [HE.out]; exact R1, G1⟩
    · have HE : Hid (E = failOut e1 3) := Lib.hid (by rw [hE]; exact if_pos (by simpa using hbz))
      clear hE hbz hbe
      go_enter Try.func55, Try.ntmps55
      go_wp2_with fail
      refine H1.out.mono ?_
      rintro x w1 ⟨rfl, R1, G1⟩
      obtain ⟨q0, q1, f0, f1⟩ := R1.facts
      go_wp2_with fail
      refine (HF.out _ R1).mono ?_
      rintro x w2 ⟨rfl, R2, G2⟩
      clear q0 q1 f0 f1
      go_wp2_with fail
      go_ret
      exact ⟨rfl, by rw [HE.out]; exact R2, G1.trans G2⟩

theorem abv_lst {l : List UInt8} {a : Nat} {e y : Int} : lstOut l a e 1 y = ((numOut l a e y).1, (numOut l a e y).2.1, if (numOut l a e y).1 = 0 then failOut (numOut l a e y).2.2 3 else (numOut l a e y).2.2) := by
  unfold lstOut
  by_cases h : (numOut l a e y).1 = 0
  · rw [if_pos (by rw [h]; decide), if_pos h]
  · rw [if_neg (by omega), if_neg h]
theorem rr_lst1 (base g : Nat) (l : List UInt8) (a : Nat) (e y : Int) (w : World) (h : Rr w base g (l.drop a) e) (hm : l.length ≤ 4000) :
    Calls Try.prog 55 #[.pointer (some ⟨g, 0, none⟩), .int .i64 y] w fun x w' => x = .returned (.int .i64 ((lstOut l a e 1 y).1 : Nat)) ∧ Rr w' base g (l.drop (lstOut l a e 1 y).2.1) (lstOut l a e 1 y).2.2 ∧ w.grownBy w' (some g) := by
  rw [abv_lst]
  exact rr_abv19 base g l a e y w h hm
theorem lst0 {l : List UInt8} {a : Nat} {e y : Int} : lstOut l a e 0 y = numOut l a e y := by
  unfold lstOut
  rw [if_neg (by omega)]
theorem rr_lst0 (base g : Nat) (l : List UInt8) (a : Nat) (e y : Int) (w : World) (h : Rr w base g (l.drop a) e) (hm : l.length ≤ 4000) :
    Calls Try.prog 53 #[.pointer (some ⟨g, 0, none⟩), .int .i64 y] w fun x w' => x = .returned (.int .i64 ((lstOut l a e 0 y).1 : Nat)) ∧ Rr w' base g (l.drop (lstOut l a e 0 y).2.1) (lstOut l a e 0 y).2.2 ∧ w.grownBy w' (some g) := by
  rw [lst0]
  exact rr_numd base g l a e y w h hm
set_option maxRecDepth 100000 in
set_option maxHeartbeats 1600000 in
theorem nil_lst (bx : Nat) (least most : Int) (w : World) (hX : Blk w bx [.pointer none]) :
    Calls Try.prog 49 #[.int .i64 least, .int .i64 most, .pointer (some ⟨bx, 0, none⟩)] w fun x w' => x = .returned (.int .i64 0) ∧ w = w' := by
  have kx := hX.cell (j := 0) rfl
  clear hX
  by_cases c1 : 0 < least
  · have t1 : decide (0 < least) = true := decide_eq_true c1
    clear c1
    go_enter Try.func49, Try.ntmps49
    go_wp2_with fail
    refine (nil_num _ _).mono ?_
    rintro x w1 ⟨rfl, rfl⟩
    go_wp2_with fail
    refine (nil_fail _ _).mono ?_
    rintro x w2 ⟨rfl, rfl⟩
    go_wp2_with fail
    go_ret
    exact ⟨rfl, rfl⟩
  · have t1 : decide (0 < least) = false := decide_eq_false c1
    clear c1
    go_enter Try.func49, Try.ntmps49
    go_wp2_with fail
    refine (nil_num _ _).mono ?_
    rintro x w1 ⟨rfl, rfl⟩
    go_wp2_with fail
    go_ret
    exact ⟨rfl, rfl⟩
end Go.Proofs.Ytadmaalhhigbeaa

/- Ledger: what the program's Read returns. -/
namespace Go.Proofs.Ytadmaalhhigbeaa
set_option linter.unusedVariables false
set_option linter.unusedSimpArgs false
open Go Go.RowKit OctM BitM

theorem num_le (l : List UInt8) (a : Nat) (e m : Int) (h : 0 ≤ m) : ((numOut l a e m).1 : Int) ≤ m := by
  unfold numOut
  split
  · exact h
  · split
    · exact h
    · split
      · exact h
      · rename_i h3
        show ((scan (l.drop a) 0 0).1 : Int) ≤ m
        omega
theorem filt31 (l : List UInt8) (a : Nat) (e : Int) : (filtOut l a e).1.length ≤ 31 := by
  have hk := nodes_len (l := l) (a := (mny l a e).2.1) (mny l a e).1
  have hm := mny_le l a e
  unfold filtOut
  split
  · simp
  · split
    · simp
    · split
      · omega
      · simp
theorem Sees.grown2 {w w' : World} {g : Nat} {A : Option Addr} {xs : List Value} (h : Sees w w.heap.size A xs) (hg : w.grownBy w' (some g)) (hne : ∀ ad, A = some ad → ad.block ≠ g) : Sees w' w'.heap.size A xs := (h.grown1 (Nat.le_refl _) hg hne).more hg.size
def RepRead (w : World) (base g : Nat) (l : List UInt8) (q : Rq × Nat × Int) : Ending → World → Prop := fun x w' => (∃ r, x = .returned (.agg (rpc r).toArray) ∧ okRp w' r ∧ rab r = q.1 ∧ r.n ≤ 31 ∧ (∀ ad, r.A = some ad → w.heap.size ≤ ad.block)) ∧ Rd w' base g l q.2.1 q.2.2 ∧ w.grownBy w' (some g)
/-- Amid Read, ahead of the answer's own cells. -/
structure RsA (w : World) (base g : Nat) (l : List UInt8) (W : World) (a : Nat) (e : Int) : Prop where
  rd : Rd W base g l a e
  x : Blk W w.heap.size [.pointer (some ⟨g, 0, none⟩)]
  z : Blk W (w.heap.size + 1) [.int .i64 0, .int .i64 0, .int .i64 0, .int .i64 0, .int .i64 0, .int .i64 0, .int .i64 0, .int .i64 0, .slice none 0 0, .int .u32 0]
  gr : w.grownBy W (some g)
  hg : g < w.heap.size
theorem RsA.grow {w W W' : World} {base g : Nat} {l : List UInt8} {a a' : Nat} {e e' : Int} (h : RsA w base g l W a e) (hr : Rd W' base g l a' e') (hG : W.grownBy W' (some g)) : RsA w base g l W' a' e' := by
  have := h.hg
  exact ⟨hr, h.x.kept hG (by intro e; injection e with e; omega), h.z.kept hG (by intro e; injection e with e; omega), h.gr.trans hG, h.hg⟩
theorem RsA.num {w W : World} {base g : Nat} {l : List UInt8} {a : Nat} {e : Int} (h : RsA w base g l W a e) (ha : a ≤ l.length) (hm : l.length ≤ 4000) (least most : Int) (q : Nat × Nat × Int) (hq : q = lstOut l a e least most) (k : Int) (hk : k = (q.1 : Int)) :
    Calls Try.prog 49 #[.int .i64 least, .int .i64 most, .pointer (some ⟨w.heap.size, 0, none⟩)] W fun x w' => x = .returned (.int .i64 k) ∧ RsA w base g l w' q.2.1 q.2.2 := by
  subst hk
  subst hq
  refine (rd_lst base g w.heap.size l a e least most W h.rd ha hm h.x (by have := h.hg; omega)).mono ?_
  rintro x w' ⟨rfl, hr, hG⟩
  exact ⟨rfl, h.grow hr hG⟩
/-- Amid Read, with the answer's own cells. -/
structure RsB (w : World) (base g : Nat) (l : List UInt8) (b4 : Nat) (W : World) (a : Nat) (e : Int) (cs : List Value) : Prop where
  A : RsA w base g l W a e
  c : Blk W b4 cs
  h4 : w.heap.size + 1 < b4
theorem RsB.grow {w W W' : World} {base g b4 : Nat} {l : List UInt8} {a a' : Nat} {e e' : Int} {cs : List Value} (h : RsB w base g l b4 W a e cs) (hr : Rd W' base g l a' e') (hG : W.grownBy W' (some g)) : RsB w base g l b4 W' a' e' cs := by
  have := h.A.hg
  have := h.h4
  exact ⟨h.A.grow hr hG, h.c.kept hG (by intro e; injection e with e; omega), h.h4⟩
theorem RsB.num {w W : World} {base g b4 : Nat} {l : List UInt8} {a : Nat} {e : Int} {cs : List Value} (h : RsB w base g l b4 W a e cs) (ha : a ≤ l.length) (hm : l.length ≤ 4000) (least most : Int) (q : Nat × Nat × Int) (hq : q = lstOut l a e least most) (k : Int) (hk : k = (q.1 : Int)) :
    Calls Try.prog 49 #[.int .i64 least, .int .i64 most, .pointer (some ⟨w.heap.size, 0, none⟩)] W fun x w' => x = .returned (.int .i64 k) ∧ RsB w base g l b4 w' q.2.1 q.2.2 cs ∧ W.grownBy w' (some g) := by
  subst hk
  subst hq
  refine (rd_lst base g w.heap.size l a e least most W h.A.rd ha hm h.A.x (by have := h.A.hg; omega)).mono ?_
  rintro x w' ⟨rfl, hr, hG⟩
  exact ⟨rfl, h.grow hr hG, hG⟩
theorem RsB.set {w W : World} {base g b4 : Nat} {l : List UInt8} {a : Nat} {e : Int} {cs : List Value} (h : RsB w base g l b4 W a e cs) (j : Nat) (v : Value) : RsB w base g l b4 (W.setCell ⟨b4, j, none⟩ v) a e (cs.set j v) := by
  have h1 := h.A.hg
  have h2 := h.h4
  refine ⟨⟨h.A.rd.set2 (by omega), h.A.x.setOther j v (by omega), h.A.z.setOther j v (by omega), ?_, h1⟩, h.c.set j v, h2⟩
  exact grown_row h.A.gr (grown_sets b4 [v] j W) (fun q e => by injection e with e; omega)
theorem RsA.alloc {w W : World} {base g : Nat} {l : List UInt8} {a : Nat} {e : Int} (h : RsA w base g l W a e) (cs : List Value) : RsB w base g l W.heap.size (W.alloc (.cells cs.toArray 26)) a e cs :=
  ⟨⟨h.rd.later (below_a1 _ _), h.x.alloc _, h.z.alloc _, grown_onto h.gr (below_a1 _ _), h.hg⟩, Blk.new _ _ _, h.z.lt⟩
theorem RsA.fin {w W : World} {base g : Nat} {l : List UInt8} {a : Nat} {e : Int} (h : RsA w base g l W a e) (r : Rp) (T : Rq × Nat × Int) (hT : T = (rab r, a, e)) (hok : okRp (W.setCells (w.heap.size + 1) 0 (rpc r)) r) (hn : r.n ≤ 31) (hf : ∀ ad, r.A = some ad → w.heap.size ≤ ad.block) :
    RepRead w base g l T (.returned (.agg (rpc r).toArray)) (W.setCells (w.heap.size + 1) 0 (rpc r)) ∧ Blk (W.setCells (w.heap.size + 1) 0 (rpc r)) (w.heap.size + 1) (rpc r) ∧ W.there (w.heap.size + 1) 0 10 := by
  have h1 := h.hg
  subst hT
  have hb := h.z.sets (rpc r) 0 (by rw [rpc_len]; simp)
  rw [List.take_zero, List.nil_append, List.drop_eq_nil_of_le (by rw [rpc_len]; simp), List.append_nil] at hb
  exact ⟨⟨⟨r, rfl, hok, rfl, hn, hf⟩, h.rd.sets2 (by omega), grown_row h.gr (grown_sets (w.heap.size + 1) (rpc r) 0 W) (fun q e => by injection e with e; omega)⟩, hb, h.z.there 0 10 (by simp)⟩
theorem okRp.none_ (w : World) {kd dv rq cd id vr sq ep : Int} {ms : BitVec 32} : okRp w ⟨kd, dv, rq, cd, id, vr, sq, ep, none, 0, 0, [], ms⟩ := ⟨rfl, Nat.le_refl _, by simp [maxLen], Sees.nil_⟩
end Go.Proofs.Ytadmaalhhigbeaa

/- Ledger: what the program's Read returns, case by case. -/
namespace Go.Proofs.Ytadmaalhhigbeaa
set_option linter.unusedVariables false
set_option linter.unusedSimpArgs false
open Go Go.RowKit OctM BitM

set_option maxRecDepth 100000 in
set_option maxHeartbeats 6400000 in
theorem lread_no (base g : Nat) (l : List UInt8) (a : Nat) (e : Int) (w : World) (h : Rd w base g l a e) (ha : a ≤ l.length) (hm : l.length ≤ 4000) (hc : ¬ (lg4 l a e).1 = 0) :
    Calls Try.prog 16 #[.pointer (some ⟨g, 0, none⟩)] w (RepRead w base g l (repOut l a e)) := by
  have hu := Try.underlying26
  obtain ⟨T, hT⟩ : ∃ T, T = repOut l a e := ⟨_, rfl⟩
  rw [← hT]
  obtain ⟨q1, hq1⟩ : ∃ q, q = lg1 l a e := ⟨_, rfl⟩
  have eq1 : q1 = lstOut l a e 2 4 := by rw [hq1]; rfl
  obtain ⟨k1, hk1⟩ : ∃ k : Int, k = (q1.1 : Int) := ⟨_, rfl⟩
  have at1 : q1.2.1 ≤ l.length := by rw [hq1]; exact lg1_at ha
  obtain ⟨q2, hq2⟩ : ∃ q, q = lg2 l a e := ⟨_, rfl⟩
  have eq2 : q2 = lstOut l q1.2.1 q1.2.2 0 5 := by rw [hq2, hq1]; rfl
  obtain ⟨k2, hk2⟩ : ∃ k : Int, k = (q2.1 : Int) := ⟨_, rfl⟩
  have at2 : q2.2.1 ≤ l.length := by rw [hq2]; exact lg2_at ha
  obtain ⟨q3, hq3⟩ : ∃ q, q = lg3 l a e := ⟨_, rfl⟩
  have eq3 : q3 = lstOut l q2.2.1 q2.2.2 1 1099511627776 := by rw [hq3, hq2]; rfl
  obtain ⟨k3, hk3⟩ : ∃ k : Int, k = (q3.1 : Int) := ⟨_, rfl⟩
  have at3 : q3.2.1 ≤ l.length := by rw [hq3]; exact lg3_at ha
  obtain ⟨q4, hq4⟩ : ∃ q, q = lg4 l a e := ⟨_, rfl⟩
  have eq4 : q4 = lstOut l q3.2.1 q3.2.2 0 16 := by rw [hq4, hq3]; rfl
  obtain ⟨k4, hk4⟩ : ∃ k : Int, k = (q4.1 : Int) := ⟨_, rfl⟩
  have at4 : q4.2.1 ≤ l.length := by rw [hq4]; exact lg4_at ha
  obtain ⟨q5, hq5⟩ : ∃ q, q = lg5 l a e := ⟨_, rfl⟩
  have eq5 : q5 = lstOut l q4.2.1 q4.2.2 0 1099511627776 := by rw [hq5, hq4]; rfl
  obtain ⟨k5, hk5⟩ : ∃ k : Int, k = (q5.1 : Int) := ⟨_, rfl⟩
  have at5 : q5.2.1 ≤ l.length := by rw [hq5]; exact lg5_at ha
  obtain ⟨q6, hq6⟩ : ∃ q, q = lg6 l a e := ⟨_, rfl⟩
  have eq6 : q6 = lstOut l q5.2.1 q5.2.2 1 1073741823 := by rw [hq6, hq5]; rfl
  obtain ⟨k6, hk6⟩ : ∃ k : Int, k = (q6.1 : Int) := ⟨_, rfl⟩
  have at6 : q6.2.1 ≤ l.length := by rw [hq6]; exact lg6_at ha
  obtain ⟨q7, hq7⟩ : ∃ q, q = lg7 l a e := ⟨_, rfl⟩
  have eq7 : q7 = lstOut l q6.2.1 q6.2.2 1 1099511627776 := by rw [hq7, hq6]; rfl
  obtain ⟨k7, hk7⟩ : ∃ k : Int, k = (q7.1 : Int) := ⟨_, rfl⟩
  have at7 : q7.2.1 ≤ l.length := by rw [hq7]; exact lg7_at ha
  obtain ⟨q8, hq8⟩ : ∃ q, q = lg8 l a e := ⟨_, rfl⟩
  have eq8 : q8 = lstOut l q5.2.1 q5.2.2 1 1099511627776 := by rw [hq8, hq5]; rfl
  obtain ⟨k8, hk8⟩ : ∃ k : Int, k = (q8.1 : Int) := ⟨_, rfl⟩
  have at8 : q8.2.1 ≤ l.length := by rw [hq8]; exact lg8_at ha
  obtain ⟨q9, hq9⟩ : ∃ q, q = lg9 l a e := ⟨_, rfl⟩
  have eq9 : q9 = filtOut l q8.2.1 q8.2.2 := by rw [hq9, hq8]; rfl
  have at9 : q9.2.1 ≤ l.length := by rw [hq9]; exact lg9_at ha
  obtain ⟨q10, hq10⟩ : ∃ q, q = lg10 l a e := ⟨_, rfl⟩
  have eq10 : q10 = lstOut l q9.2.1 q9.2.2 0 511 := by rw [hq10, hq9]; rfl
  obtain ⟨k10, hk10⟩ : ∃ k : Int, k = (q10.1 : Int) := ⟨_, rfl⟩
  have at10 : q10.2.1 ≤ l.length := by rw [hq10]; exact lg10_at ha
  have HE : ∀ {p : Nat × Nat × Int}, p = lg4 l a e → True := fun _ => trivial
  obtain ⟨W0, hW0⟩ : ∃ W0, W0 = (w.alloc (.cells #[.pointer (some ⟨g, 0, none⟩)] 34)).alloc (.cells #[.int .i64 0, .int .i64 0, .int .i64 0, .int .i64 0, .int .i64 0, .int .i64 0, .int .i64 0, .int .i64 0, .slice none 0 0, .int .u32 0] 26) := ⟨_, rfl⟩
  have hs0 : RsA w base g l W0 a e := by
    have hb := below_a2 w (.cells #[.pointer (some ⟨g, 0, none⟩)] 34) (.cells #[.int .i64 0, .int .i64 0, .int .i64 0, .int .i64 0, .int .i64 0, .int .i64 0, .int .i64 0, .int .i64 0, .slice none 0 0, .int .u32 0] 26)
    have hz := Blk.new (w.alloc (.cells #[.pointer (some ⟨g, 0, none⟩)] 34)) [.int .i64 0, .int .i64 0, .int .i64 0, .int .i64 0, .int .i64 0, .int .i64 0, .int .i64 0, .int .i64 0, .slice none 0 0, .int .u32 0] 26
    rw [show (w.alloc (.cells #[.pointer (some ⟨g, 0, none⟩)] 34)).heap.size = w.heap.size + 1 by simp] at hz
    rw [hW0]
    exact ⟨h.later hb, (Blk.new w [.pointer (some ⟨g, 0, none⟩)] _).alloc _, hz, grown_onto (World.grownBy.refl w (some g)) hb, h.block.2⟩
  have HS0 := Lib.hid hs0
  have HW0 := Lib.hid hW0
  clear hW0 hs0 h HE
  rw [← hq4] at hc
  have hHT0 : T = (if q4.2.2 = 0 then (k1, k2, k3, k4, 0, 0, 0, 0, [], 0#32) else zrq, q4.2) := by rw [hT, rep_no (by rw [← hq4]; exact hc), ← hq1, ← hq2, ← hq3, ← hq4, hk1, hk2, hk3, hk4]
  have hHT : T = (if q4.2.2 = 0 then (k1, k2, k3, k4, 0, 0, 0, 0, [], 0#32) else zrq, q4.2.1, q4.2.2) := hHT0
  have g4 : (k4 == 0) = false := by rw [hk4]; simpa using hc
  have HT := Lib.hid hHT
  clear hHT hHT0 hq1 hq2 hq3 hq4 hq5 hq6 hq7 hq8 hq9 hq10 hT
  have EQ1 := Lib.hid eq1
  have EQ2 := Lib.hid eq2
  have EQ3 := Lib.hid eq3
  have EQ4 := Lib.hid eq4
  have EQ5 := Lib.hid eq5
  have EQ6 := Lib.hid eq6
  have EQ7 := Lib.hid eq7
  have EQ8 := Lib.hid eq8
  have EQ9 := Lib.hid eq9
  have EQ10 := Lib.hid eq10
  have HK1 := Lib.hid hk1
  have HK2 := Lib.hid hk2
  have HK3 := Lib.hid hk3
  have HK4 := Lib.hid hk4
  have HK5 := Lib.hid hk5
  have HK6 := Lib.hid hk6
  have HK7 := Lib.hid hk7
  have HK8 := Lib.hid hk8
  have HK10 := Lib.hid hk10
  clear eq1 eq2 eq3 eq4 eq5 eq6 eq7 eq8 eq9 eq10 hk1 hk2 hk3 hk4 hk5 hk6 hk7 hk8 hk10
  go_enter Try.func16, Try.ntmps16
  go_wp2_with fail
  rw [← HW0.out]
  refine (HS0.out.num ha hm 2 4 q1 EQ1.out k1 HK1.out).mono ?_
  rintro x w1 ⟨rfl, hs1⟩
  have HS1 := Lib.hid hs1
  clear hs1 HS0
  go_wp2_with fail
  refine (HS1.out.num at1 hm 0 5 q2 EQ2.out k2 HK2.out).mono ?_
  rintro x w2 ⟨rfl, hs2⟩
  have HS2 := Lib.hid hs2
  clear hs2 HS1
  go_wp2_with fail
  refine (HS2.out.num at2 hm 1 1099511627776 q3 EQ3.out k3 HK3.out).mono ?_
  rintro x w3 ⟨rfl, hs3⟩
  have HS3 := Lib.hid hs3
  clear hs3 HS2
  go_wp2_with fail
  refine (HS3.out.num at3 hm 0 16 q4 EQ4.out k4 HK4.out).mono ?_
  rintro x w4 ⟨rfl, hs4⟩
  have HS4 := Lib.hid hs4
  clear hs4 HS3
  obtain ⟨W5, hW5⟩ : ∃ W5, W5 = w4.alloc (.cells #[.int .i64 k1, .int .i64 k2, .int .i64 k3, .int .i64 k4, .int .i64 0, .int .i64 0, .int .i64 0, .int .i64 0, .slice none 0 0, .int .u32 0] 26) := ⟨_, rfl⟩
  have hs5 : RsB w base g l w4.heap.size W5 q4.2.1 q4.2.2 [.int .i64 k1, .int .i64 k2, .int .i64 k3, .int .i64 k4, .int .i64 0, .int .i64 0, .int .i64 0, .int .i64 0, .slice none 0 0, .int .u32 0] := by rw [hW5]; exact HS4.out.alloc _
  have HW5 := Lib.hid hW5
  have HS5 := Lib.hid hs5
  have kx := HS4.out.x.cell (j := 0) rfl
  have hlt4 := HS4.out.x.lt
  clear hW5 hs5 HS4
  go_wp2_with fail
  rw [← HW5.out]
  clear HW5 kx hlt4
  generalize w4.heap.size = b4 at *
  generalize q4.2.2 = eE at *
  generalize q4.2.1 = aE at *
  have her := rd_err base g l aE eE W5 HS5.out.A.rd
  have HER := Lib.hid her
  clear her
  refine HER.out.mono ?_
  rintro x wE ⟨rfl, rfl⟩
  by_cases hz : eE = 0
  · have b0 : (eE != 0) = false := by simp [hz]
    have hTT : T = (rab ⟨k1, k2, k3, k4, 0, 0, 0, 0, none, 0, 0, [], 0#32⟩, aE, eE) := by rw [HT.out, if_pos hz]; rfl
    have hfin := HS5.out.A.fin ⟨k1, k2, k3, k4, 0, 0, 0, 0, none, 0, 0, [], 0#32⟩ T hTT (okRp.none_ _) (by simp) (fun ad e => by cases e)
    have honr := all_oneCell_toArray (rpc_one ⟨k1, k2, k3, k4, 0, 0, 0, 0, none, 0, 0, [], 0#32⟩)
    have hlnr := rpc_len ⟨k1, k2, k3, k4, 0, 0, 0, 0, none, 0, 0, [], 0#32⟩
    obtain ⟨cr, hcr⟩ : ∃ cr, cr = rpc ⟨k1, k2, k3, k4, 0, 0, 0, 0, none, 0, 0, [], 0#32⟩ := ⟨_, rfl⟩
    have RG : W5.rangeAt b4 0 cr := by rw [hcr]; exact HS5.out.c.range 0 (rpc ⟨k1, k2, k3, k4, 0, 0, 0, 0, none, 0, 0, [], 0#32⟩) rfl
    rw [← hcr] at hfin honr hlnr
    obtain ⟨W9, hW9⟩ : ∃ W9, W9 = W5.setCells (w.heap.size + 1) 0 cr := ⟨_, rfl⟩
    rw [← hW9] at hfin
    have HFIN := Lib.hid hfin.1
    have FIN := Lib.hid hfin.2.1
    have TH := hfin.2.2
    have HW9 := Lib.hid hW9
    have HLN := Lib.hid hlnr
    have HCR := Lib.hid hcr
    have HONE := Lib.hid honr
    clear hfin hTT hz hW9 hcr honr hlnr
    go_wp2_with (first
      | (refine wpList_load_mid rfl 26 (.tmp 4) rfl b4 0 rfl cr _ RG hu rfl (by rw [HLN.out]; exact info_rp) ?_
         simp only [Act.put, List.setIfInBounds_toArray, List.set_cons_zero, List.set_cons_succ])
      | (refine wpList_store_mid rfl 26 (.tmp 2) (.tmp 47) rfl (w.heap.size + 1) 0 cr.toArray rfl rfl (by simpa [HLN.out] using TH) (by simpa [HLN.out] using info_rp) HONE.out ?_
         rw [← HW9.out])
      | fail)
    exact bodyPost_ret (v := .agg cr.toArray) (results_blk (q := 2) rfl _ _ (w.heap.size + 1) cr _ rfl FIN.out hu rfl (by rw [HLN.out]; exact info_rp)) rfl HFIN.out
  · have b0 : (eE != 0) = true := by simp [hz]
    have hTT : T = (rab zrp, aE, eE) := by rw [HT.out, if_neg hz]; rfl
    have hfin := HS5.out.A.fin zrp T hTT (okRp.zero _) (by simp [zrp]) (fun ad e => by cases e)
    have honr := all_oneCell_toArray (rpc_one zrp)
    have hlnr := rpc_len zrp
    obtain ⟨cr, hcr⟩ : ∃ cr, cr = rpc zrp := ⟨_, rfl⟩
    rw [← hcr] at hfin honr hlnr
    obtain ⟨W9, hW9⟩ : ∃ W9, W9 = W5.setCells (w.heap.size + 1) 0 cr := ⟨_, rfl⟩
    rw [← hW9] at hfin
    have HFIN := Lib.hid hfin.1
    have FIN := Lib.hid hfin.2.1
    have TH := hfin.2.2
    have HW9 := Lib.hid hW9
    have HLN := Lib.hid hlnr
    have HCR := Lib.hid hcr
    have HONE := Lib.hid honr
    clear hfin hTT hz hW9 hcr honr hlnr
    go_wp2_with (first
      | (refine wpList_store_mid rfl 26 (.tmp 2) (.tmp 46) rfl (w.heap.size + 1) 0 cr.toArray rfl (by rw [HCR.out]; rfl) (by simpa [HLN.out] using TH) (by simpa [HLN.out] using info_rp) HONE.out ?_
         rw [← HW9.out])
      | fail)
    exact bodyPost_ret (v := .agg cr.toArray) (results_blk (q := 2) rfl _ _ (w.heap.size + 1) cr _ rfl FIN.out hu rfl (by rw [HLN.out]; exact info_rp)) rfl HFIN.out
end Go.Proofs.Ytadmaalhhigbeaa

/- Ledger: what the program's Read returns, case by case. -/
namespace Go.Proofs.Ytadmaalhhigbeaa
set_option linter.unusedVariables false
set_option linter.unusedSimpArgs false
open Go Go.RowKit OctM BitM

set_option maxRecDepth 100000 in
set_option maxHeartbeats 6400000 in
theorem lread_2 (base g : Nat) (l : List UInt8) (a : Nat) (e : Int) (w : World) (h : Rd w base g l a e) (ha : a ≤ l.length) (hm : l.length ≤ 4000) (hc : (lg4 l a e).1 = 0) (h2 : (lg1 l a e).1 = 2) :
    Calls Try.prog 16 #[.pointer (some ⟨g, 0, none⟩)] w (RepRead w base g l (repOut l a e)) := by
  have hu := Try.underlying26
  obtain ⟨T, hT⟩ : ∃ T, T = repOut l a e := ⟨_, rfl⟩
  rw [← hT]
  obtain ⟨q1, hq1⟩ : ∃ q, q = lg1 l a e := ⟨_, rfl⟩
  have eq1 : q1 = lstOut l a e 2 4 := by rw [hq1]; rfl
  obtain ⟨k1, hk1⟩ : ∃ k : Int, k = (q1.1 : Int) := ⟨_, rfl⟩
  have at1 : q1.2.1 ≤ l.length := by rw [hq1]; exact lg1_at ha
  obtain ⟨q2, hq2⟩ : ∃ q, q = lg2 l a e := ⟨_, rfl⟩
  have eq2 : q2 = lstOut l q1.2.1 q1.2.2 0 5 := by rw [hq2, hq1]; rfl
  obtain ⟨k2, hk2⟩ : ∃ k : Int, k = (q2.1 : Int) := ⟨_, rfl⟩
  have at2 : q2.2.1 ≤ l.length := by rw [hq2]; exact lg2_at ha
  obtain ⟨q3, hq3⟩ : ∃ q, q = lg3 l a e := ⟨_, rfl⟩
  have eq3 : q3 = lstOut l q2.2.1 q2.2.2 1 1099511627776 := by rw [hq3, hq2]; rfl
  obtain ⟨k3, hk3⟩ : ∃ k : Int, k = (q3.1 : Int) := ⟨_, rfl⟩
  have at3 : q3.2.1 ≤ l.length := by rw [hq3]; exact lg3_at ha
  obtain ⟨q4, hq4⟩ : ∃ q, q = lg4 l a e := ⟨_, rfl⟩
  have eq4 : q4 = lstOut l q3.2.1 q3.2.2 0 16 := by rw [hq4, hq3]; rfl
  obtain ⟨k4, hk4⟩ : ∃ k : Int, k = (q4.1 : Int) := ⟨_, rfl⟩
  have at4 : q4.2.1 ≤ l.length := by rw [hq4]; exact lg4_at ha
  obtain ⟨q5, hq5⟩ : ∃ q, q = lg5 l a e := ⟨_, rfl⟩
  have eq5 : q5 = lstOut l q4.2.1 q4.2.2 0 1099511627776 := by rw [hq5, hq4]; rfl
  obtain ⟨k5, hk5⟩ : ∃ k : Int, k = (q5.1 : Int) := ⟨_, rfl⟩
  have at5 : q5.2.1 ≤ l.length := by rw [hq5]; exact lg5_at ha
  obtain ⟨q6, hq6⟩ : ∃ q, q = lg6 l a e := ⟨_, rfl⟩
  have eq6 : q6 = lstOut l q5.2.1 q5.2.2 1 1073741823 := by rw [hq6, hq5]; rfl
  obtain ⟨k6, hk6⟩ : ∃ k : Int, k = (q6.1 : Int) := ⟨_, rfl⟩
  have at6 : q6.2.1 ≤ l.length := by rw [hq6]; exact lg6_at ha
  obtain ⟨q7, hq7⟩ : ∃ q, q = lg7 l a e := ⟨_, rfl⟩
  have eq7 : q7 = lstOut l q6.2.1 q6.2.2 1 1099511627776 := by rw [hq7, hq6]; rfl
  obtain ⟨k7, hk7⟩ : ∃ k : Int, k = (q7.1 : Int) := ⟨_, rfl⟩
  have at7 : q7.2.1 ≤ l.length := by rw [hq7]; exact lg7_at ha
  obtain ⟨q8, hq8⟩ : ∃ q, q = lg8 l a e := ⟨_, rfl⟩
  have eq8 : q8 = lstOut l q5.2.1 q5.2.2 1 1099511627776 := by rw [hq8, hq5]; rfl
  obtain ⟨k8, hk8⟩ : ∃ k : Int, k = (q8.1 : Int) := ⟨_, rfl⟩
  have at8 : q8.2.1 ≤ l.length := by rw [hq8]; exact lg8_at ha
  obtain ⟨q9, hq9⟩ : ∃ q, q = lg9 l a e := ⟨_, rfl⟩
  have eq9 : q9 = filtOut l q8.2.1 q8.2.2 := by rw [hq9, hq8]; rfl
  have at9 : q9.2.1 ≤ l.length := by rw [hq9]; exact lg9_at ha
  obtain ⟨q10, hq10⟩ : ∃ q, q = lg10 l a e := ⟨_, rfl⟩
  have eq10 : q10 = lstOut l q9.2.1 q9.2.2 0 511 := by rw [hq10, hq9]; rfl
  obtain ⟨k10, hk10⟩ : ∃ k : Int, k = (q10.1 : Int) := ⟨_, rfl⟩
  have at10 : q10.2.1 ≤ l.length := by rw [hq10]; exact lg10_at ha
  have HE : ∀ {p : Nat × Nat × Int}, p = lg4 l a e → True := fun _ => trivial
  obtain ⟨W0, hW0⟩ : ∃ W0, W0 = (w.alloc (.cells #[.pointer (some ⟨g, 0, none⟩)] 34)).alloc (.cells #[.int .i64 0, .int .i64 0, .int .i64 0, .int .i64 0, .int .i64 0, .int .i64 0, .int .i64 0, .int .i64 0, .slice none 0 0, .int .u32 0] 26) := ⟨_, rfl⟩
  have hs0 : RsA w base g l W0 a e := by
    have hb := below_a2 w (.cells #[.pointer (some ⟨g, 0, none⟩)] 34) (.cells #[.int .i64 0, .int .i64 0, .int .i64 0, .int .i64 0, .int .i64 0, .int .i64 0, .int .i64 0, .int .i64 0, .slice none 0 0, .int .u32 0] 26)
    have hz := Blk.new (w.alloc (.cells #[.pointer (some ⟨g, 0, none⟩)] 34)) [.int .i64 0, .int .i64 0, .int .i64 0, .int .i64 0, .int .i64 0, .int .i64 0, .int .i64 0, .int .i64 0, .slice none 0 0, .int .u32 0] 26
    rw [show (w.alloc (.cells #[.pointer (some ⟨g, 0, none⟩)] 34)).heap.size = w.heap.size + 1 by simp] at hz
    rw [hW0]
    exact ⟨h.later hb, (Blk.new w [.pointer (some ⟨g, 0, none⟩)] _).alloc _, hz, grown_onto (World.grownBy.refl w (some g)) hb, h.block.2⟩
  have HS0 := Lib.hid hs0
  have HW0 := Lib.hid hW0
  clear hW0 hs0 h HE
  rw [← hq4] at hc
  rw [← hq1] at h2
  have hHT0 : T = (if q7.2.2 = 0 then (k1, k2, k3, k4, k6, k7, k5, 0, [], 0#32) else zrq, q7.2) := by rw [hT, rep_2 (by rw [← hq4]; exact hc) (by rw [← hq1]; exact h2), ← hq1, ← hq2, ← hq3, ← hq4, ← hq5, ← hq6, ← hq7, hk1, hk2, hk3, hk4, hk5, hk6, hk7]
  have hHT : T = (if q7.2.2 = 0 then (k1, k2, k3, k4, k6, k7, k5, 0, [], 0#32) else zrq, q7.2.1, q7.2.2) := hHT0
  have g4 : (k4 == 0) = true := by rw [hk4]; simpa using hc
  have g2 : (k1 == 2) = true := by rw [hk1, h2]; rfl
  have HT := Lib.hid hHT
  clear hHT hHT0 hq1 hq2 hq3 hq4 hq5 hq6 hq7 hq8 hq9 hq10 hT
  have EQ1 := Lib.hid eq1
  have EQ2 := Lib.hid eq2
  have EQ3 := Lib.hid eq3
  have EQ4 := Lib.hid eq4
  have EQ5 := Lib.hid eq5
  have EQ6 := Lib.hid eq6
  have EQ7 := Lib.hid eq7
  have EQ8 := Lib.hid eq8
  have EQ9 := Lib.hid eq9
  have EQ10 := Lib.hid eq10
  have HK1 := Lib.hid hk1
  have HK2 := Lib.hid hk2
  have HK3 := Lib.hid hk3
  have HK4 := Lib.hid hk4
  have HK5 := Lib.hid hk5
  have HK6 := Lib.hid hk6
  have HK7 := Lib.hid hk7
  have HK8 := Lib.hid hk8
  have HK10 := Lib.hid hk10
  clear eq1 eq2 eq3 eq4 eq5 eq6 eq7 eq8 eq9 eq10 hk1 hk2 hk3 hk4 hk5 hk6 hk7 hk8 hk10
  go_enter Try.func16, Try.ntmps16
  go_wp2_with fail
  rw [← HW0.out]
  refine (HS0.out.num ha hm 2 4 q1 EQ1.out k1 HK1.out).mono ?_
  rintro x w1 ⟨rfl, hs1⟩
  have HS1 := Lib.hid hs1
  clear hs1 HS0
  go_wp2_with fail
  refine (HS1.out.num at1 hm 0 5 q2 EQ2.out k2 HK2.out).mono ?_
  rintro x w2 ⟨rfl, hs2⟩
  have HS2 := Lib.hid hs2
  clear hs2 HS1
  go_wp2_with fail
  refine (HS2.out.num at2 hm 1 1099511627776 q3 EQ3.out k3 HK3.out).mono ?_
  rintro x w3 ⟨rfl, hs3⟩
  have HS3 := Lib.hid hs3
  clear hs3 HS2
  go_wp2_with fail
  refine (HS3.out.num at3 hm 0 16 q4 EQ4.out k4 HK4.out).mono ?_
  rintro x w4 ⟨rfl, hs4⟩
  have HS4 := Lib.hid hs4
  clear hs4 HS3
  obtain ⟨W5, hW5⟩ : ∃ W5, W5 = w4.alloc (.cells #[.int .i64 k1, .int .i64 k2, .int .i64 k3, .int .i64 k4, .int .i64 0, .int .i64 0, .int .i64 0, .int .i64 0, .slice none 0 0, .int .u32 0] 26) := ⟨_, rfl⟩
  have hs5 : RsB w base g l w4.heap.size W5 q4.2.1 q4.2.2 [.int .i64 k1, .int .i64 k2, .int .i64 k3, .int .i64 k4, .int .i64 0, .int .i64 0, .int .i64 0, .int .i64 0, .slice none 0 0, .int .u32 0] := by rw [hW5]; exact HS4.out.alloc _
  have HW5 := Lib.hid hW5
  have HS5 := Lib.hid hs5
  have kx := HS4.out.x.cell (j := 0) rfl
  have hlt4 := HS4.out.x.lt
  clear hW5 hs5 HS4
  go_wp2_with fail
  rw [← HW5.out]
  clear HW5 kx hlt4
  generalize w4.heap.size = b4 at *
  refine (HS5.out.num at4 hm 0 1099511627776 q5 EQ5.out k5 HK5.out).mono ?_
  rintro x w6 ⟨rfl, hs6, _⟩
  have HS6 := Lib.hid hs6
  clear hs6 HS5
  have kx := HS6.out.A.x.cell (j := 0) rfl
  have kz0 := HS6.out.c.cell (j := 0) rfl
  have hn1 := HS6.out.h4
  have hn2 : w.heap.size ≠ b4 := by omega
  have hn3 : b4 ≠ w.heap.size := by omega
  have kc6 := HS6.out.c.cell (j := 6) rfl
  have kf6 := HS6.out.c.frozen 6
  obtain ⟨W7, hW7⟩ : ∃ W, W = w6.setCell ⟨b4, 6, none⟩ (.int .i64 k5) := ⟨_, rfl⟩
  have hs7 : RsB w base g l b4 W7 q5.2.1 q5.2.2 [.int .i64 k1, .int .i64 k2, .int .i64 k3, .int .i64 k4, .int .i64 0, .int .i64 0, .int .i64 k5, .int .i64 0, .slice none 0 0, .int .u32 0] := by rw [hW7]; exact HS6.out.set 6 (.int .i64 k5)
  have HS7 := Lib.hid hs7
  have HW7 := Lib.hid hW7
  clear hs7 hW7
  go_wp2_with fail
  rw [← HW7.out]
  clear HW7
  clear kx kz0 hn1 hn2 hn3 kc6 kf6 HS6
  refine (HS7.out.num at5 hm 1 1073741823 q6 EQ6.out k6 HK6.out).mono ?_
  rintro x w8 ⟨rfl, hs8, _⟩
  have HS8 := Lib.hid hs8
  clear hs8 HS7
  go_wp2_with fail
  refine (HS8.out.num at6 hm 1 1099511627776 q7 EQ7.out k7 HK7.out).mono ?_
  rintro x w9 ⟨rfl, hs9, _⟩
  have HS9 := Lib.hid hs9
  clear hs9 HS8
  have kx := HS9.out.A.x.cell (j := 0) rfl
  have kz0 := HS9.out.c.cell (j := 0) rfl
  have hn1 := HS9.out.h4
  have hn2 : w.heap.size ≠ b4 := by omega
  have hn3 : b4 ≠ w.heap.size := by omega
  have kc4 := HS9.out.c.cell (j := 4) rfl
  have kf4 := HS9.out.c.frozen 4
  have kc5 := HS9.out.c.cell (j := 5) rfl
  have kf5 := HS9.out.c.frozen 5
  obtain ⟨W10, hW10⟩ : ∃ W, W = w9.setCell ⟨b4, 4, none⟩ (.int .i64 k6) := ⟨_, rfl⟩
  have hs10 : RsB w base g l b4 W10 q7.2.1 q7.2.2 [.int .i64 k1, .int .i64 k2, .int .i64 k3, .int .i64 k4, .int .i64 k6, .int .i64 0, .int .i64 k5, .int .i64 0, .slice none 0 0, .int .u32 0] := by rw [hW10]; exact HS9.out.set 4 (.int .i64 k6)
  have HS10 := Lib.hid hs10
  have HW10 := Lib.hid hW10
  clear hs10 hW10
  obtain ⟨W11, hW11⟩ : ∃ W, W = W10.setCell ⟨b4, 5, none⟩ (.int .i64 k7) := ⟨_, rfl⟩
  have hs11 : RsB w base g l b4 W11 q7.2.1 q7.2.2 [.int .i64 k1, .int .i64 k2, .int .i64 k3, .int .i64 k4, .int .i64 k6, .int .i64 k7, .int .i64 k5, .int .i64 0, .slice none 0 0, .int .u32 0] := by rw [hW11]; exact HS10.out.set 5 (.int .i64 k7)
  have HS11 := Lib.hid hs11
  have HW11 := Lib.hid hW11
  clear hs11 hW11
  go_wp2_with fail
  rw [← HW10.out, ← HW11.out]
  clear HW10 HW11 kx kz0 hn1 hn2 hn3 kc4 kf4 kc5 kf5 HS9 HS10
  generalize q7.2.2 = eE at *
  generalize q7.2.1 = aE at *
  have her := rd_err base g l aE eE W11 HS11.out.A.rd
  have HER := Lib.hid her
  clear her
  refine HER.out.mono ?_
  rintro x wE ⟨rfl, rfl⟩
  by_cases hz : eE = 0
  · have b0 : (eE != 0) = false := by simp [hz]
    have hTT : T = (rab ⟨k1, k2, k3, k4, k6, k7, k5, 0, none, 0, 0, [], 0#32⟩, aE, eE) := by rw [HT.out, if_pos hz]; rfl
    have hfin := HS11.out.A.fin ⟨k1, k2, k3, k4, k6, k7, k5, 0, none, 0, 0, [], 0#32⟩ T hTT (okRp.none_ _) (by simp) (fun ad e => by cases e)
    have honr := all_oneCell_toArray (rpc_one ⟨k1, k2, k3, k4, k6, k7, k5, 0, none, 0, 0, [], 0#32⟩)
    have hlnr := rpc_len ⟨k1, k2, k3, k4, k6, k7, k5, 0, none, 0, 0, [], 0#32⟩
    obtain ⟨cr, hcr⟩ : ∃ cr, cr = rpc ⟨k1, k2, k3, k4, k6, k7, k5, 0, none, 0, 0, [], 0#32⟩ := ⟨_, rfl⟩
    have RG : W11.rangeAt b4 0 cr := by rw [hcr]; exact HS11.out.c.range 0 (rpc ⟨k1, k2, k3, k4, k6, k7, k5, 0, none, 0, 0, [], 0#32⟩) rfl
    rw [← hcr] at hfin honr hlnr
    obtain ⟨W9, hW9⟩ : ∃ W9, W9 = W11.setCells (w.heap.size + 1) 0 cr := ⟨_, rfl⟩
    rw [← hW9] at hfin
    have HFIN := Lib.hid hfin.1
    have FIN := Lib.hid hfin.2.1
    have TH := hfin.2.2
    have HW9 := Lib.hid hW9
    have HLN := Lib.hid hlnr
    have HCR := Lib.hid hcr
    have HONE := Lib.hid honr
    clear hfin hTT hz hW9 hcr honr hlnr
    go_wp2_with (first
      | (refine wpList_load_mid rfl 26 (.tmp 4) rfl b4 0 rfl cr _ RG hu rfl (by rw [HLN.out]; exact info_rp) ?_
         simp only [Act.put, List.setIfInBounds_toArray, List.set_cons_zero, List.set_cons_succ])
      | (refine wpList_store_mid rfl 26 (.tmp 2) (.tmp 47) rfl (w.heap.size + 1) 0 cr.toArray rfl rfl (by simpa [HLN.out] using TH) (by simpa [HLN.out] using info_rp) HONE.out ?_
         rw [← HW9.out])
      | fail)
    exact bodyPost_ret (v := .agg cr.toArray) (results_blk (q := 2) rfl _ _ (w.heap.size + 1) cr _ rfl FIN.out hu rfl (by rw [HLN.out]; exact info_rp)) rfl HFIN.out
  · have b0 : (eE != 0) = true := by simp [hz]
    have hTT : T = (rab zrp, aE, eE) := by rw [HT.out, if_neg hz]; rfl
    have hfin := HS11.out.A.fin zrp T hTT (okRp.zero _) (by simp [zrp]) (fun ad e => by cases e)
    have honr := all_oneCell_toArray (rpc_one zrp)
    have hlnr := rpc_len zrp
    obtain ⟨cr, hcr⟩ : ∃ cr, cr = rpc zrp := ⟨_, rfl⟩
    rw [← hcr] at hfin honr hlnr
    obtain ⟨W9, hW9⟩ : ∃ W9, W9 = W11.setCells (w.heap.size + 1) 0 cr := ⟨_, rfl⟩
    rw [← hW9] at hfin
    have HFIN := Lib.hid hfin.1
    have FIN := Lib.hid hfin.2.1
    have TH := hfin.2.2
    have HW9 := Lib.hid hW9
    have HLN := Lib.hid hlnr
    have HCR := Lib.hid hcr
    have HONE := Lib.hid honr
    clear hfin hTT hz hW9 hcr honr hlnr
    go_wp2_with (first
      | (refine wpList_store_mid rfl 26 (.tmp 2) (.tmp 46) rfl (w.heap.size + 1) 0 cr.toArray rfl (by rw [HCR.out]; rfl) (by simpa [HLN.out] using TH) (by simpa [HLN.out] using info_rp) HONE.out ?_
         rw [← HW9.out])
      | fail)
    exact bodyPost_ret (v := .agg cr.toArray) (results_blk (q := 2) rfl _ _ (w.heap.size + 1) cr _ rfl FIN.out hu rfl (by rw [HLN.out]; exact info_rp)) rfl HFIN.out
end Go.Proofs.Ytadmaalhhigbeaa
