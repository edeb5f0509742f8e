/- Ledger: a number as it is read; a number above 0 of the document. -/
import Derived.Test.YtadmaalhhigbeaaW18
import Derived.Test.YtadmaalhhigbeaaW14
import Derived.Test.YtadmaalhhigbeaaW15
import Derived.Test.YtadmaalhhigbeaaW3
import Derived.Test.YtadmaalhhigbeaaW4
import Derived.Test.YtadmaalhhigbeaaW2
import Derived.Laws.IdiomCopy
import Derived.Test.YtadmaalhhigbeaaW8
import Derived.Laws.LoneSync
namespace Go.Proofs.Ytadmaalhhigbeaa
set_option linter.unusedVariables false
set_option linter.unusedSimpArgs false
open Go Go.RowKit OctM BitM

set_option maxRecDepth 100000 in
set_option maxHeartbeats 1600000 in
theorem rd_lst (base g bx : Nat) (l : List UInt8) (a : Nat) (e least most : Int) (w : World) (h : Rd w base g l a e) (ha : a ≤ l.length) (hm : l.length ≤ 4000) (hX : Blk w bx [.pointer (some ⟨g, 0, none⟩)]) (hne : g ≠ bx) :
    Calls Try.prog 49 #[.int .i64 least, .int .i64 most, .pointer (some ⟨bx, 0, none⟩)] w fun x w' => x = .returned (.int .i64 ((lstOut l a e least most).1 : Nat)) ∧ Rd w' base g l (lstOut l a e least most).2.1 (lstOut l a e least most).2.2 ∧ w.grownBy w' (some g) := by
  have H1 := Lib.hid (rd_num base g l a e most w h ha (by omega))
  unfold lstOut
  simp only
  obtain ⟨r1, hr1⟩ : ∃ r, r = numOut l a e most := ⟨_, rfl⟩
  rw [← hr1] at H1 ⊢
  obtain ⟨v1, a1, e1⟩ := r1
  simp only at H1 ⊢
  have HF := Lib.hid (fun wx (hx : Rd wx base g l a1 e1) => rd_fail base g l a1 e1 3 wx hx)
  have HX := Lib.hid hX
  have kx := hX.cell (j := 0) rfl
  clear hr1 hX
  by_cases c1 : (v1 : Int) < least
  · rw [if_pos c1]
    obtain ⟨k, hk⟩ : ∃ k : Int, k = (v1 : Int) := ⟨_, rfl⟩
    rw [← hk] at H1 c1 ⊢
    have t1 : decide (k < least) = true := decide_eq_true c1
    clear hk c1
    go_enter Try.func49, Try.ntmps49
    go_wp2_with fail
    refine H1.out.mono ?_
    rintro x w1 ⟨rfl, R1, G1⟩
    have kx1 := (HX.out.kept G1 (by intro e; injection e with e; exact hne e)).cell (j := 0) rfl
    go_wp2_with fail
    refine (HF.out _ R1).mono ?_
    rintro x w2 ⟨rfl, R2, G2⟩
    go_wp2_with fail
    go_ret
    exact ⟨rfl, R2, G1.trans G2⟩
  · rw [if_neg c1]
    obtain ⟨k, hk⟩ : ∃ k : Int, k = (v1 : Int) := ⟨_, rfl⟩
    rw [← hk] at H1 c1 ⊢
    have t1 : decide (k < least) = false := decide_eq_false c1
    clear hk c1
    go_enter Try.func49, Try.ntmps49
    go_wp2_with fail
    refine H1.out.mono ?_
    rintro x w1 ⟨rfl, R1, G1⟩
    go_wp2_with fail
    go_ret
    exact ⟨rfl, R1, G1⟩
set_option maxRecDepth 100000 in
set_option maxHeartbeats 1600000 in
theorem rr_abv19 (base g : Nat) (l : List UInt8) (a : Nat) (e y : Int) (w : World) (h : Rr w base g (l.drop a) e) (hm : l.length ≤ 4000) :
    Calls Try.prog 55 #[.pointer (some ⟨g, 0, none⟩), .int .i64 y] w fun x w' => x = .returned (.int .i64 ((numOut l a e y).1 : Nat)) ∧ Rr w' base g (l.drop (numOut l a e y).2.1) (if (numOut l a e y).1 = 0 then failOut (numOut l a e y).2.2 3 else (numOut l a e y).2.2) ∧ w.grownBy w' (some g) := by
  have H1 := Lib.hid (rr_numd base g l a e y w h hm)
  obtain ⟨r1, hr1⟩ : ∃ r, r = numOut l a e y := ⟨_, rfl⟩
  rw [← hr1] at H1 ⊢
  clear hr1 h hm
  obtain ⟨v1, a1, e1⟩ := r1
  simp only at H1 ⊢
  have HF : Hid (∀ wx, Rr wx base g (l.drop a1) e1 → Calls Try.prog 54 #[.pointer (some ⟨g, 0, none⟩), .int .i64 3] wx fun x w' => x = .returned (.tuple #[]) ∧ Rr w' base g (l.drop a1) (failOut e1 3) ∧ wx.grownBy w' (some g)) := Lib.hid fun wx hx => rr_fail base g (l.drop a1) e1 3 wx hx
  obtain ⟨E, hE⟩ : ∃ z, z = (if v1 = 0 then failOut e1 3 else e1) := ⟨_, rfl⟩
  rw [← hE]
  obtain ⟨bz, hbz⟩ : ∃ b, b = (((v1 : Nat) : Int) == 0) := ⟨_, rfl⟩
  obtain ⟨be, hbe⟩ : ∃ b, b = (e1 == 0) := ⟨_, rfl⟩
  have ke : (e1 == 0) = be := hbe.symm
  have kz : (((v1 : Nat) : Int) == 0) = bz := hbz.symm
  cases be
  · have HE : Hid (E = e1) := Lib.hid (by rw [hE]; have : e1 ≠ 0 := by simpa using hbe.symm
                                          unfold failOut; rw [if_neg this]; split <;> rfl)
    clear hE hbz hbe kz
    go_enter Try.func55, Try.ntmps55
    go_wp2_with fail
    refine H1.out.mono ?_
    rintro x w1 ⟨rfl, R1, G1⟩
    obtain ⟨q0, q1, f0, f1⟩ := R1.facts
    go_wp2_with fail
    go_ret
    exact ⟨rfl, by rw [HE.out]; exact R1, G1⟩
  · cases bz
    · have HE : Hid (E = e1) := Lib.hid (by rw [hE]; exact if_neg (by simpa using hbz))
      clear hE hbz hbe
      go_enter Try.func55, Try.ntmps55
      go_wp2_with fail
      refine H1.out.mono ?_
      rintro x w1 ⟨rfl, R1, G1⟩
      obtain ⟨q0, q1, f0, f1⟩ := R1.facts
      go_wp2_with fail
      go_ret
      exact ⟨rfl, by rw [HE.out]; exact R1, G1⟩
    · have HE : Hid (E = failOut e1 3) := Lib.hid (by rw [hE]; exact if_pos (by simpa using hbz))
      clear hE hbz hbe
      go_enter Try.func55, Try.ntmps55
      go_wp2_with fail
      refine H1.out.mono ?_
      rintro x w1 ⟨rfl, R1, G1⟩
      obtain ⟨q0, q1, f0, f1⟩ := R1.facts
      go_wp2_with fail
      refine (HF.out _ R1).mono ?_
      rintro x w2 ⟨rfl, R2, G2⟩
      clear q0 q1 f0 f1
      go_wp2_with fail
      go_ret
      exact ⟨rfl, by rw [HE.out]; exact R2, G1.trans G2⟩

theorem abv_lst {l : List UInt8} {a : Nat} {e y : Int} : lstOut l a e 1 y = ((numOut l a e y).1, (numOut l a e y).2.1, if (numOut l a e y).1 = 0 then failOut (numOut l a e y).2.2 3 else (numOut l a e y).2.2) := by
  unfold lstOut
  by_cases h : (numOut l a e y).1 = 0
  · rw [if_pos (by rw [h]; decide), if_pos h]
  · rw [if_neg (by omega), if_neg h]
theorem rr_lst1 (base g : Nat) (l : List UInt8) (a : Nat) (e y : Int) (w : World) (h : Rr w base g (l.drop a) e) (hm : l.length ≤ 4000) :
    Calls Try.prog 55 #[.pointer (some ⟨g, 0, none⟩), .int .i64 y] w fun x w' => x = .returned (.int .i64 ((lstOut l a e 1 y).1 : Nat)) ∧ Rr w' base g (l.drop (lstOut l a e 1 y).2.1) (lstOut l a e 1 y).2.2 ∧ w.grownBy w' (some g) := by
  rw [abv_lst]
  exact rr_abv19 base g l a e y w h hm
theorem lst0 {l : List UInt8} {a : Nat} {e y : Int} : lstOut l a e 0 y = numOut l a e y := by
  unfold lstOut
  rw [if_neg (by omega)]
theorem rr_lst0 (base g : Nat) (l : List UInt8) (a : Nat) (e y : Int) (w : World) (h : Rr w base g (l.drop a) e) (hm : l.length ≤ 4000) :
    Calls Try.prog 53 #[.pointer (some ⟨g, 0, none⟩), .int .i64 y] w fun x w' => x = .returned (.int .i64 ((lstOut l a e 0 y).1 : Nat)) ∧ Rr w' base g (l.drop (lstOut l a e 0 y).2.1) (lstOut l a e 0 y).2.2 ∧ w.grownBy w' (some g) := by
  rw [lst0]
  exact rr_numd base g l a e y w h hm
set_option maxRecDepth 100000 in
set_option maxHeartbeats 1600000 in
theorem nil_lst (bx : Nat) (least most : Int) (w : World) (hX : Blk w bx [.pointer none]) :
    Calls Try.prog 49 #[.int .i64 least, .int .i64 most, .pointer (some ⟨bx, 0, none⟩)] w fun x w' => x = .returned (.int .i64 0) ∧ w = w' := by
  have kx := hX.cell (j := 0) rfl
  clear hX
  by_cases c1 : 0 < least
  · have t1 : decide (0 < least) = true := decide_eq_true c1
    clear c1
    go_enter Try.func49, Try.ntmps49
    go_wp2_with fail
    refine (nil_num _ _).mono ?_
    rintro x w1 ⟨rfl, rfl⟩
    go_wp2_with fail
    refine (nil_fail _ _).mono ?_
    rintro x w2 ⟨rfl, rfl⟩
    go_wp2_with fail
    go_ret
    exact ⟨rfl, rfl⟩
  · have t1 : decide (0 < least) = false := decide_eq_false c1
    clear c1
    go_enter Try.func49, Try.ntmps49
    go_wp2_with fail
    refine (nil_num _ _).mono ?_
    rintro x w1 ⟨rfl, rfl⟩
    go_wp2_with fail
    go_ret
    exact ⟨rfl, rfl⟩
end Go.Proofs.Ytadmaalhhigbeaa

/- Ledger: what the program's Read returns. -/
namespace Go.Proofs.Ytadmaalhhigbeaa
set_option linter.unusedVariables false
set_option linter.unusedSimpArgs false
open Go Go.RowKit OctM BitM

theorem num_le (l : List UInt8) (a : Nat) (e m : Int) (h : 0 ≤ m) : ((numOut l a e m).1 : Int) ≤ m := by
  unfold numOut
  split
  · exact h
  · split
    · exact h
    · split
      · exact h
      · rename_i h3
        show ((scan (l.drop a) 0 0).1 : Int) ≤ m
        omega
theorem filt31 (l : List UInt8) (a : Nat) (e : Int) : (filtOut l a e).1.length ≤ 31 := by
  have hk := nodes_len (l := l) (a := (mny l a e).2.1) (mny l a e).1
  have hm := mny_le l a e
  unfold filtOut
  split
  · simp
  · split
    · simp
    · split
      · omega
      · simp
theorem Sees.grown2 {w w' : World} {g : Nat} {A : Option Addr} {xs : List Value} (h : Sees w w.heap.size A xs) (hg : w.grownBy w' (some g)) (hne : ∀ ad, A = some ad → ad.block ≠ g) : Sees w' w'.heap.size A xs := (h.grown1 (Nat.le_refl _) hg hne).more hg.size
def RepRead (w : World) (base g : Nat) (l : List UInt8) (q : Rq × Nat × Int) : Ending → World → Prop := fun x w' => (∃ r, x = .returned (.agg (rpc r).toArray) ∧ okRp w' r ∧ rab r = q.1 ∧ r.n ≤ 31 ∧ (∀ ad, r.A = some ad → w.heap.size ≤ ad.block)) ∧ Rd w' base g l q.2.1 q.2.2 ∧ w.grownBy w' (some g)
/-- Amid Read, ahead of the answer's own cells. -/
structure RsA (w : World) (base g : Nat) (l : List UInt8) (W : World) (a : Nat) (e : Int) : Prop where
  rd : Rd W base g l a e
  x : Blk W w.heap.size [.pointer (some ⟨g, 0, none⟩)]
  z : Blk W (w.heap.size + 1) [.int .i64 0, .int .i64 0, .int .i64 0, .int .i64 0, .int .i64 0, .int .i64 0, .int .i64 0, .int .i64 0, .slice none 0 0, .int .u32 0]
  gr : w.grownBy W (some g)
  hg : g < w.heap.size
theorem RsA.grow {w W W' : World} {base g : Nat} {l : List UInt8} {a a' : Nat} {e e' : Int} (h : RsA w base g l W a e) (hr : Rd W' base g l a' e') (hG : W.grownBy W' (some g)) : RsA w base g l W' a' e' := by
  have := h.hg
  exact ⟨hr, h.x.kept hG (by intro e; injection e with e; omega), h.z.kept hG (by intro e; injection e with e; omega), h.gr.trans hG, h.hg⟩
theorem RsA.num {w W : World} {base g : Nat} {l : List UInt8} {a : Nat} {e : Int} (h : RsA w base g l W a e) (ha : a ≤ l.length) (hm : l.length ≤ 4000) (least most : Int) (q : Nat × Nat × Int) (hq : q = lstOut l a e least most) (k : Int) (hk : k = (q.1 : Int)) :
    Calls Try.prog 49 #[.int .i64 least, .int .i64 most, .pointer (some ⟨w.heap.size, 0, none⟩)] W fun x w' => x = .returned (.int .i64 k) ∧ RsA w base g l w' q.2.1 q.2.2 := by
  subst hk
  subst hq
  refine (rd_lst base g w.heap.size l a e least most W h.rd ha hm h.x (by have := h.hg; omega)).mono ?_
  rintro x w' ⟨rfl, hr, hG⟩
  exact ⟨rfl, h.grow hr hG⟩
/-- Amid Read, with the answer's own cells. -/
structure RsB (w : World) (base g : Nat) (l : List UInt8) (b4 : Nat) (W : World) (a : Nat) (e : Int) (cs : List Value) : Prop where
  A : RsA w base g l W a e
  c : Blk W b4 cs
  h4 : w.heap.size + 1 < b4
theorem RsB.grow {w W W' : World} {base g b4 : Nat} {l : List UInt8} {a a' : Nat} {e e' : Int} {cs : List Value} (h : RsB w base g l b4 W a e cs) (hr : Rd W' base g l a' e') (hG : W.grownBy W' (some g)) : RsB w base g l b4 W' a' e' cs := by
  have := h.A.hg
  have := h.h4
  exact ⟨h.A.grow hr hG, h.c.kept hG (by intro e; injection e with e; omega), h.h4⟩
theorem RsB.num {w W : World} {base g b4 : Nat} {l : List UInt8} {a : Nat} {e : Int} {cs : List Value} (h : RsB w base g l b4 W a e cs) (ha : a ≤ l.length) (hm : l.length ≤ 4000) (least most : Int) (q : Nat × Nat × Int) (hq : q = lstOut l a e least most) (k : Int) (hk : k = (q.1 : Int)) :
    Calls Try.prog 49 #[.int .i64 least, .int .i64 most, .pointer (some ⟨w.heap.size, 0, none⟩)] W fun x w' => x = .returned (.int .i64 k) ∧ RsB w base g l b4 w' q.2.1 q.2.2 cs ∧ W.grownBy w' (some g) := by
  subst hk
  subst hq
  refine (rd_lst base g w.heap.size l a e least most W h.A.rd ha hm h.A.x (by have := h.A.hg; omega)).mono ?_
  rintro x w' ⟨rfl, hr, hG⟩
  exact ⟨rfl, h.grow hr hG, hG⟩
theorem RsB.set {w W : World} {base g b4 : Nat} {l : List UInt8} {a : Nat} {e : Int} {cs : List Value} (h : RsB w base g l b4 W a e cs) (j : Nat) (v : Value) : RsB w base g l b4 (W.setCell ⟨b4, j, none⟩ v) a e (cs.set j v) := by
  have h1 := h.A.hg
  have h2 := h.h4
  refine ⟨⟨h.A.rd.set2 (by omega), h.A.x.setOther j v (by omega), h.A.z.setOther j v (by omega), ?_, h1⟩, h.c.set j v, h2⟩
  exact grown_row h.A.gr (grown_sets b4 [v] j W) (fun q e => by injection e with e; omega)
theorem RsA.alloc {w W : World} {base g : Nat} {l : List UInt8} {a : Nat} {e : Int} (h : RsA w base g l W a e) (cs : List Value) : RsB w base g l W.heap.size (W.alloc (.cells cs.toArray 26)) a e cs :=
  ⟨⟨h.rd.later (below_a1 _ _), h.x.alloc _, h.z.alloc _, grown_onto h.gr (below_a1 _ _), h.hg⟩, Blk.new _ _ _, h.z.lt⟩
theorem RsA.fin {w W : World} {base g : Nat} {l : List UInt8} {a : Nat} {e : Int} (h : RsA w base g l W a e) (r : Rp) (T : Rq × Nat × Int) (hT : T = (rab r, a, e)) (hok : okRp (W.setCells (w.heap.size + 1) 0 (rpc r)) r) (hn : r.n ≤ 31) (hf : ∀ ad, r.A = some ad → w.heap.size ≤ ad.block) :
    RepRead w base g l T (.returned (.agg (rpc r).toArray)) (W.setCells (w.heap.size + 1) 0 (rpc r)) ∧ Blk (W.setCells (w.heap.size + 1) 0 (rpc r)) (w.heap.size + 1) (rpc r) ∧ W.there (w.heap.size + 1) 0 10 := by
  have h1 := h.hg
  subst hT
  have hb := h.z.sets (rpc r) 0 (by rw [rpc_len]; simp)
  rw [List.take_zero, List.nil_append, List.drop_eq_nil_of_le (by rw [rpc_len]; simp), List.append_nil] at hb
  exact ⟨⟨⟨r, rfl, hok, rfl, hn, hf⟩, h.rd.sets2 (by omega), grown_row h.gr (grown_sets (w.heap.size + 1) (rpc r) 0 W) (fun q e => by injection e with e; omega)⟩, hb, h.z.there 0 10 (by simp)⟩
theorem okRp.none_ (w : World) {kd dv rq cd id vr sq ep : Int} {ms : BitVec 32} : okRp w ⟨kd, dv, rq, cd, id, vr, sq, ep, none, 0, 0, [], ms⟩ := ⟨rfl, Nat.le_refl _, by simp [maxLen], Sees.nil_⟩
end Go.Proofs.Ytadmaalhhigbeaa

/- Ledger: what the program's Read returns, case by case. -/
namespace Go.Proofs.Ytadmaalhhigbeaa
set_option linter.unusedVariables false
set_option linter.unusedSimpArgs false
open Go Go.RowKit OctM BitM

set_option maxRecDepth 100000 in
set_option maxHeartbeats 6400000 in
theorem lread_no (base g : Nat) (l : List UInt8) (a : Nat) (e : Int) (w : World) (h : Rd w base g l a e) (ha : a ≤ l.length) (hm : l.length ≤ 4000) (hc : ¬ (lg4 l a e).1 = 0) :
    Calls Try.prog 16 #[.pointer (some ⟨g, 0, none⟩)] w (RepRead w base g l (repOut l a e)) := by
  have hu := Try.underlying26
  obtain ⟨T, hT⟩ : ∃ T, T = repOut l a e := ⟨_, rfl⟩
  rw [← hT]
  obtain ⟨q1, hq1⟩ : ∃ q, q = lg1 l a e := ⟨_, rfl⟩
  have eq1 : q1 = lstOut l a e 2 4 := by rw [hq1]; rfl
  obtain ⟨k1, hk1⟩ : ∃ k : Int, k = (q1.1 : Int) := ⟨_, rfl⟩
  have at1 : q1.2.1 ≤ l.length := by rw [hq1]; exact lg1_at ha
  obtain ⟨q2, hq2⟩ : ∃ q, q = lg2 l a e := ⟨_, rfl⟩
  have eq2 : q2 = lstOut l q1.2.1 q1.2.2 0 5 := by rw [hq2, hq1]; rfl
  obtain ⟨k2, hk2⟩ : ∃ k : Int, k = (q2.1 : Int) := ⟨_, rfl⟩
  have at2 : q2.2.1 ≤ l.length := by rw [hq2]; exact lg2_at ha
  obtain ⟨q3, hq3⟩ : ∃ q, q = lg3 l a e := ⟨_, rfl⟩
  have eq3 : q3 = lstOut l q2.2.1 q2.2.2 1 1099511627776 := by rw [hq3, hq2]; rfl
  obtain ⟨k3, hk3⟩ : ∃ k : Int, k = (q3.1 : Int) := ⟨_, rfl⟩
  have at3 : q3.2.1 ≤ l.length := by rw [hq3]; exact lg3_at ha
  obtain ⟨q4, hq4⟩ : ∃ q, q = lg4 l a e := ⟨_, rfl⟩
  have eq4 : q4 = lstOut l q3.2.1 q3.2.2 0 16 := by rw [hq4, hq3]; rfl
  obtain ⟨k4, hk4⟩ : ∃ k : Int, k = (q4.1 : Int) := ⟨_, rfl⟩
  have at4 : q4.2.1 ≤ l.length := by rw [hq4]; exact lg4_at ha
  obtain ⟨q5, hq5⟩ : ∃ q, q = lg5 l a e := ⟨_, rfl⟩
  have eq5 : q5 = lstOut l q4.2.1 q4.2.2 0 1099511627776 := by rw [hq5, hq4]; rfl
  obtain ⟨k5, hk5⟩ : ∃ k : Int, k = (q5.1 : Int) := ⟨_, rfl⟩
  have at5 : q5.2.1 ≤ l.length := by rw [hq5]; exact lg5_at ha
  obtain ⟨q6, hq6⟩ : ∃ q, q = lg6 l a e := ⟨_, rfl⟩
  have eq6 : q6 = lstOut l q5.2.1 q5.2.2 1 1073741823 := by rw [hq6, hq5]; rfl
  obtain ⟨k6, hk6⟩ : ∃ k : Int, k = (q6.1 : Int) := ⟨_, rfl⟩
  have at6 : q6.2.1 ≤ l.length := by rw [hq6]; exact lg6_at ha
  obtain ⟨q7, hq7⟩ : ∃ q, q = lg7 l a e := ⟨_, rfl⟩
  have eq7 : q7 = lstOut l q6.2.1 q6.2.2 1 1099511627776 := by rw [hq7, hq6]; rfl
  obtain ⟨k7, hk7⟩ : ∃ k : Int, k = (q7.1 : Int) := ⟨_, rfl⟩
  have at7 : q7.2.1 ≤ l.length := by rw [hq7]; exact lg7_at ha
  obtain ⟨q8, hq8⟩ : ∃ q, q = lg8 l a e := ⟨_, rfl⟩
  have eq8 : q8 = lstOut l q5.2.1 q5.2.2 1 1099511627776 := by rw [hq8, hq5]; rfl
  obtain ⟨k8, hk8⟩ : ∃ k : Int, k = (q8.1 : Int) := ⟨_, rfl⟩
  have at8 : q8.2.1 ≤ l.length := by rw [hq8]; exact lg8_at ha
  obtain ⟨q9, hq9⟩ : ∃ q, q = lg9 l a e := ⟨_, rfl⟩
  have eq9 : q9 = filtOut l q8.2.1 q8.2.2 := by rw [hq9, hq8]; rfl
  have at9 : q9.2.1 ≤ l.length := by rw [hq9]; exact lg9_at ha
  obtain ⟨q10, hq10⟩ : ∃ q, q = lg10 l a e := ⟨_, rfl⟩
  have eq10 : q10 = lstOut l q9.2.1 q9.2.2 0 511 := by rw [hq10, hq9]; rfl
  obtain ⟨k10, hk10⟩ : ∃ k : Int, k = (q10.1 : Int) := ⟨_, rfl⟩
  have at10 : q10.2.1 ≤ l.length := by rw [hq10]; exact lg10_at ha
  have HE : ∀ {p : Nat × Nat × Int}, p = lg4 l a e → True := fun _ => trivial
  obtain ⟨W0, hW0⟩ : ∃ W0, W0 = (w.alloc (.cells #[.pointer (some ⟨g, 0, none⟩)] 34)).alloc (.cells #[.int .i64 0, .int .i64 0, .int .i64 0, .int .i64 0, .int .i64 0, .int .i64 0, .int .i64 0, .int .i64 0, .slice none 0 0, .int .u32 0] 26) := ⟨_, rfl⟩
  have hs0 : RsA w base g l W0 a e := by
    have hb := below_a2 w (.cells #[.pointer (some ⟨g, 0, none⟩)] 34) (.cells #[.int .i64 0, .int .i64 0, .int .i64 0, .int .i64 0, .int .i64 0, .int .i64 0, .int .i64 0, .int .i64 0, .slice none 0 0, .int .u32 0] 26)
    have hz := Blk.new (w.alloc (.cells #[.pointer (some ⟨g, 0, none⟩)] 34)) [.int .i64 0, .int .i64 0, .int .i64 0, .int .i64 0, .int .i64 0, .int .i64 0, .int .i64 0, .int .i64 0, .slice none 0 0, .int .u32 0] 26
    rw [show (w.alloc (.cells #[.pointer (some ⟨g, 0, none⟩)] 34)).heap.size = w.heap.size + 1 by simp] at hz
    rw [hW0]
    exact ⟨h.later hb, (Blk.new w [.pointer (some ⟨g, 0, none⟩)] _).alloc _, hz, grown_onto (World.grownBy.refl w (some g)) hb, h.block.2⟩
  have HS0 := Lib.hid hs0
  have HW0 := Lib.hid hW0
  clear hW0 hs0 h HE
  rw [← hq4] at hc
  have hHT0 : T = (if q4.2.2 = 0 then (k1, k2, k3, k4, 0, 0, 0, 0, [], 0#32) else zrq, q4.2) := by rw [hT, rep_no (by rw [← hq4]; exact hc), ← hq1, ← hq2, ← hq3, ← hq4, hk1, hk2, hk3, hk4]
  have hHT : T = (if q4.2.2 = 0 then (k1, k2, k3, k4, 0, 0, 0, 0, [], 0#32) else zrq, q4.2.1, q4.2.2) := hHT0
  have g4 : (k4 == 0) = false := by rw [hk4]; simpa using hc
  have HT := Lib.hid hHT
  clear hHT hHT0 hq1 hq2 hq3 hq4 hq5 hq6 hq7 hq8 hq9 hq10 hT
  have EQ1 := Lib.hid eq1
  have EQ2 := Lib.hid eq2
  have EQ3 := Lib.hid eq3
  have EQ4 := Lib.hid eq4
  have EQ5 := Lib.hid eq5
  have EQ6 := Lib.hid eq6
  have EQ7 := Lib.hid eq7
  have EQ8 := Lib.hid eq8
  have EQ9 := Lib.hid eq9
  have EQ10 := Lib.hid eq10
  have HK1 := Lib.hid hk1
  have HK2 := Lib.hid hk2
  have HK3 := Lib.hid hk3
  have HK4 := Lib.hid hk4
  have HK5 := Lib.hid hk5
  have HK6 := Lib.hid hk6
  have HK7 := Lib.hid hk7
  have HK8 := Lib.hid hk8
  have HK10 := Lib.hid hk10
  clear eq1 eq2 eq3 eq4 eq5 eq6 eq7 eq8 eq9 eq10 hk1 hk2 hk3 hk4 hk5 hk6 hk7 hk8 hk10
  go_enter Try.func16, Try.ntmps16
  go_wp2_with fail
  rw [← HW0.out]
  refine (HS0.out.num ha hm 2 4 q1 EQ1.out k1 HK1.out).mono ?_
  rintro x w1 ⟨rfl, hs1⟩
  have HS1 := Lib.hid hs1
  clear hs1 HS0
  go_wp2_with fail
  refine (HS1.out.num at1 hm 0 5 q2 EQ2.out k2 HK2.out).mono ?_
  rintro x w2 ⟨rfl, hs2⟩
  have HS2 := Lib.hid hs2
  clear hs2 HS1
  go_wp2_with fail
  refine (HS2.out.num at2 hm 1 1099511627776 q3 EQ3.out k3 HK3.out).mono ?_
  rintro x w3 ⟨rfl, hs3⟩
  have HS3 := Lib.hid hs3
  clear hs3 HS2
  go_wp2_with fail
  refine (HS3.out.num at3 hm 0 16 q4 EQ4.out k4 HK4.out).mono ?_
  rintro x w4 ⟨rfl, hs4⟩
  have HS4 := Lib.hid hs4
  clear hs4 HS3
  obtain ⟨W5, hW5⟩ : ∃ W5, W5 = w4.alloc (.cells #[.int .i64 k1, .int .i64 k2, .int .i64 k3, .int .i64 k4, .int .i64 0, .int .i64 0, .int .i64 0, .int .i64 0, .slice none 0 0, .int .u32 0] 26) := ⟨_, rfl⟩
  have hs5 : RsB w base g l w4.heap.size W5 q4.2.1 q4.2.2 [.int .i64 k1, .int .i64 k2, .int .i64 k3, .int .i64 k4, .int .i64 0, .int .i64 0, .int .i64 0, .int .i64 0, .slice none 0 0, .int .u32 0] := by rw [hW5]; exact HS4.out.alloc _
  have HW5 := Lib.hid hW5
  have HS5 := Lib.hid hs5
  have kx := HS4.out.x.cell (j := 0) rfl
  have hlt4 := HS4.out.x.lt
  clear hW5 hs5 HS4
  go_wp2_with fail
  rw [← HW5.out]
  clear HW5 kx hlt4
  generalize w4.heap.size = b4 at *
  generalize q4.2.2 = eE at *
  generalize q4.2.1 = aE at *
  have her := rd_err base g l aE eE W5 HS5.out.A.rd
  have HER := Lib.hid her
  clear her
  refine HER.out.mono ?_
  rintro x wE ⟨rfl, rfl⟩
  by_cases hz : eE = 0
  · have b0 : (eE != 0) = false := by simp [hz]
    have hTT : T = (rab ⟨k1, k2, k3, k4, 0, 0, 0, 0, none, 0, 0, [], 0#32⟩, aE, eE) := by rw [HT.out, if_pos hz]; rfl
    have hfin := HS5.out.A.fin ⟨k1, k2, k3, k4, 0, 0, 0, 0, none, 0, 0, [], 0#32⟩ T hTT (okRp.none_ _) (by simp) (fun ad e => by cases e)
    have honr := all_oneCell_toArray (rpc_one ⟨k1, k2, k3, k4, 0, 0, 0, 0, none, 0, 0, [], 0#32⟩)
    have hlnr := rpc_len ⟨k1, k2, k3, k4, 0, 0, 0, 0, none, 0, 0, [], 0#32⟩
    obtain ⟨cr, hcr⟩ : ∃ cr, cr = rpc ⟨k1, k2, k3, k4, 0, 0, 0, 0, none, 0, 0, [], 0#32⟩ := ⟨_, rfl⟩
    have RG : W5.rangeAt b4 0 cr := by rw [hcr]; exact HS5.out.c.range 0 (rpc ⟨k1, k2, k3, k4, 0, 0, 0, 0, none, 0, 0, [], 0#32⟩) rfl
    rw [← hcr] at hfin honr hlnr
    obtain ⟨W9, hW9⟩ : ∃ W9, W9 = W5.setCells (w.heap.size + 1) 0 cr := ⟨_, rfl⟩
    rw [← hW9] at hfin
    have HFIN := Lib.hid hfin.1
    have FIN := Lib.hid hfin.2.1
    have TH := hfin.2.2
    have HW9 := Lib.hid hW9
    have HLN := Lib.hid hlnr
    have HCR := Lib.hid hcr
    have HONE := Lib.hid honr
    clear hfin hTT hz hW9 hcr honr hlnr
    go_wp2_with (first
      | (refine wpList_load_mid rfl 26 (.tmp 4) rfl b4 0 rfl cr _ RG hu rfl (by rw [HLN.out]; exact info_rp) ?_
         simp only [Act.put, List.setIfInBounds_toArray, List.set_cons_zero, List.set_cons_succ])
      | (refine wpList_store_mid rfl 26 (.tmp 2) (.tmp 47) rfl (w.heap.size + 1) 0 cr.toArray rfl rfl (by simpa [HLN.out] using TH) (by simpa [HLN.out] using info_rp) HONE.out ?_
         rw [← HW9.out])
      | fail)
    exact bodyPost_ret (v := .agg cr.toArray) (results_blk (q := 2) rfl _ _ (w.heap.size + 1) cr _ rfl FIN.out hu rfl (by rw [HLN.out]; exact info_rp)) rfl HFIN.out
  · have b0 : (eE != 0) = true := by simp [hz]
    have hTT : T = (rab zrp, aE, eE) := by rw [HT.out, if_neg hz]; rfl
    have hfin := HS5.out.A.fin zrp T hTT (okRp.zero _) (by simp [zrp]) (fun ad e => by cases e)
    have honr := all_oneCell_toArray (rpc_one zrp)
    have hlnr := rpc_len zrp
    obtain ⟨cr, hcr⟩ : ∃ cr, cr = rpc zrp := ⟨_, rfl⟩
    rw [← hcr] at hfin honr hlnr
    obtain ⟨W9, hW9⟩ : ∃ W9, W9 = W5.setCells (w.heap.size + 1) 0 cr := ⟨_, rfl⟩
    rw [← hW9] at hfin
    have HFIN := Lib.hid hfin.1
    have FIN := Lib.hid hfin.2.1
    have TH := hfin.2.2
    have HW9 := Lib.hid hW9
    have HLN := Lib.hid hlnr
    have HCR := Lib.hid hcr
    have HONE := Lib.hid honr
    clear hfin hTT hz hW9 hcr honr hlnr
    go_wp2_with (first
      | (refine wpList_store_mid rfl 26 (.tmp 2) (.tmp 46) rfl (w.heap.size + 1) 0 cr.toArray rfl (by rw [HCR.out]; rfl) (by simpa [HLN.out] using TH) (by simpa [HLN.out] using info_rp) HONE.out ?_
         rw [← HW9.out])
      | fail)
    exact bodyPost_ret (v := .agg cr.toArray) (results_blk (q := 2) rfl _ _ (w.heap.size + 1) cr _ rfl FIN.out hu rfl (by rw [HLN.out]; exact info_rp)) rfl HFIN.out
end Go.Proofs.Ytadmaalhhigbeaa

/- Ledger: what the program's Read returns, case by case. -/
namespace Go.Proofs.Ytadmaalhhigbeaa
set_option linter.unusedVariables false
set_option linter.unusedSimpArgs false
open Go Go.RowKit OctM BitM

set_option maxRecDepth 100000 in
set_option maxHeartbeats 6400000 in
theorem lread_2 (base g : Nat) (l : List UInt8) (a : Nat) (e : Int) (w : World) (h : Rd w base g l a e) (ha : a ≤ l.length) (hm : l.length ≤ 4000) (hc : (lg4 l a e).1 = 0) (h2 : (lg1 l a e).1 = 2) :
    Calls Try.prog 16 #[.pointer (some ⟨g, 0, none⟩)] w (RepRead w base g l (repOut l a e)) := by
  have hu := Try.underlying26
  obtain ⟨T, hT⟩ : ∃ T, T = repOut l a e := ⟨_, rfl⟩
  rw [← hT]
  obtain ⟨q1, hq1⟩ : ∃ q, q = lg1 l a e := ⟨_, rfl⟩
  have eq1 : q1 = lstOut l a e 2 4 := by rw [hq1]; rfl
  obtain ⟨k1, hk1⟩ : ∃ k : Int, k = (q1.1 : Int) := ⟨_, rfl⟩
  have at1 : q1.2.1 ≤ l.length := by rw [hq1]; exact lg1_at ha
  obtain ⟨q2, hq2⟩ : ∃ q, q = lg2 l a e := ⟨_, rfl⟩
  have eq2 : q2 = lstOut l q1.2.1 q1.2.2 0 5 := by rw [hq2, hq1]; rfl
  obtain ⟨k2, hk2⟩ : ∃ k : Int, k = (q2.1 : Int) := ⟨_, rfl⟩
  have at2 : q2.2.1 ≤ l.length := by rw [hq2]; exact lg2_at ha
  obtain ⟨q3, hq3⟩ : ∃ q, q = lg3 l a e := ⟨_, rfl⟩
  have eq3 : q3 = lstOut l q2.2.1 q2.2.2 1 1099511627776 := by rw [hq3, hq2]; rfl
  obtain ⟨k3, hk3⟩ : ∃ k : Int, k = (q3.1 : Int) := ⟨_, rfl⟩
  have at3 : q3.2.1 ≤ l.length := by rw [hq3]; exact lg3_at ha
  obtain ⟨q4, hq4⟩ : ∃ q, q = lg4 l a e := ⟨_, rfl⟩
  have eq4 : q4 = lstOut l q3.2.1 q3.2.2 0 16 := by rw [hq4, hq3]; rfl
  obtain ⟨k4, hk4⟩ : ∃ k : Int, k = (q4.1 : Int) := ⟨_, rfl⟩
  have at4 : q4.2.1 ≤ l.length := by rw [hq4]; exact lg4_at ha
  obtain ⟨q5, hq5⟩ : ∃ q, q = lg5 l a e := ⟨_, rfl⟩
  have eq5 : q5 = lstOut l q4.2.1 q4.2.2 0 1099511627776 := by rw [hq5, hq4]; rfl
  obtain ⟨k5, hk5⟩ : ∃ k : Int, k = (q5.1 : Int) := ⟨_, rfl⟩
  have at5 : q5.2.1 ≤ l.length := by rw [hq5]; exact lg5_at ha
  obtain ⟨q6, hq6⟩ : ∃ q, q = lg6 l a e := ⟨_, rfl⟩
  have eq6 : q6 = lstOut l q5.2.1 q5.2.2 1 1073741823 := by rw [hq6, hq5]; rfl
  obtain ⟨k6, hk6⟩ : ∃ k : Int, k = (q6.1 : Int) := ⟨_, rfl⟩
  have at6 : q6.2.1 ≤ l.length := by rw [hq6]; exact lg6_at ha
  obtain ⟨q7, hq7⟩ : ∃ q, q = lg7 l a e := ⟨_, rfl⟩
  have eq7 : q7 = lstOut l q6.2.1 q6.2.2 1 1099511627776 := by rw [hq7, hq6]; rfl
  obtain ⟨k7, hk7⟩ : ∃ k : Int, k = (q7.1 : Int) := ⟨_, rfl⟩
  have at7 : q7.2.1 ≤ l.length := by rw [hq7]; exact lg7_at ha
  obtain ⟨q8, hq8⟩ : ∃ q, q = lg8 l a e := ⟨_, rfl⟩
  have eq8 : q8 = lstOut l q5.2.1 q5.2.2 1 1099511627776 := by rw [hq8, hq5]; rfl
  obtain ⟨k8, hk8⟩ : ∃ k : Int, k = (q8.1 : Int) := ⟨_, rfl⟩
  have at8 : q8.2.1 ≤ l.length := by rw [hq8]; exact lg8_at ha
  obtain ⟨q9, hq9⟩ : ∃ q, q = lg9 l a e := ⟨_, rfl⟩
  have eq9 : q9 = filtOut l q8.2.1 q8.2.2 := by rw [hq9, hq8]; rfl
  have at9 : q9.2.1 ≤ l.length := by rw [hq9]; exact lg9_at ha
  obtain ⟨q10, hq10⟩ : ∃ q, q = lg10 l a e := ⟨_, rfl⟩
  have eq10 : q10 = lstOut l q9.2.1 q9.2.2 0 511 := by rw [hq10, hq9]; rfl
  obtain ⟨k10, hk10⟩ : ∃ k : Int, k = (q10.1 : Int) := ⟨_, rfl⟩
  have at10 : q10.2.1 ≤ l.length := by rw [hq10]; exact lg10_at ha
  have HE : ∀ {p : Nat × Nat × Int}, p = lg4 l a e → True := fun _ => trivial
  obtain ⟨W0, hW0⟩ : ∃ W0, W0 = (w.alloc (.cells #[.pointer (some ⟨g, 0, none⟩)] 34)).alloc (.cells #[.int .i64 0, .int .i64 0, .int .i64 0, .int .i64 0, .int .i64 0, .int .i64 0, .int .i64 0, .int .i64 0, .slice none 0 0, .int .u32 0] 26) := ⟨_, rfl⟩
  have hs0 : RsA w base g l W0 a e := by
    have hb := below_a2 w (.cells #[.pointer (some ⟨g, 0, none⟩)] 34) (.cells #[.int .i64 0, .int .i64 0, .int .i64 0, .int .i64 0, .int .i64 0, .int .i64 0, .int .i64 0, .int .i64 0, .slice none 0 0, .int .u32 0] 26)
    have hz := Blk.new (w.alloc (.cells #[.pointer (some ⟨g, 0, none⟩)] 34)) [.int .i64 0, .int .i64 0, .int .i64 0, .int .i64 0, .int .i64 0, .int .i64 0, .int .i64 0, .int .i64 0, .slice none 0 0, .int .u32 0] 26
    rw [show (w.alloc (.cells #[.pointer (some ⟨g, 0, none⟩)] 34)).heap.size = w.heap.size + 1 by simp] at hz
    rw [hW0]
    exact ⟨h.later hb, (Blk.new w [.pointer (some ⟨g, 0, none⟩)] _).alloc _, hz, grown_onto (World.grownBy.refl w (some g)) hb, h.block.2⟩
  have HS0 := Lib.hid hs0
  have HW0 := Lib.hid hW0
  clear hW0 hs0 h HE
  rw [← hq4] at hc
  rw [← hq1] at h2
  have hHT0 : T = (if q7.2.2 = 0 then (k1, k2, k3, k4, k6, k7, k5, 0, [], 0#32) else zrq, q7.2) := by rw [hT, rep_2 (by rw [← hq4]; exact hc) (by rw [← hq1]; exact h2), ← hq1, ← hq2, ← hq3, ← hq4, ← hq5, ← hq6, ← hq7, hk1, hk2, hk3, hk4, hk5, hk6, hk7]
  have hHT : T = (if q7.2.2 = 0 then (k1, k2, k3, k4, k6, k7, k5, 0, [], 0#32) else zrq, q7.2.1, q7.2.2) := hHT0
  have g4 : (k4 == 0) = true := by rw [hk4]; simpa using hc
  have g2 : (k1 == 2) = true := by rw [hk1, h2]; rfl
  have HT := Lib.hid hHT
  clear hHT hHT0 hq1 hq2 hq3 hq4 hq5 hq6 hq7 hq8 hq9 hq10 hT
  have EQ1 := Lib.hid eq1
  have EQ2 := Lib.hid eq2
  have EQ3 := Lib.hid eq3
  have EQ4 := Lib.hid eq4
  have EQ5 := Lib.hid eq5
  have EQ6 := Lib.hid eq6
  have EQ7 := Lib.hid eq7
  have EQ8 := Lib.hid eq8
  have EQ9 := Lib.hid eq9
  have EQ10 := Lib.hid eq10
  have HK1 := Lib.hid hk1
  have HK2 := Lib.hid hk2
  have HK3 := Lib.hid hk3
  have HK4 := Lib.hid hk4
  have HK5 := Lib.hid hk5
  have HK6 := Lib.hid hk6
  have HK7 := Lib.hid hk7
  have HK8 := Lib.hid hk8
  have HK10 := Lib.hid hk10
  clear eq1 eq2 eq3 eq4 eq5 eq6 eq7 eq8 eq9 eq10 hk1 hk2 hk3 hk4 hk5 hk6 hk7 hk8 hk10
  go_enter Try.func16, Try.ntmps16
  go_wp2_with fail
  rw [← HW0.out]
  refine (HS0.out.num ha hm 2 4 q1 EQ1.out k1 HK1.out).mono ?_
  rintro x w1 ⟨rfl, hs1⟩
  have HS1 := Lib.hid hs1
  clear hs1 HS0
  go_wp2_with fail
  refine (HS1.out.num at1 hm 0 5 q2 EQ2.out k2 HK2.out).mono ?_
  rintro x w2 ⟨rfl, hs2⟩
  have HS2 := Lib.hid hs2
  clear hs2 HS1
  go_wp2_with fail
  refine (HS2.out.num at2 hm 1 1099511627776 q3 EQ3.out k3 HK3.out).mono ?_
  rintro x w3 ⟨rfl, hs3⟩
  have HS3 := Lib.hid hs3
  clear hs3 HS2
  go_wp2_with fail
  refine (HS3.out.num at3 hm 0 16 q4 EQ4.out k4 HK4.out).mono ?_
  rintro x w4 ⟨rfl, hs4⟩
  have HS4 := Lib.hid hs4
  clear hs4 HS3
  obtain ⟨W5, hW5⟩ : ∃ W5, W5 = w4.alloc (.cells #[.int .i64 k1, .int .i64 k2, .int .i64 k3, .int .i64 k4, .int .i64 0, .int .i64 0, .int .i64 0, .int .i64 0, .slice none 0 0, .int .u32 0] 26) := ⟨_, rfl⟩
  have hs5 : RsB w base g l w4.heap.size W5 q4.2.1 q4.2.2 [.int .i64 k1, .int .i64 k2, .int .i64 k3, .int .i64 k4, .int .i64 0, .int .i64 0, .int .i64 0, .int .i64 0, .slice none 0 0, .int .u32 0] := by rw [hW5]; exact HS4.out.alloc _
  have HW5 := Lib.hid hW5
  have HS5 := Lib.hid hs5
  have kx := HS4.out.x.cell (j := 0) rfl
  have hlt4 := HS4.out.x.lt
  clear hW5 hs5 HS4
  go_wp2_with fail
  rw [← HW5.out]
  clear HW5 kx hlt4
  generalize w4.heap.size = b4 at *
  refine (HS5.out.num at4 hm 0 1099511627776 q5 EQ5.out k5 HK5.out).mono ?_
  rintro x w6 ⟨rfl, hs6, _⟩
  have HS6 := Lib.hid hs6
  clear hs6 HS5
  have kx := HS6.out.A.x.cell (j := 0) rfl
  have kz0 := HS6.out.c.cell (j := 0) rfl
  have hn1 := HS6.out.h4
  have hn2 : w.heap.size ≠ b4 := by omega
  have hn3 : b4 ≠ w.heap.size := by omega
  have kc6 := HS6.out.c.cell (j := 6) rfl
  have kf6 := HS6.out.c.frozen 6
  obtain ⟨W7, hW7⟩ : ∃ W, W = w6.setCell ⟨b4, 6, none⟩ (.int .i64 k5) := ⟨_, rfl⟩
  have hs7 : RsB w base g l b4 W7 q5.2.1 q5.2.2 [.int .i64 k1, .int .i64 k2, .int .i64 k3, .int .i64 k4, .int .i64 0, .int .i64 0, .int .i64 k5, .int .i64 0, .slice none 0 0, .int .u32 0] := by rw [hW7]; exact HS6.out.set 6 (.int .i64 k5)
  have HS7 := Lib.hid hs7
  have HW7 := Lib.hid hW7
  clear hs7 hW7
  go_wp2_with fail
  rw [← HW7.out]
  clear HW7
  clear kx kz0 hn1 hn2 hn3 kc6 kf6 HS6
  refine (HS7.out.num at5 hm 1 1073741823 q6 EQ6.out k6 HK6.out).mono ?_
  rintro x w8 ⟨rfl, hs8, _⟩
  have HS8 := Lib.hid hs8
  clear hs8 HS7
  go_wp2_with fail
  refine (HS8.out.num at6 hm 1 1099511627776 q7 EQ7.out k7 HK7.out).mono ?_
  rintro x w9 ⟨rfl, hs9, _⟩
  have HS9 := Lib.hid hs9
  clear hs9 HS8
  have kx := HS9.out.A.x.cell (j := 0) rfl
  have kz0 := HS9.out.c.cell (j := 0) rfl
  have hn1 := HS9.out.h4
  have hn2 : w.heap.size ≠ b4 := by omega
  have hn3 : b4 ≠ w.heap.size := by omega
  have kc4 := HS9.out.c.cell (j := 4) rfl
  have kf4 := HS9.out.c.frozen 4
  have kc5 := HS9.out.c.cell (j := 5) rfl
  have kf5 := HS9.out.c.frozen 5
  obtain ⟨W10, hW10⟩ : ∃ W, W = w9.setCell ⟨b4, 4, none⟩ (.int .i64 k6) := ⟨_, rfl⟩
  have hs10 : RsB w base g l b4 W10 q7.2.1 q7.2.2 [.int .i64 k1, .int .i64 k2, .int .i64 k3, .int .i64 k4, .int .i64 k6, .int .i64 0, .int .i64 k5, .int .i64 0, .slice none 0 0, .int .u32 0] := by rw [hW10]; exact HS9.out.set 4 (.int .i64 k6)
  have HS10 := Lib.hid hs10
  have HW10 := Lib.hid hW10
  clear hs10 hW10
  obtain ⟨W11, hW11⟩ : ∃ W, W = W10.setCell ⟨b4, 5, none⟩ (.int .i64 k7) := ⟨_, rfl⟩
  have hs11 : RsB w base g l b4 W11 q7.2.1 q7.2.2 [.int .i64 k1, .int .i64 k2, .int .i64 k3, .int .i64 k4, .int .i64 k6, .int .i64 k7, .int .i64 k5, .int .i64 0, .slice none 0 0, .int .u32 0] := by rw [hW11]; exact HS10.out.set 5 (.int .i64 k7)
  have HS11 := Lib.hid hs11
  have HW11 := Lib.hid hW11
  clear hs11 hW11
  go_wp2_with fail
  rw [← HW10.out, ← HW11.out]
  clear HW10 HW11 kx kz0 hn1 hn2 hn3 kc4 kf4 kc5 kf5 HS9 HS10
  generalize q7.2.2 = eE at *
  generalize q7.2.1 = aE at *
  have her := rd_err base g l aE eE W11 HS11.out.A.rd
  have HER := Lib.hid her
  clear her
  refine HER.out.mono ?_
  rintro x wE ⟨rfl, rfl⟩
  by_cases hz : eE = 0
  · have b0 : (eE != 0) = false := by simp [hz]
    have hTT : T = (rab ⟨k1, k2, k3, k4, k6, k7, k5, 0, none, 0, 0, [], 0#32⟩, aE, eE) := by rw [HT.out, if_pos hz]; rfl
    have hfin := HS11.out.A.fin ⟨k1, k2, k3, k4, k6, k7, k5, 0, none, 0, 0, [], 0#32⟩ T hTT (okRp.none_ _) (by simp) (fun ad e => by cases e)
    have honr := all_oneCell_toArray (rpc_one ⟨k1, k2, k3, k4, k6, k7, k5, 0, none, 0, 0, [], 0#32⟩)
    have hlnr := rpc_len ⟨k1, k2, k3, k4, k6, k7, k5, 0, none, 0, 0, [], 0#32⟩
    obtain ⟨cr, hcr⟩ : ∃ cr, cr = rpc ⟨k1, k2, k3, k4, k6, k7, k5, 0, none, 0, 0, [], 0#32⟩ := ⟨_, rfl⟩
    have RG : W11.rangeAt b4 0 cr := by rw [hcr]; exact HS11.out.c.range 0 (rpc ⟨k1, k2, k3, k4, k6, k7, k5, 0, none, 0, 0, [], 0#32⟩) rfl
    rw [← hcr] at hfin honr hlnr
    obtain ⟨W9, hW9⟩ : ∃ W9, W9 = W11.setCells (w.heap.size + 1) 0 cr := ⟨_, rfl⟩
    rw [← hW9] at hfin
    have HFIN := Lib.hid hfin.1
    have FIN := Lib.hid hfin.2.1
    have TH := hfin.2.2
    have HW9 := Lib.hid hW9
    have HLN := Lib.hid hlnr
    have HCR := Lib.hid hcr
    have HONE := Lib.hid honr
    clear hfin hTT hz hW9 hcr honr hlnr
    go_wp2_with (first
      | (refine wpList_load_mid rfl 26 (.tmp 4) rfl b4 0 rfl cr _ RG hu rfl (by rw [HLN.out]; exact info_rp) ?_
         simp only [Act.put, List.setIfInBounds_toArray, List.set_cons_zero, List.set_cons_succ])
      | (refine wpList_store_mid rfl 26 (.tmp 2) (.tmp 47) rfl (w.heap.size + 1) 0 cr.toArray rfl rfl (by simpa [HLN.out] using TH) (by simpa [HLN.out] using info_rp) HONE.out ?_
         rw [← HW9.out])
      | fail)
    exact bodyPost_ret (v := .agg cr.toArray) (results_blk (q := 2) rfl _ _ (w.heap.size + 1) cr _ rfl FIN.out hu rfl (by rw [HLN.out]; exact info_rp)) rfl HFIN.out
  · have b0 : (eE != 0) = true := by simp [hz]
    have hTT : T = (rab zrp, aE, eE) := by rw [HT.out, if_neg hz]; rfl
    have hfin := HS11.out.A.fin zrp T hTT (okRp.zero _) (by simp [zrp]) (fun ad e => by cases e)
    have honr := all_oneCell_toArray (rpc_one zrp)
    have hlnr := rpc_len zrp
    obtain ⟨cr, hcr⟩ : ∃ cr, cr = rpc zrp := ⟨_, rfl⟩
    rw [← hcr] at hfin honr hlnr
    obtain ⟨W9, hW9⟩ : ∃ W9, W9 = W11.setCells (w.heap.size + 1) 0 cr := ⟨_, rfl⟩
    rw [← hW9] at hfin
    have HFIN := Lib.hid hfin.1
    have FIN := Lib.hid hfin.2.1
    have TH := hfin.2.2
    have HW9 := Lib.hid hW9
    have HLN := Lib.hid hlnr
    have HCR := Lib.hid hcr
    have HONE := Lib.hid honr
    clear hfin hTT hz hW9 hcr honr hlnr
    go_wp2_with (first
      | (refine wpList_store_mid rfl 26 (.tmp 2) (.tmp 46) rfl (w.heap.size + 1) 0 cr.toArray rfl (by rw [HCR.out]; rfl) (by simpa [HLN.out] using TH) (by simpa [HLN.out] using info_rp) HONE.out ?_
         rw [← HW9.out])
      | fail)
    exact bodyPost_ret (v := .agg cr.toArray) (results_blk (q := 2) rfl _ _ (w.heap.size + 1) cr _ rfl FIN.out hu rfl (by rw [HLN.out]; exact info_rp)) rfl HFIN.out
end Go.Proofs.Ytadmaalhhigbeaa

/- Slices and boxes that a drawn region makes, told apart by their types; copy of whole structs: general. -/
namespace Go.Proofs.Ytadmaalhhigbeaa
set_option linter.unusedVariables false
set_option linter.unusedSimpArgs false
open Go Go.RowKit

/-- A block that is known whole, with its type. -/
def BT (w : World) (g : Nat) (cs : List Value) (t : TypeId) : Prop := w.heap[g]? = some (.cells cs.toArray t (0, 0))
theorem BT.blk {w : World} {g : Nat} {cs : List Value} {t : TypeId} (h : BT w g cs t) : Blk w g cs := ⟨t, h⟩
theorem BT.lt {w : World} {g : Nat} {cs : List Value} {t : TypeId} (h : BT w g cs t) : g < w.heap.size := h.blk.lt
theorem BT.later {w w' : World} {g : Nat} {cs : List Value} {t : TypeId} (h : BT w g cs t) (hb : Below w.heap.size w w') : BT w' g cs t := (hb.block g h.lt).trans h
theorem BT.new (w : World) (cs : List Value) (t : TypeId) : BT (w.alloc (.cells cs.toArray t)) w.heap.size cs t := by
  show (w.heap.push _)[w.heap.size]? = _
  simp
theorem BT.ne {w : World} {g g' : Nat} {cs cs' : List Value} {t t' : TypeId} (h : BT w g cs t) (h' : BT w g' cs' t') (ht : t ≠ t') : g ≠ g' := by
  rintro rfl
  unfold BT at h h'
  rw [h] at h'
  injection h' with e
  injection e with _ e
  exact ht e
theorem BT.set {w : World} {g : Nat} {cs : List Value} {t : TypeId} (h : BT w g cs t) (j : Nat) (v : Value) : BT (w.setCell ⟨g, j, none⟩ v) g (cs.set j v) t := by
  obtain ⟨h1, h2⟩ := Array.getElem?_eq_some_iff.1 h
  show (w.heap.modify g _)[g]? = _
  rw [Array.getElem?_eq_getElem (by rw [Array.size_modify]; exact h1), Array.getElem_modify_self, h2]
  simp
theorem BT.other {w : World} {g b : Nat} {cs : List Value} {t : TypeId} (h : BT w g cs t) (hb : b ≠ g) (vs : List Value) (o : Nat) : BT (w.setCells b o vs) g cs t := by
  induction vs generalizing o w with
  | nil => exact h
  | cons v vs ih => exact ih (w := w.setCell ⟨b, o, none⟩ v) ((Below.heap_setCell w ⟨b, o, none⟩ v g (Ne.symm hb)).trans h) (o + 1)
theorem BT.sets {w : World} {g : Nat} {cs : List Value} {t : TypeId} (h : BT w g cs t) : ∀ (vs : List Value) (o : Nat), o + vs.length ≤ cs.length → BT (w.setCells g o vs) g (cs.take o ++ vs ++ cs.drop (o + vs.length)) t := by
  intro vs
  induction vs generalizing w cs with
  | nil => intro o _; simpa [World.setCells] using h
  | cons v vs ih =>
    intro o ho
    have h1 := h.set o v
    have := ih h1 (o + 1) (by simp at ho ⊢; omega)
    show BT _ g _ t
    rw [World.setCells]
    have e := list_seg_step cs o v vs (by simpa using ho)
    rw [e] at this
    exact this
/-- A slot that holds a slice made here. -/
def relMk (B n : Nat) (cs : List Value) (t : TypeId) : Rel where
  rel v w := ∃ g, v = .slice (some ⟨g, 0, none⟩) n n ∧ B ≤ g ∧ BT w g cs t
  mono := fun v w w' h ⟨g, e, hg, hb⟩ => ⟨g, e, hg, hb.later h⟩
  real := fun w ⟨_, e, _⟩ => by cases e
/-- A slot that holds a struct boxed here. -/
def relBx (B : Nat) (cs : List Value) (t : TypeId) : Rel where
  rel v w := ∃ g, v = .pointer (some ⟨g, 0, none⟩) ∧ B ≤ g ∧ BT w g cs t
  mono := fun v w w' h ⟨g, e, hg, hb⟩ => ⟨g, e, hg, hb.later h⟩
  real := fun w ⟨_, e, _⟩ => by cases e
theorem mk_gives {P : Program} {a : Act} {op : Oper} (B n : Nat) (cs : List Value) (ts t : TypeId) (l c : Operand) (ho : op.op = .makeSlice ts l c) (hl : a.eval l = .int .i64 (n : Int)) (hc : a.eval c = .int .i64 (n : Int))
    (hr : ∀ w, (Instr.makeSlice ts (.int .i64 (n : Int)) (.int .i64 (n : Int))).run P w = .ok (.slice (some ⟨w.heap.size, 0, none⟩) n n) (w.alloc (.cells cs.toArray t))) (w : World) (hB : B ≤ w.heap.size) : gives P op a (relMk B n cs t).rel w := by
  unfold gives execOp
  simp only [ho, hl, hc, Sem.run_bind, hr, Result.andThen_ok, Sem.run_pure]
  exact ⟨(Below.refl _ _).alloc (Nat.le_refl _) _, _, rfl, hB, BT.new w cs _⟩
theorem bx_gives {P : Program} {a : Act} {op : Oper} (B : Nat) (cs : List Value) (t : TypeId) (y : Operand) (ho : op.op = .box t y) (hy : a.eval y = .agg cs.toArray)
    (hr : ∀ w, (Instr.box t (.agg cs.toArray)).run P w = .ok (.pointer (some ⟨w.heap.size, 0, none⟩)) (w.alloc (.cells cs.toArray t))) (w : World) (hB : B ≤ w.heap.size) : gives P op a (relBx B cs t).rel w := by
  unfold gives execOp
  simp only [ho, hy, Sem.run_bind, hr, Result.andThen_ok, Sem.run_pure]
  exact ⟨(Below.refl _ _).alloc (Nat.le_refl _) _, _, rfl, hB, BT.new w cs _⟩
/-- copy of whole structs. -/
theorem run_copy_whole {P : Program} (w : World) (t ty e : TypeId) (i : TypeInfo) (size : Nat) (ht : P.underlying t = some (.slice e)) (hi : P.info? e = some i) (hsz : i.size = size) (hpos : 0 < size) (g n c c' B : Nat) (A : Option Addr) (news cs : List Value)
    (hl : news.length = n * size) (hs : Sees w B A news) (h1 : ∀ u ∈ news, u.oneCell' = true) (hB : Blk w g cs) (hfit : news.length ≤ cs.length) :
    (Builtin.copy_ #[t, t] ty #[.slice (some ⟨g, 0, none⟩) n c, .slice A n c']).run P w = .ok (goInt n) (w.setCells g 0 news) := by
  have hst := run_storeCells_cells (P := P) g 0 news 0 w (fun j hj => by
    simp only [Nat.zero_add]
    rw [hB.cell (List.getElem?_eq_getElem (show j < cs.length by omega))]
    rfl) (fun j hj => hB.frozen _) h1
  rw [Nat.add_zero] at hst
  cases A with
  | none =>
    have hn : news = [] := by
      cases news with
      | nil => rfl
      | cons x l => obtain ⟨b, o, e, _⟩ := hs (by simp); cases e
    subst hn
    simp [Builtin.copy_, run_underlying ht, Builtin.lenOf, Builtin.firstCells, sizeOf, typeInfo, hi, storeCells, World.setCells]
  | some ad =>
    have hnews : ∀ j u, news[j]? = some u → w.cell? (ad.add j) = some u := fun j u hj => by
      have hlt := (List.getElem?_eq_some_iff.1 hj).1
      obtain ⟨b', o', e', _, hc⟩ := hs (by omega)
      cases e'
      rw [Addr.add_lit]
      have := hc j hlt
      rw [(List.getElem?_eq_some_iff.1 hj).2] at this
      exact this
    have hld := run_loadCells_list (P := P) w ad news hnews
    rw [hl] at hld
    simp [Builtin.copy_, run_underlying ht, Builtin.lenOf, Builtin.firstCells, sizeOf, typeInfo, hi, hsz, hld, hst]
end Go.Proofs.Ytadmaalhhigbeaa

/- Ledger: the ledger as it lies; New, copied. -/
namespace Go.Proofs.Ytadmaalhhigbeaa
set_option linter.unusedVariables false
set_option linter.unusedSimpArgs false
open Go Go.RowKit ValM

theorem row_capm {w : World} {base : Nat} {e : TypeId} {size n c : Nat} {A : Option Addr} {xs : List Value} (h : w.ownsRow base e size (.slice A n c) n xs) : n ≤ c ∧ c ≤ maxLen := by
  rcases h.2 with ⟨e, h0⟩ | ⟨g, cap, cur, e, hx⟩
  · cases e; exact ⟨by omega, by simp [maxLen]⟩
  · cases e; exact ⟨hx.2.2.1, hx.2.2.2.1⟩
/-- An answer's filter lies in another block. -/
def farRp (g : Nat) (r : Rp) : Prop := ∀ ad, r.A = some ad → 0 < r.n → ad.block ≠ g
theorem okRp.pos {w : World} {r : Rp} (h : okRp w r) (hx : 0 < (ncs r.f).length) : 0 < r.n := by
  rw [ncs_len] at hx
  have := h.len
  omega
theorem farRp.zero (g : Nat) : farRp g zrp := fun ad e _ => by cases e
theorem okRp.store {w : World} {g o : Nat} {vs : List Value} {r : Rp} (h : okRp w r) (hf : farRp g r) : okRp (w.setCells g o vs) r := by
  refine ⟨h.len, h.cap, h.max, fun hx => ?_⟩
  obtain ⟨b, o', e, hb, hc⟩ := h.see hx
  refine ⟨b, o', e, by rw [size_sets]; exact hb, fun j hj => ?_⟩
  rw [World.cell?_setCells_out g vs o w ⟨b, o' + j, none⟩ (fun h2 _ => absurd h2 (hf ⟨b, o', none⟩ e (h.pos hx)))]
  exact hc j hj
/-- A ledger: what it has counted of epochs, and each device's last answer. -/
structure LgAt (w : World) (g : Nat) (es : List Int) (rs : List Rp) : Prop where
  blk : BT w g (es.map (Value.int .i64) ++ rws rpc rs) 99
  le : es.length = 6
  lr : rs.length = 6
  er : ∀ e ∈ es, 0 ≤ e ∧ e ≤ 1099511627776
  ok : ∀ r ∈ rs, okRp w r ∧ farRp g r ∧ r.n ≤ 65536
theorem LgAt.later {w w' : World} {g : Nat} {es : List Int} {rs : List Rp} (h : LgAt w g es rs) (hb : Below w.heap.size w w') : LgAt w' g es rs :=
  ⟨h.blk.later hb, h.le, h.lr, h.er, fun r hr => ⟨(h.ok r hr).1.later hb, (h.ok r hr).2⟩⟩
theorem LgAt.lt {w : World} {g : Nat} {es : List Int} {rs : List Rp} (h : LgAt w g es rs) : g < w.heap.size := h.blk.lt
theorem lg_es (es : List Int) (rs : List Rp) (k : Nat) (hk : k < es.length) : (es.map (Value.int .i64) ++ rws rpc rs)[k]? = some (.int .i64 es[k]) := by
  rw [List.getElem?_append_left (by simpa using hk)]
  simp [hk]
theorem lg_rs (es : List Int) (rs : List Rp) (he : es.length = 6) (k : Nat) (hk : k < rs.length) (j : Nat) (v : Value) (hj : (rpc rs[k])[j]? = some v) : (es.map (Value.int .i64) ++ rws rpc rs)[6 + k * 10 + j]? = some v := by
  rw [List.getElem?_append_right (by simp; omega)]
  have := rws_at (f := rpc) (sz := 10) rs (fun x _ => rpc_len x) k hk j v hj
  rw [← this]
  congr 1
  simp
  omega
theorem LgAt.cell {w : World} {g : Nat} {es : List Int} {rs : List Rp} (h : LgAt w g es rs) (k : Nat) (hk : k < rs.length) (j : Nat) (v : Value) (hj : (rpc rs[k])[j]? = some v) : w.cell? ⟨g, 6 + k * 10 + j, none⟩ = some v :=
  h.blk.blk.cell (lg_rs es rs h.le k hk j v hj)
theorem LgAt.range {w : World} {g : Nat} {es : List Int} {rs : List Rp} (h : LgAt w g es rs) (k : Nat) (hk : k < rs.length) : w.rangeAt g (6 + k * 10) (rpc rs[k]) := fun j v hj => h.cell k hk j v hj
theorem LgAt.epoch {w : World} {g : Nat} {es : List Int} {rs : List Rp} (h : LgAt w g es rs) (k : Nat) (hk : k < es.length) : w.cell? ⟨g, k, none⟩ = some (.int .i64 es[k]) :=
  h.blk.blk.cell (lg_es es rs k hk)
theorem LgAt.there {w : World} {g : Nat} {es : List Int} {rs : List Rp} (h : LgAt w g es rs) (k : Nat) (hk : k < rs.length) : w.there g (6 + k * 10) 10 :=
  h.blk.blk.there _ _ (by rw [List.length_append, List.length_map, rws_len _ (fun x _ => rpc_len x), h.le, h.lr]; have := h.lr; omega)

def zes : List Int := [0, 0, 0, 0, 0, 0]
def zrs : List Rp := [zrp, zrp, zrp, zrp, zrp, zrp]
set_option maxRecDepth 100000 in
set_option maxHeartbeats 1600000 in
theorem lgnew_any (w : World) : Calls Try.prog 20 #[] w fun e w' => ∃ g, e = .returned (.pointer (some ⟨g, 0, none⟩)) ∧ LgAt w' g zes zrs ∧ w.heap.size ≤ g ∧ Below w.heap.size w w' := by
  go_enter Try.func20, Try.ntmps20
  go_wp2_with fail
  go_ret
  refine ⟨_, rfl, ⟨BT.new w (zes.map (Value.int .i64) ++ rws rpc zrs) _, rfl, rfl, by simp [zes], fun r hr => ?_⟩, Nat.le_refl _, below_a1 _ _⟩
  have : r = zrp := by simp [zrs] at hr; exact hr
  subst this
  exact ⟨okRp.zero _, farRp.zero _, by simp [zrp]⟩

/-- An answer with its filter in memory of the call's own. -/
def GivesRp (w : World) (q : Rq) (e : Ending) (w' : World) : Prop := ∃ r, e = .returned (.agg (rpc r).toArray) ∧ okRp w' r ∧ rab r = q ∧ (∀ ad, r.A = some ad → w.heap.size ≤ ad.block) ∧ r.n ≤ 65536 ∧ Below w.heap.size w w'
set_option maxRecDepth 100000 in
set_option maxHeartbeats 3200000 in
theorem copied_any (r : Rp) (w : World) (h : okRp w r) (hz : r.n ≤ 65536) : Calls Try.prog 57 #[.agg (rpc r).toArray] w (GivesRp w (rab r)) := by
  have hu := Try.underlying26
  have HC := Lib.hid (fun W (hW : Below w.heap.size w W) => clone_nodes r.A r.n r.c r.f W (h.later hW).len (h.later hW).see hz)
  have hln := h.len
  obtain ⟨kd, dv, rq, cd, id, vr, sq, ep, A, n, c, f, ms⟩ := r
  dsimp only [rpc] at *
  clear h
  go_enter Try.func57, Try.ntmps57
  go_wp2_with fail
  refine (HC.out _ (below_a2 _ _ _)).mono ?_
  rintro e w3 ⟨A3, c3, rfl, hr3, hb3⟩
  have HB3 := Lib.hid ((below_a2 _ _ _).trans (hb3.mono (below_a2 _ _ _).size))
  have B1 : Blk w3 w.heap.size [.int .i64 kd, .int .i64 dv, .int .i64 rq, .int .i64 cd, .int .i64 id, .int .i64 vr, .int .i64 sq, .int .i64 ep, .slice A n c, .int .u32 (ms.toNat : Int)] := ((Blk.new w _ _).alloc _).later hb3
  have B2 : Blk w3 (w.heap.size + 1) [.int .i64 0, .int .i64 0, .int .i64 0, .int .i64 0, .int .i64 0, .int .i64 0, .int .i64 0, .int .i64 0, .slice none 0 0, .int .u32 0] := by
    have h2 := (Blk.new (w.alloc _) [.int .i64 0, .int .i64 0, .int .i64 0, .int .i64 0, .int .i64 0, .int .i64 0, .int .i64 0, .int .i64 0, .slice none 0 0, .int .u32 0] _).later hb3
    rw [show (w.alloc _).heap.size = w.heap.size + 1 by simp] at h2
    exact h2
  have hcap := row_capm hr3
  have hsee := row_sees hr3
  have hfar : ∀ ad, A3 = some ad → w.heap.size ≤ ad.block := fun ad e => Nat.le_trans (by simp; omega) (World.ownsRow.lt hr3 ad.block (by rw [e]; rfl)).1
  obtain ⟨n3, hn3⟩ : ∃ n3, n3 = f.length := ⟨_, rfl⟩
  rw [← hn3] at hr3 hcap ⊢
  have B3 := B1.set 8 (.slice A3 n3 c3)
  have B4 := (B2.setOther (b := w.heap.size) 8 (.slice A3 n3 c3) (by omega))
  have RG := B3.range 0 [.int .i64 kd, .int .i64 dv, .int .i64 rq, .int .i64 cd, .int .i64 id, .int .i64 vr, .int .i64 sq, .int .i64 ep, .slice A3 n3 c3, .int .u32 (ms.toNat : Int)] rfl
  have TH := B4.there 0 10 (by simp)
  have k8 := B1.cell (j := 8) rfl
  have z8 := B1.frozen 8
  have FIN := B4.sets [.int .i64 kd, .int .i64 dv, .int .i64 rq, .int .i64 cd, .int .i64 id, .int .i64 vr, .int .i64 sq, .int .i64 ep, .slice A3 n3 c3, .int .u32 (ms.toNat : Int)] 0 (by simp)
  have hne : ∀ ad, A3 = some ad → ad.block ≠ w.heap.size ∧ ad.block ≠ w.heap.size + 1 := fun ad e => by
    have h1 := (World.ownsRow.lt hr3 ad.block (by rw [e]; rfl)).1
    simp at h1
    omega
  have HFIN : Hid (GivesRp w (rab ⟨kd, dv, rq, cd, id, vr, sq, ep, A, n, c, f, ms⟩) (.returned (.agg #[.int .i64 kd, .int .i64 dv, .int .i64 rq, .int .i64 cd, .int .i64 id, .int .i64 vr, .int .i64 sq, .int .i64 ep, .slice A3 n3 c3, .int .u32 (ms.toNat : Int)])) ((w3.setCell ⟨w.heap.size, 8, none⟩ (.slice A3 n3 c3)).setCells (w.heap.size + 1) 0 [.int .i64 kd, .int .i64 dv, .int .i64 rq, .int .i64 cd, .int .i64 id, .int .i64 vr, .int .i64 sq, .int .i64 ep, .slice A3 n3 c3, .int .u32 (ms.toNat : Int)])) := Lib.hid (by
    have h1 : okRp w3 ⟨kd, dv, rq, cd, id, vr, sq, ep, A3, n3, c3, f, ms⟩ := ⟨hn3.symm, hcap.1, hcap.2, hsee⟩
    have h2 := okRp.store (g := w.heap.size) (o := 8) (vs := [.slice A3 n3 c3]) h1 (fun ad e _ => (hne ad e).1)
    have h3 := okRp.store (g := w.heap.size + 1) (o := 0) (vs := [.int .i64 kd, .int .i64 dv, .int .i64 rq, .int .i64 cd, .int .i64 id, .int .i64 vr, .int .i64 sq, .int .i64 ep, .slice A3 n3 c3, .int .u32 (ms.toNat : Int)]) h2 (fun ad e _ => (hne ad e).2)
    exact ⟨_, rfl, h3, rfl, hfar, by show n3 ≤ 65536; omega, below_sets (by omega) _ _ (HB3.out.setCell (by simp) _)⟩)
  clear hr3 hb3 hfar hne hsee hcap B1 B2 B3 B4 HC hn3 hln
  go_wp2_with (first
    | (refine wpList_load_mid rfl 26 (.tmp 1) rfl w.heap.size 0 rfl [.int .i64 kd, .int .i64 dv, .int .i64 rq, .int .i64 cd, .int .i64 id, .int .i64 vr, .int .i64 sq, .int .i64 ep, .slice A3 n3 c3, .int .u32 (ms.toNat : Int)] _ RG hu rfl info_rp ?_
       simp only [Act.put, List.setIfInBounds_toArray, List.set_cons_zero, List.set_cons_succ])
    | (refine wpList_store_mid rfl 26 (.tmp 2) (.tmp 7) rfl (w.heap.size + 1) 0 #[.int .i64 kd, .int .i64 dv, .int .i64 rq, .int .i64 cd, .int .i64 id, .int .i64 vr, .int .i64 sq, .int .i64 ep, .slice A3 n3 c3, .int .u32 (ms.toNat : Int)] rfl rfl TH info_rp (by kernel_rfl) ?_)
    | fail)
  exact bodyPost_ret (v := .agg #[.int .i64 kd, .int .i64 dv, .int .i64 rq, .int .i64 cd, .int .i64 id, .int .i64 vr, .int .i64 sq, .int .i64 ep, .slice A3 n3 c3, .int .u32 (ms.toNat : Int)]) (results_blk (q := 2) rfl _ _ (w.heap.size + 1) [.int .i64 kd, .int .i64 dv, .int .i64 rq, .int .i64 cd, .int .i64 id, .int .i64 vr, .int .i64 sq, .int .i64 ep, .slice A3 n3 c3, .int .u32 (ms.toNat : Int)] _ rfl FIN hu rfl info_rp) rfl HFIN.out
end Go.Proofs.Ytadmaalhhigbeaa

/- Ledger: what the program's Read returns, case by case. -/
namespace Go.Proofs.Ytadmaalhhigbeaa
set_option linter.unusedVariables false
set_option linter.unusedSimpArgs false
open Go Go.RowKit OctM BitM

set_option maxRecDepth 100000 in
set_option maxHeartbeats 6400000 in
theorem lread_3 (base g : Nat) (l : List UInt8) (a : Nat) (e : Int) (w : World) (h : Rd w base g l a e) (ha : a ≤ l.length) (hm : l.length ≤ 4000) (hc : (lg4 l a e).1 = 0) (h3 : (lg1 l a e).1 = 3) :
    Calls Try.prog 16 #[.pointer (some ⟨g, 0, none⟩)] w (RepRead w base g l (repOut l a e)) := by
  have hu := Try.underlying26
  obtain ⟨T, hT⟩ : ∃ T, T = repOut l a e := ⟨_, rfl⟩
  rw [← hT]
  obtain ⟨q1, hq1⟩ : ∃ q, q = lg1 l a e := ⟨_, rfl⟩
  have eq1 : q1 = lstOut l a e 2 4 := by rw [hq1]; rfl
  obtain ⟨k1, hk1⟩ : ∃ k : Int, k = (q1.1 : Int) := ⟨_, rfl⟩
  have at1 : q1.2.1 ≤ l.length := by rw [hq1]; exact lg1_at ha
  obtain ⟨q2, hq2⟩ : ∃ q, q = lg2 l a e := ⟨_, rfl⟩
  have eq2 : q2 = lstOut l q1.2.1 q1.2.2 0 5 := by rw [hq2, hq1]; rfl
  obtain ⟨k2, hk2⟩ : ∃ k : Int, k = (q2.1 : Int) := ⟨_, rfl⟩
  have at2 : q2.2.1 ≤ l.length := by rw [hq2]; exact lg2_at ha
  obtain ⟨q3, hq3⟩ : ∃ q, q = lg3 l a e := ⟨_, rfl⟩
  have eq3 : q3 = lstOut l q2.2.1 q2.2.2 1 1099511627776 := by rw [hq3, hq2]; rfl
  obtain ⟨k3, hk3⟩ : ∃ k : Int, k = (q3.1 : Int) := ⟨_, rfl⟩
  have at3 : q3.2.1 ≤ l.length := by rw [hq3]; exact lg3_at ha
  obtain ⟨q4, hq4⟩ : ∃ q, q = lg4 l a e := ⟨_, rfl⟩
  have eq4 : q4 = lstOut l q3.2.1 q3.2.2 0 16 := by rw [hq4, hq3]; rfl
  obtain ⟨k4, hk4⟩ : ∃ k : Int, k = (q4.1 : Int) := ⟨_, rfl⟩
  have at4 : q4.2.1 ≤ l.length := by rw [hq4]; exact lg4_at ha
  obtain ⟨q5, hq5⟩ : ∃ q, q = lg5 l a e := ⟨_, rfl⟩
  have eq5 : q5 = lstOut l q4.2.1 q4.2.2 0 1099511627776 := by rw [hq5, hq4]; rfl
  obtain ⟨k5, hk5⟩ : ∃ k : Int, k = (q5.1 : Int) := ⟨_, rfl⟩
  have at5 : q5.2.1 ≤ l.length := by rw [hq5]; exact lg5_at ha
  obtain ⟨q6, hq6⟩ : ∃ q, q = lg6 l a e := ⟨_, rfl⟩
  have eq6 : q6 = lstOut l q5.2.1 q5.2.2 1 1073741823 := by rw [hq6, hq5]; rfl
  obtain ⟨k6, hk6⟩ : ∃ k : Int, k = (q6.1 : Int) := ⟨_, rfl⟩
  have at6 : q6.2.1 ≤ l.length := by rw [hq6]; exact lg6_at ha
  obtain ⟨q7, hq7⟩ : ∃ q, q = lg7 l a e := ⟨_, rfl⟩
  have eq7 : q7 = lstOut l q6.2.1 q6.2.2 1 1099511627776 := by rw [hq7, hq6]; rfl
  obtain ⟨k7, hk7⟩ : ∃ k : Int, k = (q7.1 : Int) := ⟨_, rfl⟩
  have at7 : q7.2.1 ≤ l.length := by rw [hq7]; exact lg7_at ha
  obtain ⟨q8, hq8⟩ : ∃ q, q = lg8 l a e := ⟨_, rfl⟩
  have eq8 : q8 = lstOut l q5.2.1 q5.2.2 1 1099511627776 := by rw [hq8, hq5]; rfl
  obtain ⟨k8, hk8⟩ : ∃ k : Int, k = (q8.1 : Int) := ⟨_, rfl⟩
  have at8 : q8.2.1 ≤ l.length := by rw [hq8]; exact lg8_at ha
  obtain ⟨q9, hq9⟩ : ∃ q, q = lg9 l a e := ⟨_, rfl⟩
  have eq9 : q9 = filtOut l q8.2.1 q8.2.2 := by rw [hq9, hq8]; rfl
  have at9 : q9.2.1 ≤ l.length := by rw [hq9]; exact lg9_at ha
  obtain ⟨q10, hq10⟩ : ∃ q, q = lg10 l a e := ⟨_, rfl⟩
  have eq10 : q10 = lstOut l q9.2.1 q9.2.2 0 511 := by rw [hq10, hq9]; rfl
  obtain ⟨k10, hk10⟩ : ∃ k : Int, k = (q10.1 : Int) := ⟨_, rfl⟩
  have at10 : q10.2.1 ≤ l.length := by rw [hq10]; exact lg10_at ha
  have HE : ∀ {p : Nat × Nat × Int}, p = lg4 l a e → True := fun _ => trivial
  obtain ⟨W0, hW0⟩ : ∃ W0, W0 = (w.alloc (.cells #[.pointer (some ⟨g, 0, none⟩)] 34)).alloc (.cells #[.int .i64 0, .int .i64 0, .int .i64 0, .int .i64 0, .int .i64 0, .int .i64 0, .int .i64 0, .int .i64 0, .slice none 0 0, .int .u32 0] 26) := ⟨_, rfl⟩
  have hs0 : RsA w base g l W0 a e := by
    have hb := below_a2 w (.cells #[.pointer (some ⟨g, 0, none⟩)] 34) (.cells #[.int .i64 0, .int .i64 0, .int .i64 0, .int .i64 0, .int .i64 0, .int .i64 0, .int .i64 0, .int .i64 0, .slice none 0 0, .int .u32 0] 26)
    have hz := Blk.new (w.alloc (.cells #[.pointer (some ⟨g, 0, none⟩)] 34)) [.int .i64 0, .int .i64 0, .int .i64 0, .int .i64 0, .int .i64 0, .int .i64 0, .int .i64 0, .int .i64 0, .slice none 0 0, .int .u32 0] 26
    rw [show (w.alloc (.cells #[.pointer (some ⟨g, 0, none⟩)] 34)).heap.size = w.heap.size + 1 by simp] at hz
    rw [hW0]
    exact ⟨h.later hb, (Blk.new w [.pointer (some ⟨g, 0, none⟩)] _).alloc _, hz, grown_onto (World.grownBy.refl w (some g)) hb, h.block.2⟩
  have HS0 := Lib.hid hs0
  have HW0 := Lib.hid hW0
  clear hW0 hs0 h HE
  rw [← hq4] at hc
  rw [← hq1] at h3
  have hk10le : k10 ≤ 511 := by rw [hk10, eq10]; exact num_le _ _ _ _ (by omega)
  have hk10ge : 0 ≤ k10 := by rw [hk10]; omega
  obtain ⟨ms, hms⟩ : ∃ m, m = BitVec.ofNat 32 q10.1 := ⟨_, rfl⟩
  have hmsk : ((ms.toNat : Nat) : Int) = k10 := by rw [hms, hk10]; simp; omega
  have hHT0 : T = (if q10.2.2 = 0 then (k1, k2, k3, k4, 0, 0, k5, k8, q9.1, ms) else zrq, q10.2) := by rw [hT, rep_3 (by rw [← hq4]; exact hc) (by rw [← hq1]; exact h3), ← hq1, ← hq2, ← hq3, ← hq4, ← hq5, ← hq8, ← hq9, ← hq10, hk1, hk2, hk3, hk4, hk5, hk8, hms]
  have hHT : T = (if q10.2.2 = 0 then (k1, k2, k3, k4, 0, 0, k5, k8, q9.1, ms) else zrq, q10.2.1, q10.2.2) := hHT0
  have g4 : (k4 == 0) = true := by rw [hk4]; simpa using hc
  have g2 : (k1 == 2) = false := by rw [hk1]; simp; omega
  have g3 : (k1 == 3) = true := by rw [hk1, h3]; rfl
  have HT := Lib.hid hHT
  have hq9n : q9.1.length ≤ 31 := by rw [eq9]; exact filt31 _ _ _
  clear hHT hHT0 hq1 hq2 hq3 hq4 hq5 hq6 hq7 hq8 hq9 hq10 hT
  have EQ1 := Lib.hid eq1
  have EQ2 := Lib.hid eq2
  have EQ3 := Lib.hid eq3
  have EQ4 := Lib.hid eq4
  have EQ5 := Lib.hid eq5
  have EQ6 := Lib.hid eq6
  have EQ7 := Lib.hid eq7
  have EQ8 := Lib.hid eq8
  have EQ9 := Lib.hid eq9
  have EQ10 := Lib.hid eq10
  have HK1 := Lib.hid hk1
  have HK2 := Lib.hid hk2
  have HK3 := Lib.hid hk3
  have HK4 := Lib.hid hk4
  have HK5 := Lib.hid hk5
  have HK6 := Lib.hid hk6
  have HK7 := Lib.hid hk7
  have HK8 := Lib.hid hk8
  have HK10 := Lib.hid hk10
  clear eq1 eq2 eq3 eq4 eq5 eq6 eq7 eq8 eq9 eq10 hk1 hk2 hk3 hk4 hk5 hk6 hk7 hk8 hk10
  go_enter Try.func16, Try.ntmps16
  go_wp2_with fail
  rw [← HW0.out]
  refine (HS0.out.num ha hm 2 4 q1 EQ1.out k1 HK1.out).mono ?_
  rintro x w1 ⟨rfl, hs1⟩
  have HS1 := Lib.hid hs1
  clear hs1 HS0
  go_wp2_with fail
  refine (HS1.out.num at1 hm 0 5 q2 EQ2.out k2 HK2.out).mono ?_
  rintro x w2 ⟨rfl, hs2⟩
  have HS2 := Lib.hid hs2
  clear hs2 HS1
  go_wp2_with fail
  refine (HS2.out.num at2 hm 1 1099511627776 q3 EQ3.out k3 HK3.out).mono ?_
  rintro x w3 ⟨rfl, hs3⟩
  have HS3 := Lib.hid hs3
  clear hs3 HS2
  go_wp2_with fail
  refine (HS3.out.num at3 hm 0 16 q4 EQ4.out k4 HK4.out).mono ?_
  rintro x w4 ⟨rfl, hs4⟩
  have HS4 := Lib.hid hs4
  clear hs4 HS3
  obtain ⟨W5, hW5⟩ : ∃ W5, W5 = w4.alloc (.cells #[.int .i64 k1, .int .i64 k2, .int .i64 k3, .int .i64 k4, .int .i64 0, .int .i64 0, .int .i64 0, .int .i64 0, .slice none 0 0, .int .u32 0] 26) := ⟨_, rfl⟩
  have hs5 : RsB w base g l w4.heap.size W5 q4.2.1 q4.2.2 [.int .i64 k1, .int .i64 k2, .int .i64 k3, .int .i64 k4, .int .i64 0, .int .i64 0, .int .i64 0, .int .i64 0, .slice none 0 0, .int .u32 0] := by rw [hW5]; exact HS4.out.alloc _
  have HW5 := Lib.hid hW5
  have HS5 := Lib.hid hs5
  have kx := HS4.out.x.cell (j := 0) rfl
  have hlt4 := HS4.out.x.lt
  clear hW5 hs5 HS4
  go_wp2_with fail
  rw [← HW5.out]
  clear HW5 kx hlt4
  generalize w4.heap.size = b4 at *
  refine (HS5.out.num at4 hm 0 1099511627776 q5 EQ5.out k5 HK5.out).mono ?_
  rintro x w6 ⟨rfl, hs6, _⟩
  have HS6 := Lib.hid hs6
  clear hs6 HS5
  have kx := HS6.out.A.x.cell (j := 0) rfl
  have kz0 := HS6.out.c.cell (j := 0) rfl
  have hn1 := HS6.out.h4
  have hn2 : w.heap.size ≠ b4 := by omega
  have hn3 : b4 ≠ w.heap.size := by omega
  have kc6 := HS6.out.c.cell (j := 6) rfl
  have kf6 := HS6.out.c.frozen 6
  obtain ⟨W7, hW7⟩ : ∃ W, W = w6.setCell ⟨b4, 6, none⟩ (.int .i64 k5) := ⟨_, rfl⟩
  have hs7 : RsB w base g l b4 W7 q5.2.1 q5.2.2 [.int .i64 k1, .int .i64 k2, .int .i64 k3, .int .i64 k4, .int .i64 0, .int .i64 0, .int .i64 k5, .int .i64 0, .slice none 0 0, .int .u32 0] := by rw [hW7]; exact HS6.out.set 6 (.int .i64 k5)
  have HS7 := Lib.hid hs7
  have HW7 := Lib.hid hW7
  clear hs7 hW7
  go_wp2_with fail
  rw [← HW7.out]
  clear HW7
  clear kx kz0 hn1 hn2 hn3 kc6 kf6 HS6
  refine (HS7.out.num at5 hm 1 1099511627776 q8 EQ8.out k8 HK8.out).mono ?_
  rintro x w8 ⟨rfl, hs8, _⟩
  have HS8 := Lib.hid hs8
  clear hs8 HS7
  have kx := HS8.out.A.x.cell (j := 0) rfl
  have kz0 := HS8.out.c.cell (j := 0) rfl
  have hn1 := HS8.out.h4
  have hn2 : w.heap.size ≠ b4 := by omega
  have hn3 : b4 ≠ w.heap.size := by omega
  have kc7 := HS8.out.c.cell (j := 7) rfl
  have kf7 := HS8.out.c.frozen 7
  obtain ⟨W9, hW9⟩ : ∃ W, W = w8.setCell ⟨b4, 7, none⟩ (.int .i64 k8) := ⟨_, rfl⟩
  have hs9 : RsB w base g l b4 W9 q8.2.1 q8.2.2 [.int .i64 k1, .int .i64 k2, .int .i64 k3, .int .i64 k4, .int .i64 0, .int .i64 0, .int .i64 k5, .int .i64 k8, .slice none 0 0, .int .u32 0] := by rw [hW9]; exact HS8.out.set 7 (.int .i64 k8)
  have HS9 := Lib.hid hs9
  have HW9 := Lib.hid hW9
  clear hs9 hW9
  go_wp2_with fail
  rw [← HW9.out]
  clear HW9 kx kz0 hn1 hn2 hn3 kc7 kf7 HS8
  have hrf := rd_filter base g l q8.2.1 q8.2.2 W9 HS9.out.A.rd at8 hm
  rw [← EQ9.out] at hrf
  refine hrf.mono ?_
  rintro x w10 ⟨⟨AF, cF, rfl, hrow⟩, hr10, hG10⟩
  clear hrf
  have HS10 := Lib.hid (HS9.out.grow hr10 hG10)
  have hfar : ∀ ad, AF = some ad → b4 < ad.block := fun ad e => Nat.lt_of_lt_of_le HS9.out.c.lt (World.ownsRow.lt hrow ad.block (by rw [e]; rfl)).1
  have hcap := row_capm hrow
  have hsee := row_sees hrow
  clear hrow hr10 hG10 HS9
  have kx := HS10.out.A.x.cell (j := 0) rfl
  have kz0 := HS10.out.c.cell (j := 0) rfl
  have hn1 := HS10.out.h4
  have hn2 : w.heap.size ≠ b4 := by omega
  have hn3 : b4 ≠ w.heap.size := by omega
  have kc8 := HS10.out.c.cell (j := 8) rfl
  have kf8 := HS10.out.c.frozen 8
  obtain ⟨W11, hW11⟩ : ∃ W, W = w10.setCell ⟨b4, 8, none⟩ (.slice AF q9.1.length cF) := ⟨_, rfl⟩
  have hs11 : RsB w base g l b4 W11 q9.2.1 q9.2.2 [.int .i64 k1, .int .i64 k2, .int .i64 k3, .int .i64 k4, .int .i64 0, .int .i64 0, .int .i64 k5, .int .i64 k8, .slice AF q9.1.length cF, .int .u32 0] := by rw [hW11]; exact HS10.out.set 8 (.slice AF q9.1.length cF)
  have HS11 := Lib.hid hs11
  have HW11 := Lib.hid hW11
  clear hs11 hW11
  have hsee11 : Sees W11 W11.heap.size AF (ncs q9.1) := by
    rw [HW11.out]
    exact hsee.grown2 (grown_sets b4 [.slice AF q9.1.length cF] 8 w10) (fun ad e => by have := hfar ad e; omega)
  have HSEE11 := Lib.hid hsee11
  have HFAR := Lib.hid hfar
  clear hsee hsee11 hfar
  obtain ⟨n9, hn9⟩ : ∃ n, n = q9.1.length := ⟨_, rfl⟩
  rw [← hn9] at HS11 HW11 hcap hq9n ⊢
  have HN9 := Lib.hid hn9
  clear hn9
  go_wp2_with fail
  rw [← HW11.out]
  clear HW11 kx kz0 hn1 hn2 hn3 kc8 kf8 HS10
  refine (HS11.out.num at9 hm 0 511 q10 EQ10.out k10 HK10.out).mono ?_
  rintro x w12 ⟨rfl, hs12, hG12⟩
  have HS12 := Lib.hid hs12
  have hb4g : g < b4 := by have := HS11.out.h4; have := HS11.out.A.hg; omega
  have HSEE12 := Lib.hid (HSEE11.out.grown2 hG12 (fun ad e => by have := HFAR.out ad e; omega))
  clear hs12 hG12 HS11 HSEE11
  have kx := HS12.out.A.x.cell (j := 0) rfl
  have kz0 := HS12.out.c.cell (j := 0) rfl
  have hn1 := HS12.out.h4
  have hn2 : w.heap.size ≠ b4 := by omega
  have hn3 : b4 ≠ w.heap.size := by omega
  have kc9 := HS12.out.c.cell (j := 9) rfl
  have kf9 := HS12.out.c.frozen 9
  obtain ⟨W13, hW13⟩ : ∃ W, W = w12.setCell ⟨b4, 9, none⟩ (.int .u32 (ms.toNat : Int)) := ⟨_, rfl⟩
  have hs13 : RsB w base g l b4 W13 q10.2.1 q10.2.2 [.int .i64 k1, .int .i64 k2, .int .i64 k3, .int .i64 k4, .int .i64 0, .int .i64 0, .int .i64 k5, .int .i64 k8, .slice AF n9 cF, .int .u32 (ms.toNat : Int)] := by rw [hW13]; exact HS12.out.set 9 (.int .u32 (ms.toNat : Int))
  have HS13 := Lib.hid hs13
  have HW13 := Lib.hid hW13
  clear hs13 hW13
  have HSEE13 : Hid (Sees W13 W13.heap.size AF (ncs q9.1)) := Lib.hid (by
    rw [HW13.out]
    exact HSEE12.out.grown2 (grown_sets b4 [.int .u32 (ms.toNat : Int)] 9 w12) (fun ad e => by have := HFAR.out ad e; omega))
  rw [hmsk] at HW13
  go_wp2_with fail
  rw [← HW13.out]
  rw [← hmsk] at HW13
  clear HW13 kx kz0 kc9 kf9 HS12 HSEE12
  have hok : okRp (W13.setCells (w.heap.size + 1) 0 (rpc ⟨k1, k2, k3, k4, 0, 0, k5, k8, AF, n9, cF, q9.1, ms⟩)) ⟨k1, k2, k3, k4, 0, 0, k5, k8, AF, n9, cF, q9.1, ms⟩ := by
    have h0 := HSEE13.out.grown2 (grown_sets (w.heap.size + 1) (rpc ⟨k1, k2, k3, k4, 0, 0, k5, k8, AF, n9, cF, q9.1, ms⟩) 0 W13) (fun ad e => by have := HFAR.out ad e; omega)
    exact ⟨HN9.out.symm, hcap.1, hcap.2, h0⟩
  have hfarw : ∀ ad, AF = some ad → w.heap.size ≤ ad.block := fun ad e => by have := HFAR.out ad e; omega
  have HOK := Lib.hid hok
  have HFARW := Lib.hid hfarw
  clear hok hfarw
  generalize q10.2.2 = eE at *
  generalize q10.2.1 = aE at *
  have her := rd_err base g l aE eE W13 HS13.out.A.rd
  have HER := Lib.hid her
  clear her
  refine HER.out.mono ?_
  rintro x wE ⟨rfl, rfl⟩
  by_cases hz : eE = 0
  · have b0 : (eE != 0) = false := by simp [hz]
    have hTT : T = (rab ⟨k1, k2, k3, k4, 0, 0, k5, k8, AF, n9, cF, q9.1, ms⟩, aE, eE) := by rw [HT.out, if_pos hz]; rfl
    have hfin := HS13.out.A.fin ⟨k1, k2, k3, k4, 0, 0, k5, k8, AF, n9, cF, q9.1, ms⟩ T hTT HOK.out hq9n HFARW.out
    have honr := all_oneCell_toArray (rpc_one ⟨k1, k2, k3, k4, 0, 0, k5, k8, AF, n9, cF, q9.1, ms⟩)
    have hlnr := rpc_len ⟨k1, k2, k3, k4, 0, 0, k5, k8, AF, n9, cF, q9.1, ms⟩
    obtain ⟨cr, hcr⟩ : ∃ cr, cr = rpc ⟨k1, k2, k3, k4, 0, 0, k5, k8, AF, n9, cF, q9.1, ms⟩ := ⟨_, rfl⟩
    have RG : W13.rangeAt b4 0 cr := by rw [hcr]; exact HS13.out.c.range 0 (rpc ⟨k1, k2, k3, k4, 0, 0, k5, k8, AF, n9, cF, q9.1, ms⟩) rfl
    rw [← hcr] at hfin honr hlnr
    obtain ⟨W9, hW9⟩ : ∃ W9, W9 = W13.setCells (w.heap.size + 1) 0 cr := ⟨_, rfl⟩
    rw [← hW9] at hfin
    have HFIN := Lib.hid hfin.1
    have FIN := Lib.hid hfin.2.1
    have TH := hfin.2.2
    have HW9 := Lib.hid hW9
    have HLN := Lib.hid hlnr
    have HCR := Lib.hid hcr
    have HONE := Lib.hid honr
    clear hfin hTT hz hW9 hcr honr hlnr
    go_wp2_with (first
      | (refine wpList_load_mid rfl 26 (.tmp 4) rfl b4 0 rfl cr _ RG hu rfl (by rw [HLN.out]; exact info_rp) ?_
         simp only [Act.put, List.setIfInBounds_toArray, List.set_cons_zero, List.set_cons_succ])
      | (refine wpList_store_mid rfl 26 (.tmp 2) (.tmp 47) rfl (w.heap.size + 1) 0 cr.toArray rfl rfl (by simpa [HLN.out] using TH) (by simpa [HLN.out] using info_rp) HONE.out ?_
         rw [← HW9.out])
      | fail)
    exact bodyPost_ret (v := .agg cr.toArray) (results_blk (q := 2) rfl _ _ (w.heap.size + 1) cr _ rfl FIN.out hu rfl (by rw [HLN.out]; exact info_rp)) rfl HFIN.out
  · have b0 : (eE != 0) = true := by simp [hz]
    have hTT : T = (rab zrp, aE, eE) := by rw [HT.out, if_neg hz]; rfl
    have hfin := HS13.out.A.fin zrp T hTT (okRp.zero _) (by simp [zrp]) (fun ad e => by cases e)
    have honr := all_oneCell_toArray (rpc_one zrp)
    have hlnr := rpc_len zrp
    obtain ⟨cr, hcr⟩ : ∃ cr, cr = rpc zrp := ⟨_, rfl⟩
    rw [← hcr] at hfin honr hlnr
    obtain ⟨W9, hW9⟩ : ∃ W9, W9 = W13.setCells (w.heap.size + 1) 0 cr := ⟨_, rfl⟩
    rw [← hW9] at hfin
    have HFIN := Lib.hid hfin.1
    have FIN := Lib.hid hfin.2.1
    have TH := hfin.2.2
    have HW9 := Lib.hid hW9
    have HLN := Lib.hid hlnr
    have HCR := Lib.hid hcr
    have HONE := Lib.hid honr
    clear hfin hTT hz hW9 hcr honr hlnr
    go_wp2_with (first
      | (refine wpList_store_mid rfl 26 (.tmp 2) (.tmp 46) rfl (w.heap.size + 1) 0 cr.toArray rfl (by rw [HCR.out]; rfl) (by simpa [HLN.out] using TH) (by simpa [HLN.out] using info_rp) HONE.out ?_
         rw [← HW9.out])
      | fail)
    exact bodyPost_ret (v := .agg cr.toArray) (results_blk (q := 2) rfl _ _ (w.heap.size + 1) cr _ rfl FIN.out hu rfl (by rw [HLN.out]; exact info_rp)) rfl HFIN.out
end Go.Proofs.Ytadmaalhhigbeaa
