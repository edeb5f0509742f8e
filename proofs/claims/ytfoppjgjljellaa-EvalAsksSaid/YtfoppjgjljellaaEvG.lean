/- A filter: made, readied, asked. -/
import Derived.Test.YtfoppjgjljellaaEvF
import Derived.Test.YtfoppjgjljellaaHead
import Derived.Test.YtfoppjgjljellaaPrdI
import Derived.Test.YtfoppjgjljellaaPrdK
namespace Go.Proofs.Ytfoppjgjljellaa
set_option linter.unusedVariables false
set_option linter.unusedSimpArgs false
open Go Go.RowKit Go.Shelf BitM ValM

theorem flt_int {A : Option Addr} {n c : Nat} {d m a b x : Int} {v : Value} (hv : ∀ y, v ≠ .int .i64 y) (j : Nat) (h : (flt A n c d m v a b)[j]? = some (.int .i64 x)) : False := by
  match j with
  | 0 => simp [flt] at h
  | 1 => simp [flt] at h
  | 2 => simp [flt] at h
  | 3 => simp [flt] at h
  | 4 => exact hv x (by simpa [flt] using h)
  | 5 => simp [flt] at h
  | 6 => simp [flt] at h
  | j + 7 => simp [flt] at h
theorem says_func {mm : Int} {w : World} {v : Value} {l : List Nd} (h : Says mm w v l) (y : Int) : v ≠ .int .i64 y := by
  obtain ⟨f, caps, F, rfl, _⟩ := h
  intro e
  cases e
/-- The nodes stay where a filter is written. -/
theorem TreeIn.keep {mm : Int} {A A' : Option Addr} {n c n' c' F : Nat} {d m a b : Int} {v : Value} {l : List Nd} {w w' : World} (h : TreeIn mm A n c l w) (hF : Blk w F (flt A' n' c' d m v a b)) (hv : ∀ y, v ≠ .int .i64 y) (hg : w.grownBy w' (some F)) : TreeIn mm A n c l w' := by
  refine ⟨h.len, fun hx => ?_, h.cap, h.max, h.wood, h.ok, ?_⟩
  · obtain ⟨b, o, e, hb, hc⟩ := h.sees hx
    have hl : 0 < l.length := by rw [ncs_len] at hx; omega
    obtain ⟨b', o', e', hb', h0, _, _⟩ := sees_node h.sees 0 hl
    have hbF : b' ≠ F := fun e => by
      subst e
      exact flt_int hv _ (hF.is h0)
    rw [e] at e'
    injection e' with e'
    injection e' with e1 e2
    subst e1
    exact ⟨b, o, e, Nat.lt_of_lt_of_le hb hg.size, fun j hj => (World.cell?_of_block (a := ⟨b, o + j, none⟩) (hg.block b hb (fun e => by injection e with e; exact hbF e))).trans (hc j hj)⟩
  · have h0 : w.cell? ⟨0, 0, none⟩ = some (.int .i64 mm) := h.mem
    have hbF : (0 : Nat) ≠ F := fun e => by
      subst e
      exact flt_int hv _ (hF.is h0)
    exact (World.cell?_of_block (a := ⟨0, 0, none⟩) (hg.block 0 (World.block_lt_of_cell? _ ⟨0, 0, none⟩ h0) (fun e => by injection e with e; exact hbF e))).trans h0
theorem TreeIn.later {mm : Int} {A : Option Addr} {n c : Nat} {l : List Nd} {w w' : World} (h : TreeIn mm A n c l w) (hl : Le w w') : TreeIn mm A n c l w' :=
  ⟨h.len, (h.sees.below hl).more hl.size, h.cap, h.max, h.wood, h.ok, h.mem.later hl⟩
/-- A filter that has not been asked. -/
def Fresh (mm : Int) (w : World) (F : Nat) (l : List Nd) : Prop := ∃ A n c, Blk w F (flt A n c 0 0 .nilFunc 0 0) ∧ TreeIn mm A n c l w
/-- A filter that has been asked. -/
def Ready (mm : Int) (w : World) (F : Nat) (l : List Nd) : Prop := ∃ A n c v, Blk w F (flt A n c 1 0 v ((fls l).toNat : Int) ((grs l).toNat : Int)) ∧ Says mm w v l ∧ TreeIn mm A n c l w
theorem Fresh.later {mm : Int} {w w' : World} {F : Nat} {l : List Nd} (h : Fresh mm w F l) (hl : Le w w') : Fresh mm w' F l := by
  obtain ⟨A, n, c, h1, h2⟩ := h
  exact ⟨A, n, c, h1.later hl, h2.later hl⟩
theorem Ready.later {mm : Int} {w w' : World} {F : Nat} {l : List Nd} (h : Ready mm w F l) (hl : Le w w') : Ready mm w' F l := by
  obtain ⟨A, n, c, v, h1, h3, h2⟩ := h
  exact ⟨A, n, c, v, h1.later hl, h3.later hl, h2.later hl⟩
theorem tree_pos {mm : Int} {A : Option Addr} {n c : Nat} {l : List Nd} {w : World} (h : TreeIn mm A n c l w) : 0 < n := by
  rcases Nat.eq_zero_or_pos n with h0 | h0
  · have h1 := h.len
    rw [h0] at h1
    have h2 := List.length_eq_zero_iff.1 h1
    subst h2
    have := wood_uniq h.wood wood_nil
    omega
  · exact h0

/-- What a call on a filter gives. -/
def GivesR (mm : Int) (w : World) (F : Nat) (l : List Nd) (x : Bool) : Ending → World → Prop := fun e w' => e = .returned (.bool x) ∧ Ready mm w' F l ∧ w.grownBy w' (some F)

set_option maxRecDepth 100000 in
set_option maxHeartbeats 3200000 in
theorem ready_fresh (mm : Int) (F : Nat) (l : List Nd) (w : World) (h : Fresh mm w F l) :
    Calls Try.prog 27 #[.pointer (some ⟨F, 0, none⟩)] w (GivesR mm w F l true) := by
  obtain ⟨A, n, c, hF, hin⟩ := h
  have hn0 := tree_pos hin
  have hlw := (Below.refl w.heap.size w).alloc (Nat.le_refl _) (.cells #[.pointer (some ⟨F, 0, none⟩)] 32)
  have BB := Blk.new w [.pointer (some ⟨F, 0, none⟩)] 32
  have hBF : w.heap.size ≠ F := by have := hF.lt; omega
  have hF0 := hF.later hlw
  have hin0 := hin.later hlw
  have gA : (w.alloc (.cells #[.pointer (some ⟨F, 0, none⟩)] 32)).grownBy ((w.alloc (.cells #[.pointer (some ⟨F, 0, none⟩)] 32)).setCell ⟨F, 2, none⟩ (.int .i32 1)) (some F) := grown_sets F [.int .i32 1] 2 _
  have hFA : Blk ((w.alloc (.cells #[.pointer (some ⟨F, 0, none⟩)] 32)).setCell ⟨F, 2, none⟩ (.int .i32 1)) F (flt A n c 0 1 .nilFunc 0 0) := hF0.set 2 _
  have hinA := hin0.keep hF0 (fun y e => by cases e) gA
  have hBA : ((w.alloc (.cells #[.pointer (some ⟨F, 0, none⟩)] 32)).setCell ⟨F, 2, none⟩ (.int .i32 1)).cell? ⟨w.heap.size, 0, none⟩ = some (.pointer (some ⟨F, 0, none⟩)) := (World.cell?_setCell_other _ ⟨F, 2, none⟩ ⟨w.heap.size, 0, none⟩ _ (by intro e; injection e with e; exact hBF e.symm)).trans (BB.cell (j := 0) rfl)
  have HDO := Lib.hid (do_first F 1 40 #[.pointer (some ⟨w.heap.size, 0, none⟩)] (fun w' => ∃ v, Run mm ((w.alloc (.cells #[.pointer (some ⟨F, 0, none⟩)] 32)).setCell ⟨F, 2, none⟩ (.int .i32 1)) w.heap.size F A n c v (fls l) (grs l) l w') (w.alloc (.cells #[.pointer (some ⟨F, 0, none⟩)] 32))
    (hF0.cell (j := 1) rfl) (hF0.cell (j := 2) rfl) (hF0.frozen 2) (enters_of Try.func40 (by kernel_rfl) rfl) (ready1_any mm w.heap.size F A n c l _ hBA hBF hFA hinA)
    (by rintro w' ⟨v, hr⟩; exact ⟨hr.blk.cell (j := 1) rfl, hr.blk.cell (j := 2) rfl, hr.blk.frozen 1, hr.blk.frozen 2⟩))
  have HG := Lib.hid ((grown_le hlw (some F)).trans gA)
  have HFA := Lib.hid hFA
  have HIA := Lib.hid hinA
  have c0 := BB.cell (j := 0) rfl
  have k0 := hF0.cell (j := 0) rfl
  have hn : ((n : Int) == 0) = false := by simp; omega
  clear hF hin hF0 hin0 gA hFA hinA hBA BB hlw hBF
  go_enter Try.func27, Try.ntmps27
  go_wp2_with fail
  refine HDO.out.mono ?_
  rintro e w' ⟨rfl, wr, ⟨v, hr⟩, rfl⟩
  have b1 : Blk (wr.drew.setCell ⟨F, 1, none⟩ (.int .u32 1)) F (flt A n c 1 1 v ((fls l).toNat : Int) ((grs l).toNat : Int)) := hr.blk.drew.set 1 _
  have b2 : Blk ((wr.drew.setCell ⟨F, 1, none⟩ (.int .u32 1)).setCell ⟨F, 1 + 1, none⟩ (.int .i32 0)) F (flt A n c 1 0 v ((fls l).toNat : Int) ((grs l).toNat : Int)) := b1.set 2 _
  have g0 : wr.grownBy wr.drew (some F) := grown_le ((Below.refl _ _).drew) _
  have g1 : wr.drew.grownBy (wr.drew.setCell ⟨F, 1, none⟩ (.int .u32 1)) (some F) := grown_sets F [.int .u32 1] 1 _
  have g2 : (wr.drew.setCell ⟨F, 1, none⟩ (.int .u32 1)).grownBy ((wr.drew.setCell ⟨F, 1, none⟩ (.int .u32 1)).setCell ⟨F, 1 + 1, none⟩ (.int .i32 0)) (some F) := grown_sets F [.int .i32 0] 2 _
  have s0 : Says mm wr.drew v l := hr.says.later ((Below.refl _ _).drew)
  have s1 := s0.other hr.blk.drew (fun u hu => by simp [flt] at hu; subst hu; rfl) g1
  have s2 := s1.other b1 (fun u hu => by simp [flt] at hu; subst hu; rfl) g2
  have gg := ((hr.grown.trans g0).trans g1).trans g2
  have FIN := Lib.hid (show Ready mm ((wr.drew.setCell ⟨F, 1, none⟩ (.int .u32 1)).setCell ⟨F, 1 + 1, none⟩ (.int .i32 0)) F l from ⟨A, n, c, v, b2, s2, HIA.out.keep HFA.out (fun y e => by cases e) gg⟩)
  have HGG := Lib.hid (HG.out.trans gg)
  clear b1 b2 g0 g1 g2 s0 s1 s2 gg hr
  go_wp2_with fail
  go_ret
  exact ⟨rfl, FIN.out, HGG.out⟩

set_option maxRecDepth 100000 in
set_option maxHeartbeats 3200000 in
theorem ready_again (mm : Int) (F : Nat) (l : List Nd) (w : World) (h : Ready mm w F l) :
    Calls Try.prog 27 #[.pointer (some ⟨F, 0, none⟩)] w (GivesR mm w F l true) := by
  obtain ⟨A, n, c, v, hF, hs, hin⟩ := h
  have hn0 := tree_pos hin
  have hlw := (Below.refl w.heap.size w).alloc (Nat.le_refl _) (.cells #[.pointer (some ⟨F, 0, none⟩)] 32)
  have BB := Blk.new w [.pointer (some ⟨F, 0, none⟩)] 32
  have hF0 := hF.later hlw
  have HDO := Lib.hid (fun fv => do_done ⟨F, 1, none⟩ 1 (by decide) fv (w.alloc (.cells #[.pointer (some ⟨F, 0, none⟩)] 32)) (hF0.cell (j := 1) rfl))
  have HR := Lib.hid (show Ready mm (w.alloc (.cells #[.pointer (some ⟨F, 0, none⟩)] 32)) F l from ⟨A, n, c, v, hF0, hs.later hlw, hin.later hlw⟩)
  have HG := Lib.hid (grown_le hlw (some F))
  have c0 := BB.cell (j := 0) rfl
  have k0 := hF0.cell (j := 0) rfl
  have hn : ((n : Int) == 0) = false := by simp; omega
  clear hF hin hF0 hs BB hlw
  go_enter Try.func27, Try.ntmps27
  go_wp2_with fail
  refine (HDO.out _).mono ?_
  rintro e w' ⟨rfl, rfl⟩
  go_wp2_with fail
  go_ret
  exact ⟨rfl, HR.out, HG.out⟩
theorem ready_any (mm : Int) (F : Nat) (l : List Nd) (w : World) (h : Fresh mm w F l ∨ Ready mm w F l) :
    Calls Try.prog 27 #[.pointer (some ⟨F, 0, none⟩)] w (GivesR mm w F l true) :=
  h.elim (ready_fresh mm F l w) (ready_again mm F l w)

/-- A new filter. -/
def GivesNew (mm : Int) (w : World) (l : List Nd) : Ending → World → Prop := fun e w' => Below w.heap.size w w' ∧ ((lchk l ≠ 0 ∧ e = .returned (.pointer none)) ∨ (lchk l = 0 ∧ ∃ F, e = .returned (.pointer (some ⟨F, 0, none⟩)) ∧ w.heap.size ≤ F ∧ Fresh mm w' F l))
set_option maxRecDepth 100000 in
set_option maxHeartbeats 3200000 in
theorem new_any (mm : Int) (A : Option Addr) (n c : Nat) (l : List Nd) (w : World) (hn : l.length = n) (hs : Sees w w.heap.size A (ncs l)) (hm : MaxV mm w) :
    Calls Try.prog 9 #[.slice A n c] w (GivesNew mm w l) := by
  have HC := Lib.hid (lcheck_any A n c l w hn hs)
  by_cases h0 : lchk l = 0
  · obtain ⟨h31, hok, hw1, _⟩ := lchk_ok h0
    rw [h0] at HC
    have HK := Lib.hid (fun wx (h : Below w.heap.size w wx) => clone_nodes A n c l wx hn ((hs.below h).more h.size) (by omega))
    have HW := Lib.hid hw1
    have HO := Lib.hid hok
    have H31 := Lib.hid h31
    have HM := Lib.hid hm
    have H0 := Lib.hid h0
    clear hs hn h0 h31 hok hw1 hm
    go_enter Try.func9, Try.ntmps9
    go_wp2_with fail
    refine HC.out.mono ?_
    rintro e w1 ⟨rfl, hb1⟩
    go_wp2_with fail
    refine (HK.out _ hb1).mono ?_
    rintro e w2 ⟨A2, c2, rfl, ho, hb2⟩
    have hb3 := hb1.trans (hb2.mono hb1.size)
    have HIN : Hid (TreeIn mm A2 l.length c2 l w2) := Lib.hid ⟨rfl, row_sees ho, row_cap ho, by have := H31.out; omega, HW.out, HO.out, HM.out.later hb3⟩
    clear ho hb1 hb2
    go_wp2_with fail
    go_ret
    have hl2 := (Below.refl w2.heap.size w2).alloc (Nat.le_refl _) (.cells (flt A2 l.length c2 0 0 .nilFunc 0 0).toArray 72)
    exact ⟨hb3.trans (hl2.mono hb3.size), .inr ⟨H0.out, _, rfl, hb3.size, A2, l.length, c2, Blk.new w2 _ _, HIN.out.later hl2⟩⟩
  · have HC2 := HC.out
    obtain ⟨r, hr⟩ : ∃ r, r = lchk l := ⟨_, rfl⟩
    rw [← hr] at HC HC2
    have h1 : (r != 0) = true := by rw [hr]; simpa using h0
    have H0 := Lib.hid h0
    clear hs hn h0 hm HC2 hr
    go_enter Try.func9, Try.ntmps9
    go_wp2_with fail
    refine HC.out.mono ?_
    rintro e w1 ⟨rfl, hb1⟩
    go_wp2_with fail
    go_ret
    exact ⟨hb1, .inl ⟨H0.out, rfl⟩⟩
end Go.Proofs.Ytfoppjgjljellaa
