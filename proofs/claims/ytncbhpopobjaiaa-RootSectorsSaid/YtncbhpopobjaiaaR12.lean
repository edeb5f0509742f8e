/- Disks: the document's disk: put, Write. -/
import Derived.Test.YtncbhpopobjaiaaR11
namespace Go.Proofs.Ytncbhpopobjaiaa
set_option linter.unusedVariables false
set_option linter.unusedSimpArgs false
open Go Go.RowKit

def stl (x : Sc) : List Value := [.string (str (if x.2 then [] else x.1.1))]
theorem stc_rws (s : List Sc) : stc s = rws stl s := by
  unfold stc rws stl
  induction s with
  | nil => rfl
  | cons x l ih => rw [List.map_cons, List.flatMap_cons, ih]; rfl
theorem row_lt {w : World} {base n size : Nat} {e : TypeId} {v : Value} {xs : List Value} (h : w.ownsRow base e size v n xs) : ∀ k, v.ownBlock = some k → base ≤ k ∧ k < w.heap.size := fun k hk => h.lt k hk
theorem row_some {w : World} {base n size c : Nat} {e : TypeId} {A : Option Addr} {xs : List Value} (h : w.ownsRow base e size (.slice A n c) n xs) (hn : 0 < n) : ∃ g, A = some ⟨g, 0, none⟩ := by
  obtain ⟨h1, h2 | ⟨g', cap, cur, e1, _⟩⟩ := h
  · have := h2.1
    injection this with _ e
    omega
  · injection e1 with ea
    exact ⟨g', ea⟩
theorem RfAt.frz {w W : World} {L m : Nat} {q p : Option Nat} {D : Dk} (h : RfAt w L m q p D) (hb : Below w.heap.size w W) (j : Nat) : W.frozen? ⟨m, j, none⟩ = false := by
  obtain ⟨A, c, A', c', B, _⟩ := h.at_
  exact (B.later hb).frozen j
/-- The sectors are laid anew. -/
theorem RfAt.putS {w W4 : World} {L m : Nat} {q p : Option Nat} {D : Dk} (h : RfAt w L m q p D) (hL : L ≤ w.heap.size) (L4 : Below w.heap.size w W4) {A3 : Option Addr} {c3 : Nat} {s' : List Sc} (hlen : s'.length = D.s.length)
    (hr : W4.ownsRow w.heap.size 9 1 (.slice A3 D.s.length c3) D.s.length (stc s')) : ∃ q', RfAt (W4.setCell ⟨m, 0, none⟩ (.slice A3 D.s.length c3)) L m q' p { D with s := s' } ∧ Turn3 w (W4.setCell ⟨m, 0, none⟩ (.slice A3 D.s.length c3)) m m none ∧ RowN w q q' ∧ (W4.setCell ⟨m, 0, none⟩ (.slice A3 D.s.length c3)).cell? ⟨m, 1, none⟩ = w.cell? ⟨m, 1, none⟩ := by
  have hm := h.lt
  obtain ⟨⟨A, c, A', c', B, h1, h2, e1, e2⟩, h3, h4, h5⟩ := h
  have hq : (Value.slice A3 D.s.length c3).ownBlock ≠ some m := fun e => by have := (row_lt hr m e).1; omega
  have el : ({ D with s := s' } : Dk).s.length = D.s.length := hlen
  refine ⟨(Value.slice A3 D.s.length c3).ownBlock, ⟨⟨A3, c3, A', c', ?_, ?_, row_apartD (row_later h2 L4) (by rw [← e2]; exact h4) [.slice A3 D.s.length c3] 0, by rw [el], e2⟩, hq, h4, h5⟩, (Turn3.of_below L4 m m none).trans (Turn3.set W4 m m m 0 none _ (.inl rfl)) (RowN.refl _ _), fun k hk => .inr (row_lt hr k hk).1, ?_⟩
  · have := (B.later L4).set 0 (.slice A3 D.s.length c3)
    rw [el]
    simpa using this
  · rw [el]
    exact row_lower (row_apartD hr hq [.slice A3 D.s.length c3] 0) hL
  · have := (B.later L4).set 0 (.slice A3 D.s.length c3)
    rw [B.cell (j := 1) rfl]
    exact this.cell (j := 1) rfl
/-- What waits is laid anew. -/
theorem RfAt.putW {w W4 : World} {L m : Nat} {q p : Option Nat} {D : Dk} (h : RfAt w L m q p D) (hL : L ≤ w.heap.size) (L4 : Below w.heap.size w W4) {A3 : Option Addr} {c3 n : Nat} {l' : List Wr} (hlen : l'.length = n)
    (hr : W4.ownsRow w.heap.size 90 2 (.slice A3 n c3) n (rws wtl l')) : ∃ p', RfAt (W4.setCell ⟨m, 1, none⟩ (.slice A3 n c3)) L m q p' { D with w := l' } ∧ Turn3 w (W4.setCell ⟨m, 1, none⟩ (.slice A3 n c3)) m m none ∧ RowN w p p' := by
  subst hlen
  have hm := h.lt
  obtain ⟨⟨A, c, A', c', B, h1, h2, e1, e2⟩, h3, h4, h5⟩ := h
  have hq : (Value.slice A3 l'.length c3).ownBlock ≠ some m := fun e => by have := (row_lt hr m e).1; omega
  refine ⟨(Value.slice A3 l'.length c3).ownBlock, ⟨⟨A, c, A3, c3, ?_, row_apartD (row_later h1 L4) (by rw [← e1]; exact h3) [.slice A3 l'.length c3] 1, row_lower (row_apartD hr hq [.slice A3 l'.length c3] 1) hL, e1, rfl⟩, h3, hq, h5⟩, (Turn3.of_below L4 m m none).trans (Turn3.set W4 m m m 1 none _ (.inl rfl)) (RowN.refl _ _), fun k hk => .inr (row_lt hr k hk).1⟩
  have := (B.later L4).set 1 (.slice A3 l'.length c3)
  simpa using this
theorem info_str : (Try.prog.info? 9).map (fun i => (i.zero, i.size, i.bytes)) = some (some (.string ⟨#[]⟩), 1, 16) := by kernel_rfl
theorem info_wait : (Try.prog.info? 90).map (fun i => (i.zero, i.size, i.bytes)) = some (some (.agg #[.int .i64 0, .string ⟨#[]⟩]), 2, 24) := by kernel_rfl

set_option maxRecDepth 100000 in
set_option maxHeartbeats 3200000 in
theorem rput_any (L m : Nat) (q p : Option Nat) (D : Dk) (k : Nat) (x : Sc) (b : ByteArray) (hb : b = str (if x.2 then [] else x.1.1)) (w : World) (h : RfAt w L m q p D) (hk : k < D.s.length) (hs : D.s.length ≤ 65536) (hL : L ≤ w.heap.size) :
    Calls Try.prog 40 #[.pointer (some ⟨m, 0, none⟩), .int .i64 (k : Int), .string b] w fun e w' => e = .returned (.tuple #[]) ∧ ∃ q', RfAt w' L m q' p { D with s := D.s.set k x } ∧ Turn3 w w' m m none ∧ RowN w q q' ∧ w'.cell? ⟨m, 1, none⟩ = w.cell? ⟨m, 1, none⟩ := by
  obtain ⟨i1, ji, jz0, jz1, jz2⟩ := info_parts info_str
  obtain ⟨A, c, A', c', h0, h1, h2, h3, hr1, hr2, e1, e2, hz⟩ := h.cells
  have hm := h.lt
  have HPUT : Hid (∀ (W4 : World) (A3 : Option Addr) (c3 : Nat), Below w.heap.size w W4 → W4.ownsRow w.heap.size 9 1 (.slice A3 D.s.length c3) D.s.length (stc (D.s.set k x)) → ∃ q', RfAt (W4.setCell ⟨m, 0, none⟩ (.slice A3 D.s.length c3)) L m q' p { D with s := D.s.set k x } ∧ Turn3 w (W4.setCell ⟨m, 0, none⟩ (.slice A3 D.s.length c3)) m m none ∧ RowN w q q' ∧ (W4.setCell ⟨m, 0, none⟩ (.slice A3 D.s.length c3)).cell? ⟨m, 1, none⟩ = w.cell? ⟨m, 1, none⟩) := Lib.hid (fun W4 A3 c3 l4 hr => h.putS hL l4 (by rw [List.length_set]) hr)
  have HSR := Lib.hid ((row_sees hr1).alloc (Nat.le_refl _) (.cells #[] 9))
  have R1 := Lib.hid (row_lit w w.heap.size 9 1 0 #[] (Nat.le_refl _) (by simp [maxLen]) rfl)
  have HL0 := Lib.hid ((Below.refl w.heap.size w).alloc (Nat.le_refl _) (.cells #[] 9))
  have HRS : Hid (∀ (w3 : World) (g3 c3 : Nat), w3.ownsRow w.heap.size 9 1 (.slice (some ⟨g3, 0, none⟩) D.s.length c3) D.s.length (stc D.s) → (w3.setCell ⟨g3, k, none⟩ (.string b)).ownsRow w.heap.size 9 1 (.slice (some ⟨g3, 0, none⟩) D.s.length c3) D.s.length (stc (D.s.set k x)) ∧ w3.there g3 k 1 ∧ w.heap.size ≤ g3) := Lib.hid (fun w3 g3 c3 hr => by
    rw [stc_rws] at hr
    have := row_sets (f := stl) (sz := 1) (fun _ _ => rfl) hr rfl k hk x rfl
    rw [Nat.mul_one] at this
    rw [stc_rws, hb]
    exact this)
  have HSL := Lib.hid (stc_len D.s)
  have HSO := Lib.hid (stc_one D.s)
  obtain ⟨ns, hns⟩ : ∃ ns, ns = D.s.length := ⟨_, rfl⟩
  rw [← hns] at h0 hk hs
  have HNS := Lib.hid hns
  have hnk : ¬ ns ≤ k := by omega
  have HFR : Hid (∀ W, Below w.heap.size w W → W.frozen? ⟨m, 0, none⟩ = false) := Lib.hid (fun W hb => h.frz hb 0)
  have H0 := Lib.hid h0
  clear h h1 h2 h3 hr1 hr2 e1 e2 hz hns hb
  go_enter Try.func40, Try.ntmps40
  go_wp2_with (first
    | (at_builtin
       refine wpList_appk _ rfl (.tmp 7) (.tmp 11) 40 rfl w.heap.size 9 i1 _ 1 16 Try.underlying40 ji jz0 jz1 jz2 (by rfl) (by decide) (.slice (some ⟨w.heap.size, 0, none⟩) 0 0) 0 [] rfl R1.out w.heap.size A c (stc D.s) ns rfl (by rw [HSL.out, Nat.mul_one, HNS.out]) HSR.out HSO.out (by unfold maxLen; omega) (by omega) (by simp) ?_
       intro A3 c3 w3 hr3 hb3 hg3 hat3
       rw [Nat.zero_add, List.nil_append] at hr3
       simp only [Nat.zero_add]
       obtain ⟨g3, e3⟩ := row_some hr3 (by omega)
       subst e3
       have hr3' := hr3
       rw [HNS.out] at hr3'
       obtain ⟨HR4, TH4, hgL⟩ := HRS.out w3 g3 c3 hr3'
       have L3 := HL0.out.trans hb3
       have L4 := L3.setCell (p := ⟨g3, k, none⟩) hgL (.string b)
       have hpu := HPUT.out _ _ c3 L4 HR4
       obtain ⟨cz, fz⟩ := TH4 0 (by omega)
       obtain ⟨u, cz⟩ := Option.isSome_iff_exists.1 cz
       rw [Nat.add_zero] at cz fz
       have cm := (L4.cell (p := ⟨m, 0, none⟩) hm).trans H0.out
       have fm := HFR.out _ L4
       have hpu := Lib.hid hpu
       clear hr3 hr3' hb3 hg3 hat3 HR4 TH4 L3 L4 HSR R1)
    | fail)
  go_end0
  rw [HNS.out]
  exact ⟨rfl, hpu.out⟩

theorem wtl_snoc (l : List Wr) (a : Int) (t : List UInt8) (h : t.length = 64) : rws wtl l ++ [.int .i64 a, .string (str t)] = rws wtl (l ++ [(a, b64 t)]) := by
  rw [rws_append, rws_one]
  unfold wtl
  rw [b64_val h]
set_option maxRecDepth 100000 in
set_option maxHeartbeats 3200000 in
theorem rwrite_any (L m : Nat) (q p : Option Nat) (D : Dk) (a : Int) (l : List UInt8) (w : World) (h : RfAt w L m q p D) (hf : -9223372036854775808 ≤ D.fuse ∧ D.fuse ≤ 9223372036854775807) (hl : l.length ≤ maxLen) (hw : D.w.length ≤ 65536) (hs : D.s.length ≤ 65536) (hL : L ≤ w.heap.size) :
    Calls Try.prog 23 #[.pointer (some ⟨m, 0, none⟩), .int .i64 a, .string (str l)] w fun e w' => e = .returned (.int .i64 (dwrite D a l).2) ∧ ∃ p', RfAt w' L m q p' (dwrite D a l).1 ∧ Turn3 w w' m m none ∧ RowN w p p' := by
  obtain ⟨i1, ji, jz0, jz1, jz2⟩ := info_parts info_wait
  obtain ⟨A, c, A', c', h0, h1, h2, h3, hr1, hr2, e1, e2, hz⟩ := h.cells
  clear e1 e2 hz hr1
  obtain ⟨sl, hsl⟩ : ∃ sl, sl = str l := ⟨_, rfl⟩
  have hsz : sl.size = l.length := by rw [hsl]; rfl
  obtain ⟨ll, hll⟩ : ∃ ll, ll = l.length := ⟨_, rfl⟩
  obtain ⟨ns, hns⟩ : ∃ ns, ns = D.s.length := ⟨_, rfl⟩
  rw [← hsl]
  rw [← hns] at h0
  rw [← hll] at hsz
  unfold maxLen at hl
  rw [← hll] at hl
  have H := Lib.hid h
  have STAY : Hid (RfAt w L m q p D ∧ Turn3 w w m m none ∧ RowN w p p) := Lib.hid ⟨h, Turn3.refl _ _ _ _, RowN.refl _ _⟩
  cases hd : D.dead with
  | true =>
    rw [hd] at h3
    have HR : Hid (dwrite D a l = (D, 15)) := Lib.hid (by unfold dwrite; rw [hd]; rfl)
    clear h hd hsl hns hll hr2
    go_enter Try.func23, Try.ntmps23
    go_wp2_with fail
    go_ret
    exact ⟨by rw [HR.out]; rfl, p, by rw [HR.out]; exact STAY.out⟩
  | false =>
    rw [hd] at h3
    by_cases a0 : a < 0
    · have d0 : decide (a < 0) = true := decide_eq_true a0
      have HR : Hid (dwrite D a l = (D, 1)) := Lib.hid (by unfold dwrite; rw [hd, if_neg (by simp), if_neg (fun e => by have := e.1; unfold dhas at this; rw [decide_eq_true_eq] at this; omega)])
      clear h hd hsl hns hll hr2
      go_enter Try.func23, Try.ntmps23
      go_wp2_with fail
      go_ret
      exact ⟨by rw [HR.out]; rfl, p, by rw [HR.out]; exact STAY.out⟩
    · have d0 : decide (a < 0) = false := decide_eq_false a0
      by_cases a1 : (ns : Int) ≤ a
      · have d1 : decide ((ns : Int) ≤ a) = true := decide_eq_true a1
        have HR : Hid (dwrite D a l = (D, 1)) := Lib.hid (by unfold dwrite; rw [hd, if_neg (by simp), if_neg (fun e => by have := e.1; unfold dhas at this; rw [decide_eq_true_eq] at this; omega)])
        clear h hd hsl hns hll hr2
        go_enter Try.func23, Try.ntmps23
        go_wp2_with fail
        go_ret
        exact ⟨by rw [HR.out]; rfl, p, by rw [HR.out]; exact STAY.out⟩
      · have d1 : decide ((ns : Int) ≤ a) = false := decide_eq_false a1
        by_cases a2 : ll = 64
        · have HR : Hid (dwrite D a l = dstep { D with w := D.w ++ [(a, b64 l)] }) := Lib.hid (by
            unfold dwrite
            rw [hd, if_neg (by simp), if_pos ⟨by unfold dhas; rw [decide_eq_true_eq]; omega, by omega⟩])
          subst a2
          have hl64 : l.length = 64 := hll.symm
          obtain ⟨nw, hnw⟩ : ∃ nw, nw = D.w.length := ⟨_, rfl⟩
          have HPUT : Hid (∀ (W4 : World) (A3 : Option Addr) (c3 : Nat), Below w.heap.size w W4 → W4.ownsRow w.heap.size 90 2 (.slice A3 (nw + 1) c3) (nw + 1) (rws wtl D.w ++ [.int .i64 a, .string sl]) → ∃ p', RfAt (W4.setCell ⟨m, 1, none⟩ (.slice A3 (nw + 1) c3)) L m q p' { D with w := D.w ++ [(a, b64 l)] } ∧ Turn3 w (W4.setCell ⟨m, 1, none⟩ (.slice A3 (nw + 1) c3)) m m none ∧ RowN w p p') := Lib.hid (fun W4 A3 c3 l4 hr => by
            rw [hsl, wtl_snoc _ _ _ hl64] at hr
            exact h.putW hL l4 (by rw [List.length_append, hnw]; rfl) hr)
          have HSR := Lib.hid ((row_sees hr2).alloc (Nat.le_refl _) (.cells #[] 90))
          have R1 := Lib.hid (row_lit w w.heap.size 90 2 0 #[] (Nat.le_refl _) (by simp [maxLen]) rfl)
          have HL0 := Lib.hid ((Below.refl w.heap.size w).alloc (Nat.le_refl _) (.cells #[] 90))
          have HFR : Hid (∀ W, Below w.heap.size w W → W.frozen? ⟨m, 1, none⟩ = false ∧ W.cell? ⟨m, 1, none⟩ = some (.slice A' nw c')) := Lib.hid (fun W hb => ⟨h.frz hb 1, by rw [hnw]; exact (hb.cell (p := ⟨m, 1, none⟩) h.lt).trans h1⟩)
          have hm := h.lt
          have HRL : Hid (∀ (w3 : World) (A3 : Option Addr) (c3 : Nat), w3.ownsRow w.heap.size 90 2 (.slice A3 nw c3) nw (rws wtl D.w) → (w3.alloc (.cells #[.int .i64 a, .string sl] 90)).ownsRow w.heap.size 90 2 (.slice A3 nw c3) nw (rws wtl D.w)) := Lib.hid (fun w3 A3 c3 hr => row_later hr ((Below.refl w3.heap.size w3).alloc (Nat.le_refl _) _))
          have HSL : Hid (∀ w3 : World, Sees (w3.alloc (.cells #[.int .i64 a, .string sl] 90)) (w3.heap.size + 1) (some ⟨w3.heap.size, 0, none⟩) [.int .i64 a, .string sl]) := Lib.hid (fun w3 => (Sees.more (sees_lit w3 #[.int .i64 a, .string sl] 90 (0, 0) [.int .i64 a, .string sl] rfl) (by simp)))
          have HWL := Lib.hid (rws_len (f := wtl) (sz := 2) D.w (wtl_len _))
          have HWO := Lib.hid (wts_one D.w)
          rw [← hnw] at h1 hw
          have HNW := Lib.hid hnw
          have HST : Hid (∀ W p', RfAt W L m q p' { D with w := D.w ++ [(a, b64 l)] } → Calls Try.prog 44 #[.pointer (some ⟨m, 0, none⟩)] W fun e w' => e = .returned (.bool (decide (D.fuse = 0))) ∧ RfAt w' L m q p' (dstep { D with w := D.w ++ [(a, b64 l)] }).1 ∧ Turn3 W w' m m none) := Lib.hid (fun W p' hh => rstep_any L m q p' _ W hh hf)
          have H2 : Hid ((dstep { D with w := D.w ++ [(a, b64 l)] }).2 = if D.fuse = 0 then 15 else 0) := Lib.hid (by
            unfold dstep
            dsimp only
            split
            · rfl
            · split <;> rfl)
          clear h hd hsl hns hll hr2 hl64 hnw h2 a0 a1 hf STAY H
          by_cases f0 : D.fuse = 0
          · rw [decide_eq_true f0] at HST
            rw [if_pos f0] at H2
            clear f0
            go_enter Try.func23, Try.ntmps23
            go_wp2_with (first
              | (at_builtin
                 refine wpList_appk _ rfl (.tmp 28) (.tmp 32) 41 rfl w.heap.size 90 i1 _ 2 24 Try.underlying41 ji jz0 jz1 jz2 (by rfl) (by decide) (.slice (some ⟨w.heap.size, 0, none⟩) 0 0) 0 [] rfl R1.out w.heap.size A' c' (rws wtl D.w) nw rfl (by rw [HWL.out, HNW.out]) HSR.out HWO.out (by unfold maxLen; omega) (by omega) (by simp) ?_
                 intro A3 c3 w3 hr3 hb3 hg3 hat3
                 rw [Nat.zero_add, List.nil_append] at hr3
                 simp only [Nat.zero_add]
                 have HR3 := Lib.hid (HRL.out w3 A3 c3 hr3)
                 have L3 := HL0.out.trans hb3
                 have HS3 := Lib.hid (HSL.out w3)
                 have HL3 := Lib.hid (L3.alloc L3.size (.cells #[.int .i64 a, .string sl] 90))
                 clear hr3 hb3 hg3 hat3 L3 HSR R1 h0 h1 h3)
              | (at_builtin
                 refine wpList_appk _ rfl (.tmp 33) (.tmp 37) 41 rfl w.heap.size 90 i1 _ 2 24 Try.underlying41 ji jz0 jz1 jz2 (by rfl) (by decide) (.slice A3 nw c3) nw (rws wtl D.w) rfl HR3.out _ (some ⟨w3.heap.size, 0, none⟩) 1 [.int .i64 a, .string sl] 1 rfl rfl HS3.out (by intro u hu; simp only [List.mem_cons, List.not_mem_nil, or_false] at hu; rcases hu with rfl | rfl <;> rfl) (by unfold maxLen; omega) (by omega) HL3.out.size ?_
                 intro A4 c4 w6 hr6 hb6 hg6 hat6
                 have L6 := HL3.out.trans hb6
                 have hpu := Lib.hid (HPUT.out w6 A4 c4 L6 hr6)
                 obtain ⟨fm, cm⟩ := HFR.out w6 L6
                 clear hr6 hb6 hg6 hat6 L6)
              | fail)
            obtain ⟨p9, H9, T9, R9⟩ := hpu.out
            refine (HST.out _ p9 H9).mono ?_
            rintro e w8 ⟨rfl, H8, T8⟩
            have H8 := Lib.hid H8
            have T8 := Lib.hid (T9.trans T8 (RowN.none _ _))
            have R9 := Lib.hid R9
            clear H9 T9 hpu fm cm
            go_wp2_with fail
            go_ret
            exact ⟨by rw [HR.out, H2.out]; rfl, p9, by rw [HR.out]; exact H8.out, T8.out, R9.out⟩
          · rw [decide_eq_false f0] at HST
            rw [if_neg f0] at H2
            clear f0
            go_enter Try.func23, Try.ntmps23
            go_wp2_with (first
              | (at_builtin
                 refine wpList_appk _ rfl (.tmp 28) (.tmp 32) 41 rfl w.heap.size 90 i1 _ 2 24 Try.underlying41 ji jz0 jz1 jz2 (by rfl) (by decide) (.slice (some ⟨w.heap.size, 0, none⟩) 0 0) 0 [] rfl R1.out w.heap.size A' c' (rws wtl D.w) nw rfl (by rw [HWL.out, HNW.out]) HSR.out HWO.out (by unfold maxLen; omega) (by omega) (by simp) ?_
                 intro A3 c3 w3 hr3 hb3 hg3 hat3
                 rw [Nat.zero_add, List.nil_append] at hr3
                 simp only [Nat.zero_add]
                 have HR3 := Lib.hid (HRL.out w3 A3 c3 hr3)
                 have L3 := HL0.out.trans hb3
                 have HS3 := Lib.hid (HSL.out w3)
                 have HL3 := Lib.hid (L3.alloc L3.size (.cells #[.int .i64 a, .string sl] 90))
                 clear hr3 hb3 hg3 hat3 L3 HSR R1 h0 h1 h3)
              | (at_builtin
                 refine wpList_appk _ rfl (.tmp 33) (.tmp 37) 41 rfl w.heap.size 90 i1 _ 2 24 Try.underlying41 ji jz0 jz1 jz2 (by rfl) (by decide) (.slice A3 nw c3) nw (rws wtl D.w) rfl HR3.out _ (some ⟨w3.heap.size, 0, none⟩) 1 [.int .i64 a, .string sl] 1 rfl rfl HS3.out (by intro u hu; simp only [List.mem_cons, List.not_mem_nil, or_false] at hu; rcases hu with rfl | rfl <;> rfl) (by unfold maxLen; omega) (by omega) HL3.out.size ?_
                 intro A4 c4 w6 hr6 hb6 hg6 hat6
                 have L6 := HL3.out.trans hb6
                 have hpu := Lib.hid (HPUT.out w6 A4 c4 L6 hr6)
                 obtain ⟨fm, cm⟩ := HFR.out w6 L6
                 clear hr6 hb6 hg6 hat6 L6)
              | fail)
            obtain ⟨p9, H9, T9, R9⟩ := hpu.out
            refine (HST.out _ p9 H9).mono ?_
            rintro e w8 ⟨rfl, H8, T8⟩
            have H8 := Lib.hid H8
            have T8 := Lib.hid (T9.trans T8 (RowN.none _ _))
            have R9 := Lib.hid R9
            clear H9 T9 hpu fm cm
            go_wp2_with fail
            go_ret
            exact ⟨by rw [HR.out, H2.out]; rfl, p9, by rw [HR.out]; exact H8.out, T8.out, R9.out⟩
        · have HR : Hid (dwrite D a l = (D, 1)) := Lib.hid (by unfold dwrite; rw [hd, if_neg (by simp), if_neg (fun e => by have := e.2; omega)])
          have n64 : ((ll : Int) == 64) = false := by rw [beq_eq_false_iff_ne]; omega
          clear h hd hsl hns hll hr2
          go_enter Try.func23, Try.ntmps23
          go_wp2_with fail
          go_ret
          exact ⟨by rw [HR.out]; rfl, p, by rw [HR.out]; exact STAY.out⟩
end Go.Proofs.Ytncbhpopobjaiaa

/- Disks: the document's disk: Sync. -/
namespace Go.Proofs.Ytncbhpopobjaiaa
set_option linter.unusedVariables false
set_option linter.unusedSimpArgs false
open Go Go.RowKit

theorem dsync_ok {D : Dk} (h0 : D.dead = false) (h : (dstep D).2 = 0) : dsync D = ({ (dstep D).1 with s := dall (dstep D).1.s (dstep D).1.w, w := [] }, 0) := by
  unfold dsync
  rw [h0, if_neg (by simp), if_pos h, (dstep_s D).1, (dstep_s D).2]
theorem dstep_two (D : Dk) : (dstep D).2 = if D.fuse = 0 then 15 else 0 := by
  unfold dstep
  split
  · rfl
  · split <;> rfl
theorem Turn3.mm {w w' : World} {m : Nat} (h : Turn3 w w' m m none) {L : Nat} (hL : L ≤ m) (hz : L ≤ w.heap.size) : Below L w w' := h.below hL hL (fun k e => by cases e) hz
set_option maxRecDepth 100000 in
set_option maxHeartbeats 3200000 in
theorem rsync_any (L m : Nat) (q p : Option Nat) (D : Dk) (w : World) (h : RfAt w L m q p D) (hin : DIn D) (hf : -9223372036854775808 ≤ D.fuse ∧ D.fuse ≤ 9223372036854775807) (hw : D.w.length ≤ 65536) (hs : D.s.length ≤ 65536) (hL : L ≤ w.heap.size) :
    Calls Try.prog 38 #[.pointer (some ⟨m, 0, none⟩)] w fun e w' => e = .returned (.int .i64 (dsync D).2) ∧ ∃ q' p', RfAt w' L m q' p' (dsync D).1 ∧ Turn3 w w' m m none ∧ RowN w q q' ∧ RowN w p p' := by
  obtain ⟨A, c, A', c', h0, h1, h2, h3, hr1, hr2, e1, e2, hz⟩ := h.cells
  clear hr1 hr2 e1 e2 hz h0 h1 h2
  have hm := h.lt
  cases hd : D.dead with
  | true =>
    rw [hd] at h3
    have HR : Hid (dsync D = (D, 15)) := Lib.hid (by unfold dsync; rw [hd]; rfl)
    have H := Lib.hid h
    clear h hd hin
    go_enter Try.func38, Try.ntmps38
    go_wp2_with fail
    go_ret
    exact ⟨by rw [HR.out]; rfl, q, p, by rw [HR.out]; exact H.out, Turn3.refl _ _ _ _, RowN.refl _ _, RowN.refl _ _⟩
  | false =>
    rw [hd] at h3
    have HST := rstep_any L m q p D w h hf
    by_cases f0 : D.fuse = 0
    · rw [decide_eq_true f0] at HST
      have HR : Hid (dsync D = ((dstep D).1, 15)) := Lib.hid (by
        have := dstep_two D
        rw [if_pos f0] at this
        unfold dsync
        rw [hd, if_neg (by simp), this, if_neg (by decide), ← this])
      replace HST := Lib.hid HST
      clear h hd hin f0
      go_enter Try.func38, Try.ntmps38
      go_wp2_with fail
      refine HST.out.mono ?_
      rintro e w1 ⟨rfl, H1, T1⟩
      replace H1 := Lib.hid H1
      replace T1 := Lib.hid T1
      go_wp2_with fail
      go_ret
      exact ⟨by rw [HR.out]; rfl, q, p, by rw [HR.out]; exact H1.out, T1.out, RowN.refl _ _, RowN.refl _ _⟩
    · rw [decide_eq_false f0] at HST
      have hz2 : (dstep D).2 = 0 := by rw [dstep_two, if_neg f0]
      have HR := dsync_ok hd hz2
      have hin1 := hin.step
      have hs1 := (dstep_s D).1
      have hw1 := (dstep_s D).2
      obtain ⟨E, hE⟩ : ∃ E, E = (dstep D).1 := ⟨_, rfl⟩
      rw [← hE] at HR HST hin1 hs1 hw1
      rw [← hw1] at hw
      rw [← hs1] at hs
      replace HR := Lib.hid HR
      replace HST := Lib.hid HST
      have HIN := Lib.hid hin1
      have HSE := Lib.hid hs
      obtain ⟨nw, hnw⟩ : ∃ nw, nw = E.w.length := ⟨_, rfl⟩
      rw [← hnw] at hw
      have HNW := Lib.hid hnw
      have H0 : Hid (dall E.s (E.w.take 0) = E.s) := Lib.hid rfl
      clear h hd hin hin1 f0 hz2 hs1 hw1 hE hs hnw hf
      go_enter Try.func38, Try.ntmps38
      go_wp2_with fail
      refine HST.out.mono ?_
      rintro e w1 ⟨rfl, H1, T1⟩
      replace H1 := Lib.hid H1
      replace T1 := Lib.hid T1
      have HQ0 : Hid (RowN w q q) := Lib.hid (RowN.refl _ _)
      clear HST h3
      go_wp2_with fail
      go_loopw [3] (fun i wr => ∃ k : Nat, k ≤ nw ∧ i = .int .i64 (k : Int) ∧ ∃ q', Hid (RfAt wr L m q' p { E with s := dall E.s (E.w.take k) }) ∧ Hid (Turn3 w wr m m none) ∧ Hid (RowN w q q')) (fun i _ => nw - (intOf i).toNat)
      case atStart => exact ⟨0, by omega, rfl, q, H1, T1, HQ0⟩
      case round =>
        clear H1 T1 HQ0 H0
        obtain ⟨k, hk, rfl, q', HF, HT, HQ⟩ := hrel
        obtain ⟨A, c, A', c', k0, k1, k2, k3, r1, r2, e1, e2, hz⟩ := HF.out.cells
        dsimp only at k1 r2
        rw [← HNW.out] at k1
        have hz1 := hz 1
        have hmr := HF.out.lt
        have hzr : L ≤ wr.heap.size := Nat.le_trans hL HT.out.size
        clear k0 k2 k3 r1 e1 hz
        by_cases hlt : k < nw
        · have d1 : decide ((k : Int) < (nw : Int)) = true := decide_eq_true (by omega)
          have hkl : k < E.w.length := by rw [← HNW.out]; exact hlt
          have hkn : ¬ nw ≤ k := by omega
          obtain ⟨g2, eg⟩ := row_some r2 (by omega)
          obtain ⟨b2, o2, e3, hb2, hr2⟩ := sees_rw (wtl_len _) (row_sees r2) (by decide : 0 < 2) k hkl
          subst eg
          injection e3 with e3
          injection e3 with e3 e4
          subst e3
          subst e4
          have hbm : g2 ≠ m := fun e => HF.out.pm (by rw [e2, e]; rfl)
          clear e2
          have hid := HIN.out _ (List.getElem_mem hkl)
          have hda := dall_take E.s E.w k hkl
          obtain ⟨x, hx⟩ : ∃ x, x = E.w[k] := ⟨_, rfl⟩
          rw [← hx] at hr2 hid hda
          clear hx r2
          obtain ⟨xa, xb⟩ := x
          unfold dhas at hid
          rw [decide_eq_true_eq] at hid
          dsimp only at hid
          obtain ⟨j, rfl⟩ : ∃ j : Nat, xa = (j : Int) := ⟨xa.toNat, by omega⟩
          rw [Nat.zero_add] at hr2
          have p0 : wr.cell? ⟨g2, k * 2, none⟩ = some (.int .i64 (j : Int)) := hr2 0 _ rfl
          have p1 : wr.cell? ⟨g2, k * 2 + 1, none⟩ = some (.string (str xb.1)) := hr2 1 _ rfl
          obtain ⟨sb, hsb⟩ : ∃ sb, sb = str xb.1 := ⟨_, rfl⟩
          rw [← hsb] at p1
          have hdl := dall_len (E.w.take k) E.s
          obtain ⟨qo, hqo⟩ : ∃ qo, qo = q' := ⟨_, rfl⟩
          rw [← hqo] at HF HQ
          have HPT : Hid (∀ W, RfAt W L m qo p { E with s := dall E.s (E.w.take k) } → L ≤ W.heap.size → Calls Try.prog 40 #[.pointer (some ⟨m, 0, none⟩), .int .i64 (j : Int), .string sb] W fun e w' => e = .returned (.tuple #[]) ∧ ∃ q', RfAt w' L m q' p { E with s := dall E.s (E.w.take (k + 1)) } ∧ Turn3 W w' m m none ∧ RowN W qo q' ∧ w'.cell? ⟨m, 1, none⟩ = W.cell? ⟨m, 1, none⟩) := Lib.hid (fun W hh hl => by
            have := rput_any L m qo p { E with s := dall E.s (E.w.take k) } j (xb, false) sb (by rw [hsb]; rfl) W hh (by dsimp only; rw [hdl]; omega) (by dsimp only; rw [hdl]; exact HSE.out) hl
            rw [hda]
            unfold dsettle
            rw [if_pos rfl]
            exact this)
          clear hr2 hid hda hsb hdl hqo q'
          have HH := Lib.hid HF.out.drew
          have hS : wr.drew.cell? ⟨m, 1, none⟩ = some (.slice (some ⟨g2, 0, none⟩) nw c') ∧ wr.drew.cell? ⟨g2, k * 2, none⟩ = some (.int .i64 (j : Int)) ∧ wr.drew.cell? ⟨g2, k * 2 + 1, none⟩ = some (.string sb) := ⟨k1, p0, p1⟩
          have hz0 : L ≤ wr.drew.heap.size := hzr
          have hg0 : g2 < wr.drew.heap.size := hb2
          have HT0 : Hid (Turn3 w wr.drew m m none) := Lib.hid (HT.out.trans (Turn3.of_below (Below.refl wr.heap.size wr).drew m m none) (RowN.refl _ _))
          go_wp2_with fail
          clear k1 p0 p1
          refine wp_region_held (S := fun wx => wx.cell? ⟨m, 1, none⟩ = some (.slice (some ⟨g2, 0, none⟩) nw c') ∧ wx.cell? ⟨g2, k * 2, none⟩ = some (.int .i64 (j : Int)) ∧ wx.cell? ⟨g2, k * 2 + 1, none⟩ = some (.string sb)) (by kernel_rfl) ?_
          show Go.wpAnyH Try.prog Region.Mode.any _ _ _ _ _ _ wr.drew
          generalize wr.drew = wd at hS HH hz0 hg0 HT0 ⊢
          refine takeH (i := 0) (oi := _) (v := (.pointer (some ⟨m, 0, none⟩))) (fuel := 17) (some 21) rfl rfl (by kernel_rfl) (by kernel_rfl) (by kernel_rfl) (fun _ _ _ h => h) (.inl ⟨by rfl, fun wx hS => by simp [go_sem]⟩) hS ?_
          simp only [Act.put, List.setIfInBounds_toArray, List.set_cons_zero, List.set_cons_succ]
          refine takeH (i := 1) (oi := _) (v := (.pointer (some ⟨m, 0, none⟩))) (fuel := 16) (some 22) rfl rfl (by kernel_rfl) (by kernel_rfl) (by kernel_rfl) (fun _ _ _ h => h) (.inl ⟨by rfl, fun wx hS => by simp [go_sem]⟩) hS ?_
          simp only [Act.put, List.setIfInBounds_toArray, List.set_cons_zero, List.set_cons_succ]
          refine takeH (i := 2) (oi := _) (v := (.pointer (some ⟨m, 0, none⟩))) (fuel := 15) (some 23) rfl rfl (by kernel_rfl) (by kernel_rfl) (by kernel_rfl) (fun _ _ _ h => h) (.inl ⟨by rfl, fun wx hS => by simp [go_sem]⟩) hS ?_
          simp only [Act.put, List.setIfInBounds_toArray, List.set_cons_zero, List.set_cons_succ]
          refine takeH (i := 3) (oi := _) (v := (.pointer (some ⟨m, 1, none⟩))) (fuel := 14) (some 24) rfl rfl (by kernel_rfl) (by kernel_rfl) (by kernel_rfl) (fun _ _ _ h => h) (.inl ⟨by rfl, fun wx hS => by simp [go_sem]⟩) hS ?_
          simp only [Act.put, List.setIfInBounds_toArray, List.set_cons_zero, List.set_cons_succ]
          refine takeH (i := 4) (oi := _) (v := (.slice (some ⟨g2, 0, none⟩) nw c')) (fuel := 13) (some 25) rfl rfl (by kernel_rfl) (by kernel_rfl) (by kernel_rfl) (fun _ _ _ h => h) (.inl ⟨by rfl, fun wx hS => by simp [go_sem, hS.1]⟩) hS ?_
          simp only [Act.put, List.setIfInBounds_toArray, List.set_cons_zero, List.set_cons_succ]
          refine takeH (i := 5) (oi := _) (v := (.int .i64 (k : Int))) (fuel := 12) (some 26) rfl rfl (by kernel_rfl) (by kernel_rfl) (by kernel_rfl) (fun _ _ _ h => h) (.inl ⟨by rfl, fun wx hS => by simp [go_sem]⟩) hS ?_
          simp only [Act.put, List.setIfInBounds_toArray, List.set_cons_zero, List.set_cons_succ]
          refine takeH (i := 6) (oi := _) (v := (.pointer (some ⟨g2, k * 2, none⟩))) (fuel := 11) (some 27) rfl rfl (by kernel_rfl) (by kernel_rfl) (by kernel_rfl) (fun _ _ _ h => h) (.inl ⟨by rfl, fun wx hS => by simp [go_sem, hkn]⟩) hS ?_
          simp only [Act.put, List.setIfInBounds_toArray, List.set_cons_zero, List.set_cons_succ]
          refine takeH (i := 7) (oi := _) (v := (.pointer (some ⟨g2, k * 2, none⟩))) (fuel := 10) (some 28) rfl rfl (by kernel_rfl) (by kernel_rfl) (by kernel_rfl) (fun _ _ _ h => h) (.inl ⟨by rfl, fun wx hS => by simp [go_sem]⟩) hS ?_
          simp only [Act.put, List.setIfInBounds_toArray, List.set_cons_zero, List.set_cons_succ]
          refine takeH (i := 8) (oi := _) (v := (.int .i64 (j : Int))) (fuel := 9) (some 29) rfl rfl (by kernel_rfl) (by kernel_rfl) (by kernel_rfl) (fun _ _ _ h => h) (.inl ⟨by rfl, fun wx hS => by simp [go_sem, hS.2.1]⟩) hS ?_
          simp only [Act.put, List.setIfInBounds_toArray, List.set_cons_zero, List.set_cons_succ]
          refine takeH (i := 9) (oi := _) (v := (.pointer (some ⟨m, 0, none⟩))) (fuel := 8) (some 30) rfl rfl (by kernel_rfl) (by kernel_rfl) (by kernel_rfl) (fun _ _ _ h => h) (.inl ⟨by rfl, fun wx hS => by simp [go_sem]⟩) hS ?_
          simp only [Act.put, List.setIfInBounds_toArray, List.set_cons_zero, List.set_cons_succ]
          refine takeH (i := 10) (oi := _) (v := (.pointer (some ⟨m, 0, none⟩))) (fuel := 7) (some 31) rfl rfl (by kernel_rfl) (by kernel_rfl) (by kernel_rfl) (fun _ _ _ h => h) (.inl ⟨by rfl, fun wx hS => by simp [go_sem]⟩) hS ?_
          simp only [Act.put, List.setIfInBounds_toArray, List.set_cons_zero, List.set_cons_succ]
          refine takeH (i := 11) (oi := _) (v := (.pointer (some ⟨m, 1, none⟩))) (fuel := 6) (some 32) rfl rfl (by kernel_rfl) (by kernel_rfl) (by kernel_rfl) (fun _ _ _ h => h) (.inl ⟨by rfl, fun wx hS => by simp [go_sem]⟩) hS ?_
          simp only [Act.put, List.setIfInBounds_toArray, List.set_cons_zero, List.set_cons_succ]
          refine takeH (i := 12) (oi := _) (v := (.slice (some ⟨g2, 0, none⟩) nw c')) (fuel := 5) (some 33) rfl rfl (by kernel_rfl) (by kernel_rfl) (by kernel_rfl) (fun _ _ _ h => h) (.inl ⟨by rfl, fun wx hS => by simp [go_sem, hS.1]⟩) hS ?_
          simp only [Act.put, List.setIfInBounds_toArray, List.set_cons_zero, List.set_cons_succ]
          refine takeH (i := 13) (oi := _) (v := (.int .i64 (k : Int))) (fuel := 4) (some 34) rfl rfl (by kernel_rfl) (by kernel_rfl) (by kernel_rfl) (fun _ _ _ h => h) (.inl ⟨by rfl, fun wx hS => by simp [go_sem]⟩) hS ?_
          simp only [Act.put, List.setIfInBounds_toArray, List.set_cons_zero, List.set_cons_succ]
          refine takeH (i := 14) (oi := _) (v := (.pointer (some ⟨g2, k * 2, none⟩))) (fuel := 3) (some 35) rfl rfl (by kernel_rfl) (by kernel_rfl) (by kernel_rfl) (fun _ _ _ h => h) (.inl ⟨by rfl, fun wx hS => by simp [go_sem, hkn]⟩) hS ?_
          simp only [Act.put, List.setIfInBounds_toArray, List.set_cons_zero, List.set_cons_succ]
          refine takeH (i := 15) (oi := _) (v := (.pointer (some ⟨g2, k * 2 + 1, none⟩))) (fuel := 2) (some 36) rfl rfl (by kernel_rfl) (by kernel_rfl) (by kernel_rfl) (fun _ _ _ h => h) (.inl ⟨by rfl, fun wx hS => by simp [go_sem]⟩) hS ?_
          simp only [Act.put, List.setIfInBounds_toArray, List.set_cons_zero, List.set_cons_succ]
          refine takeH (i := 16) (oi := _) (v := (.string sb)) (fuel := 1) (some 37) rfl rfl (by kernel_rfl) (by kernel_rfl) (by kernel_rfl) (fun _ _ _ h => h) (.inl ⟨by rfl, fun wx hS => by simp [go_sem, hS.2.2]⟩) hS ?_
          simp only [Act.put, List.setIfInBounds_toArray, List.set_cons_zero, List.set_cons_succ]
          refine allH [17] 17 (fuel := 0) (by kernel_rfl) ?_
          refine callH (some 38) _ rfl rfl 40 #[.pointer (some ⟨m, 0, none⟩), .int .i64 (j : Int), .string sb] (by simp [go_sem]) (by rfl) ?_
          refine (HPT.out wd HH.out hz0).mono ?_
          rintro e w4 ⟨rfl, q4, H4, T4, R4, c4⟩
          have hS4 : w4.cell? ⟨m, 1, none⟩ = some (.slice (some ⟨g2, 0, none⟩) nw c') ∧ w4.cell? ⟨g2, k * 2, none⟩ = some (.int .i64 (j : Int)) ∧ w4.cell? ⟨g2, k * 2 + 1, none⟩ = some (.string sb) := ⟨c4.trans hS.1, (T4.cell hg0 hbm).trans hS.2.1, (T4.cell hg0 hbm).trans hS.2.2⟩
          refine ⟨_, rfl, hS4, ?_⟩
          have H4 := Lib.hid H4
          have HT4 := Lib.hid (HT0.out.trans T4 (RowN.none _ _))
          have HQ4 : Hid (RowN w q q4) := Lib.hid (fun z hz => by
            rcases R4 z hz with h5 | h5
            · exact HQ.out z h5
            · exact .inr (Nat.le_trans HT0.out.size h5))
          clear hS hS4 c4 T4 R4
          simp only [Act.put, List.setIfInBounds_toArray, List.set_cons_zero, List.set_cons_succ]
          refine wpAnyH_done (by kernel_rfl) ?_ 0
          go_wp2_with fail
          go_roundw
          case rel => exact ⟨k + 1, by omega, by go_num, q4, H4, HT4, HQ4⟩
          case measure => simp [intOf]; omega
        · obtain rfl : nw = k := by omega
          have d1 : decide ((nw : Int) < (nw : Int)) = false := by simp
          have HN := Lib.hid HF.out.setNone
          have HTT := Lib.hid (HT.out.trans (Turn3.set wr m m m 1 none (.slice none 0 0) (.inl rfl)) (RowN.refl _ _))
          have e9 : E.w.take nw = E.w := by rw [HNW.out]; exact List.take_length
          rw [e9] at HN
          clear e9 r2 e2
          go_wp2_with fail
          go_ret
          exact ⟨by rw [HR.out]; rfl, q', none, by rw [HR.out]; exact HN.out, HTT.out, HQ.out, RowN.none _ _⟩
end Go.Proofs.Ytncbhpopobjaiaa

/- Disks: the document's disk: Crash. -/
namespace Go.Proofs.Ytncbhpopobjaiaa
set_option linter.unusedVariables false
set_option linter.unusedSimpArgs false
open Go Go.RowKit

theorem outc_pos {keep : List Int} {k : Nat} (h : k < keep.length) (hz : 0 ≤ keep[k]) : outc keep k = keep[k] % 3 := by
  rw [outc_yes h]
  split
  · rfl
  · rw [show keep[k] = 0 by omega]
    rfl
theorem outc_neg {keep : List Int} {k : Nat} (h : k < keep.length) (hz : ¬ 0 ≤ keep[k]) : outc keep k = 0 := by
  rw [outc_yes h, if_neg (by omega)]
theorem exec_rem3 {o : Oper} {a : Act} {w : World} (x y : Operand) (u : TypeId) (ho : o.op = .binOp .rem 3 x y u) (z oc : Int) (hx : a.eval x = .int .i64 z) (hy : a.eval y = .int .i64 3) (t1 : Int.tmod z 3 = oc) : (execOp a.eval o).run Try.prog w = .ok (.value (.int .i64 oc)) w := by
  unfold execOp
  generalize a.eval = ρ at hx hy
  simp [go_sem, ho, hx, hy, t1]
set_option maxRecDepth 100000 in
set_option maxHeartbeats 6400000 in
theorem rcrash_any (L m : Nat) (q p : Option Nat) (D : Dk) (A1 : Option Addr) (n1 c1 : Nat) (keep : List Int) (w : World) (h : RfAt w L m q p D) (hin : DIn D) (hw : D.w.length ≤ 65536) (hs : D.s.length ≤ 65536) (hL : L ≤ w.heap.size) (hk1 : keep.length = n1) (hn1 : n1 ≤ maxLen)
    (hsee : ∀ W, Turn3 w W m m none → Sees W W.heap.size A1 (ivs keep)) :
    Calls Try.prog 21 #[.pointer (some ⟨m, 0, none⟩), .slice A1 n1 c1] w fun e w' => e = .returned (.tuple #[]) ∧ ∃ q', RfAt w' L m q' none (dcrash D keep) ∧ Turn3 w w' m m none ∧ RowN w q q' := by
  unfold maxLen at hn1
  have HIN := Lib.hid hin
  have HSE := Lib.hid hs
  have HSEE := Lib.hid hsee
  have HKL := Lib.hid hk1
  obtain ⟨nw, hnw⟩ : ∃ nw, nw = D.w.length := ⟨_, rfl⟩
  rw [← hnw] at hw
  have HNW := Lib.hid hnw
  have HQ0 : Hid (RowN w q q) := Lib.hid (RowN.refl _ _)
  have T1 : Hid (Turn3 w w m m none) := Lib.hid (Turn3.refl _ _ _ _)
  have H1 : Hid (RfAt w L m q p { D with s := dkeep keep 0 D.s (D.w.take 0) }) := Lib.hid h
  clear h hin hs hsee hk1 hnw
  go_enter Try.func21, Try.ntmps21
  go_wp2_with fail
  go_loopw [4] (fun i wr => ∃ k : Nat, k ≤ nw ∧ i = .int .i64 (k : Int) ∧ ∃ q', Hid (RfAt wr L m q' p { D with s := dkeep keep 0 D.s (D.w.take k) }) ∧ Hid (Turn3 w wr m m none) ∧ Hid (RowN w q q')) (fun i _ => nw - (intOf i).toNat)
  case atStart => exact ⟨0, by omega, rfl, q, H1, T1, HQ0⟩
  case round =>
    clear H1 T1 HQ0
    obtain ⟨k, hk, rfl, qo, HF, HT, HQ⟩ := hrel
    obtain ⟨A, c, A', c', k0, k1, k2, k3, r1, r2, e1, e2, hz⟩ := HF.out.cells
    dsimp only at k1 k2 k3 r2
    rw [← HNW.out] at k1
    have hmr := HF.out.lt
    have hzr : L ≤ wr.heap.size := Nat.le_trans hL HT.out.size
    clear k0 r1 e1
    by_cases hlt : k < nw
    · have d1 : decide ((k : Int) < (nw : Int)) = true := decide_eq_true (by omega)
      have hkl : k < D.w.length := by rw [← HNW.out]; exact hlt
      have hkn : ¬ nw ≤ k := by omega
      obtain ⟨g2, eg⟩ := row_some r2 (by omega)
      obtain ⟨b2, o2, e3, hb2, hr2⟩ := sees_rw (wtl_len _) (row_sees r2) (by decide : 0 < 2) k hkl
      subst eg
      injection e3 with e3
      injection e3 with e3 e4
      subst e3
      subst e4
      have hbm : g2 ≠ m := fun e => HF.out.pm (by rw [e2, e]; rfl)
      clear e2 k2 k3 hz
      have hid := HIN.out _ (List.getElem_mem hkl)
      have hda := dkeep_take keep D.s D.w k hkl
      obtain ⟨x, hx⟩ : ∃ x, x = D.w[k] := ⟨_, rfl⟩
      rw [← hx] at hr2 hid hda
      clear hx r2
      obtain ⟨xa, xb⟩ := x
      unfold dhas at hid
      rw [decide_eq_true_eq] at hid
      dsimp only at hid
      obtain ⟨j, rfl⟩ : ∃ j : Nat, xa = (j : Int) := ⟨xa.toNat, by omega⟩
      rw [Nat.zero_add] at hr2
      have p0 : wr.cell? ⟨g2, k * 2, none⟩ = some (.int .i64 (j : Int)) := hr2 0 _ rfl
      have p1 : wr.cell? ⟨g2, k * 2 + 1, none⟩ = some (.string (str xb.1)) := hr2 1 _ rfl
      obtain ⟨sb, hsb⟩ : ∃ sb, sb = str xb.1 := ⟨_, rfl⟩
      rw [← hsb] at p1
      have hdl := dkeep_len keep (D.w.take k) 0 D.s
      obtain ⟨S1, hS1⟩ : ∃ S1, S1 = dkeep keep 0 D.s (D.w.take k) := ⟨_, rfl⟩
      obtain ⟨S2, hS2⟩ : ∃ S2, S2 = dkeep keep 0 D.s (D.w.take (k + 1)) := ⟨_, rfl⟩
      rw [← hS1] at hdl hda HF
      rw [← hS2] at hda
      obtain ⟨oc, hoc⟩ : ∃ oc, oc = outc keep k := ⟨_, rfl⟩
      rw [← hoc] at hda
      have HP1 : Hid (oc = 1 → ∀ W, RfAt W L m qo p { D with s := S1 } → L ≤ W.heap.size → Calls Try.prog 40 #[.pointer (some ⟨m, 0, none⟩), .int .i64 (j : Int), .string sb] W fun e w' => e = .returned (.tuple #[]) ∧ ∃ q', RfAt w' L m q' p { D with s := S2 } ∧ Turn3 W w' m m none ∧ RowN W qo q' ∧ w'.cell? ⟨m, 1, none⟩ = W.cell? ⟨m, 1, none⟩) := Lib.hid (fun ho W hh hl => by
        have := rput_any L m qo p { D with s := S1 } j (xb, false) sb (by rw [hsb]; rfl) W hh (by dsimp only; rw [hdl]; omega) (by dsimp only; rw [hdl]; exact HSE.out) hl
        rw [hda]
        unfold dsettle
        rw [if_pos ho]
        exact this)
      have HP2 : Hid (oc = 2 → ∀ W, RfAt W L m qo p { D with s := S1 } → L ≤ W.heap.size → Calls Try.prog 40 #[.pointer (some ⟨m, 0, none⟩), .int .i64 (j : Int), .string ⟨#[]⟩] W fun e w' => e = .returned (.tuple #[]) ∧ ∃ q', RfAt w' L m q' p { D with s := S2 } ∧ Turn3 W w' m m none ∧ RowN W qo q' ∧ w'.cell? ⟨m, 1, none⟩ = W.cell? ⟨m, 1, none⟩) := Lib.hid (fun ho W hh hl => by
        have := rput_any L m qo p { D with s := S1 } j ((S1.getD j (z64, false)).1, true) ⟨#[]⟩ rfl W hh (by dsimp only; rw [hdl]; omega) (by dsimp only; rw [hdl]; exact HSE.out) hl
        rw [hda]
        unfold dsettle
        rw [if_neg (by omega), if_pos ho]
        exact this)
      have HSAME : Hid (oc = 0 → S2 = S1) := Lib.hid (fun ho => by
        rw [hda]
        unfold dsettle
        rw [if_neg (by omega), if_neg (by omega)])
      have HH := Lib.hid HF.out.drew
      have hS : wr.drew.cell? ⟨m, 1, none⟩ = some (.slice (some ⟨g2, 0, none⟩) nw c') ∧ wr.drew.cell? ⟨g2, k * 2, none⟩ = some (.int .i64 (j : Int)) ∧ wr.drew.cell? ⟨g2, k * 2 + 1, none⟩ = some (.string sb) := ⟨k1, p0, p1⟩
      have hz0 : L ≤ wr.drew.heap.size := hzr
      have hg0 : g2 < wr.drew.heap.size := hb2
      have HT0 : Hid (Turn3 w wr.drew m m none) := Lib.hid (HT.out.trans (Turn3.of_below (Below.refl wr.heap.size wr).drew m m none) (RowN.refl _ _))
      have HS2 := Lib.hid hS2
      clear hr2 hid hda hsb hdl hS1
      have hkeep := HSEE.out wr HT.out
      by_cases hk9 : k < n1
      · have d9 : decide ((k : Int) < (n1 : Int)) = true := decide_eq_true (by omega)
        have hkk : k < keep.length := by rw [HKL.out]; exact hk9
        obtain ⟨bk, ok, ek, hbk, hck⟩ := hkeep.int k hkk
        subst ek
        have hp := outc_pos hkk
        have hn := outc_neg hkk
        rw [← hoc] at hp hn
        generalize keep[k] = z at hck hp hn
        clear hoc hbk
        by_cases hz0' : 0 ≤ z
        · have dz : decide (0 ≤ z) = true := decide_eq_true hz0'
          have hp := hp hz0'
          have t1 : Int.tmod z 3 = oc := by rw [hp]; exact Int.tmod_eq_emod_of_nonneg (by omega)
          have t2 : z % 3 = oc := hp.symm
          have h012 : oc = 0 ∨ oc = 1 ∨ oc = 2 := by omega
          clear hp hn
          rcases h012 with h0 | h0 | h0
          · replace HSAME : Hid (RfAt wr L m qo p { D with s := dkeep keep 0 D.s (D.w.take (k + 1)) }) := Lib.hid (by rw [← HS2.out, HSAME.out h0]; exact HF.out)
            subst h0
            have HREM := Lib.hid t1
            clear HP1 HP2 hS t1 t2
            go_wp2_with (first
              | (refine wpList_exec (by rfl) (.int .i64 0) (exec_rem3 (.tmp 29) _ _ rfl z 0 rfl rfl HREM.out) ?_)
              | fail)
            go_roundw
            case rel => exact ⟨k + 1, by omega, by go_num, qo, HSAME.out, HT, HQ⟩
            case measure => simp [intOf]; omega
          · replace HP1 := Lib.hid (HP1.out h0)
            rw [HS2.out] at HP1
            subst h0
            have HREM := Lib.hid t1
            clear HP2 HSAME t1 t2
            go_wp2_with (first
              | (refine wpList_exec (by rfl) (.int .i64 1) (exec_rem3 (.tmp 29) _ _ rfl z 1 rfl rfl HREM.out) ?_)
              | fail)
            clear k1 p0 p1
            refine wp_region_held (S := fun wx => wx.cell? ⟨m, 1, none⟩ = some (.slice (some ⟨g2, 0, none⟩) nw c') ∧ wx.cell? ⟨g2, k * 2, none⟩ = some (.int .i64 (j : Int)) ∧ wx.cell? ⟨g2, k * 2 + 1, none⟩ = some (.string sb)) (by kernel_rfl) ?_
            show Go.wpAnyH Try.prog Region.Mode.any _ _ _ _ _ _ wr.drew
            generalize wr.drew = wd at hS HH hz0 hg0 HT0 ⊢
            refine takeH (i := 0) (oi := _) (v := (.pointer (some ⟨m, 0, none⟩))) (fuel := 17) (some 33) rfl rfl (by kernel_rfl) (by kernel_rfl) (by kernel_rfl) (fun _ _ _ h => h) (.inl ⟨by rfl, fun wx hS => by simp [go_sem]⟩) hS ?_
            simp only [Act.put, List.setIfInBounds_toArray, List.set_cons_zero, List.set_cons_succ]
            refine takeH (i := 1) (oi := _) (v := (.pointer (some ⟨m, 0, none⟩))) (fuel := 16) (some 34) rfl rfl (by kernel_rfl) (by kernel_rfl) (by kernel_rfl) (fun _ _ _ h => h) (.inl ⟨by rfl, fun wx hS => by simp [go_sem]⟩) hS ?_
            simp only [Act.put, List.setIfInBounds_toArray, List.set_cons_zero, List.set_cons_succ]
            refine takeH (i := 2) (oi := _) (v := (.pointer (some ⟨m, 0, none⟩))) (fuel := 15) (some 35) rfl rfl (by kernel_rfl) (by kernel_rfl) (by kernel_rfl) (fun _ _ _ h => h) (.inl ⟨by rfl, fun wx hS => by simp [go_sem]⟩) hS ?_
            simp only [Act.put, List.setIfInBounds_toArray, List.set_cons_zero, List.set_cons_succ]
            refine takeH (i := 3) (oi := _) (v := (.pointer (some ⟨m, 1, none⟩))) (fuel := 14) (some 36) rfl rfl (by kernel_rfl) (by kernel_rfl) (by kernel_rfl) (fun _ _ _ h => h) (.inl ⟨by rfl, fun wx hS => by simp [go_sem]⟩) hS ?_
            simp only [Act.put, List.setIfInBounds_toArray, List.set_cons_zero, List.set_cons_succ]
            refine takeH (i := 4) (oi := _) (v := (.slice (some ⟨g2, 0, none⟩) nw c')) (fuel := 13) (some 37) rfl rfl (by kernel_rfl) (by kernel_rfl) (by kernel_rfl) (fun _ _ _ h => h) (.inl ⟨by rfl, fun wx hS => by simp [go_sem, hS.1]⟩) hS ?_
            simp only [Act.put, List.setIfInBounds_toArray, List.set_cons_zero, List.set_cons_succ]
            refine takeH (i := 5) (oi := _) (v := (.int .i64 (k : Int))) (fuel := 12) (some 38) rfl rfl (by kernel_rfl) (by kernel_rfl) (by kernel_rfl) (fun _ _ _ h => h) (.inl ⟨by rfl, fun wx hS => by simp [go_sem]⟩) hS ?_
            simp only [Act.put, List.setIfInBounds_toArray, List.set_cons_zero, List.set_cons_succ]
            refine takeH (i := 6) (oi := _) (v := (.pointer (some ⟨g2, k * 2, none⟩))) (fuel := 11) (some 39) rfl rfl (by kernel_rfl) (by kernel_rfl) (by kernel_rfl) (fun _ _ _ h => h) (.inl ⟨by rfl, fun wx hS => by simp [go_sem, hkn]⟩) hS ?_
            simp only [Act.put, List.setIfInBounds_toArray, List.set_cons_zero, List.set_cons_succ]
            refine takeH (i := 7) (oi := _) (v := (.pointer (some ⟨g2, k * 2, none⟩))) (fuel := 10) (some 40) rfl rfl (by kernel_rfl) (by kernel_rfl) (by kernel_rfl) (fun _ _ _ h => h) (.inl ⟨by rfl, fun wx hS => by simp [go_sem]⟩) hS ?_
            simp only [Act.put, List.setIfInBounds_toArray, List.set_cons_zero, List.set_cons_succ]
            refine takeH (i := 8) (oi := _) (v := (.int .i64 (j : Int))) (fuel := 9) (some 41) rfl rfl (by kernel_rfl) (by kernel_rfl) (by kernel_rfl) (fun _ _ _ h => h) (.inl ⟨by rfl, fun wx hS => by simp [go_sem, hS.2.1]⟩) hS ?_
            simp only [Act.put, List.setIfInBounds_toArray, List.set_cons_zero, List.set_cons_succ]
            refine takeH (i := 9) (oi := _) (v := (.pointer (some ⟨m, 0, none⟩))) (fuel := 8) (some 42) rfl rfl (by kernel_rfl) (by kernel_rfl) (by kernel_rfl) (fun _ _ _ h => h) (.inl ⟨by rfl, fun wx hS => by simp [go_sem]⟩) hS ?_
            simp only [Act.put, List.setIfInBounds_toArray, List.set_cons_zero, List.set_cons_succ]
            refine takeH (i := 10) (oi := _) (v := (.pointer (some ⟨m, 0, none⟩))) (fuel := 7) (some 43) rfl rfl (by kernel_rfl) (by kernel_rfl) (by kernel_rfl) (fun _ _ _ h => h) (.inl ⟨by rfl, fun wx hS => by simp [go_sem]⟩) hS ?_
            simp only [Act.put, List.setIfInBounds_toArray, List.set_cons_zero, List.set_cons_succ]
            refine takeH (i := 11) (oi := _) (v := (.pointer (some ⟨m, 1, none⟩))) (fuel := 6) (some 44) rfl rfl (by kernel_rfl) (by kernel_rfl) (by kernel_rfl) (fun _ _ _ h => h) (.inl ⟨by rfl, fun wx hS => by simp [go_sem]⟩) hS ?_
            simp only [Act.put, List.setIfInBounds_toArray, List.set_cons_zero, List.set_cons_succ]
            refine takeH (i := 12) (oi := _) (v := (.slice (some ⟨g2, 0, none⟩) nw c')) (fuel := 5) (some 45) rfl rfl (by kernel_rfl) (by kernel_rfl) (by kernel_rfl) (fun _ _ _ h => h) (.inl ⟨by rfl, fun wx hS => by simp [go_sem, hS.1]⟩) hS ?_
            simp only [Act.put, List.setIfInBounds_toArray, List.set_cons_zero, List.set_cons_succ]
            refine takeH (i := 13) (oi := _) (v := (.int .i64 (k : Int))) (fuel := 4) (some 46) rfl rfl (by kernel_rfl) (by kernel_rfl) (by kernel_rfl) (fun _ _ _ h => h) (.inl ⟨by rfl, fun wx hS => by simp [go_sem]⟩) hS ?_
            simp only [Act.put, List.setIfInBounds_toArray, List.set_cons_zero, List.set_cons_succ]
            refine takeH (i := 14) (oi := _) (v := (.pointer (some ⟨g2, k * 2, none⟩))) (fuel := 3) (some 47) rfl rfl (by kernel_rfl) (by kernel_rfl) (by kernel_rfl) (fun _ _ _ h => h) (.inl ⟨by rfl, fun wx hS => by simp [go_sem, hkn]⟩) hS ?_
            simp only [Act.put, List.setIfInBounds_toArray, List.set_cons_zero, List.set_cons_succ]
            refine takeH (i := 15) (oi := _) (v := (.pointer (some ⟨g2, k * 2 + 1, none⟩))) (fuel := 2) (some 48) rfl rfl (by kernel_rfl) (by kernel_rfl) (by kernel_rfl) (fun _ _ _ h => h) (.inl ⟨by rfl, fun wx hS => by simp [go_sem]⟩) hS ?_
            simp only [Act.put, List.setIfInBounds_toArray, List.set_cons_zero, List.set_cons_succ]
            refine takeH (i := 16) (oi := _) (v := (.string sb)) (fuel := 1) (some 49) rfl rfl (by kernel_rfl) (by kernel_rfl) (by kernel_rfl) (fun _ _ _ h => h) (.inl ⟨by rfl, fun wx hS => by simp [go_sem, hS.2.2]⟩) hS ?_
            simp only [Act.put, List.setIfInBounds_toArray, List.set_cons_zero, List.set_cons_succ]
            refine allH [17] 17 (fuel := 0) (by kernel_rfl) ?_
            refine callH (some 50) _ rfl rfl 40 #[.pointer (some ⟨m, 0, none⟩), .int .i64 (j : Int), .string sb] (by simp [go_sem]) (by rfl) ?_
            refine (HP1.out wd HH.out hz0).mono ?_
            rintro e w4 ⟨rfl, q4, H4, T4, R4, c4⟩
            have hS4 : w4.cell? ⟨m, 1, none⟩ = some (.slice (some ⟨g2, 0, none⟩) nw c') ∧ w4.cell? ⟨g2, k * 2, none⟩ = some (.int .i64 (j : Int)) ∧ w4.cell? ⟨g2, k * 2 + 1, none⟩ = some (.string sb) := ⟨c4.trans hS.1, (T4.cell hg0 hbm).trans hS.2.1, (T4.cell hg0 hbm).trans hS.2.2⟩
            refine ⟨_, rfl, hS4, ?_⟩
            have H4 := Lib.hid H4
            have HT4 := Lib.hid (HT0.out.trans T4 (RowN.none _ _))
            have HQ4 : Hid (RowN w q q4) := Lib.hid (fun z hz => by
              rcases R4 z hz with h5 | h5
              · exact HQ.out z h5
              · exact .inr (Nat.le_trans HT0.out.size h5))
            clear hS hS4 c4 T4 R4
            simp only [Act.put, List.setIfInBounds_toArray, List.set_cons_zero, List.set_cons_succ]
            refine wpAnyH_done (by kernel_rfl) ?_ 0
            go_wp2_with fail
            go_roundw
            case rel => exact ⟨k + 1, by omega, by go_num, q4, H4, HT4, HQ4⟩
            case measure => simp [intOf]; omega
          · replace HP2 := Lib.hid (HP2.out h0)
            rw [HS2.out] at HP2
            subst h0
            have HREM := Lib.hid t1
            clear HP1 HSAME hS t1 t2
            go_wp2_with (first
              | (refine wpList_exec (by rfl) (.int .i64 2) (exec_rem3 (.tmp 29) _ _ rfl z 2 rfl rfl HREM.out) ?_)
              | fail)
            clear k1 p0 p1
            refine (HP2.out _ HF.out hzr).mono ?_
            rintro e w4 ⟨rfl, q4, H4, T4, R4, c4⟩
            have H4 := Lib.hid H4
            have HT4 := Lib.hid (HT.out.trans T4 (RowN.none _ _))
            have HQ4 : Hid (RowN w q q4) := Lib.hid (fun z hz => by
              rcases R4 z hz with h5 | h5
              · exact HQ.out z h5
              · exact .inr (Nat.le_trans HT.out.size h5))
            clear c4 T4 R4
            go_wp2_with fail
            go_roundw
            case rel => exact ⟨k + 1, by omega, by go_num, q4, H4, HT4, HQ4⟩
            case measure => simp [intOf]; omega
        · have dz : decide (0 ≤ z) = false := decide_eq_false hz0'
          replace HSAME : Hid (RfAt wr L m qo p { D with s := dkeep keep 0 D.s (D.w.take (k + 1)) }) := Lib.hid (by rw [← HS2.out, HSAME.out (hn hz0')]; exact HF.out)
          clear HP1 HP2 hS hp hn
          go_wp2_with fail
          go_roundw
          case rel => exact ⟨k + 1, by omega, by go_num, qo, HSAME.out, HT, HQ⟩
          case measure => simp [intOf]; omega
      · have d9 : decide ((k : Int) < (n1 : Int)) = false := decide_eq_false (by omega)
        have ho := hoc.trans (outc_no (by rw [HKL.out]; omega))
        replace HSAME : Hid (RfAt wr L m qo p { D with s := dkeep keep 0 D.s (D.w.take (k + 1)) }) := Lib.hid (by rw [← HS2.out, HSAME.out ho]; exact HF.out)
        clear HP1 HP2 hS hoc ho
        go_wp2_with fail
        go_roundw
        case rel => exact ⟨k + 1, by omega, by go_num, qo, HSAME.out, HT, HQ⟩
        case measure => simp [intOf]; omega
    · obtain rfl : nw = k := by omega
      have d1 : decide ((nw : Int) < (nw : Int)) = false := by simp
      have hz1 := hz 1
      have hz2 := hz 2
      have hz3 := hz 3
      have HN := Lib.hid ((HF.out.setNone.setDead false).setFuse (-1))
      have HTT := Lib.hid (((HT.out.trans (Turn3.set wr m m m 1 none (.slice none 0 0) (.inl rfl)) (RowN.refl _ _)).trans (Turn3.set _ m m m 3 none (.bool false) (.inl rfl)) (RowN.refl _ _)).trans (Turn3.set _ m m m 2 none (.int .i64 (-1)) (.inl rfl)) (RowN.refl _ _))
      have e9 : D.w.take nw = D.w := by rw [HNW.out]; exact List.take_length
      rw [e9] at HN
      clear e9 r2 e2 hz
      go_wp2_with fail
      go_end0
      exact ⟨rfl, qo, HN.out, HTT.out, HQ.out⟩
end Go.Proofs.Ytncbhpopobjaiaa

/- Disks: what is done with no disk: Write, Sync, Read, Crash, Clone. -/
namespace Go.Proofs.Ytncbhpopobjaiaa
set_option linter.unusedVariables false
set_option linter.unusedSimpArgs false
open Go Go.RowKit

set_option maxRecDepth 100000 in
theorem write_nil (a : Int) (t : ByteArray) (w : World) : Calls Try.prog 22 #[.pointer none, .int .i64 a, .string t] w fun e w' => e = .returned (.int .i64 14) ∧ w = w' := by
  go_enter Try.func22, Try.ntmps22
  go_wp2_with fail
  refine (ready_nil _).mono ?_
  rintro e w1 ⟨rfl, rfl⟩
  go_wp2_with fail
  go_ret
  exact ⟨rfl, rfl⟩
set_option maxRecDepth 100000 in
theorem sync_nil (w : World) : Calls Try.prog 37 #[.pointer none] w fun e w' => e = .returned (.int .i64 14) ∧ w = w' := by
  go_enter Try.func37, Try.ntmps37
  go_wp2_with fail
  refine (ready_nil _).mono ?_
  rintro e w1 ⟨rfl, rfl⟩
  go_wp2_with fail
  go_ret
  exact ⟨rfl, rfl⟩
set_option maxRecDepth 100000 in
theorem read_nil (a : Int) (w : World) : Calls Try.prog 46 #[.pointer none, .int .i64 a] w fun e w' => e = .returned (.tuple #[.string ⟨#[]⟩, .int .i64 14]) ∧ w = w' := by
  go_enter Try.func46, Try.ntmps46
  go_wp2_with fail
  refine (ready_nil _).mono ?_
  rintro e w1 ⟨rfl, rfl⟩
  go_wp2_with fail
  exact bodyPost_ret (results_tmp2 rfl _ _ _) rfl ⟨rfl, rfl⟩
set_option maxRecDepth 100000 in
theorem crash_nil (w : World) : Calls Try.prog 20 #[.pointer none, .slice none 0 0] w fun e w' => e = .returned (.tuple #[]) ∧ w = w' := by
  go_enter Try.func20, Try.ntmps20
  go_wp2_with fail
  exact bodyPost_ret (results_none rfl _ _ _) rfl ⟨rfl, rfl⟩
end Go.Proofs.Ytncbhpopobjaiaa

/- Disks: is a disk the document's? -/
namespace Go.Proofs.Ytncbhpopobjaiaa
set_option linter.unusedVariables false
set_option linter.unusedSimpArgs false
open Go Go.RowKit

theorem info_rd : (Try.prog.info? 43).map (·.size) = some 4 := by kernel_rfl
end Go.Proofs.Ytncbhpopobjaiaa
