/- Disks: the document's disk: put, Write. -/
import Derived.Test.YtjnfdhjnfginpaaDkN
import Derived.Test.YtjnfdhjnfginpaaRowS
import Derived.Test.YtjnfdhjnfginpaaRowM
namespace Go.Proofs.Ytjnfdhjnfginpaa
set_option linter.unusedVariables false
set_option linter.unusedSimpArgs false
open Go Go.RowKit

def stl (x : Sc) : List Value := [.string (str (if x.2 then [] else x.1.1))]
theorem stc_rws (s : List Sc) : stc s = rws stl s := by
  unfold stc rws stl
  induction s with
  | nil => rfl
  | cons x l ih => rw [List.map_cons, List.flatMap_cons, ih]; rfl
theorem row_lt {w : World} {base n size : Nat} {e : TypeId} {v : Value} {xs : List Value} (h : w.ownsRow base e size v n xs) : ∀ k, v.ownBlock = some k → base ≤ k ∧ k < w.heap.size := fun k hk => h.lt k hk
theorem row_some {w : World} {base n size c : Nat} {e : TypeId} {A : Option Addr} {xs : List Value} (h : w.ownsRow base e size (.slice A n c) n xs) (hn : 0 < n) : ∃ g, A = some ⟨g, 0, none⟩ := by
  obtain ⟨h1, h2 | ⟨g', cap, cur, e1, _⟩⟩ := h
  · have := h2.1
    injection this with _ e
    omega
  · injection e1 with ea
    exact ⟨g', ea⟩
theorem RfAt.frz {w W : World} {L m : Nat} {q p : Option Nat} {D : Dk} (h : RfAt w L m q p D) (hb : Below w.heap.size w W) (j : Nat) : W.frozen? ⟨m, j, none⟩ = false := by
  obtain ⟨A, c, A', c', B, _⟩ := h.at_
  exact (B.later hb).frozen j
/-- The sectors are laid anew. -/
theorem RfAt.putS {w W4 : World} {L m : Nat} {q p : Option Nat} {D : Dk} (h : RfAt w L m q p D) (hL : L ≤ w.heap.size) (L4 : Below w.heap.size w W4) {A3 : Option Addr} {c3 : Nat} {s' : List Sc} (hlen : s'.length = D.s.length)
    (hr : W4.ownsRow w.heap.size 9 1 (.slice A3 D.s.length c3) D.s.length (stc s')) : ∃ q', RfAt (W4.setCell ⟨m, 0, none⟩ (.slice A3 D.s.length c3)) L m q' p { D with s := s' } ∧ Turn3 w (W4.setCell ⟨m, 0, none⟩ (.slice A3 D.s.length c3)) m m none ∧ RowN w q q' ∧ (W4.setCell ⟨m, 0, none⟩ (.slice A3 D.s.length c3)).cell? ⟨m, 1, none⟩ = w.cell? ⟨m, 1, none⟩ := by
  have hm := h.lt
  obtain ⟨⟨A, c, A', c', B, h1, h2, e1, e2⟩, h3, h4, h5⟩ := h
  have hq : (Value.slice A3 D.s.length c3).ownBlock ≠ some m := fun e => by have := (row_lt hr m e).1; omega
  have el : ({ D with s := s' } : Dk).s.length = D.s.length := hlen
  refine ⟨(Value.slice A3 D.s.length c3).ownBlock, ⟨⟨A3, c3, A', c', ?_, ?_, row_apartD (row_later h2 L4) (by rw [← e2]; exact h4) [.slice A3 D.s.length c3] 0, by rw [el], e2⟩, hq, h4, h5⟩, (Turn3.of_below L4 m m none).trans (Turn3.set W4 m m m 0 none _ (.inl rfl)) (RowN.refl _ _), fun k hk => .inr (row_lt hr k hk).1, ?_⟩
  · have := (B.later L4).set 0 (.slice A3 D.s.length c3)
    rw [el]
    simpa using this
  · rw [el]
    exact row_lower (row_apartD hr hq [.slice A3 D.s.length c3] 0) hL
  · have := (B.later L4).set 0 (.slice A3 D.s.length c3)
    rw [B.cell (j := 1) rfl]
    exact this.cell (j := 1) rfl
/-- What waits is laid anew. -/
theorem RfAt.putW {w W4 : World} {L m : Nat} {q p : Option Nat} {D : Dk} (h : RfAt w L m q p D) (hL : L ≤ w.heap.size) (L4 : Below w.heap.size w W4) {A3 : Option Addr} {c3 n : Nat} {l' : List Wr} (hlen : l'.length = n)
    (hr : W4.ownsRow w.heap.size 65 2 (.slice A3 n c3) n (rws wtl l')) : ∃ p', RfAt (W4.setCell ⟨m, 1, none⟩ (.slice A3 n c3)) L m q p' { D with w := l' } ∧ Turn3 w (W4.setCell ⟨m, 1, none⟩ (.slice A3 n c3)) m m none ∧ RowN w p p' := by
  subst hlen
  have hm := h.lt
  obtain ⟨⟨A, c, A', c', B, h1, h2, e1, e2⟩, h3, h4, h5⟩ := h
  have hq : (Value.slice A3 l'.length c3).ownBlock ≠ some m := fun e => by have := (row_lt hr m e).1; omega
  refine ⟨(Value.slice A3 l'.length c3).ownBlock, ⟨⟨A, c, A3, c3, ?_, row_apartD (row_later h1 L4) (by rw [← e1]; exact h3) [.slice A3 l'.length c3] 1, row_lower (row_apartD hr hq [.slice A3 l'.length c3] 1) hL, e1, rfl⟩, h3, hq, h5⟩, (Turn3.of_below L4 m m none).trans (Turn3.set W4 m m m 1 none _ (.inl rfl)) (RowN.refl _ _), fun k hk => .inr (row_lt hr k hk).1⟩
  have := (B.later L4).set 1 (.slice A3 l'.length c3)
  simpa using this
theorem info_str : (Try.prog.info? 9).map (fun i => (i.zero, i.size, i.bytes)) = some (some (.string ⟨#[]⟩), 1, 16) := by kernel_rfl
theorem info_wait : (Try.prog.info? 65).map (fun i => (i.zero, i.size, i.bytes)) = some (some (.agg #[.int .i64 0, .string ⟨#[]⟩]), 2, 24) := by kernel_rfl

set_option maxRecDepth 100000 in
set_option maxHeartbeats 3200000 in
theorem rput_any (L m : Nat) (q p : Option Nat) (D : Dk) (k : Nat) (x : Sc) (b : ByteArray) (hb : b = str (if x.2 then [] else x.1.1)) (w : World) (h : RfAt w L m q p D) (hk : k < D.s.length) (hs : D.s.length ≤ 65536) (hL : L ≤ w.heap.size) :
    Calls Try.prog 30 #[.pointer (some ⟨m, 0, none⟩), .int .i64 (k : Int), .string b] w fun e w' => e = .returned (.tuple #[]) ∧ ∃ q', RfAt w' L m q' p { D with s := D.s.set k x } ∧ Turn3 w w' m m none ∧ RowN w q q' ∧ w'.cell? ⟨m, 1, none⟩ = w.cell? ⟨m, 1, none⟩ := by
  obtain ⟨i1, ji, jz0, jz1, jz2⟩ := info_parts info_str
  obtain ⟨A, c, A', c', h0, h1, h2, h3, hr1, hr2, e1, e2, hz⟩ := h.cells
  have hm := h.lt
  have HPUT : Hid (∀ (W4 : World) (A3 : Option Addr) (c3 : Nat), Below w.heap.size w W4 → W4.ownsRow w.heap.size 9 1 (.slice A3 D.s.length c3) D.s.length (stc (D.s.set k x)) → ∃ q', RfAt (W4.setCell ⟨m, 0, none⟩ (.slice A3 D.s.length c3)) L m q' p { D with s := D.s.set k x } ∧ Turn3 w (W4.setCell ⟨m, 0, none⟩ (.slice A3 D.s.length c3)) m m none ∧ RowN w q q' ∧ (W4.setCell ⟨m, 0, none⟩ (.slice A3 D.s.length c3)).cell? ⟨m, 1, none⟩ = w.cell? ⟨m, 1, none⟩) := Lib.hid (fun W4 A3 c3 l4 hr => h.putS hL l4 (by rw [List.length_set]) hr)
  have HSR := Lib.hid ((row_sees hr1).alloc (Nat.le_refl _) (.cells #[] 9))
  have R1 := Lib.hid (row_lit w w.heap.size 9 1 0 #[] (Nat.le_refl _) (by simp [maxLen]) rfl)
  have HL0 := Lib.hid ((Below.refl w.heap.size w).alloc (Nat.le_refl _) (.cells #[] 9))
  have HRS : Hid (∀ (w3 : World) (g3 c3 : Nat), w3.ownsRow w.heap.size 9 1 (.slice (some ⟨g3, 0, none⟩) D.s.length c3) D.s.length (stc D.s) → (w3.setCell ⟨g3, k, none⟩ (.string b)).ownsRow w.heap.size 9 1 (.slice (some ⟨g3, 0, none⟩) D.s.length c3) D.s.length (stc (D.s.set k x)) ∧ w3.there g3 k 1 ∧ w.heap.size ≤ g3) := Lib.hid (fun w3 g3 c3 hr => by
    rw [stc_rws] at hr
    have := row_sets (f := stl) (sz := 1) (fun _ _ => rfl) hr rfl k hk x rfl
    rw [Nat.mul_one] at this
    rw [stc_rws, hb]
    exact this)
  have HSL := Lib.hid (stc_len D.s)
  have HSO := Lib.hid (stc_one D.s)
  obtain ⟨ns, hns⟩ : ∃ ns, ns = D.s.length := ⟨_, rfl⟩
  rw [← hns] at h0 hk hs
  have HNS := Lib.hid hns
  have hnk : ¬ ns ≤ k := by omega
  have HFR : Hid (∀ W, Below w.heap.size w W → W.frozen? ⟨m, 0, none⟩ = false) := Lib.hid (fun W hb => h.frz hb 0)
  have H0 := Lib.hid h0
  clear h h1 h2 h3 hr1 hr2 e1 e2 hz hns hb
  go_enter Try.func30, Try.ntmps30
  go_wp2_with (first
    | (at_builtin
       refine wpList_appk _ rfl (.tmp 7) (.tmp 11) 26 rfl w.heap.size 9 i1 _ 1 16 Try.underlying26 ji jz0 jz1 jz2 (by rfl) (by decide) (.slice (some ⟨w.heap.size, 0, none⟩) 0 0) 0 [] rfl R1.out w.heap.size A c (stc D.s) ns rfl (by rw [HSL.out, Nat.mul_one, HNS.out]) HSR.out HSO.out (by unfold maxLen; omega) (by omega) (by simp) ?_
       intro A3 c3 w3 hr3 hb3 hg3 hat3
       rw [Nat.zero_add, List.nil_append] at hr3
       simp only [Nat.zero_add]
       obtain ⟨g3, e3⟩ := row_some hr3 (by omega)
       subst e3
       have hr3' := hr3
       rw [HNS.out] at hr3'
       obtain ⟨HR4, TH4, hgL⟩ := HRS.out w3 g3 c3 hr3'
       have L3 := HL0.out.trans hb3
       have L4 := L3.setCell (p := ⟨g3, k, none⟩) hgL (.string b)
       have hpu := HPUT.out _ _ c3 L4 HR4
       obtain ⟨cz, fz⟩ := TH4 0 (by omega)
       obtain ⟨u, cz⟩ := Option.isSome_iff_exists.1 cz
       rw [Nat.add_zero] at cz fz
       have cm := (L4.cell (p := ⟨m, 0, none⟩) hm).trans H0.out
       have fm := HFR.out _ L4
       have hpu := Lib.hid hpu
       clear hr3 hr3' hb3 hg3 hat3 HR4 TH4 L3 L4 HSR R1)
    | fail)
  go_end0
  rw [HNS.out]
  exact ⟨rfl, hpu.out⟩

theorem wtl_snoc (l : List Wr) (a : Int) (t : List UInt8) (h : t.length = 64) : rws wtl l ++ [.int .i64 a, .string (str t)] = rws wtl (l ++ [(a, b64 t)]) := by
  rw [rws_append, rws_one]
  unfold wtl
  rw [b64_val h]
set_option maxRecDepth 100000 in
set_option maxHeartbeats 3200000 in
theorem rwrite_any (L m : Nat) (q p : Option Nat) (D : Dk) (a : Int) (l : List UInt8) (w : World) (h : RfAt w L m q p D) (hf : -9223372036854775808 ≤ D.fuse ∧ D.fuse ≤ 9223372036854775807) (hl : l.length ≤ maxLen) (hw : D.w.length ≤ 65536) (hs : D.s.length ≤ 65536) (hL : L ≤ w.heap.size) :
    Calls Try.prog 21 #[.pointer (some ⟨m, 0, none⟩), .int .i64 a, .string (str l)] w fun e w' => e = .returned (.int .i64 (dwrite D a l).2) ∧ ∃ p', RfAt w' L m q p' (dwrite D a l).1 ∧ Turn3 w w' m m none ∧ RowN w p p' := by
  obtain ⟨i1, ji, jz0, jz1, jz2⟩ := info_parts info_wait
  obtain ⟨A, c, A', c', h0, h1, h2, h3, hr1, hr2, e1, e2, hz⟩ := h.cells
  clear e1 e2 hz hr1
  obtain ⟨sl, hsl⟩ : ∃ sl, sl = str l := ⟨_, rfl⟩
  have hsz : sl.size = l.length := by rw [hsl]; rfl
  obtain ⟨ll, hll⟩ : ∃ ll, ll = l.length := ⟨_, rfl⟩
  obtain ⟨ns, hns⟩ : ∃ ns, ns = D.s.length := ⟨_, rfl⟩
  rw [← hsl]
  rw [← hns] at h0
  rw [← hll] at hsz
  unfold maxLen at hl
  rw [← hll] at hl
  have H := Lib.hid h
  have STAY : Hid (RfAt w L m q p D ∧ Turn3 w w m m none ∧ RowN w p p) := Lib.hid ⟨h, Turn3.refl _ _ _ _, RowN.refl _ _⟩
  cases hd : D.dead with
  | true =>
    rw [hd] at h3
    have HR : Hid (dwrite D a l = (D, 15)) := Lib.hid (by unfold dwrite; rw [hd]; rfl)
    clear h hd hsl hns hll hr2
    go_enter Try.func21, Try.ntmps21
    go_wp2_with fail
    go_ret
    exact ⟨by rw [HR.out]; rfl, p, by rw [HR.out]; exact STAY.out⟩
  | false =>
    rw [hd] at h3
    by_cases a0 : a < 0
    · have d0 : decide (a < 0) = true := decide_eq_true a0
      have HR : Hid (dwrite D a l = (D, 1)) := Lib.hid (by unfold dwrite; rw [hd, if_neg (by simp), if_neg (fun e => by have := e.1; unfold dhas at this; rw [decide_eq_true_eq] at this; omega)])
      clear h hd hsl hns hll hr2
      go_enter Try.func21, Try.ntmps21
      go_wp2_with fail
      go_ret
      exact ⟨by rw [HR.out]; rfl, p, by rw [HR.out]; exact STAY.out⟩
    · have d0 : decide (a < 0) = false := decide_eq_false a0
      by_cases a1 : (ns : Int) ≤ a
      · have d1 : decide ((ns : Int) ≤ a) = true := decide_eq_true a1
        have HR : Hid (dwrite D a l = (D, 1)) := Lib.hid (by unfold dwrite; rw [hd, if_neg (by simp), if_neg (fun e => by have := e.1; unfold dhas at this; rw [decide_eq_true_eq] at this; omega)])
        clear h hd hsl hns hll hr2
        go_enter Try.func21, Try.ntmps21
        go_wp2_with fail
        go_ret
        exact ⟨by rw [HR.out]; rfl, p, by rw [HR.out]; exact STAY.out⟩
      · have d1 : decide ((ns : Int) ≤ a) = false := decide_eq_false a1
        by_cases a2 : ll = 64
        · have HR : Hid (dwrite D a l = dstep { D with w := D.w ++ [(a, b64 l)] }) := Lib.hid (by
            unfold dwrite
            rw [hd, if_neg (by simp), if_pos ⟨by unfold dhas; rw [decide_eq_true_eq]; omega, by omega⟩])
          subst a2
          have hl64 : l.length = 64 := hll.symm
          obtain ⟨nw, hnw⟩ : ∃ nw, nw = D.w.length := ⟨_, rfl⟩
          have HPUT : Hid (∀ (W4 : World) (A3 : Option Addr) (c3 : Nat), Below w.heap.size w W4 → W4.ownsRow w.heap.size 65 2 (.slice A3 (nw + 1) c3) (nw + 1) (rws wtl D.w ++ [.int .i64 a, .string sl]) → ∃ p', RfAt (W4.setCell ⟨m, 1, none⟩ (.slice A3 (nw + 1) c3)) L m q p' { D with w := D.w ++ [(a, b64 l)] } ∧ Turn3 w (W4.setCell ⟨m, 1, none⟩ (.slice A3 (nw + 1) c3)) m m none ∧ RowN w p p') := Lib.hid (fun W4 A3 c3 l4 hr => by
            rw [hsl, wtl_snoc _ _ _ hl64] at hr
            exact h.putW hL l4 (by rw [List.length_append, hnw]; rfl) hr)
          have HSR := Lib.hid ((row_sees hr2).alloc (Nat.le_refl _) (.cells #[] 65))
          have R1 := Lib.hid (row_lit w w.heap.size 65 2 0 #[] (Nat.le_refl _) (by simp [maxLen]) rfl)
          have HL0 := Lib.hid ((Below.refl w.heap.size w).alloc (Nat.le_refl _) (.cells #[] 65))
          have HFR : Hid (∀ W, Below w.heap.size w W → W.frozen? ⟨m, 1, none⟩ = false ∧ W.cell? ⟨m, 1, none⟩ = some (.slice A' nw c')) := Lib.hid (fun W hb => ⟨h.frz hb 1, by rw [hnw]; exact (hb.cell (p := ⟨m, 1, none⟩) h.lt).trans h1⟩)
          have hm := h.lt
          have HRL : Hid (∀ (w3 : World) (A3 : Option Addr) (c3 : Nat), w3.ownsRow w.heap.size 65 2 (.slice A3 nw c3) nw (rws wtl D.w) → (w3.alloc (.cells #[.int .i64 a, .string sl] 65)).ownsRow w.heap.size 65 2 (.slice A3 nw c3) nw (rws wtl D.w)) := Lib.hid (fun w3 A3 c3 hr => row_later hr ((Below.refl w3.heap.size w3).alloc (Nat.le_refl _) _))
          have HSL : Hid (∀ w3 : World, Sees (w3.alloc (.cells #[.int .i64 a, .string sl] 65)) (w3.heap.size + 1) (some ⟨w3.heap.size, 0, none⟩) [.int .i64 a, .string sl]) := Lib.hid (fun w3 => (Sees.more (sees_lit w3 #[.int .i64 a, .string sl] 65 (0, 0) [.int .i64 a, .string sl] rfl) (by simp)))
          have HWL := Lib.hid (rws_len (f := wtl) (sz := 2) D.w (wtl_len _))
          have HWO := Lib.hid (wts_one D.w)
          rw [← hnw] at h1 hw
          have HNW := Lib.hid hnw
          have HST : Hid (∀ W p', RfAt W L m q p' { D with w := D.w ++ [(a, b64 l)] } → Calls Try.prog 29 #[.pointer (some ⟨m, 0, none⟩)] W fun e w' => e = .returned (.bool (decide (D.fuse = 0))) ∧ RfAt w' L m q p' (dstep { D with w := D.w ++ [(a, b64 l)] }).1 ∧ Turn3 W w' m m none) := Lib.hid (fun W p' hh => rstep_any L m q p' _ W hh hf)
          have H2 : Hid ((dstep { D with w := D.w ++ [(a, b64 l)] }).2 = if D.fuse = 0 then 15 else 0) := Lib.hid (by
            unfold dstep
            dsimp only
            split
            · rfl
            · split <;> rfl)
          clear h hd hsl hns hll hr2 hl64 hnw h2 a0 a1 hf STAY H
          by_cases f0 : D.fuse = 0
          · rw [decide_eq_true f0] at HST
            rw [if_pos f0] at H2
            clear f0
            go_enter Try.func21, Try.ntmps21
            go_wp2_with (first
              | (at_builtin
                 refine wpList_appk _ rfl (.tmp 28) (.tmp 32) 27 rfl w.heap.size 65 i1 _ 2 24 Try.underlying27 ji jz0 jz1 jz2 (by rfl) (by decide) (.slice (some ⟨w.heap.size, 0, none⟩) 0 0) 0 [] rfl R1.out w.heap.size A' c' (rws wtl D.w) nw rfl (by rw [HWL.out, HNW.out]) HSR.out HWO.out (by unfold maxLen; omega) (by omega) (by simp) ?_
                 intro A3 c3 w3 hr3 hb3 hg3 hat3
                 rw [Nat.zero_add, List.nil_append] at hr3
                 simp only [Nat.zero_add]
                 have HR3 := Lib.hid (HRL.out w3 A3 c3 hr3)
                 have L3 := HL0.out.trans hb3
                 have HS3 := Lib.hid (HSL.out w3)
                 have HL3 := Lib.hid (L3.alloc L3.size (.cells #[.int .i64 a, .string sl] 65))
                 clear hr3 hb3 hg3 hat3 L3 HSR R1 h0 h1 h3)
              | (at_builtin
                 refine wpList_appk _ rfl (.tmp 33) (.tmp 37) 27 rfl w.heap.size 65 i1 _ 2 24 Try.underlying27 ji jz0 jz1 jz2 (by rfl) (by decide) (.slice A3 nw c3) nw (rws wtl D.w) rfl HR3.out _ (some ⟨w3.heap.size, 0, none⟩) 1 [.int .i64 a, .string sl] 1 rfl rfl HS3.out (by intro u hu; simp only [List.mem_cons, List.not_mem_nil, or_false] at hu; rcases hu with rfl | rfl <;> rfl) (by unfold maxLen; omega) (by omega) HL3.out.size ?_
                 intro A4 c4 w6 hr6 hb6 hg6 hat6
                 have L6 := HL3.out.trans hb6
                 have hpu := Lib.hid (HPUT.out w6 A4 c4 L6 hr6)
                 obtain ⟨fm, cm⟩ := HFR.out w6 L6
                 clear hr6 hb6 hg6 hat6 L6)
              | fail)
            obtain ⟨p9, H9, T9, R9⟩ := hpu.out
            refine (HST.out _ p9 H9).mono ?_
            rintro e w8 ⟨rfl, H8, T8⟩
            have H8 := Lib.hid H8
            have T8 := Lib.hid (T9.trans T8 (RowN.none _ _))
            have R9 := Lib.hid R9
            clear H9 T9 hpu fm cm
            go_wp2_with fail
            go_ret
            exact ⟨by rw [HR.out, H2.out]; rfl, p9, by rw [HR.out]; exact H8.out, T8.out, R9.out⟩
          · rw [decide_eq_false f0] at HST
            rw [if_neg f0] at H2
            clear f0
            go_enter Try.func21, Try.ntmps21
            go_wp2_with (first
              | (at_builtin
                 refine wpList_appk _ rfl (.tmp 28) (.tmp 32) 27 rfl w.heap.size 65 i1 _ 2 24 Try.underlying27 ji jz0 jz1 jz2 (by rfl) (by decide) (.slice (some ⟨w.heap.size, 0, none⟩) 0 0) 0 [] rfl R1.out w.heap.size A' c' (rws wtl D.w) nw rfl (by rw [HWL.out, HNW.out]) HSR.out HWO.out (by unfold maxLen; omega) (by omega) (by simp) ?_
                 intro A3 c3 w3 hr3 hb3 hg3 hat3
                 rw [Nat.zero_add, List.nil_append] at hr3
                 simp only [Nat.zero_add]
                 have HR3 := Lib.hid (HRL.out w3 A3 c3 hr3)
                 have L3 := HL0.out.trans hb3
                 have HS3 := Lib.hid (HSL.out w3)
                 have HL3 := Lib.hid (L3.alloc L3.size (.cells #[.int .i64 a, .string sl] 65))
                 clear hr3 hb3 hg3 hat3 L3 HSR R1 h0 h1 h3)
              | (at_builtin
                 refine wpList_appk _ rfl (.tmp 33) (.tmp 37) 27 rfl w.heap.size 65 i1 _ 2 24 Try.underlying27 ji jz0 jz1 jz2 (by rfl) (by decide) (.slice A3 nw c3) nw (rws wtl D.w) rfl HR3.out _ (some ⟨w3.heap.size, 0, none⟩) 1 [.int .i64 a, .string sl] 1 rfl rfl HS3.out (by intro u hu; simp only [List.mem_cons, List.not_mem_nil, or_false] at hu; rcases hu with rfl | rfl <;> rfl) (by unfold maxLen; omega) (by omega) HL3.out.size ?_
                 intro A4 c4 w6 hr6 hb6 hg6 hat6
                 have L6 := HL3.out.trans hb6
                 have hpu := Lib.hid (HPUT.out w6 A4 c4 L6 hr6)
                 obtain ⟨fm, cm⟩ := HFR.out w6 L6
                 clear hr6 hb6 hg6 hat6 L6)
              | fail)
            obtain ⟨p9, H9, T9, R9⟩ := hpu.out
            refine (HST.out _ p9 H9).mono ?_
            rintro e w8 ⟨rfl, H8, T8⟩
            have H8 := Lib.hid H8
            have T8 := Lib.hid (T9.trans T8 (RowN.none _ _))
            have R9 := Lib.hid R9
            clear H9 T9 hpu fm cm
            go_wp2_with fail
            go_ret
            exact ⟨by rw [HR.out, H2.out]; rfl, p9, by rw [HR.out]; exact H8.out, T8.out, R9.out⟩
        · have HR : Hid (dwrite D a l = (D, 1)) := Lib.hid (by unfold dwrite; rw [hd, if_neg (by simp), if_neg (fun e => by have := e.2; omega)])
          have n64 : ((ll : Int) == 64) = false := by rw [beq_eq_false_iff_ne]; omega
          clear h hd hsl hns hll hr2
          go_enter Try.func21, Try.ntmps21
          go_wp2_with fail
          go_ret
          exact ⟨by rw [HR.out]; rfl, p, by rw [HR.out]; exact STAY.out⟩
end Go.Proofs.Ytjnfdhjnfginpaa
