/- Disks: the document's disk: where it lies; its zero, its step, its Read. -/
import Derived.Test.YtjnfdhjnfginpaaDkK
import Derived.Test.YtjnfdhjnfginpaaRws
namespace Go.Proofs.Ytjnfdhjnfginpaa
set_option linter.unusedVariables false
set_option linter.unusedSimpArgs false
open Go Go.RowKit

def stc (s : List Sc) : List Value := s.map fun x => .string (str (if x.2 then [] else x.1.1))
def wtl (x : Wr) : List Value := [.int .i64 x.1, .string (str x.2.1)]
theorem wtl_len (l : List Wr) : ∀ x ∈ l, (wtl x).length = 2 := fun _ _ => rfl
theorem stc_len (s : List Sc) : (stc s).length = s.length := by simp [stc]
theorem stc_one (s : List Sc) : ∀ u ∈ stc s, u.oneCell' = true := fun u hu => by
  unfold stc at hu
  obtain ⟨x, _, rfl⟩ := List.mem_map.1 hu
  rfl
theorem wts_one (l : List Wr) : ∀ u ∈ rws wtl l, u.oneCell' = true := rws_all (fun x _ u hu => by
  unfold wtl at hu
  simp only [List.mem_cons, List.not_mem_nil, or_false] at hu
  rcases hu with rfl | rfl <;> rfl)
/-- Where the document's disk lies: its struct's block is m, its rows lie at or above L. -/
structure RfAt (w : World) (L m : Nat) (q p : Option Nat) (D : Dk) : Prop where
  at_ : ∃ A c A' c', Blk w m [.slice A D.s.length c, .slice A' D.w.length c', .int .i64 D.fuse, .bool D.dead] ∧ w.ownsRow L 9 1 (.slice A D.s.length c) D.s.length (stc D.s) ∧ w.ownsRow L 65 2 (.slice A' D.w.length c') D.w.length (rws wtl D.w) ∧ q = (Value.slice A D.s.length c).ownBlock ∧ p = (Value.slice A' D.w.length c').ownBlock
  qm : q ≠ some m
  pm : p ≠ some m
  Lm : L ≤ m
theorem RfAt.lt {w : World} {L m : Nat} {q p : Option Nat} {D : Dk} (h : RfAt w L m q p D) : m < w.heap.size := by
  obtain ⟨A, c, A', c', B, _⟩ := h.at_
  exact B.lt
theorem RfAt.later {w w' : World} {L m : Nat} {q p : Option Nat} {D : Dk} (h : RfAt w L m q p D) (hb : Below w.heap.size w w') : RfAt w' L m q p D := by
  obtain ⟨⟨A, c, A', c', B, h1, h2, e1, e2⟩, h3, h4, h5⟩ := h
  exact ⟨⟨A, c, A', c', B.later hb, row_later h1 hb, row_later h2 hb, e1, e2⟩, h3, h4, h5⟩
theorem RfAt.drew {w : World} {L m : Nat} {q p : Option Nat} {D : Dk} (h : RfAt w L m q p D) : RfAt w.drew L m q p D := h.later ((Below.refl w.heap.size w).drew)
theorem RfAt.setFuse {w : World} {L m : Nat} {q p : Option Nat} {D : Dk} (h : RfAt w L m q p D) (x : Int) : RfAt (w.setCell ⟨m, 2, none⟩ (.int .i64 x)) L m q p { D with fuse := x } := by
  obtain ⟨⟨A, c, A', c', B, h1, h2, e1, e2⟩, h3, h4, h5⟩ := h
  refine ⟨⟨A, c, A', c', ?_, row_apartD h1 (by rw [← e1]; exact h3) [.int .i64 x] 2, row_apartD h2 (by rw [← e2]; exact h4) [.int .i64 x] 2, e1, e2⟩, h3, h4, h5⟩
  have := B.set 2 (.int .i64 x)
  simpa using this
theorem RfAt.setDead {w : World} {L m : Nat} {q p : Option Nat} {D : Dk} (h : RfAt w L m q p D) (x : Bool) : RfAt (w.setCell ⟨m, 3, none⟩ (.bool x)) L m q p { D with dead := x } := by
  obtain ⟨⟨A, c, A', c', B, h1, h2, e1, e2⟩, h3, h4, h5⟩ := h
  refine ⟨⟨A, c, A', c', ?_, row_apartD h1 (by rw [← e1]; exact h3) [.bool x] 3, row_apartD h2 (by rw [← e2]; exact h4) [.bool x] 3, e1, e2⟩, h3, h4, h5⟩
  have := B.set 3 (.bool x)
  simpa using this
theorem RfAt.setNone {w : World} {L m : Nat} {q p : Option Nat} {D : Dk} (h : RfAt w L m q p D) : RfAt (w.setCell ⟨m, 1, none⟩ (.slice none 0 0)) L m q none { D with w := [] } := by
  obtain ⟨⟨A, c, A', c', B, h1, h2, e1, e2⟩, h3, h4, h5⟩ := h
  refine ⟨⟨A, c, none, 0, ?_, row_apartD h1 (by rw [← e1]; exact h3) [.slice none 0 0] 1, World.ownsRow_nil _ _ _ _, e1, rfl⟩, h3, by simp, h5⟩
  have := B.set 1 (.slice none 0 0)
  simpa using this
theorem RfAt.cells {w : World} {L m : Nat} {q p : Option Nat} {D : Dk} (h : RfAt w L m q p D) : ∃ A c A' c', w.cell? ⟨m, 0, none⟩ = some (.slice A D.s.length c) ∧ w.cell? ⟨m, 1, none⟩ = some (.slice A' D.w.length c') ∧ w.cell? ⟨m, 2, none⟩ = some (.int .i64 D.fuse) ∧ w.cell? ⟨m, 3, none⟩ = some (.bool D.dead) ∧
    w.ownsRow L 9 1 (.slice A D.s.length c) D.s.length (stc D.s) ∧ w.ownsRow L 65 2 (.slice A' D.w.length c') D.w.length (rws wtl D.w) ∧ q = (Value.slice A D.s.length c).ownBlock ∧ p = (Value.slice A' D.w.length c').ownBlock ∧ ∀ j, w.frozen? ⟨m, j, none⟩ = false := by
  obtain ⟨A, c, A', c', B, h1, h2, e1, e2⟩ := h.at_
  exact ⟨A, c, A', c', B.cell rfl, B.cell rfl, B.cell rfl, B.cell rfl, h1, h2, e1, e2, B.frozen⟩
set_option maxRecDepth 100000 in
theorem rzero_any (w : World) : Calls Try.prog 20 #[] w fun e w' => e = .returned (.string (str z64.1)) ∧ Below w.heap.size w w' := by
  have HM := Lib.hid (mk_bytes w)
  have B1 := Blk.new w (bvs (List.replicate 64 0)) 5
  obtain ⟨W1, hW1⟩ : ∃ W1, W1 = w.alloc (.cells (bvs (List.replicate 64 0)).toArray 5) := ⟨_, rfl⟩
  rw [← hW1] at HM B1
  have HL1 : Hid (Below w.heap.size w W1) := Lib.hid (by rw [hW1]; exact (Below.refl w.heap.size w).alloc (Nat.le_refl _) _)
  have hs0 : Sees W1 W1.heap.size (some ⟨w.heap.size, 0, none⟩) (bvs z64.1) := fun _ => ⟨w.heap.size, 0, rfl, B1.lt, fun j hj => by rw [Nat.zero_add]; exact B1.cell (List.getElem?_eq_getElem hj)⟩
  have hstr0 := run_str (P := Try.prog) W1 W1.heap.size 60 5 9 Try.underlying60 Try.underlying5 Try.underlying9 (some ⟨w.heap.size, 0, none⟩) 64 64 z64.1 z64.2 hs0
  obtain ⟨s0, hs0'⟩ : ∃ s0, s0 = str z64.1 := ⟨_, rfl⟩
  rw [← hs0'] at hstr0 ⊢
  clear B1 hW1 hs0 hs0'
  go_enter Try.func20, Try.ntmps20
  go_wp2_with fail
  rw [HM.out]
  simp only [Result.andThen]
  rw [Oper.upon_value]
  simp only [Act.put, List.setIfInBounds_toArray, List.set_cons_zero, List.set_cons_succ]
  go_wp2_with fail
  go_ret
  exact ⟨rfl, HL1.out⟩
set_option maxRecDepth 100000 in
set_option maxHeartbeats 1600000 in
theorem rstep_any (L m : Nat) (q p : Option Nat) (D : Dk) (w : World) (h : RfAt w L m q p D) (hf : -9223372036854775808 ≤ D.fuse ∧ D.fuse ≤ 9223372036854775807) :
    Calls Try.prog 29 #[.pointer (some ⟨m, 0, none⟩)] w fun e w' => e = .returned (.bool (decide (D.fuse = 0))) ∧ RfAt w' L m q p (dstep D).1 ∧ Turn3 w w' m m none := by
  obtain ⟨A, c, A', c', h0, h1, h2, h3, hr1, hr2, e1, e2, hz⟩ := h.cells
  clear hr1 hr2 e1 e2
  have z2 := hz 2
  have z3 := hz 3
  have HD := Lib.hid h.setDead
  have HF := Lib.hid h.setFuse
  have HH := Lib.hid h
  clear hz h
  by_cases f0 : D.fuse = 0
  · have HR : Hid (dstep D = ({ D with dead := true }, 15)) := Lib.hid (by unfold dstep; rw [if_pos f0])
    rw [decide_eq_true f0]
    rw [f0] at h2
    clear f0
    go_enter Try.func29, Try.ntmps29
    go_wp2_with fail
    go_ret
    refine ⟨rfl, by rw [HR.out]; exact HD.out true, Turn3.set w m m m 3 none (.bool true) (.inl rfl)⟩
  · rw [decide_eq_false f0]
    obtain ⟨x, hx⟩ : ∃ x, x = D.fuse := ⟨_, rfl⟩
    rw [← hx] at f0 h2 hf
    have n0 : (x == 0) = false := by rw [beq_eq_false_iff_ne]; exact f0
    by_cases f1 : 0 < x
    · have HR : Hid (dstep D = ({ D with fuse := x - 1 }, 0)) := Lib.hid (by unfold dstep; rw [← hx, if_neg f0, if_pos f1])
      have d1 : decide (0 < x) = true := decide_eq_true f1
      clear hx f0
      go_enter Try.func29, Try.ntmps29
      go_wp2_with fail
      go_ret
      refine ⟨rfl, by rw [HR.out]; exact HF.out (x - 1), Turn3.set w m m m 2 none (.int .i64 (x - 1)) (.inl rfl)⟩
    · have HR : Hid (dstep D = (D, 0)) := Lib.hid (by unfold dstep; rw [← hx, if_neg f0, if_neg f1])
      have d1 : decide (0 < x) = false := decide_eq_false f1
      clear hx f0
      go_enter Try.func29, Try.ntmps29
      go_wp2_with fail
      go_ret
      exact ⟨rfl, by rw [HR.out]; exact HH.out, Turn3.refl w m m none⟩
theorem stc_get (s : List Sc) (k : Nat) (hk : k < s.length) : (stc s)[k]? = some (.string (str (if (s.getD k (z64, false)).2 then [] else (s.getD k (z64, false)).1.1))) := by
  unfold stc
  rw [List.getElem?_map, List.getElem?_eq_getElem hk, List.getD_eq_getElem?_getD, List.getElem?_eq_getElem hk]
  rfl
set_option maxRecDepth 100000 in
set_option maxHeartbeats 3200000 in
theorem rread_any (A A' : Option Addr) (c c' : Nat) (D : Dk) (a : Int) (w : World) (h1 : Sees w w.heap.size A (stc D.s)) (h2 : Sees w w.heap.size A' (rws wtl D.w)) (hs : D.s.length ≤ 65536) (hw : D.w.length ≤ 65536) :
    Calls Try.prog 24 #[.agg #[.slice A D.s.length c, .slice A' D.w.length c', .int .i64 D.fuse, .bool D.dead], .int .i64 a] w fun e w' => e = .returned (.tuple #[.string (str (dread D a).1), .int .i64 (dread D a).2]) ∧ Below w.heap.size w w' := by
  obtain ⟨n, hn⟩ : ∃ n, n = D.w.length := ⟨_, rfl⟩
  obtain ⟨ns, hns⟩ : ∃ ns, ns = D.s.length := ⟨_, rfl⟩
  obtain ⟨fu, hfu⟩ : ∃ fu, fu = D.fuse := ⟨_, rfl⟩
  rw [← hn, ← hns, ← hfu]
  rw [← hn] at hw
  rw [← hns] at hs
  have HH1 := Lib.hid h1
  have HH2 := Lib.hid h2
  have HN := Lib.hid hn
  have HNS := Lib.hid hns
  cases hd : D.dead with
  | true =>
    have HR : Hid (dread D a = ([], 15)) := Lib.hid (by unfold dread; rw [hd]; rfl)
    have B1 := Blk.new w [.slice A ns c, .slice A' n c', .int .i64 fu, .bool true] 29
    have L1 := (Below.refl w.heap.size w).alloc (Nat.le_refl _) (.cells #[.slice A ns c, .slice A' n c', .int .i64 fu, .bool true] 29)
    have HL1 := Lib.hid L1
    have k3 := B1.cell (j := 3) rfl
    clear h1 h2 hd hn hns hfu L1 B1
    go_enter Try.func24, Try.ntmps24
    go_wp2_with fail
    exact bodyPost_ret (results_tmp2 rfl _ _ _) rfl ⟨by rw [HR.out]; rfl, HL1.out⟩
  | false =>
    have B1 := Blk.new w [.slice A ns c, .slice A' n c', .int .i64 fu, .bool false] 29
    have L1 := (Below.refl w.heap.size w).alloc (Nat.le_refl _) (.cells #[.slice A ns c, .slice A' n c', .int .i64 fu, .bool false] 29)
    have HL1 := Lib.hid L1
    have k0 : (w.alloc (.cells #[.slice A ns c, .slice A' n c', .int .i64 fu, .bool false] 29)).cell? ⟨w.heap.size, 0, none⟩ = some (.slice A ns c) := B1.cell (j := 0) rfl
    have k1 : (w.alloc (.cells #[.slice A ns c, .slice A' n c', .int .i64 fu, .bool false] 29)).cell? ⟨w.heap.size, 1, none⟩ = some (.slice A' n c') := B1.cell (j := 1) rfl
    have k3 : (w.alloc (.cells #[.slice A ns c, .slice A' n c', .int .i64 fu, .bool false] 29)).cell? ⟨w.heap.size, 3, none⟩ = some (.bool false) := B1.cell (j := 3) rfl
    have HS1 := Lib.hid (h1.alloc (Nat.le_refl _) (.cells #[.slice A ns c, .slice A' n c', .int .i64 fu, .bool false] 29))
    have HS2 := Lib.hid (h2.alloc (Nat.le_refl _) (.cells #[.slice A ns c, .slice A' n c', .int .i64 fu, .bool false] 29))
    clear h1 h2 L1 B1 HH1 HH2
    by_cases a0 : a < 0
    · have d0 : decide (a < 0) = true := decide_eq_true a0
      have HR : Hid (dread D a = ([], 1)) := Lib.hid (by unfold dread dhas; rw [hd]; simp; omega)
      clear hd hn hns hfu
      go_enter Try.func24, Try.ntmps24
      go_wp2_with fail
      exact bodyPost_ret (results_tmp2 rfl _ _ _) rfl ⟨by rw [HR.out]; rfl, HL1.out⟩
    · have d0 : decide (a < 0) = false := decide_eq_false a0
      by_cases a1 : (ns : Int) ≤ a
      · have d1 : decide ((ns : Int) ≤ a) = true := decide_eq_true a1
        have HR : Hid (dread D a = ([], 1)) := Lib.hid (by unfold dread dhas; rw [hd]; simp; omega)
        clear hd hn hns hfu
        go_enter Try.func24, Try.ntmps24
        go_wp2_with fail
        exact bodyPost_ret (results_tmp2 rfl _ _ _) rfl ⟨by rw [HR.out]; rfl, HL1.out⟩
      · have d1 : decide ((ns : Int) ≤ a) = false := decide_eq_false a1
        have HR : Hid (dread D a = if (dlook D a).2 then ([], 16) else ((dlook D a).1.1, 0)) := Lib.hid (by
          unfold dread
          rw [hd, if_neg (by simp), if_pos (by unfold dhas; rw [decide_eq_true_eq]; omega)])
        obtain ⟨e0, rfl⟩ : ∃ e0 : Nat, a = (e0 : Int) := ⟨a.toNat, by omega⟩
        have HE : Hid (e0 < D.s.length) := Lib.hid (by omega)
        have hel : ¬ ns ≤ e0 := by omega
        have HA : Hid (dlk D (e0 : Int) n = dlook D (e0 : Int)) := Lib.hid (by rw [hn]; exact dlk_all _ _)
        clear hd hn hns hfu a0 a1
        go_enter Try.func24, Try.ntmps24
        go_wp2_with fail
        generalize w.alloc (.cells #[.slice A ns c, .slice A' n c', .int .i64 fu, .bool false] 29) = W1 at HS1 HS2 HL1 k0 k1 k3 ⊢
        go_loopw [6] (fun i wr => wr = W1 ∧ ∃ k : Nat, k ≤ n ∧ i = .int .i64 ((k : Int) - 1) ∧ Hid (dlk D (e0 : Int) k = dlook D (e0 : Int))) (fun i _ => (intOf i + 1).toNat)
        case atStart => exact ⟨rfl, n, Nat.le_refl _, by go_num, HA⟩
        case round =>
          obtain ⟨rfl, k, hk, rfl, HK⟩ := hrel
          rcases k with _ | k
          · have d2 : decide ((0 : Int) ≤ ((0 : Nat) : Int) - 1) = false := by decide
            obtain ⟨x, hx⟩ : ∃ x, x = dlook D (e0 : Int) := ⟨_, rfl⟩
            rw [dlk_zero, Int.toNat_natCast, ← hx] at HK
            rw [← hx] at HR
            have hg := stc_get D.s e0 HE.out
            rw [HK.out] at hg
            have hl0 := (List.getElem?_eq_some_iff.1 hg).1
            obtain ⟨b1, o1, e1, hb1, hc1⟩ := HS1.out (by omega)
            subst e1
            have p1 := hc1 e0 hl0
            rw [(List.getElem?_eq_some_iff.1 hg).2] at p1
            clear hg hl0 hc1 hx HK HA HE
            obtain ⟨⟨xb, hxl⟩, bad⟩ := x
            cases bad with
            | true =>
              simp only [if_true] at HR p1
              obtain ⟨sx, hsx⟩ : ∃ sx, sx = str [] := ⟨_, rfl⟩
              rw [← hsx] at p1
              have hq : sx.toList.isEmpty = true := by rw [hsx, str_list]; rfl
              clear hxl hsx
              go_wp2_with fail
              exact bodyPost_ret (results_tmp2 rfl _ _ _) rfl ⟨by rw [HR.out]; rfl, HL1.out⟩
            | false =>
              simp only [Bool.false_eq_true, if_false] at HR p1
              obtain ⟨sx, hsx⟩ : ∃ sx, sx = str xb := ⟨_, rfl⟩
              rw [← hsx] at p1
              have hq : sx.toList.isEmpty = false := by
                rw [hsx, str_list]
                cases xb with
                | nil => simp at hxl
                | cons _ _ => rfl
              have HX := Lib.hid hsx
              clear hxl hsx
              go_wp2_with fail
              exact bodyPost_ret (results_tmp2 rfl _ _ _) rfl ⟨by rw [HR.out]; dsimp only; rw [← HX.out]; rfl, HL1.out⟩
          · have ek : ((k + 1 : Nat) : Int) - 1 = (k : Int) := by omega
            rw [ek]
            have d2 : decide ((0 : Int) ≤ (k : Int)) = true := decide_eq_true (by omega)
            have hkl : k < D.w.length := by rw [← HN.out]; exact hk
            have hkn : ¬ n ≤ k := by omega
            obtain ⟨b2, o2, e2, hb2, hr2⟩ := sees_rw (wtl_len _) HS2.out (by decide : 0 < 2) k hkl
            subst e2
            obtain ⟨x, hx⟩ : ∃ x, x = D.w[k] := ⟨_, rfl⟩
            rw [← hx] at hr2
            have hd1 := dlk_succ D (e0 : Int) k hkl
            rw [← hx, HK.out] at hd1
            obtain ⟨xa, xb⟩ := x
            have p0 : wr.cell? ⟨b2, o2 + k * 2, none⟩ = some (.int .i64 xa) := hr2 0 _ rfl
            have p1 : wr.cell? ⟨b2, o2 + k * 2 + 1, none⟩ = some (.string (str xb.1)) := hr2 1 _ rfl
            dsimp only at hd1
            clear hx hr2 ek HA HK HE
            by_cases hxa : xa = (e0 : Int)
            · subst hxa
              rw [if_pos rfl] at hd1
              rw [hd1] at HR
              simp only [Bool.false_eq_true, if_false] at HR
              clear hd1
              go_wp2_with fail
              exact bodyPost_ret (results_tmp2 rfl _ _ _) rfl ⟨by rw [HR.out]; rfl, HL1.out⟩
            · rw [if_neg hxa] at hd1
              have ne : (xa == (e0 : Int)) = false := by rw [beq_eq_false_iff_ne]; exact hxa
              have HD1 := Lib.hid hd1.symm
              clear hd1 hxa p1
              go_wp2_with fail
              go_roundw
              case rel => exact ⟨by first | rfl | trivial, k, by omega, by go_num, HD1⟩
              case measure => simp [intOf] <;> omega
end Go.Proofs.Ytjnfdhjnfginpaa
