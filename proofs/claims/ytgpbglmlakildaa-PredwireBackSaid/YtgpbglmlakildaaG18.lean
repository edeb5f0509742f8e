/- Filters as they are read of bytes: what the program's Read returns. -/
import Derived.Test.YtgpbglmlakildaaG17
import Derived.Test.YtgpbglmlakildaaG15
namespace Go.Proofs.Ytgpbglmlakildaa
set_option linter.unusedVariables false
set_option linter.unusedSimpArgs false
open Go Go.RowKit OctM

/-- What a reader gives that tells nodes. -/
def NodesRead (w : World) (base g : Nat) (l : List UInt8) (q : List Nd × Nat × Int) : Ending → World → Prop := fun x w' => (∃ A c, x = .returned (.slice A q.1.length c) ∧ w'.ownsRow w.heap.size 29 5 (.slice A q.1.length c) q.1.length (ncs q.1)) ∧ Rd w' base g l q.2.1 q.2.2 ∧ w.grownBy w' (some g)
theorem row_other {w w' : World} {base : Nat} {e : TypeId} {size n : Nat} {v : Value} {xs : List Value} (h : w.ownsRow base e size v n xs) {g : Nat} (hg : w.grownBy w' (some g)) (hb : g < base) : w'.ownsRow base e size v n xs :=
  World.ownsRow.kept h hg (by
    rcases h.2 with ⟨rfl, _⟩ | ⟨g', cap, cur, rfl, hg', _⟩
    · exact .inl rfl
    · refine .inr ?_
      intro e
      have : g' = g := by simpa [Value.ownBlock] using e
      omega)
theorem row_two {w w' : World} {base : Nat} {e : TypeId} {size n : Nat} {v : Value} {xs : List Value} (h : w.ownsRow base e size v n xs) {g B : Nat} (hg : Grown2 w w' g B) (hb : g < base) (hB : v.ownBlock ≠ some B) : w'.ownsRow base e size v n xs := by
  refine ⟨h.1, ?_⟩
  rcases h.2 with h' | ⟨g', cap, cur, rfl, h2, h3, h4⟩
  · exact .inl h'
  · refine .inr ⟨g', cap, cur, rfl, h2, ?_, h4⟩
    refine (hg.block g' (Array.getElem?_eq_some_iff.1 h3).1 (by omega) (fun e => hB (by simp [Value.ownBlock, e]))).trans h3
theorem grown_onto {w a b : World} {g : Nat} (h : w.grownBy a (some g)) (k : Below a.heap.size a b) : w.grownBy b (some g) :=
  ⟨k.os.trans h.os, k.tape.trans h.tape, k.output.trans h.output, Nat.le_trans h.size k.size, fun q hq e => (k.block q (Nat.lt_of_lt_of_le hq h.size)).trans (h.block q hq e)⟩

theorem grown_two {w a b : World} {g B : Nat} (h : w.grownBy a (some g)) (k : Grown2 a b g B) (hB : w.heap.size ≤ B) : w.grownBy b (some g) :=
  ⟨k.os.trans h.os, k.tape.trans h.tape, k.output.trans h.output, Nat.le_trans h.size k.size, fun q hq e => (k.block q (Nat.lt_of_lt_of_le hq h.size) (fun e' => e (by rw [e'])) (by omega)).trans (h.block q hq e)⟩
theorem grown_row {w a b : World} {g : Nat} {row : Option Nat} (h : w.grownBy a (some g)) (k : a.grownBy b row) (hr : ∀ q, row = some q → w.heap.size ≤ q) : w.grownBy b (some g) :=
  ⟨k.os.trans h.os, k.tape.trans h.tape, k.output.trans h.output, Nat.le_trans h.size k.size, fun q hq e => (k.block q (Nat.lt_of_lt_of_le hq h.size) (fun e' => by have := hr q e'.symm; omega)).trans (h.block q hq e)⟩
theorem Rd.row {w w' : World} {base g : Nat} {l : List UInt8} {a : Nat} {e : Int} (h : Rd w base g l a e) {row : Option Nat} (hg : w.grownBy w' row) (hr : ∀ q, row = some q → g < q) : Rd w' base g l a e := by
  cases row with
  | none => exact h.later ⟨hg.os, hg.tape, hg.output, hg.size, fun k hk => hg.block k hk (by simp)⟩
  | some q => exact h.other hg (hr q rfl)

set_option maxRecDepth 100000 in
set_option maxHeartbeats 12800000 in
theorem rd_filter (base g : Nat) (l : List UInt8) (a : Nat) (e : Int) (w : World) (h : Rd w base g l a e) (ha : a ≤ l.length) (hm : l.length ≤ 2000) :
    Calls Try.prog 36 #[.pointer (some ⟨g, 0, none⟩)] w (NodesRead w base g l (filtOut l a e)) := by
  obtain ⟨i1, ji, jz0, jz1, jz2⟩ := info_parts info_noded
  have hu := Try.underlying29
  have hgl := h.block.2
  have HNUM := Lib.hid (rd_num base g l a e 31 w h ha (by omega))
  have hny := mny_le l a e
  have hna := mny_at (e := e) ha
  obtain ⟨n, hn0⟩ : ∃ n, n = (mny l a e).1 := ⟨_, rfl⟩
  obtain ⟨a0, ha0⟩ : ∃ x, x = (mny l a e).2.1 := ⟨_, rfl⟩
  obtain ⟨e0, he0⟩ : ∃ x, x = (mny l a e).2.2 := ⟨_, rfl⟩
  obtain ⟨ez, hez⟩ : ∃ ez, ez = (numOut l a e 31).2.2 := ⟨_, rfl⟩
  have e1 : (numOut l a e 31).1 = n := by rw [hn0]; rfl
  have e2 : (numOut l a e 31).2.1 = a0 := by rw [ha0]; rfl
  have HE0 : Hid (e0 = if n = 0 then failOut ez 3 else ez) := Lib.hid (by rw [he0, hez, ← e1]; rfl)
  have HZ : Hid (n = 0 → e0 ≠ 0) := Lib.hid (fun hz => by rw [he0]; exact mny_none (by rw [← hn0]; exact hz))
  have HZ' : Hid (e0 ≠ 0 → n = 0) := Lib.hid (fun hz => by rw [hn0]; exact mny_err (by rw [← he0]; exact hz))
  obtain ⟨Q, hQ⟩ : ∃ Q, Q = filtOut l a e := ⟨_, rfl⟩
  have HQ0 : Hid (e0 ≠ 0 → Q = ([], a0, e0)) := Lib.hid (fun hz => by rw [hQ]; unfold filtOut; rw [if_pos (by rw [← he0]; exact hz), ha0, he0])
  have HQ1 : Hid (e0 = 0 → (nodesOut l n a0).2.2 ≠ 0 → Q = ([], (nodesOut l n a0).2)) := Lib.hid (fun hz h2 => by rw [hQ]; unfold filtOut; rw [if_neg (by rw [← he0]; simpa using hz), ← hn0, ← ha0, if_pos h2])
  have HQ2 : Hid (e0 = 0 → (nodesOut l n a0).2.2 = 0 → lchk (nodesOut l n a0).1 = 0 → Q = nodesOut l n a0) := Lib.hid (fun hz h2 h3 => by rw [hQ]; unfold filtOut; rw [if_neg (by rw [← he0]; simpa using hz), ← hn0, ← ha0, if_neg (by simpa using h2), if_pos h3])
  have HQ3 : Hid (e0 = 0 → (nodesOut l n a0).2.2 = 0 → lchk (nodesOut l n a0).1 ≠ 0 → Q = ([], (nodesOut l n a0).2.1, if lchk (nodesOut l n a0).1 = 1 then 3 else lchk (nodesOut l n a0).1)) := Lib.hid (fun hz h2 h3 => by rw [hQ]; unfold filtOut; rw [if_neg (by rw [← he0]; simpa using hz), ← hn0, ← ha0, if_neg (by simpa using h2), if_neg h3])
  rw [← hQ]
  rw [← hn0] at hny
  rw [← ha0] at hna
  rw [e1, e2, ← hez] at HNUM
  have HF := Lib.hid (fun (wx : World) (hr : Rd wx base g l a0 ez) => rd_fail base g l a0 ez 3 wx hr)
  clear hQ hn0 ha0 he0 hez e1 e2 h
  unfold NodesRead
  go_enter Try.func36, Try.ntmps36
  go_wp2_with fail
  all_goals (try go_step3)
  go_wp2_with fail
  refine HNUM.out.mono ?_
  rintro e w1 ⟨rfl, hr1, hg1⟩
  clear HNUM
  by_cases h0 : n = 0
  · -- no node is to be read
    subst h0
    have HE : Hid (e0 = failOut ez 3) := Lib.hid (by rw [HE0.out, if_pos rfl])
    have hne := HZ.out rfl
    have b1 : (e0 != 0) = true := by simp [hne]
    have HQQ := Lib.hid (HQ0.out hne)
    have HC := Lib.hid (fun wx : World => lcheck_any none 0 0 [] wx rfl Sees.nil_)
    rw [show lchk [] = 1 from by decide +kernel] at HC
    have HEF := Lib.hid (failOut_not e0 3 hne)
    clear hne
    go_wp2_with fail
    refine (HF.out _ hr1).mono ?_
    rintro e w2 ⟨rfl, hr2, hg2⟩
    rw [← HE.out] at hr2
    have G2 := hg1.trans hg2
    clear hr1 hg1 hg2
    go_wp2_with fail
    all_goals (try go_step3)
    go_wp2_with fail
    go_loopw [14, 4] (fun i v wr => i = .int .i64 0 ∧ v = .slice none 0 0 ∧ wr = w2) (fun _ _ _ => 0)
    case atStart => exact ⟨rfl, rfl, rfl⟩
    case round =>
      obtain ⟨rfl, rfl, rfl⟩ := hrel
      go_wp2_with fail
      refine (HC.out _).mono ?_
      rintro e w3 ⟨rfl, hb3⟩
      have R3 := hr2.later hb3
      have G3 := grown_onto G2 hb3
      clear hr2 hb3 G2
      go_wp2_with fail
      refine (rd_fail base g l a0 e0 3 _ R3).mono ?_
      rintro e w4 ⟨rfl, hr4, hg4⟩
      rw [HEF.out] at hr4
      have G4 := G3.trans hg4
      clear R3 hg4 G3
      go_wp2_with fail
      refine (rd_err base g l a0 e0 _ hr4).mono ?_
      rintro e w5 ⟨rfl, rfl⟩
      have HR4 := Lib.hid hr4
      clear hr4
      go_wp2_with fail
      try rw [Exit.noGoto_ret]
      go_ret
      rw [HQQ.out]
      exact ⟨⟨none, 0, rfl, World.ownsRow_nil _ _ _ _⟩, HR4.out, G4⟩
  · have HE : Hid (e0 = ez) := Lib.hid (by rw [HE0.out, if_neg h0])
    have hez0 : ez = 0 := by
      by_cases hz : ez = 0
      · exact hz
      · exact absurd (HZ'.out (by rw [HE.out]; exact hz)) h0
    have HE00 : Hid (e0 = 0) := Lib.hid (by rw [HE.out]; exact hez0)
    subst hez0
    have bn : ((n : Int) == 0) = false := by simp [h0]
    have bnn : (n == 0) = false := by simp [h0]
    clear h0 HF
    have hgb := hg1.size
    go_wp2_with fail
    all_goals (try go_step3)
    go_wp2_with fail
    go_loopw [14, 4] (fun i v wr => ∃ (k a' : Nat) (ns : List Nd) (AO : Option Addr) (cO : Nat), k ≤ n ∧ i = .int .i64 k ∧ v = .slice AO k cO ∧ Hid (nodesOut l k a0 = (ns, a', 0)) ∧ a' ≤ l.length ∧ wr.ownsRow w.heap.size 29 5 (.slice AO k cO) k (ncs ns) ∧ Rd wr base g l a' 0 ∧ w.grownBy wr (some g)) (fun i _ _ => n - (intOf i).toNat)
    case atStart => exact ⟨0, a0, [], none, 0, Nat.zero_le _, rfl, rfl, Lib.hid rfl, hna, World.ownsRow_nil _ _ _ _, hr1, hg1⟩
    case round =>
      obtain ⟨k, a', ns, AO, cO, hk, rfl, rfl, HS, ha', hrow, hr, hgr⟩ := hrel
      clear hr1 hg1
      have HNS : Hid (ns.length = k) := Lib.hid (by have := nodes_full (l := l) (a := a0) k (by rw [HS.out]); rw [HS.out] at this; exact this)
      have hwz := hgr.size
      by_cases hlt : k < n
      · have d1 : decide ((k : Int) < (n : Int)) = true := by simp; omega
        have HSTEP : Hid (nodesOut l (k + 1) a0 = (ns ++ [(nodeOut l a').1], (nodeOut l a').2)) := Lib.hid (by have := nodes_step (l := l) (a := a0) (k := k) (by rw [HS.out]); rw [HS.out] at this; exact this)
        have HSTOP : Hid ((nodeOut l a').2.2 ≠ 0 → Q = ([], (nodeOut l a').2)) := Lib.hid (fun hz => by
          have h1 := nodes_stuck (l := l) (a := a0) (k := k + 1) (by rw [HSTEP.out]; exact hz) n (by omega)
          rw [HSTEP.out] at h1
          have h2 := HQ1.out HE00.out (by rw [h1]; exact hz)
          rw [h2, h1])
        have B0 := Blk.new wr (ncells zn) 29
        have hbz := (Below.refl wr.heap.size wr).alloc (Nat.le_refl _) (.cells (ncells zn).toArray 29)
        have hra := hr.later hbz
        have hrwa := row_later hrow hbz
        have hga := grown_onto hgr hbz
        have hgx : g < wr.heap.size := hr.block.2
        have hnb : (Value.slice AO k cO).ownBlock ≠ some wr.heap.size := fun e => by
          have := hrow.lt _ e
          omega
        obtain ⟨Bx, hBx⟩ : ∃ B, B = wr.heap.size := ⟨_, rfl⟩
        have hwb : w.heap.size ≤ Bx := by omega
        have hgB : g < Bx := by omega
        rw [← hBx] at B0 hnb
        obtain ⟨W0, hW0⟩ : ∃ W0, W0 = wr.alloc (.cells (ncells zn).toArray 29) := ⟨_, rfl⟩
        have HW0 := Lib.hid hW0
        have HBX := Lib.hid hBx
        rw [← hW0] at B0 hra hrwa hga
        have hW0z : W0.heap.size = Bx + 1 := by rw [hW0, hBx]; simp
        clear hW0 hbz hr hrow hgr hgx hBx
        have HRW := Lib.hid hrwa
        have HGA := Lib.hid hga
        have HNBK := Lib.hid hnb
        have HWB := Lib.hid hwb
        have HGB := Lib.hid hgB
        have HW0Z := Lib.hid hW0z
        have HGLT := Lib.hid hgl
        clear hrwa hga hnb hwb hgB hW0z hwz hgb hgl
        have T0 := Lib.hid (fun wx (h1 : Rd wx base g l a' 0) (h2 : Blk wx Bx (ncells (0, 0, zv))) => take0_any base g Bx l a' wx h1 h2 HGB.out ha' hm)
        have T1 := Lib.hid (fun wx (h0 : neA l a' = 0) (h1 : Rd wx base g l (naA l a') 0) (h2 : Blk wx Bx (ncells ((ndA l a' : Int), 0, zv))) => take1_any base g Bx l a' wx h0 h1 h2 HGB.out ha' hm)
        have T2 := Lib.hid (fun wx (h0 : (nB l a').2.2 = 0) (h1 : Rd wx base g l (nB l a').2.1 0) (h2 : Blk wx Bx (ncells ((ndA l a' : Int), ((nB l a').1 : Int), zv))) => take2_any base g Bx l a' wx h0 h1 h2 HGB.out ha' hm)
        have P1 := Lib.hid (fun h => nA_stop (l := l) (a := a') h)
        have P2 := Lib.hid (fun h => nB_stop (l := l) (a := a') h)
        have hqa : (nodeOut l a').2.1 ≤ l.length := nodeOut_at ha'
        obtain ⟨⟨⟨o1, m1, y0, y1, y2⟩, a3, e3⟩, hq3⟩ : ∃ q, q = nodeOut l a' := ⟨_, rfl⟩
        rw [← hq3] at HSTEP HSTOP P1 P2 hqa
        simp only [← hq3] at T2
        simp only at HSTEP HSTOP P1 P2 hqa
        obtain ⟨⟨m, a2, e2⟩, hq2⟩ : ∃ q, q = nB l a' := ⟨_, rfl⟩
        simp only [← hq2] at T1 T2 P2
        obtain ⟨aA, haA⟩ : ∃ q, q = naA l a' := ⟨_, rfl⟩
        obtain ⟨eA, heA⟩ : ∃ q, q = neA l a' := ⟨_, rfl⟩
        simp only [← haA, ← heA] at T0 T1 P1
        obtain ⟨op, hop⟩ : ∃ q : Int, q = (ndA l a' : Int) := ⟨_, rfl⟩
        simp only [← hop] at T0 T1 T2
        have C0 := Lib.hid (fun wx (h : wx.ownsRow w.heap.size 29 5 (.slice AO k cO) k (ncs ns)) => lcheck_any AO k cO ns wx HNS.out (row_sees h))
        have HLC := Lib.hid (lchk_few (l := ns) (by rw [HNS.out]; omega))
        obtain ⟨cc, hcc⟩ : ∃ cc, cc = lchk ns := ⟨_, rfl⟩
        rw [← hcc] at C0 HLC
        clear hq3 hq2 haA heA hop hcc
        go_wp2_with fail
        rw [show wr.alloc (.cells #[.int .i64 0, .int .i64 0, .int .i64 0, .int .i64 0, .string ⟨#[]⟩] 29) = W0 from HW0.out.symm, ← HBX.out]
        go_loopw [16] (fun i wq => Hid (Grown2 W0 wq g Bx) ∧ ((i = .int .i64 0 ∧ Rd wq base g l a' 0 ∧ Blk wq Bx (ncells (0, 0, zv))) ∨ (i = .int .i64 1 ∧ Hid (eA = 0) ∧ Rd wq base g l aA 0 ∧ Blk wq Bx (ncells (op, 0, zv))) ∨ (i = .int .i64 2 ∧ Hid (e2 = 0) ∧ Rd wq base g l a2 0 ∧ Blk wq Bx (ncells (op, (m : Int), zv))) ∨ (i = .int .i64 3 ∧ Hid (e3 = 0) ∧ Rd wq base g l a3 0 ∧ Blk wq Bx (ncells (o1, m1, y0, y1, y2))))) (fun i _ => 3 - (intOf i).toNat)
        case atStart => exact ⟨Lib.hid (Grown2.refl _ _ _), .inl ⟨rfl, hra, B0⟩⟩
        case round =>
          obtain ⟨HG2, hcase⟩ := hrel
          clear hra B0
          rcases hcase with ⟨rfl, hr, hB⟩ | ⟨rfl, HZA, hr, hB⟩ | ⟨rfl, HZ2, hr, hB⟩ | ⟨rfl, HZ3, hr, hB⟩
          · go_wp2_with fail
            refine (T0.out _ hr hB).mono ?_
            rintro e w3 ⟨rfl, hr3, hB3, hg3⟩
            have HG3 := Lib.hid (HG2.out.trans hg3)
            have HR3 := Lib.hid hr3
            have HB3 := Lib.hid hB3
            clear hr hB hr3 hB3 hg3 HG2
            go_wp2_with fail
            refine (rd_err base g l aA eA _ HR3.out).mono ?_
            rintro e w4 ⟨rfl, rfl⟩
            by_cases hz : eA = 0
            · have HZN := Lib.hid hz
              rw [hz] at HR3
              rw [hz]
              clear hz
              go_wp2_with fail
              go_roundw
              case rel => exact ⟨HG3, .inr (.inl ⟨rfl, HZN, HR3.out, HB3.out⟩)⟩
              case measure => simp [intOf]
            · have bz : (eA != 0) = true := by simp [hz]
              have HNE := Lib.hid hz
              have HQQ : Hid (Q = ([], aA, eA)) := Lib.hid (by have h1 := P1.out hz; injection h1 with h1 h2; have h3 := HSTOP.out (by rw [h2]; exact hz); rw [h3, h1, h2])
              have HROW := Lib.hid (row_two HRW.out HG3.out HGLT.out HNBK.out)
              have HR4 := HR3
              have HG4 := Lib.hid (grown_two HGA.out HG3.out HWB.out)
              clear hz HG3 HR3 HB3
              go_wp2_with fail
              refine (C0.out _ HROW.out).mono ?_
              rintro e w5 ⟨rfl, hb5⟩
              have HR5 := Lib.hid (HR4.out.later hb5)
              have HG5 := Lib.hid (grown_onto HG4.out hb5)
              clear hb5 HR4 HG4 HROW
              rcases HLC.out with rfl | rfl | rfl
              · go_wp2_with fail
                refine (rd_err base g l aA eA _ HR5.out).mono ?_
                rintro e w7 ⟨rfl, rfl⟩
                go_wp2_with fail
                try rw [Exit.noGoto_ret]
                go_ret
                rw [HQQ.out]
                exact ⟨⟨none, 0, rfl, World.ownsRow_nil _ _ _ _⟩, HR5.out, HG5.out⟩
              · go_wp2_with fail
                refine (rd_fail base g l aA eA 3 _ HR5.out).mono ?_
                rintro e w6 ⟨rfl, hr6, hg6⟩
                rw [failOut_not _ _ HNE.out] at hr6
                have HR6 := Lib.hid hr6
                have HG6 := Lib.hid (HG5.out.trans hg6)
                clear hr6 hg6 HR5 HG5
                go_wp2_with fail
                refine (rd_err base g l aA eA _ HR6.out).mono ?_
                rintro e w7 ⟨rfl, rfl⟩
                go_wp2_with fail
                try rw [Exit.noGoto_ret]
                go_ret
                rw [HQQ.out]
                exact ⟨⟨none, 0, rfl, World.ownsRow_nil _ _ _ _⟩, HR6.out, HG6.out⟩
              · go_wp2_with fail
                refine (rd_fail base g l aA eA 5 _ HR5.out).mono ?_
                rintro e w6 ⟨rfl, hr6, hg6⟩
                rw [failOut_not _ _ HNE.out] at hr6
                have HR6 := Lib.hid hr6
                have HG6 := Lib.hid (HG5.out.trans hg6)
                clear hr6 hg6 HR5 HG5
                go_wp2_with fail
                refine (rd_err base g l aA eA _ HR6.out).mono ?_
                rintro e w7 ⟨rfl, rfl⟩
                go_wp2_with fail
                try rw [Exit.noGoto_ret]
                go_ret
                rw [HQQ.out]
                exact ⟨⟨none, 0, rfl, World.ownsRow_nil _ _ _ _⟩, HR6.out, HG6.out⟩
          · go_wp2_with fail
            refine (T1.out _ HZA.out hr hB).mono ?_
            rintro e w3 ⟨rfl, hr3, hB3, hg3⟩
            have HG3 := Lib.hid (HG2.out.trans hg3)
            have HR3 := Lib.hid hr3
            have HB3 := Lib.hid hB3
            clear hr hB hr3 hB3 hg3 HG2
            go_wp2_with fail
            refine (rd_err base g l a2 e2 _ HR3.out).mono ?_
            rintro e w4 ⟨rfl, rfl⟩
            by_cases hz : e2 = 0
            · have HZN := Lib.hid hz
              rw [hz] at HR3
              rw [hz]
              clear hz
              go_wp2_with fail
              go_roundw
              case rel => exact ⟨HG3, .inr (.inr (.inl ⟨rfl, HZN, HR3.out, HB3.out⟩))⟩
              case measure => simp [intOf]
            · have bz : (e2 != 0) = true := by simp [hz]
              have HNE := Lib.hid hz
              have HQQ : Hid (Q = ([], a2, e2)) := Lib.hid (by have h1 := P2.out hz; injection h1 with h1 h2; have h3 := HSTOP.out (by rw [h2]; exact hz); rw [h3, h1, h2])
              have HROW := Lib.hid (row_two HRW.out HG3.out HGLT.out HNBK.out)
              have HR4 := HR3
              have HG4 := Lib.hid (grown_two HGA.out HG3.out HWB.out)
              clear hz HG3 HR3 HB3
              go_wp2_with fail
              refine (C0.out _ HROW.out).mono ?_
              rintro e w5 ⟨rfl, hb5⟩
              have HR5 := Lib.hid (HR4.out.later hb5)
              have HG5 := Lib.hid (grown_onto HG4.out hb5)
              clear hb5 HR4 HG4 HROW
              rcases HLC.out with rfl | rfl | rfl
              · go_wp2_with fail
                refine (rd_err base g l a2 e2 _ HR5.out).mono ?_
                rintro e w7 ⟨rfl, rfl⟩
                go_wp2_with fail
                try rw [Exit.noGoto_ret]
                go_ret
                rw [HQQ.out]
                exact ⟨⟨none, 0, rfl, World.ownsRow_nil _ _ _ _⟩, HR5.out, HG5.out⟩
              · go_wp2_with fail
                refine (rd_fail base g l a2 e2 3 _ HR5.out).mono ?_
                rintro e w6 ⟨rfl, hr6, hg6⟩
                rw [failOut_not _ _ HNE.out] at hr6
                have HR6 := Lib.hid hr6
                have HG6 := Lib.hid (HG5.out.trans hg6)
                clear hr6 hg6 HR5 HG5
                go_wp2_with fail
                refine (rd_err base g l a2 e2 _ HR6.out).mono ?_
                rintro e w7 ⟨rfl, rfl⟩
                go_wp2_with fail
                try rw [Exit.noGoto_ret]
                go_ret
                rw [HQQ.out]
                exact ⟨⟨none, 0, rfl, World.ownsRow_nil _ _ _ _⟩, HR6.out, HG6.out⟩
              · go_wp2_with fail
                refine (rd_fail base g l a2 e2 5 _ HR5.out).mono ?_
                rintro e w6 ⟨rfl, hr6, hg6⟩
                rw [failOut_not _ _ HNE.out] at hr6
                have HR6 := Lib.hid hr6
                have HG6 := Lib.hid (HG5.out.trans hg6)
                clear hr6 hg6 HR5 HG5
                go_wp2_with fail
                refine (rd_err base g l a2 e2 _ HR6.out).mono ?_
                rintro e w7 ⟨rfl, rfl⟩
                go_wp2_with fail
                try rw [Exit.noGoto_ret]
                go_ret
                rw [HQQ.out]
                exact ⟨⟨none, 0, rfl, World.ownsRow_nil _ _ _ _⟩, HR6.out, HG6.out⟩
          · go_wp2_with fail
            refine (T2.out _ HZ2.out hr hB).mono ?_
            rintro e w3 ⟨rfl, hr3, hB3, hg3⟩
            have HG3 := Lib.hid (HG2.out.trans hg3)
            have HR3 := Lib.hid hr3
            have HB3 := Lib.hid hB3
            clear hr hB hr3 hB3 hg3 HG2
            go_wp2_with fail
            refine (rd_err base g l a3 e3 _ HR3.out).mono ?_
            rintro e w4 ⟨rfl, rfl⟩
            by_cases hz : e3 = 0
            · have HZN := Lib.hid hz
              rw [hz] at HR3
              rw [hz]
              clear hz
              go_wp2_with fail
              go_roundw
              case rel => exact ⟨HG3, .inr (.inr (.inr ⟨rfl, HZN, HR3.out, HB3.out⟩))⟩
              case measure => simp [intOf]
            · have bz : (e3 != 0) = true := by simp [hz]
              have HNE := Lib.hid hz
              have HQQ : Hid (Q = ([], a3, e3)) := Lib.hid (HSTOP.out hz)
              have HROW := Lib.hid (row_two HRW.out HG3.out HGLT.out HNBK.out)
              have HR4 := HR3
              have HG4 := Lib.hid (grown_two HGA.out HG3.out HWB.out)
              clear hz HG3 HR3 HB3
              go_wp2_with fail
              refine (C0.out _ HROW.out).mono ?_
              rintro e w5 ⟨rfl, hb5⟩
              have HR5 := Lib.hid (HR4.out.later hb5)
              have HG5 := Lib.hid (grown_onto HG4.out hb5)
              clear hb5 HR4 HG4 HROW
              rcases HLC.out with rfl | rfl | rfl
              · go_wp2_with fail
                refine (rd_err base g l a3 e3 _ HR5.out).mono ?_
                rintro e w7 ⟨rfl, rfl⟩
                go_wp2_with fail
                try rw [Exit.noGoto_ret]
                go_ret
                rw [HQQ.out]
                exact ⟨⟨none, 0, rfl, World.ownsRow_nil _ _ _ _⟩, HR5.out, HG5.out⟩
              · go_wp2_with fail
                refine (rd_fail base g l a3 e3 3 _ HR5.out).mono ?_
                rintro e w6 ⟨rfl, hr6, hg6⟩
                rw [failOut_not _ _ HNE.out] at hr6
                have HR6 := Lib.hid hr6
                have HG6 := Lib.hid (HG5.out.trans hg6)
                clear hr6 hg6 HR5 HG5
                go_wp2_with fail
                refine (rd_err base g l a3 e3 _ HR6.out).mono ?_
                rintro e w7 ⟨rfl, rfl⟩
                go_wp2_with fail
                try rw [Exit.noGoto_ret]
                go_ret
                rw [HQQ.out]
                exact ⟨⟨none, 0, rfl, World.ownsRow_nil _ _ _ _⟩, HR6.out, HG6.out⟩
              · go_wp2_with fail
                refine (rd_fail base g l a3 e3 5 _ HR5.out).mono ?_
                rintro e w6 ⟨rfl, hr6, hg6⟩
                rw [failOut_not _ _ HNE.out] at hr6
                have HR6 := Lib.hid hr6
                have HG6 := Lib.hid (HG5.out.trans hg6)
                clear hr6 hg6 HR5 HG5
                go_wp2_with fail
                refine (rd_err base g l a3 e3 _ HR6.out).mono ?_
                rintro e w7 ⟨rfl, rfl⟩
                go_wp2_with fail
                try rw [Exit.noGoto_ret]
                go_ret
                rw [HQQ.out]
                exact ⟨⟨none, 0, rfl, World.ownsRow_nil _ _ _ _⟩, HR6.out, HG6.out⟩
          · -- the node is whole
            have HROW := Lib.hid (row_two HRW.out HG2.out HGLT.out HNBK.out)
            have HG4 := Lib.hid (grown_two HGA.out HG2.out HWB.out)
            have HRD := Lib.hid hr
            have hwq := HG4.out.size
            have RG : wr.rangeAt Bx 0 [.int .i64 o1, .int .i64 m1, .int .i64 y0, .int .i64 y1, .string y2] := hB.range 0 _ rfl
            have HNEW : Hid (nodesOut l (k + 1) a0 = (ns ++ [(o1, m1, y0, y1, y2)], a3, 0)) := Lib.hid (by rw [HSTEP.out, HZ3.out])
            have HNC : Hid (ncs ns ++ [.int .i64 o1, .int .i64 m1, .int .i64 y0, .int .i64 y1, .string y2] = ncs (ns ++ [(o1, m1, y0, y1, y2)])) := Lib.hid (by rw [ncs_append]; rfl)
            have HR1 := Lib.hid (World.ownsRow.alloc HROW.out (.cells #[.int .i64 o1, .int .i64 m1, .int .i64 y0, .int .i64 y1, .string y2] 29))
            clear hr hB HG2 hwq
            have hwq := HG4.out.size
            go_wp2_with (first
              | (refine wpList_load_mid rfl 29 (.tmp 5) rfl Bx 0 rfl [.int .i64 o1, .int .i64 m1, .int .i64 y0, .int .i64 y1, .string y2] _ RG hu rfl info_node ?_)
              | (at_builtin
                 refine wpList_appk _ rfl (.tmp 26) (.tmp 28) 22 rfl w.heap.size 29 i1 _ 5 48 Try.underlying22 ji jz0 jz1 jz2 rfl (by decide) (.slice AO k cO) k (ncs ns) rfl HR1.out (wr.heap.size + 1) (some ⟨wr.heap.size, 0, none⟩) 1 [.int .i64 o1, .int .i64 m1, .int .i64 y0, .int .i64 y1, .string y2] 1 rfl rfl (sees_lit wr #[.int .i64 o1, .int .i64 m1, .int .i64 y0, .int .i64 y1, .string y2] 29 (0, 0) [.int .i64 o1, .int .i64 m1, .int .i64 y0, .int .i64 y1, .string y2] rfl) (by simp [Value.oneCell']) (by unfold maxLen; omega) (by omega) (by simp; omega) ?_
                 intro A3 c3 w3 hr3 hb3 hg3 hat3)
              | fail)
            rw [HNC.out] at hr3
            have hbz3 := (Below.refl wr.heap.size wr).alloc (Nat.le_refl _) (.cells #[.int .i64 o1, .int .i64 m1, .int .i64 y0, .int .i64 y1, .string y2] 29)
            have hR5 := (HRD.out.later hbz3).row hg3 (fun q hq => by have := (HR1.out.lt q hq).1; have := HGLT.out; omega)
            have hG5 := grown_row (grown_onto HG4.out hbz3) hg3 (fun q hq => (HR1.out.lt q hq).1)
            clear hbz3 RG
            go_roundw
            case rel => exact ⟨k + 1, a3, ns ++ [(o1, m1, y0, y1, y2)], A3, c3, by omega, by go_num, rfl, HNEW, hqa, hr3, hR5, hG5⟩
            case measure => simp [intOf]; omega
      · obtain rfl : k = n := by omega
        have HLC := lchk_few (l := ns) (by rw [HNS.out]; omega)
        have C0 := Lib.hid (lcheck_any AO k cO ns wr HNS.out (row_sees hrow))
        have HQA : Hid (lchk ns = 0 → Q = (ns, a', 0)) := Lib.hid (fun hz => by rw [HQ2.out HE00.out (by rw [HS.out]) (by rw [HS.out]; exact hz), HS.out])
        have HQB : Hid (lchk ns ≠ 0 → Q = ([], a', if lchk ns = 1 then 3 else lchk ns)) := Lib.hid (fun hz => by rw [HQ3.out HE00.out (by rw [HS.out]) (by rw [HS.out]; exact hz), HS.out])
        obtain ⟨cc, hcc⟩ : ∃ cc, cc = lchk ns := ⟨_, rfl⟩
        rw [← hcc] at C0 HLC HQA HQB
        have HROW := Lib.hid hrow
        have HRD := Lib.hid hr
        have HGR := Lib.hid hgr
        clear hcc hrow hr hgr
        rcases HLC with rfl | rfl | rfl
        · have HQQ := Lib.hid (HQA.out rfl)
          go_wp2_with fail
          refine C0.out.mono ?_
          rintro e w5 ⟨rfl, hb5⟩
          have HR5 := Lib.hid (HRD.out.later hb5)
          have HG5 := Lib.hid (grown_onto HGR.out hb5)
          have HW5 := Lib.hid (row_later HROW.out hb5)
          clear hb5
          go_wp2_with fail
          refine (rd_err base g l a' 0 _ HR5.out).mono ?_
          rintro e w7 ⟨rfl, rfl⟩
          go_wp2_with fail
          try rw [Exit.noGoto_ret]
          go_ret
          rw [HQQ.out]
          refine ⟨⟨AO, cO, ?_, ?_⟩, HR5.out, HG5.out⟩
          · rw [HNS.out]; rfl
          · rw [HNS.out]; exact HW5.out
        · have HQQ : Hid (Q = ([], a', 3)) := Lib.hid (HQB.out (by decide))
          go_wp2_with fail
          refine C0.out.mono ?_
          rintro e w5 ⟨rfl, hb5⟩
          have HR5 := Lib.hid (HRD.out.later hb5)
          have HG5 := Lib.hid (grown_onto HGR.out hb5)
          clear hb5
          go_wp2_with fail
          refine (rd_fail base g l a' 0 3 _ HR5.out).mono ?_
          rintro e w6 ⟨rfl, hr6, hg6⟩
          rw [failOut_zero] at hr6
          have HR6 := Lib.hid hr6
          have HG6 := Lib.hid (HG5.out.trans hg6)
          clear hr6 hg6 HR5 HG5
          go_wp2_with fail
          refine (rd_err base g l a' 3 _ HR6.out).mono ?_
          rintro e w7 ⟨rfl, rfl⟩
          go_wp2_with fail
          try rw [Exit.noGoto_ret]
          go_ret
          rw [HQQ.out]
          exact ⟨⟨none, 0, rfl, World.ownsRow_nil _ _ _ _⟩, HR6.out, HG6.out⟩
        · have HQQ : Hid (Q = ([], a', 5)) := Lib.hid (HQB.out (by decide))
          go_wp2_with fail
          refine C0.out.mono ?_
          rintro e w5 ⟨rfl, hb5⟩
          have HR5 := Lib.hid (HRD.out.later hb5)
          have HG5 := Lib.hid (grown_onto HGR.out hb5)
          clear hb5
          go_wp2_with fail
          refine (rd_fail base g l a' 0 5 _ HR5.out).mono ?_
          rintro e w6 ⟨rfl, hr6, hg6⟩
          rw [failOut_zero] at hr6
          have HR6 := Lib.hid hr6
          have HG6 := Lib.hid (HG5.out.trans hg6)
          clear hr6 hg6 HR5 HG5
          go_wp2_with fail
          refine (rd_err base g l a' 5 _ HR6.out).mono ?_
          rintro e w7 ⟨rfl, rfl⟩
          go_wp2_with fail
          try rw [Exit.noGoto_ret]
          go_ret
          rw [HQQ.out]
          exact ⟨⟨none, 0, rfl, World.ownsRow_nil _ _ _ _⟩, HR6.out, HG6.out⟩
end Go.Proofs.Ytgpbglmlakildaa

/- Filters as they are read of bytes: what the document's node returns. -/
namespace Go.Proofs.Ytgpbglmlakildaa
set_option linter.unusedVariables false
set_option linter.unusedSimpArgs false
open Go Go.RowKit OctM

theorem Rr.row {w w' : World} {base g : Nat} {l : List UInt8} {e : Int} (h : Rr w base g l e) {row : Option Nat} (hg : w.grownBy w' row) (hr : ∀ q, row = some q → q ≠ g) : Rr w' base g l e := by
  unfold Rr at h ⊢
  refine World.ownsRow.kept h hg (.inr ?_)
  intro e
  exact hr g e.symm rfl
/-- How far the document's node is: the reader, the result's block, the node's block. -/
structure NSt (w : World) (base g G2 G3 : Nat) (l : List UInt8) (wx : World) (a : Nat) (e : Int) (nd : Nd) : Prop where
  rr : Rr wx base g (l.drop a) e
  b2 : Blk wx G2 (ncells zn)
  b3 : Blk wx G3 (ncells nd)
  gr : w.grownBy wx (some g)
  lt : g < w.heap.size
  le : w.heap.size ≤ G2
  l3 : G2 < G3
section
variable {w : World} {base g G2 G3 : Nat} {l : List UInt8} {wx wy : World} {a a' : Nat} {e e' : Int} {nd nd' : Nd}
theorem NSt.read (h : NSt w base g G2 G3 l wx a e nd) (hr : Rr wy base g (l.drop a') e') (hg : wx.grownBy wy (some g)) : NSt w base g G2 G3 l wy a' e' nd :=
  ⟨hr, h.b2.kept hg (by intro e; injection e; have := h.lt; have := h.le; omega), h.b3.kept hg (by intro e; injection e; have := h.lt; have := h.le; have := h.l3; omega), h.gr.trans hg, h.lt, h.le, h.l3⟩
theorem NSt.calm (h : NSt w base g G2 G3 l wx a e nd) (hb : Below wx.heap.size wx wy) : NSt w base g G2 G3 l wy a e nd :=
  ⟨h.rr.later hb, h.b2.later hb, h.b3.later hb, grown_onto h.gr hb, h.lt, h.le, h.l3⟩
theorem NSt.cell (h : NSt w base g G2 G3 l wx a e nd) (j : Nat) (v : Value) (hn : (ncells nd).set j v = ncells nd') : NSt w base g G2 G3 l (wx.setCell ⟨G3, j, none⟩ v) a e nd' :=
  ⟨h.rr.row (grown_setCell wx G3 j v) (fun q e => by injection e with e; have := h.lt; have := h.le; have := h.l3; omega), h.b2.setOther j v (by have := h.l3; omega), hn ▸ h.b3.set j v,
    grown_row h.gr (grown_setCell wx G3 j v) (fun q e => by injection e with e; have := h.le; have := h.l3; omega), h.lt, h.le, h.l3⟩
theorem NSt.val (h : NSt w base g G2 G3 l wx a e nd) (v : V3) : NSt w base g G2 G3 l (wx.setCells G3 2 (vcells v)) a e (nd.1, nd.2.1, v) :=
  ⟨h.rr.row (grown_sets G3 (vcells v) 2 wx) (fun q e => by injection e with e; have := h.lt; have := h.le; have := h.l3; omega), h.b2.setsOther (by have := h.l3; omega) _ _,
    (by
      have := h.b3.sets (vcells v) 2 (by rw [ncells_len]; show 2 + 3 ≤ 5; omega)
      exact this),
    grown_row h.gr (grown_sets G3 (vcells v) 2 wx) (fun q e => by injection e with e; have := h.le; have := h.l3; omega), h.lt, h.le, h.l3⟩
end
set_option maxRecDepth 100000 in
set_option maxHeartbeats 1600000 in
theorem rmost_any (op : Int) (w : World) (h : hasN op = true) : Calls Try.prog 99 #[.int .i64 op] w fun e w' => e = .returned (.int .i64 (npm op)) ∧ w = w' := by
  by_cases h3 : op = 3
  · subst h3; go_enter Try.func99, Try.ntmps99; go_wp2; go_ret; exact ⟨rfl, rfl⟩
  by_cases h4 : op = 4
  · subst h4; go_enter Try.func99, Try.ntmps99; go_wp2; go_ret; exact ⟨rfl, rfl⟩
  have hR : Hid (npm op = 7) := Lib.hid (by unfold npm; rw [if_neg (by omega), if_pos h])
  have b3 : (op == 3) = false := by simpa using h3
  have b4 : (op == 4) = false := by simpa using h4
  clear h3 h4 h
  go_enter Try.func99, Try.ntmps99
  go_wp2
  go_ret
  exact ⟨by rw [hR.out]; rfl, rfl⟩
end Go.Proofs.Ytgpbglmlakildaa

/- Filters as they are read of bytes: what the document's node returns: the walk. -/
namespace Go.Proofs.Ytgpbglmlakildaa
set_option linter.unusedVariables false
set_option linter.unusedSimpArgs false
open Go Go.RowKit OctM

theorem NSt.out {w : World} {base g G2 G3 : Nat} {l : List UInt8} {wx : World} {a : Nat} {e : Int} {nd : Nd} (h : NSt w base g G2 G3 l wx a e nd) :
    Blk (wx.setCells G2 0 (ncells nd)) G2 (ncells nd) ∧ Rr (wx.setCells G2 0 (ncells nd)) base g (l.drop a) e ∧ w.grownBy (wx.setCells G2 0 (ncells nd)) (some g) ∧ wx.rangeAt G3 0 (ncells nd) ∧ wx.there G2 0 5 :=
  ⟨by
    have := h.b2.sets (ncells nd) 0 (by rw [ncells_len, ncells_len]; exact Nat.le_refl 5)
    simpa [ncells] using this,
  h.rr.row (grown_sets G2 (ncells nd) 0 wx) (fun q e => by injection e with e; have := h.lt; have := h.le; omega),
  grown_row h.gr (grown_sets G2 (ncells nd) 0 wx) (fun q e => by injection e with e; have := h.le; omega),
  h.b3.range 0 _ (by rw [List.drop_zero, List.take_length]), h.b2.there 0 5 (by rw [ncells_len]; exact Nat.le_refl 5)⟩

set_option maxRecDepth 100000 in
set_option maxHeartbeats 6400000 in
theorem rr_node (base g : Nat) (l : List UInt8) (a : Nat) (w : World) (h : Rr w base g (l.drop a) 0) (ha : a ≤ l.length) (hm : l.length ≤ 2000) :
    Calls Try.prog 74 #[.pointer (some ⟨g, 0, none⟩)] w fun x w' => x = .returned (.agg (ncells (nodeOut l a).1).toArray) ∧ Rr w' base g (l.drop (nodeOut l a).2.1) (nodeOut l a).2.2 ∧ w.grownBy w' (some g) := by
  have hu := Try.underlying29
  have hgl := h.block.2
  have hb0 := (Below.refl w.heap.size w).alloc (Nat.le_refl _) (.cells (ncells zn).toArray 29)
  have hB0 := Blk.new w (ncells zn) 29
  have HNUM := Lib.hid (rr_numd base g l a 0 12 (w.alloc (.cells (ncells zn).toArray 29)) (h.later hb0) hm)
  have e1 : (numOut l a 0 12).1 = ndA l a := rfl
  have e2 : (numOut l a 0 12).2.1 = naA l a := rfl
  rw [e1, e2] at HNUM
  have HERR := Lib.hid (fun hz => numOut_err l a 0 12 hz)
  rw [e1] at HERR
  have HNE : Hid (neA l a = if ndA l a = 0 then failOut (numOut l a 0 12).2.2 3 else (numOut l a 0 12).2.2) := Lib.hid rfl
  obtain ⟨ez, hez⟩ : ∃ ez, ez = (numOut l a 0 12).2.2 := ⟨_, rfl⟩
  rw [← hez] at HNUM HNE HERR
  have hsz0 : (w.alloc (.cells (ncells zn).toArray 29)).heap.size = w.heap.size + 1 := by simp
  obtain ⟨W0, hW0⟩ : ∃ W, W = w.alloc (.cells (ncells zn).toArray 29) := ⟨_, rfl⟩
  have HW0 := Lib.hid hW0
  rw [← hW0] at HNUM hb0 hB0 hsz0
  rw [znode] at HW0
  have HG0 : Hid (w.grownBy W0 (some g)) := Lib.hid ⟨hb0.os, hb0.tape, hb0.output, hb0.size, fun q hq _ => hb0.block q hq⟩
  have HNA := Lib.hid (naA_at (l := l) ha)
  have HBA := Lib.hid (nB_at (l := l) ha)
  obtain ⟨⟨nd4, a4, e4⟩, hq4⟩ : ∃ q, q = nodeOut l a := ⟨_, rfl⟩
  have HQ := Lib.hid hq4
  rw [← hq4]
  simp only
  clear h hb0 hW0 e1 e2 hez hq4
  go_enter Try.func74, Try.ntmps74
  go_wp2_with fail
  rw [← HW0.out]
  refine HNUM.out.mono ?_
  rintro e w1 ⟨rfl, hr1, hg1⟩
  clear HNUM
  have B2 := hB0.kept hg1 (by simp; omega)
  have hw1 := hg1.size
  have hb1 := (Below.refl w1.heap.size w1).alloc (Nat.le_refl _) (.cells (ncells zn).toArray 29)
  have hB3 := Blk.new w1 (ncells zn) 29
  have TH3 := hB3.there 0 5 (by rw [ncells_len]; exact Nat.le_refl 5)
  have S0 : NSt w base g w.heap.size w1.heap.size l (w1.alloc (.cells (ncells zn).toArray 29)) (naA l a) ez zn :=
    ⟨hr1.later hb1, B2.later hb1, hB3, grown_onto (HG0.out.trans hg1) hb1, hgl, Nat.le_refl _, by omega⟩
  have S1 : NSt w base g w.heap.size w1.heap.size l ((w1.alloc (.cells (ncells zn).toArray 29)).setCells w1.heap.size 0 (ncells ((ndA l a : Int), 0, zv))) (naA l a) ez ((ndA l a : Int), 0, zv) :=
    ⟨S0.rr.row (grown_sets _ _ _ _) (fun q e => by injection e with e; omega), S0.b2.setsOther (by omega) _ _, (by
      have := S0.b3.sets (ncells ((ndA l a : Int), 0, zv)) 0 (by rw [ncells_len, ncells_len]; exact Nat.le_refl 5)
      simpa [ncells] using this), grown_row S0.gr (grown_sets _ _ _ _) (fun q e => by injection e with e; omega), S0.lt, S0.le, S0.l3⟩
  obtain ⟨W1, hW1⟩ : ∃ W, W = (w1.alloc (.cells (ncells zn).toArray 29)).setCells w1.heap.size 0 (ncells ((ndA l a : Int), 0, zv)) := ⟨_, rfl⟩
  rw [← hW1] at S1
  have HW1 : Hid (W1 = (w1.alloc (.cells #[.int .i64 0, .int .i64 0, .int .i64 0, .int .i64 0, .string ⟨#[]⟩] 29)).setCells w1.heap.size 0 [.int .i64 (ndA l a : Int), .int .i64 0, .int .i64 0, .int .i64 0, .string ⟨#[]⟩]) := Lib.hid hW1
  rw [znode] at TH3
  obtain ⟨G3, hG3⟩ : ∃ G, G = w1.heap.size := ⟨_, rfl⟩
  rw [← hG3] at TH3 S1 HW1
  have HG3 := Lib.hid hG3
  have HS1 := Lib.hid S1
  have q1 := S1.rr.facts.2.1
  have q0 := S1.b3.cell (j := 0) rfl
  clear hb1 hB3 B2 hB0 S0 hr1 hg1 hW1 S1 hG3 HG0 hsz0 hw1
  -- the ways
  by_cases h0 : ndA l a = 0
  · have en : nodeOut l a = ((0, 0, zv), naA l a, neA l a) := by
      have h1 := nA_stop (l := l) (a := a) (neA_no h0)
      have hb : (nB l a).1 = 0 := by unfold nB; rw [h0]; rw [if_neg (by show ¬ hasN 0 = true; rw [hasN_zero]; simp)]
      have hv : (nV l a).1 = zv := by unfold nV; rw [h0]; rw [if_neg (by show ¬ hasV 0 = true; rw [hasV_zero]; simp)]
      have h2 : (nodeOut l a).1 = (0, 0, zv) := by show ndOf l a = _; unfold ndOf; rw [hb, hv, h0]; rfl
      rw [← h1, ← h2]
    have HE2 : Hid (neA l a = failOut ez 3) := Lib.hid (by rw [HNE.out, if_pos h0])
    rw [h0] at HS1 HW1 q0
    have z0 : ((0 : Nat) : Int) = 0 := rfl
    rw [z0] at HS1 HW1 q0
    have HQ1 : Hid (nd4 = (0, 0, zv)) := Lib.hid (by have := HQ.out; rw [en] at this; injection this)
    have HQ2 : Hid (a4 = naA l a) := Lib.hid (by have := HQ.out; rw [en] at this; injection this with _ h; injection h)
    have HQ3 : Hid (e4 = failOut ez 3) := Lib.hid (by have := HQ.out; rw [en, HE2.out] at this; injection this with _ h; injection h)
    rw [h0]
    generalize naA l a = aA at HS1 HQ2
    clear en h0 HNE HERR HE2
    by_cases hz : ez = 0
    · subst hz
      go_wp2_with (first
        | (refine wpList_store_mid rfl 29 (.tmp 3) (.tmp 6) rfl w1.heap.size 0 _ rfl rfl (by rw [← HG3.out]; exact TH3) (by exact info_node) (by simp [Value.oneCell']) ?_
           rw [← HG3.out]
           rw [show (w1.alloc (.cells #[.int .i64 0, .int .i64 0, .int .i64 0, .int .i64 0, .string ⟨#[]⟩] 29)).setCells G3 0 (#[.int .i64 0, .int .i64 0, .int .i64 0, .int .i64 0, .string ⟨#[]⟩] : Array Value).toList = W1 from HW1.out.symm])
        | fail)
      refine (rr_fail base g (l.drop aA) 0 3 _ HS1.out.rr).mono ?_
      rintro e w3 ⟨rfl, hr3, hg3⟩
      have HS2 := Lib.hid (HS1.out.read hr3 hg3)
      have q0 := HS2.out.b3.cell (j := 0) rfl
      clear hr3 hg3
      obtain ⟨f1, f2, f3, f4, f5⟩ := HS2.out.out
      have HF := Lib.hid (And.intro f1 (And.intro f2 f3))
      have HSZ : Hid ((ncells (0, 0, zv)).length = 5) := Lib.hid rfl
      have HONE : Hid (∀ zz ∈ ncells (0, 0, zv), zz.oneCell' = true) := Lib.hid (fun zz hv => ncs_one [(0, 0, zv)] zz (by simpa [ncs] using hv))
      obtain ⟨nc, hnc⟩ : ∃ nc, nc = ncells (0, 0, zv) := ⟨_, rfl⟩
      rw [← hnc] at f4 HF HSZ HONE
      have HNC := Lib.hid hnc
      clear hnc f1 f2 f3
      go_wp2_with (first
        | (refine wpList_load_mid rfl 29 (.tmp 3) rfl G3 0 rfl nc _ f4 hu rfl (by rw [HSZ.out]; exact info_node) ?_)
        | (refine wpList_store_mid rfl 29 (.tmp 2) (.tmp 56) rfl w.heap.size 0 nc.toArray rfl rfl (by simpa [HSZ.out] using f5) (by simpa [HSZ.out] using info_node) (all_oneCell_toArray HONE.out) ?_)
        | fail)
      exact bodyPost_ret (v := .agg nc.toArray) (results_blk (q := 2) rfl _ _ w.heap.size nc _ rfl HF.out.1 hu rfl (by rw [HSZ.out]; exact info_node)) rfl ⟨by rw [HNC.out, ← HQ1.out], by rw [HQ2.out, HQ3.out]; exact HF.out.2.1, HF.out.2.2⟩
    · have bz : (ez == 0) = false := by simp [hz]
      have HE3 : Hid (failOut ez 3 = ez) := Lib.hid (failOut_not _ _ hz)
      rw [HE3.out] at HQ3
      clear hz
      obtain ⟨f1, f2, f3, f4, f5⟩ := HS1.out.out
      have HF := Lib.hid (And.intro f1 (And.intro f2 f3))
      have HSZ : Hid ((ncells (0, 0, zv)).length = 5) := Lib.hid rfl
      have HONE : Hid (∀ zz ∈ ncells (0, 0, zv), zz.oneCell' = true) := Lib.hid (fun zz hv => ncs_one [(0, 0, zv)] zz (by simpa [ncs] using hv))
      obtain ⟨nc, hnc⟩ : ∃ nc, nc = ncells (0, 0, zv) := ⟨_, rfl⟩
      rw [← hnc] at f4 HF HSZ HONE
      have HNC := Lib.hid hnc
      clear hnc f1 f2 f3
      go_wp2_with (first
        | (refine wpList_store_mid rfl 29 (.tmp 3) (.tmp 6) rfl w1.heap.size 0 _ rfl rfl (by rw [← HG3.out]; exact TH3) (by exact info_node) (by simp [Value.oneCell']) ?_
           rw [← HG3.out]
           rw [show (w1.alloc (.cells #[.int .i64 0, .int .i64 0, .int .i64 0, .int .i64 0, .string ⟨#[]⟩] 29)).setCells G3 0 (#[.int .i64 0, .int .i64 0, .int .i64 0, .int .i64 0, .string ⟨#[]⟩] : Array Value).toList = W1 from HW1.out.symm])
        | (refine wpList_load_mid rfl 29 (.tmp 3) rfl G3 0 rfl nc _ f4 hu rfl (by rw [HSZ.out]; exact info_node) ?_)
        | (refine wpList_store_mid rfl 29 (.tmp 2) (.tmp 56) rfl w.heap.size 0 nc.toArray rfl rfl (by simpa [HSZ.out] using f5) (by simpa [HSZ.out] using info_node) (all_oneCell_toArray HONE.out) ?_)
        | fail)
      exact bodyPost_ret (v := .agg nc.toArray) (results_blk (q := 2) rfl _ _ w.heap.size nc _ rfl HF.out.1 hu rfl (by rw [HSZ.out]; exact info_node)) rfl ⟨by rw [HNC.out, ← HQ1.out], by rw [HQ2.out, HQ3.out]; exact HF.out.2.1, HF.out.2.2⟩
  · have hz0 : ez = 0 := by
      by_cases hz : ez = 0
      · exact hz
      · exact absurd (HERR.out hz) h0
    have HA0 : Hid (neA l a = 0) := Lib.hid (by rw [HNE.out, if_neg h0]; exact hz0)
    subst hz0
    have bop : ((ndA l a : Int) == 0) = false := by simp [h0]
    have bopn : (ndA l a == 0) = false := by simp [h0]
    clear HNE HERR h0
    cases hN : hasN (ndA l a : Int) with
    | false =>
      have hV : hasV (ndA l a : Int) = false := by
        cases hV : hasV (ndA l a : Int) with
        | false => rfl
        | true => rw [hasV_N hV] at hN; cases hN
      have eB : nB l a = (0, naA l a, 0) := by unfold nB; rw [if_neg (by rw [hN]; simp), HA0.out]
      have eV : nV l a = (zv, naA l a, 0) := by unfold nV; rw [if_neg (by rw [hV]; simp), eB]
      have hok := nok_plain (l := l) (a := a) (by rw [eB]) hV
      have en : nodeOut l a = (((ndA l a : Int), 0, zv), naA l a, 0) := by unfold nodeOut; rw [if_pos hok, eV]; unfold ndOf; rw [eB, eV]; rfl
      have HQ1 : Hid (nd4 = ((ndA l a : Int), 0, zv)) := Lib.hid (by have := HQ.out; rw [en] at this; injection this)
      have HQ2 : Hid (a4 = naA l a) := Lib.hid (by have := HQ.out; rw [en] at this; injection this with _ h; injection h)
      have HQ3 : Hid (e4 = 0) := Lib.hid (by have := HQ.out; rw [en] at this; injection this with _ h; injection h)
      have hNN := of_decide_eq_false (show decide (3 ≤ (ndA l a : Int) ∧ (ndA l a : Int) ≤ 9) = false from hN)
      generalize naA l a = aA at HS1 HQ2
      clear hN hV eB eV hok en
      generalize ndA l a = op at HS1 HW1 q0 bop bopn HQ1 hNN ⊢
      by_cases h3 : 3 ≤ op
      · have d3 : decide ((3 : Int) ≤ (op : Int)) = true := by simp; omega
        have d6 : decide ((6 : Int) ≤ (op : Int)) = true := by simp; omega
        have d9 : decide ((op : Int) ≤ 9) = false := by simp; omega
        have n3 : decide (3 ≤ op) = true := by simp; omega
        have n6 : decide (6 ≤ op) = true := by simp; omega
        have n9 : decide (op ≤ 9) = false := by simp; omega
        clear h3 hNN
        obtain ⟨f1, f2, f3, f4, f5⟩ := HS1.out.out
        have HF := Lib.hid (And.intro f1 (And.intro f2 f3))
        have HSZ : Hid ((ncells ((op : Int), 0, zv)).length = 5) := Lib.hid rfl
        have HONE : Hid (∀ zz ∈ ncells ((op : Int), 0, zv), zz.oneCell' = true) := Lib.hid (fun zz hv => ncs_one [((op : Int), 0, zv)] zz (by simpa [ncs] using hv))
        obtain ⟨nc, hnc⟩ : ∃ nc, nc = ncells ((op : Int), 0, zv) := ⟨_, rfl⟩
        rw [← hnc] at f4 HF HSZ HONE
        have HNC := Lib.hid hnc
        clear hnc f1 f2 f3
        go_wp2_with (first
          | (refine wpList_store_mid rfl 29 (.tmp 3) (.tmp 6) rfl w1.heap.size 0 _ rfl rfl (by rw [← HG3.out]; exact TH3) (by exact info_node) (by simp [Value.oneCell']) ?_
             rw [← HG3.out]
             rw [show (w1.alloc (.cells #[.int .i64 0, .int .i64 0, .int .i64 0, .int .i64 0, .string ⟨#[]⟩] 29)).setCells G3 0 (#[.int .i64 op, .int .i64 0, .int .i64 0, .int .i64 0, .string ⟨#[]⟩] : Array Value).toList = W1 from HW1.out.symm])
          | (refine wpList_load_mid rfl 29 (.tmp 3) rfl G3 0 rfl nc _ f4 hu rfl (by rw [HSZ.out]; exact info_node) ?_)
          | (refine wpList_store_mid rfl 29 (.tmp 2) (.tmp 56) rfl w.heap.size 0 nc.toArray rfl rfl (by simpa [HSZ.out] using f5) (by simpa [HSZ.out] using info_node) (all_oneCell_toArray HONE.out) ?_)
          | fail)
        exact bodyPost_ret (v := .agg nc.toArray) (results_blk (q := 2) rfl _ _ w.heap.size nc _ rfl HF.out.1 hu rfl (by rw [HSZ.out]; exact info_node)) rfl ⟨by rw [HNC.out, ← HQ1.out], by rw [HQ2.out, HQ3.out]; exact HF.out.2.1, HF.out.2.2⟩
      · have d3 : decide ((3 : Int) ≤ (op : Int)) = false := by simp; omega
        have d6 : decide ((6 : Int) ≤ (op : Int)) = false := by simp; omega
        have n3 : decide (3 ≤ op) = false := by simp; omega
        have n6 : decide (6 ≤ op) = false := by simp; omega
        clear h3 hNN
        obtain ⟨f1, f2, f3, f4, f5⟩ := HS1.out.out
        have HF := Lib.hid (And.intro f1 (And.intro f2 f3))
        have HSZ : Hid ((ncells ((op : Int), 0, zv)).length = 5) := Lib.hid rfl
        have HONE : Hid (∀ zz ∈ ncells ((op : Int), 0, zv), zz.oneCell' = true) := Lib.hid (fun zz hv => ncs_one [((op : Int), 0, zv)] zz (by simpa [ncs] using hv))
        obtain ⟨nc, hnc⟩ : ∃ nc, nc = ncells ((op : Int), 0, zv) := ⟨_, rfl⟩
        rw [← hnc] at f4 HF HSZ HONE
        have HNC := Lib.hid hnc
        clear hnc f1 f2 f3
        go_wp2_with (first
          | (refine wpList_store_mid rfl 29 (.tmp 3) (.tmp 6) rfl w1.heap.size 0 _ rfl rfl (by rw [← HG3.out]; exact TH3) (by exact info_node) (by simp [Value.oneCell']) ?_
             rw [← HG3.out]
             rw [show (w1.alloc (.cells #[.int .i64 0, .int .i64 0, .int .i64 0, .int .i64 0, .string ⟨#[]⟩] 29)).setCells G3 0 (#[.int .i64 op, .int .i64 0, .int .i64 0, .int .i64 0, .string ⟨#[]⟩] : Array Value).toList = W1 from HW1.out.symm])
          | (refine wpList_load_mid rfl 29 (.tmp 3) rfl G3 0 rfl nc _ f4 hu rfl (by rw [HSZ.out]; exact info_node) ?_)
          | (refine wpList_store_mid rfl 29 (.tmp 2) (.tmp 56) rfl w.heap.size 0 nc.toArray rfl rfl (by simpa [HSZ.out] using f5) (by simpa [HSZ.out] using info_node) (all_oneCell_toArray HONE.out) ?_)
          | fail)
        exact bodyPost_ret (v := .agg nc.toArray) (results_blk (q := 2) rfl _ _ w.heap.size nc _ rfl HF.out.1 hu rfl (by rw [HSZ.out]; exact info_node)) rfl ⟨by rw [HNC.out, ← HQ1.out], by rw [HQ2.out, HQ3.out]; exact HF.out.2.1, HF.out.2.2⟩
    | true =>
      have hNN := of_decide_eq_true (show decide (3 ≤ (ndA l a : Int) ∧ (ndA l a : Int) ≤ 9) = true from hN)
      have HM := Lib.hid (fun wx : World => rmost_any (ndA l a : Int) wx hN)
      have eB : nB l a = numOut l (naA l a) 0 (npm (ndA l a : Int)) := by unfold nB; rw [if_pos hN, HA0.out]
      have HN2 := Lib.hid (fun wx (hx : Rr wx base g (l.drop (naA l a)) 0) => rr_numd base g l (naA l a) 0 (npm (ndA l a : Int)) wx hx hm)
      rw [← eB] at HN2
      have d3 : decide ((3 : Int) ≤ (ndA l a : Int)) = true := by simp; omega
      have d9 : decide ((ndA l a : Int) ≤ 9) = true := by simp; omega
      have n3 : decide (3 ≤ ndA l a) = true := by simp; omega
      have n9 : decide (ndA l a ≤ 9) = true := by simp; omega
      have HV2 := Lib.hid (fun wx (hx : Rr wx base g (l.drop (nB l a).2.1) (nB l a).2.2) => rr_value base g l (nB l a).2.1 (nB l a).2.2 wx hx HBA.out hm)
      cases hV : hasV (ndA l a : Int) with
      | false =>
        have hVV := of_decide_eq_false (show decide (6 ≤ (ndA l a : Int) ∧ (ndA l a : Int) ≤ 9) = false from hV)
        have d6 : decide ((6 : Int) ≤ (ndA l a : Int)) = false := by simp; omega
        have n6 : decide (6 ≤ ndA l a) = false := by simp; omega
        have eV : nV l a = (zv, (nB l a).2) := by unfold nV; rw [if_neg (by rw [hV]; simp)]
        have en : nodeOut l a = (((ndA l a : Int), ((nB l a).1 : Int), zv), (nB l a).2.1, (nB l a).2.2) := by
          have e1 : (nodeOut l a).1 = ((ndA l a : Int), ((nB l a).1 : Int), zv) := by show ndOf l a = _; unfold ndOf; rw [eV]
          have e2 : (nodeOut l a).2 = (nB l a).2 := by
            by_cases hz : (nB l a).2.2 = 0
            · have hok := nok_plain hz hV
              unfold nodeOut
              rw [if_pos hok, eV]
            · exact nB_stop hz
          rw [← e1, ← e2]
        have HQ1 : Hid (nd4 = ((ndA l a : Int), ((nB l a).1 : Int), zv)) := Lib.hid (by have := HQ.out; rw [en] at this; injection this)
        have HQ2 : Hid (a4 = (nB l a).2.1) := Lib.hid (by have := HQ.out; rw [en] at this; injection this with _ h; injection h)
        have HQ3 : Hid (e4 = (nB l a).2.2) := Lib.hid (by have := HQ.out; rw [en] at this; injection this with _ h; injection h)
        clear HV2
        obtain ⟨⟨m, a2, e2⟩, hq2⟩ : ∃ q, q = nB l a := ⟨_, rfl⟩
        rw [← hq2] at HN2 HQ1 HQ2 HQ3
        simp only at HN2 HQ1 HQ2 HQ3
        generalize naA l a = aA at HS1 HN2
        generalize npm (ndA l a : Int) = mm at HM HN2
        clear hN hV eB eV en hNN hVV hq2
        generalize ndA l a = op at HS1 HW1 q0 bop bopn HQ1 HM d3 d9 d6 n3 n6 n9 ⊢
        go_wp2_with (first
          | (refine wpList_store_mid rfl 29 (.tmp 3) (.tmp 6) rfl w1.heap.size 0 _ rfl rfl (by rw [← HG3.out]; exact TH3) (by exact info_node) (by simp [Value.oneCell']) ?_
             rw [← HG3.out]
             rw [show (w1.alloc (.cells #[.int .i64 0, .int .i64 0, .int .i64 0, .int .i64 0, .string ⟨#[]⟩] 29)).setCells G3 0 (#[.int .i64 op, .int .i64 0, .int .i64 0, .int .i64 0, .string ⟨#[]⟩] : Array Value).toList = W1 from HW1.out.symm])
          | fail)
        refine (HM.out _).mono ?_
        rintro e w' ⟨rfl, rfl⟩
        go_wp2_with fail
        refine (HN2.out _ HS1.out.rr).mono ?_
        rintro e w3 ⟨rfl, hr3, hg3⟩
        have S2 := HS1.out.read hr3 hg3
        have HS3 := Lib.hid (S2.cell (nd' := ((op : Int), (m : Int), zv)) 1 (.int .i64 (m : Int)) rfl)
        have x0 := S2.b3.frozen 1
        have x1 := S2.b3.cell (j := 1) rfl
        have q0 := HS3.out.b3.cell (j := 0) rfl
        clear hr3 hg3 S2 HS1 HM HN2
        obtain ⟨f1, f2, f3, f4, f5⟩ := HS3.out.out
        have HF := Lib.hid (And.intro f1 (And.intro f2 f3))
        have HSZ : Hid ((ncells ((op : Int), (m : Int), zv)).length = 5) := Lib.hid rfl
        have HONE : Hid (∀ zz ∈ ncells ((op : Int), (m : Int), zv), zz.oneCell' = true) := Lib.hid (fun zz hv => ncs_one [((op : Int), (m : Int), zv)] zz (by simpa [ncs] using hv))
        obtain ⟨nc, hnc⟩ : ∃ nc, nc = ncells ((op : Int), (m : Int), zv) := ⟨_, rfl⟩
        rw [← hnc] at f4 HF HSZ HONE
        have HNC := Lib.hid hnc
        clear hnc f1 f2 f3
        go_wp2_with (first
          | (refine wpList_load_mid rfl 29 (.tmp 3) rfl G3 0 rfl nc _ f4 hu rfl (by rw [HSZ.out]; exact info_node) ?_)
          | (refine wpList_store_mid rfl 29 (.tmp 2) (.tmp 56) rfl w.heap.size 0 nc.toArray rfl rfl (by simpa [HSZ.out] using f5) (by simpa [HSZ.out] using info_node) (all_oneCell_toArray HONE.out) ?_)
          | fail)
        exact bodyPost_ret (v := .agg nc.toArray) (results_blk (q := 2) rfl _ _ w.heap.size nc _ rfl HF.out.1 hu rfl (by rw [HSZ.out]; exact info_node)) rfl ⟨by rw [HNC.out, ← HQ1.out], by rw [HQ2.out, HQ3.out]; exact HF.out.2.1, HF.out.2.2⟩
      | true =>
        have hVV := of_decide_eq_true (show decide (6 ≤ (ndA l a : Int) ∧ (ndA l a : Int) ≤ 9) = true from hV)
        have d6 : decide ((6 : Int) ≤ (ndA l a : Int)) = true := by simp; omega
        have n6 : decide (6 ≤ ndA l a) = true := by simp; omega
        have eV : nV l a = valOut l (nB l a).2.1 (nB l a).2.2 := by unfold nV; rw [if_pos hV]
        rw [← eV] at HV2
        have HND := Lib.hid (fun wx : World => rnode_any (ndOf l a) wx)
        have e3 : ndOf l a = ((ndA l a : Int), ((nB l a).1 : Int), (nV l a).1) := rfl
        have en : nodeOut l a = (ndOf l a, (nV l a).2.1, if nok (ndOf l a) = true then (nV l a).2.2 else failOut (nV l a).2.2 3) := rfl
        have HQ1 : Hid (nd4 = ndOf l a) := Lib.hid (by have := HQ.out; rw [en] at this; injection this)
        have HQ2 : Hid (a4 = (nV l a).2.1) := Lib.hid (by have := HQ.out; rw [en] at this; injection this with _ h; injection h)
        have HQ3 : Hid (e4 = if nok (ndOf l a) = true then (nV l a).2.2 else failOut (nV l a).2.2 3) := Lib.hid (by have := HQ.out; rw [en] at this; injection this with _ h; injection h)
        rw [e3] at HND HQ1 HQ3
        obtain ⟨ok, hok⟩ : ∃ ok, ok = nok ((ndA l a : Int), ((nB l a).1 : Int), (nV l a).1) := ⟨_, rfl⟩
        rw [← hok] at HND HQ3
        obtain ⟨⟨v, a3, e5⟩, hq3⟩ : ∃ q, q = nV l a := ⟨_, rfl⟩
        rw [← hq3] at HV2 HND HQ1 HQ2 HQ3
        simp only at HV2 HND HQ1 HQ2 HQ3
        obtain ⟨⟨m, a2, e2⟩, hq2⟩ : ∃ q, q = nB l a := ⟨_, rfl⟩
        rw [← hq2] at HN2 HV2 HND HQ1
        simp only at HN2 HV2 HND HQ1
        generalize naA l a = aA at HS1 HN2
        generalize npm (ndA l a : Int) = mm at HM HN2
        clear hN hV eB eV en hNN hVV hq2 hq3 e3 hok
        generalize ndA l a = op at HS1 HW1 q0 bop bopn HQ1 HM HND d3 d9 d6 n3 n6 n9 ⊢
        have HVC : Hid ((vcells v).length = 3) := Lib.hid rfl
        have HONV : Hid (∀ u ∈ vcells v, u.oneCell' = true) := Lib.hid (fun u hu => fcells_one [v] u (by simpa [fcells] using hu))
        go_wp2_with (first
          | (refine wpList_store_mid rfl 29 (.tmp 3) (.tmp 6) rfl w1.heap.size 0 _ rfl rfl (by rw [← HG3.out]; exact TH3) (by exact info_node) (by simp [Value.oneCell']) ?_
             rw [← HG3.out]
             rw [show (w1.alloc (.cells #[.int .i64 0, .int .i64 0, .int .i64 0, .int .i64 0, .string ⟨#[]⟩] 29)).setCells G3 0 (#[.int .i64 op, .int .i64 0, .int .i64 0, .int .i64 0, .string ⟨#[]⟩] : Array Value).toList = W1 from HW1.out.symm])
          | fail)
        refine (HM.out _).mono ?_
        rintro e w' ⟨rfl, rfl⟩
        go_wp2_with fail
        refine (HN2.out _ HS1.out.rr).mono ?_
        rintro e w3 ⟨rfl, hr3, hg3⟩
        have S2 := HS1.out.read hr3 hg3
        have HS3 := Lib.hid (S2.cell (nd' := ((op : Int), (m : Int), zv)) 1 (.int .i64 (m : Int)) rfl)
        have x0 := S2.b3.frozen 1
        have x1 := S2.b3.cell (j := 1) rfl
        have q0 := HS3.out.b3.cell (j := 0) rfl
        clear hr3 hg3 S2 HS1 HM HN2
        go_wp2_with fail
        refine (HV2.out _ HS3.out.rr).mono ?_
        rintro e w4 ⟨rfl, hr4, hg4⟩
        have S4 := HS3.out.read hr4 hg4
        have HS5 := Lib.hid (S4.val v)
        have TH5 := S4.b3.there 2 3 (by rw [ncells_len]; omega)
        have y1 := HS5.out.rr.facts.2.1
        have RG5 := HS5.out.b3.range 0 _ (by rw [List.drop_zero, List.take_length])
        simp only at HS5 y1 RG5
        have HSZ5 : Hid ((ncells ((op : Int), (m : Int), v)).length = 5) := Lib.hid rfl
        have HONE5 : Hid (∀ u ∈ ncells ((op : Int), (m : Int), v), u.oneCell' = true) := Lib.hid (fun u hu => ncs_one [((op : Int), (m : Int), v)] u (by simpa [ncs] using hu))
        obtain ⟨vc, hvc⟩ : ∃ vc, vc = vcells v := ⟨_, rfl⟩
        rw [← hvc] at HS5 y1 RG5 HVC HONV ⊢
        obtain ⟨n5, hn5⟩ : ∃ n5, n5 = ncells ((op : Int), (m : Int), v) := ⟨_, rfl⟩
        rw [← hn5] at RG5 HSZ5 HND HONE5
        have HN5 := Lib.hid hn5
        clear hr4 hg4 S4 HS3 HV2 hn5 hvc q0
        by_cases hz : e5 = 0
        · subst hz
          cases ok with
          | true =>
            rw [if_pos rfl] at HQ3
            go_wp2_with (first
              | (refine wpList_store_mid rfl 27 (.tmp 43) (.tmp 42) rfl G3 2 vc.toArray rfl rfl (by simpa [HVC.out] using TH5) (by simpa [HVC.out] using info_val3) (all_oneCell_toArray HONV.out) ?_)
              | (refine wpList_load_g (by rfl) 29 (.tmp 3) rfl G3 0 rfl n5 _ RG5 hu rfl (by rw [HSZ5.out]; exact info_node) ?_)
              | fail)
            refine (HND.out _).mono ?_
            rintro e w6 ⟨rfl, hb6⟩
            have HS6 := Lib.hid (HS5.out.calm hb6)
            clear RG5 TH5 hb6 HS5 y1
            obtain ⟨f1, f2, f3, f4, f5⟩ := HS6.out.out
            have HF := Lib.hid (And.intro f1 (And.intro f2 f3))
            have HSZ : Hid ((ncells ((op : Int), (m : Int), v)).length = 5) := Lib.hid rfl
            have HONE : Hid (∀ zz ∈ ncells ((op : Int), (m : Int), v), zz.oneCell' = true) := Lib.hid (fun zz hv => ncs_one [((op : Int), (m : Int), v)] zz (by simpa [ncs] using hv))
            obtain ⟨nc, hnc⟩ : ∃ nc, nc = ncells ((op : Int), (m : Int), v) := ⟨_, rfl⟩
            rw [← hnc] at f4 HF HSZ HONE
            have HNC := Lib.hid hnc
            clear hnc f1 f2 f3
            go_wp2_with (first
              | (refine wpList_load_mid rfl 29 (.tmp 3) rfl G3 0 rfl nc _ f4 hu rfl (by rw [HSZ.out]; exact info_node) ?_)
              | (refine wpList_store_mid rfl 29 (.tmp 2) (.tmp 56) rfl w.heap.size 0 nc.toArray rfl rfl (by simpa [HSZ.out] using f5) (by simpa [HSZ.out] using info_node) (all_oneCell_toArray HONE.out) ?_)
              | fail)
            exact bodyPost_ret (v := .agg nc.toArray) (results_blk (q := 2) rfl _ _ w.heap.size nc _ rfl HF.out.1 hu rfl (by rw [HSZ.out]; exact info_node)) rfl ⟨by rw [HNC.out, ← HQ1.out], by rw [HQ2.out, HQ3.out]; exact HF.out.2.1, HF.out.2.2⟩
          | false =>
            rw [if_neg (by simp), failOut_zero] at HQ3
            go_wp2_with (first
              | (refine wpList_store_mid rfl 27 (.tmp 43) (.tmp 42) rfl G3 2 vc.toArray rfl rfl (by simpa [HVC.out] using TH5) (by simpa [HVC.out] using info_val3) (all_oneCell_toArray HONV.out) ?_)
              | (refine wpList_load_g (by rfl) 29 (.tmp 3) rfl G3 0 rfl n5 _ RG5 hu rfl (by rw [HSZ5.out]; exact info_node) ?_)
              | fail)
            refine (HND.out _).mono ?_
            rintro e w6 ⟨rfl, hb6⟩
            have HS6 := Lib.hid (HS5.out.calm hb6)
            clear RG5 TH5 hb6 HS5 y1
            go_wp2_with fail
            refine (rr_fail base g (l.drop a3) 0 3 _ HS6.out.rr).mono ?_
            rintro e w7 ⟨rfl, hr7, hg7⟩
            have HS7 := Lib.hid (HS6.out.read hr7 hg7)
            clear hr7 hg7 HS6
            obtain ⟨f1, f2, f3, f4, f5⟩ := HS7.out.out
            have HF := Lib.hid (And.intro f1 (And.intro f2 f3))
            have HSZ : Hid ((ncells ((op : Int), (m : Int), v)).length = 5) := Lib.hid rfl
            have HONE : Hid (∀ zz ∈ ncells ((op : Int), (m : Int), v), zz.oneCell' = true) := Lib.hid (fun zz hv => ncs_one [((op : Int), (m : Int), v)] zz (by simpa [ncs] using hv))
            obtain ⟨nc, hnc⟩ : ∃ nc, nc = ncells ((op : Int), (m : Int), v) := ⟨_, rfl⟩
            rw [← hnc] at f4 HF HSZ HONE
            have HNC := Lib.hid hnc
            clear hnc f1 f2 f3
            go_wp2_with (first
              | (refine wpList_load_mid rfl 29 (.tmp 3) rfl G3 0 rfl nc _ f4 hu rfl (by rw [HSZ.out]; exact info_node) ?_)
              | (refine wpList_store_mid rfl 29 (.tmp 2) (.tmp 56) rfl w.heap.size 0 nc.toArray rfl rfl (by simpa [HSZ.out] using f5) (by simpa [HSZ.out] using info_node) (all_oneCell_toArray HONE.out) ?_)
              | fail)
            exact bodyPost_ret (v := .agg nc.toArray) (results_blk (q := 2) rfl _ _ w.heap.size nc _ rfl HF.out.1 hu rfl (by rw [HSZ.out]; exact info_node)) rfl ⟨by rw [HNC.out, ← HQ1.out], by rw [HQ2.out, HQ3.out]; exact HF.out.2.1, HF.out.2.2⟩
        · have bz : (e5 == 0) = false := by simp [hz]
          have HQ4 : Hid (e4 = e5) := Lib.hid (by rw [HQ3.out]; cases ok with
            | true => rfl
            | false => rw [if_neg (by simp), failOut_not _ _ hz])
          have HQ3 := HQ4
          clear hz
          obtain ⟨f1, f2, f3, f4, f5⟩ := HS5.out.out
          have HF := Lib.hid (And.intro f1 (And.intro f2 f3))
          rw [← HN5.out] at f4 HF
          clear f1 f2 f3
          go_wp2_with (first
            | (refine wpList_store_mid rfl 27 (.tmp 43) (.tmp 42) rfl G3 2 vc.toArray rfl rfl (by simpa [HVC.out] using TH5) (by simpa [HVC.out] using info_val3) (all_oneCell_toArray HONV.out) ?_)
            | (refine wpList_load_mid rfl 29 (.tmp 3) rfl G3 0 rfl n5 _ f4 hu rfl (by rw [HSZ5.out]; exact info_node) ?_)
            | (refine wpList_store_mid rfl 29 (.tmp 2) (.tmp 56) rfl w.heap.size 0 n5.toArray rfl rfl (by simpa [HSZ5.out] using f5) (by simpa [HSZ5.out] using info_node) (all_oneCell_toArray HONE5.out) ?_)
            | fail)
          exact bodyPost_ret (v := .agg n5.toArray) (results_blk (q := 2) rfl _ _ w.heap.size n5 _ rfl HF.out.1 hu rfl (by rw [HSZ5.out]; exact info_node)) rfl ⟨by rw [HN5.out, ← HQ1.out], by rw [HQ2.out, HQ3.out]; exact HF.out.2.1, HF.out.2.2⟩
end Go.Proofs.Ytgpbglmlakildaa
