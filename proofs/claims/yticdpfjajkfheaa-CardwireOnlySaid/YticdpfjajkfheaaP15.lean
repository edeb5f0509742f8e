/- CardwireOnly: the walk. -/
import Derived.Test.YticdpfjajkfheaaP12
import Derived.Test.YticdpfjajkfheaaP14
namespace Go.Proofs.Yticdpfjajkfheaa
set_option linter.unusedVariables false
set_option linter.unusedSimpArgs false
open Go Go.RowKit OctM

theorem Sees.join {w w' : World} {B B' : Nat} {A : Option Addr} {xs : List Value} (h : Sees w B A xs) (h' : Sees w' B' A xs) : Sees w' B A xs := by
  intro hp
  obtain ⟨b, o, e, hb, _⟩ := h hp
  obtain ⟨b', o', e', _, hc⟩ := h' hp
  rw [e] at e'
  injection e' with e'
  injection e' with e1 e2
  subst e1 e2
  exact ⟨b, o, e, hb, hc⟩
/-- A reader whose bytes are known to be new memory, too. -/
def RdB (w : World) (base g : Nat) (l : List UInt8) (at_ : Nat) (err : Int) : Prop :=
  ∃ A c, l.length ≤ c ∧ c ≤ maxLen ∧ Own w base 72 (.slice (some ⟨g, 0, none⟩) 3 3) [.slice A l.length c, .int .i64 at_, .int .i64 err] ∧ Own w base 5 (.slice A l.length c) (bvs l) ∧ Sees w g A (bvs l)
theorem RdB.rd {w : World} {base g : Nat} {l : List UInt8} {a : Nat} {e : Int} (h : RdB w base g l a e) : Rd w base g l a e := by
  obtain ⟨A, c, h1, h2, h3, h4, h5⟩ := h
  exact ⟨A, c, h1, h2, h3, h5⟩
theorem RdB.off {w w' : World} {base g m : Nat} {l : List UInt8} {a : Nat} {e : Int} (h : RdB w base g l a e) (hg : w.grownBy w' (some m)) (hm : m < base) : RdB w' base g l a e := by
  obtain ⟨A, c, h1, h2, h3, h4, h5⟩ := h
  have h6 := h4.other hg hm
  exact ⟨A, c, h1, h2, h3.other hg hm, h6, h5.join h6.sees⟩
theorem rd_newB (A : Option Addr) (n c : Nat) (l : List UInt8) (w : World) (hn : l.length = n) (hs : Sees w w.heap.size A (bvs l)) (hm : n ≤ 1048576) :
    Calls Try.prog 15 #[.slice A n c] w fun e w' => ∃ g, e = .returned (.pointer (some ⟨g, 0, none⟩)) ∧ RdB w' w.heap.size g l 0 0 ∧ Below w.heap.size w w' := by
  have HF := Lib.hid (oct_fresh A n c l 0 w hn hs hm (by omega))
  have HN := Lib.hid hn
  clear hn hs
  go_enter Try.func15, Try.ntmps15
  go_wp2_with fail
  refine HF.out.mono ?_
  rintro e w1 ⟨A1, c1, rfl, o1, b1⟩
  have s1 := o1.sees
  have k1 := o1.cap
  go_wp2_with fail
  go_ret
  refine ⟨w1.heap.size, rfl, ⟨A1, c1, by rw [HN.out]; exact k1.1, k1.2, ?_, ?_, s1.alloc (Nat.le_refl _) _⟩, b1.alloc b1.size _⟩
  · have h := own_lit w1 w.heap.size 72 #[.slice A1 n c1, .int .i64 0, .int .i64 0] b1.size (by simp [maxLen])
    rw [HN.out]
    exact h
  · rw [HN.out]; exact o1.alloc _
theorem cutto_fact {P : Program} (t e : TypeId) (i : TypeInfo) (ht : P.underlying t = some (.slice e)) (hi : P.info? e = some i) (hsz : i.size = 1) {w : World} {B : Nat} {A : Option Addr} {xs : List Value} (h : Sees w B A xs)
    (n m c : Nat) (H : Int) (kh : IntKind) (hn : xs.length = n) (hm : m ≤ n) (hH : H = (m : Int)) (hc : n ≤ c) :
    ∃ A2, (∀ wx, (Instr.slice t (.slice A n c) none (some (.int kh H)) none).run P wx = .ok (.slice A2 m c) wx) ∧ Sees w B A2 (xs.take m) := by
  refine ⟨if c = 0 then A else A.map (·.add 0), fun wx => ?_, ?_⟩
  · have he : P.elem t = e := by simp [Program.elem, ht]
    have ht' : P.underlying t = some (.slice (P.elem t)) := by rw [he]; exact ht
    rw [run_slice_h wx t A n c ht' kh H (by omega) (by omega), he]
    simp [sizeOf, typeInfo, hi, hsz, sliced, hH]
  · have := (h.cut (k := 0) (cap := c) (by omega)).take m
    simpa using this

theorem sees_take {w : World} {B : Nat} {A : Option Addr} {l b : List UInt8} {m : Nat} (h : Sees w B A ((bvs l).take m)) (hb : l.take m = b) : Sees w B A (bvs b) := by
  subst hb
  unfold bvs at *
  rw [List.map_take]
  exact h
theorem card_said (l : List UInt8) (h0 : (cardOut l 0 0).2.2 = 0) : ∃ bc : List UInt8, bc.length = (cardOut l 0 0).2.1 ∧ l.take (cardOut l 0 0).2.1 = bc ∧
    (∀ wx : World, Calls Try.prog 24 #[.agg (cc4 (cardOut l 0 0).1).toArray] wx fun e w' => e = .returned (.bool true) ∧ Below wx.heap.size wx w') ∧
    (∀ wx : World, Calls Try.prog 11 #[.slice none 0 0, .agg (cc4 (cardOut l 0 0).1).toArray] wx (GivesBytes wx bc)) := by
  obtain ⟨h1, h2, h3, h4⟩ := card_only (l := l) (a := 0) (e := 0) h0
  have hf := cardOut_len l 0 0
  generalize hT : cardOut l 0 0 = T at *
  obtain ⟨⟨id, ver, lab, f⟩, a, e⟩ := T
  simp only at h1 h2 h3 h4 hf ⊢
  rw [List.drop_zero] at h3
  rw [Nat.zero_add] at h4
  refine ⟨cbs id ver lab f, h4.symm, by rw [h4, h3, List.take_left], fun wx => ?_, fun wx => ?_⟩
  · have h := rccheck_any id ver lab f wx hf
    rw [h1] at h
    exact h
  · have h := putcard_any id ver lab f none 0 0 [] wx hf h2 rfl Sees.nil_ (by omega)
    rw [List.nil_append] at h
    exact h
theorem pat_said (l : List UInt8) (h0 : (patOut l 0 0).2.2 = 0) : ∃ bp : List UInt8, bp.length = (patOut l 0 0).2.1 ∧ l.take (patOut l 0 0).2.1 = bp ∧
    (∀ wx : World, Calls Try.prog 25 #[.agg (pc3 (patOut l 0 0).1).toArray] wx fun e w' => e = .returned (.int .i64 0) ∧ Below wx.heap.size wx w') ∧
    (∀ wx : World, Calls Try.prog 13 #[.slice none 0 0, .agg (pc3 (patOut l 0 0).1).toArray] wx (GivesBytes wx bp)) := by
  obtain ⟨x, g1, g2, g3, g4, g5⟩ := pat_only (l := l) (a := 0) (e := 0) h0
  have hf := patOut_len l 0 0
  generalize hT : patOut l 0 0 = T at *
  obtain ⟨⟨m, lab, f⟩, a, e⟩ := T
  simp only at g1 g2 g3 g4 g5 hf ⊢
  subst g1
  rw [List.drop_zero] at g4
  rw [Nat.zero_add] at g5
  refine ⟨pbs x lab f, g5.symm, by rw [g5, g4, List.take_left], fun wx => ?_, fun wx => ?_⟩
  · have h := rpcheck_any x lab f wx hf
    rw [g2] at h
    exact h
  · have h := putpatch_any x lab f none 0 0 [] wx hf g3 rfl Sees.nil_ (by omega)
    rw [List.nil_append] at h
    exact h

set_option maxRecDepth 100000 in
set_option maxHeartbeats 3200000 in
theorem walk_cwonly (A : Option Addr) (n c : Nat) (l : List UInt8) (w : World) (hn : l.length = n) (hnc : n ≤ c) (hs : Sees w w.heap.size A (bvs l)) :
    Calls Try.prog 6 #[.slice A n c] w fun e w' => e = .returned (.bool true) ∧ Below w.heap.size w w' := by
  by_cases h5 : n ≤ 1000
  · have d5 : decide ((1000 : Int) < (n : Int)) = false := by simp; omega
    have HNL := Lib.hid hn
    have HNC := Lib.hid hnc
    have H1 := Lib.hid (rd_newB A n c l w hn hs (by omega))
    have H2 := Lib.hid (fun wx (hb : Below w.heap.size w wx) => rd_newB A n c l wx hn ((hs.below hb).more hb.size) (by omega))
    have AC := cardOut_at l 0 0 (Nat.zero_le _)
    have AP := patOut_at l 0 0 (Nat.zero_le _)
    have HON := Lib.hid (card_said l)
    have HOP := Lib.hid (pat_said l)
    have H3 := Lib.hid (fun (base g : Nat) (wx : World) (hx : Rd wx base g l 0 0) => rd_card base g l 0 0 wx hx (Nat.zero_le _) (by rw [HNL.out]; omega))
    have H4 := Lib.hid (fun (base g : Nat) (wx : World) (hx : Rd wx base g l 0 0) => rd_patch base g l 0 0 wx hx (Nat.zero_le _) (by rw [HNL.out]; omega))
    obtain ⟨ac, hac⟩ : ∃ z, z = (cardOut l 0 0).2.1 := ⟨_, rfl⟩
    obtain ⟨eC, hec⟩ : ∃ z, z = (cardOut l 0 0).2.2 := ⟨_, rfl⟩
    obtain ⟨ap, hap⟩ : ∃ z, z = (patOut l 0 0).2.1 := ⟨_, rfl⟩
    obtain ⟨eP, hep⟩ : ∃ z, z = (patOut l 0 0).2.2 := ⟨_, rfl⟩
    obtain ⟨cc, hcc⟩ : ∃ z, z = cc4 (cardOut l 0 0).1 := ⟨_, rfl⟩
    obtain ⟨pc, hpc⟩ : ∃ z, z = pc3 (patOut l 0 0).1 := ⟨_, rfl⟩
    obtain ⟨v0, hv0⟩ : ∃ z, z = (cardOut l 0 0).1.2.2.2.getD 0 zv := ⟨_, rfl⟩
    have HVK : Hid (∀ wx : World, Calls Try.prog 26 #[.agg (vcells v0).toArray] wx fun e w' => e = .returned (.bool true) ∧ Below wx.heap.size wx w') := Lib.hid (fun wx => by
      have h := rvcheck_any v0.1 v0.2.1 v0.2.2 wx
      have h2 := card_field (l := l) (a := 0) (e := 0)
      rw [← hv0] at h2
      rw [show (v0.1, v0.2.1, v0.2.2) = v0 from rfl, h2] at h
      exact h)
    have HF8 : Hid (∀ (wx : World) (H : Nat), Blk wx H cc → wx.rangeAt H 3 (vcells v0)) := Lib.hid (fun wx H hb => by
      rw [hcc] at hb
      have hl := cardOut_len l 0 0
      have h2 := Blk.field (o := 3) (pre := [.int .i64 (cardOut l 0 0).1.1, .int .i64 (cardOut l 0 0).1.2.1, .int .u32 (cardOut l 0 0).1.2.2.1]) hb 0 rfl (by omega)
      refine range3 (v := v0) ?_
      have e : v0 = (cardOut l 0 0).1.2.2.2[0]'(by omega) := by rw [hv0]; simp [List.getD, hl]
      rw [e]
      simpa using h2)
    rw [← hac, ← hec, ← hcc] at H3
    rw [← hap, ← hep, ← hpc] at H4
    rw [← hac] at AC
    rw [← hap] at AP
    rw [← hec, ← hac, ← hcc] at HON
    rw [← hep, ← hap, ← hpc] at HOP
    have HAC := Lib.hid hac
    have HAP := Lib.hid hap
    have HCC := Lib.hid hcc
    have HPC0 := Lib.hid hpc
    have HCL := Lib.hid (show cc.length = 27 by rw [hcc]; exact ccells_len _ _ _ (cardOut_len l 0 0))
    have HPL := Lib.hid (show pc.length = 26 by rw [hpc]; exact pcells_len _ _ (patOut_len l 0 0))
    have O1 : cc.toArray.all (·.oneCell') = true := all_oneCell_toArray (by rw [hcc]; exact ccells_one _ _ _ _)
    have O2 : pc.toArray.all (·.oneCell') = true := all_oneCell_toArray (by rw [hpc]; exact pcells_one _ _ _)
    rw [hn] at AC AP
    obtain ⟨qc, hqc⟩ : ∃ q, q = n - ac := ⟨_, rfl⟩
    obtain ⟨qp, hqp⟩ : ∃ q, q = n - ap := ⟨_, rfl⟩
    have hnq : (n : Int) - (qc : Int) = (ac : Int) := by omega
    have hnp : (n : Int) - (qp : Int) = (ap : Int) := by omega
    have HQC := Lib.hid (show ((l.length : Nat) : Int) - (ac : Int) = (qc : Int) by rw [hn]; omega)
    have HQP := Lib.hid (show ((l.length : Nat) : Int) - (ap : Int) = (qp : Int) by rw [hn]; omega)
    have bq1 : qc ≤ 1000 := by omega
    have bq2 : qp ≤ 1000 := by omega
    clear hac hec hap hep hcc hpc hv0 hqc hqp hn
    have hu24 := Try.underlying24
    have hu27 := Try.underlying27
    have hu29 := Try.underlying29
    obtain ⟨i0, hi, hz0, hz1, hz2⟩ := oct_parts
    have HI := Lib.hid (And.intro hi (And.intro hz0 (And.intro hz1 hz2)))
    clear hi hz0 hz1 hz2
    have HNQ := Lib.hid (And.intro hnq hnp)
    clear hnq hnp hnc
    go_enter Try.func6, Try.ntmps6
    go_wp2_with fail
    refine H1.out.mono ?_
    rintro e w1 ⟨gr, rfl, r1, b1⟩
    go_wp2_with fail
    refine (H2.out _ b1).mono ?_
    rintro e w2 ⟨gs, rfl, r2, b2⟩
    have R1 := (r1.rd).later b2
    have hgr := r1.rd.block
    have hgs := r2.rd.block
    have hb2 := b1.trans (b2.mono b1.size)
    clear r1 b1 b2 H1 H2
    go_wp2_with fail
    refine (H3.out _ _ _ R1).mono ?_
    rintro e w3 ⟨rfl, R3, g3⟩
    have r3 := r2.off g3 (by omega)
    have hb3 := below_row hb2 g3 (by omega)
    clear r2 R1 hb2
    go_wp2_with fail
    refine (H4.out _ _ _ r3.rd).mono ?_
    rintro e w4 ⟨rfl, S4, g4⟩
    have R4 := R3.other g4 (by omega)
    have hb4 := below_row hb3 g4 (by omega)
    clear R3 r3 hb3 g3 g4 H3 H4
    obtain ⟨zc, hzc⟩ : ∃ z, z = ccells 0 0 0 zeros := ⟨_, rfl⟩
    obtain ⟨zp, hzp⟩ : ∃ z, z = pcells 0 0 zeros := ⟨_, rfl⟩
    have HZC := Lib.hid zc27
    have HZP := Lib.hid zp26
    have LZC := Lib.hid (show zc.length = 27 by rw [hzc]; exact ccells_len 0 0 0 zeros_len)
    have LZP := Lib.hid (show zp.length = 26 by rw [hzp]; exact pcells_len 0 0 zeros_len)
    rw [← hzc] at HZC
    rw [← hzp] at HZP
    clear hzc hzp
    have d1 := Blk.new w4 zc 27
    have d2 := Blk.new (w4.alloc (.cells zc.toArray 27)) zp 29
    have s1 : (w4.alloc (.cells zc.toArray 27)).heap.size = w4.heap.size + 1 := by simp
    rw [s1] at d2
    replace d1 := d1.alloc (.cells zp.toArray 29)
    have LE : Le w4 ((w4.alloc (.cells zc.toArray 27)).alloc (.cells zp.toArray 29)) := ((Below.refl w4.heap.size w4).alloc (Nat.le_refl _) _).alloc (by simp) _
    have rA := R4.later LE
    have sA := S4.later LE
    have hbA := hb4.trans (LE.mono hb4.size)
    have hgr4 := R4.block.2
    have hgs4 := S4.block.2
    have hw4 := hb4.size
    have T1 := d1.there 0 27 (by rw [LZC.out]; omega)
    obtain ⟨H, hH⟩ : ∃ H, H = w4.heap.size := ⟨_, rfl⟩
    rw [← hH] at d1 d2 T1 hgr4 hgs4 hw4
    have HH := Lib.hid hH
    generalize hWA : (w4.alloc (.cells zc.toArray 27)).alloc (.cells zp.toArray 29) = WA at *
    have HWA := Lib.hid hWA
    clear hH hWA LE s1 R4 S4 hb4
    go_wp2_with (first
      | (rw [← HZC.out, ← HZP.out]
         rw [HWA.out, ← HH.out]
         refine wpList_store_mid rfl 27 (.tmp 5) (.tmp 18) rfl H 0 cc.toArray rfl rfl (by simpa [HCL.out] using T1) (by simpa [HCL.out] using info_card) O1 ?_
         simp only [Act.put]
         have f1 := d1.wholeT (ds := cc) (by rw [HCL.out, LZC.out])
         have f2 := Blk.setsOther (b := H) (g := H + 1) (by omega) cc 0 d2
         have fr := rA.other (grown_sets4 H cc 0 WA) (by omega)
         have fs := sA.other (grown_sets4 H cc 0 WA) (by omega)
         have fb := below_sets (B := w.heap.size) (b := H) (by omega) cc 0 hbA
         generalize hwb : World.setCells WA H 0 cc.toArray.toList = wb
         replace f1 : Blk wb H cc := hwb ▸ f1
         replace f2 : Blk wb (H + 1) zp := hwb ▸ f2
         replace fr : Rd wb w.heap.size gr l ac eC := hwb ▸ fr
         replace fs : Rd wb w1.heap.size gs l ap eP := hwb ▸ fs
         replace fb : Below w.heap.size w wb := hwb ▸ fb
         clear hwb d1 d2 rA sA hbA T1
         have T2 := f2.there 0 26 (by rw [LZP.out]; omega))
      | (refine wpList_store_mid rfl 29 (.tmp 6) (.tmp 20) rfl (H + 1) 0 pc.toArray rfl rfl (by simpa [HPL.out] using T2) (by simpa [HPL.out] using info_patch) O2 ?_
         simp only [Act.put]
         have i1 := Blk.setsOther (b := H + 1) (g := H) (by omega) pc 0 f1
         have i2 := f2.wholeT (ds := pc) (by rw [HPL.out, LZP.out])
         have ir := fr.other (grown_sets4 (H + 1) pc 0 wb) (by omega)
         have is_ := fs.other (grown_sets4 (H + 1) pc 0 wb) (by omega)
         have ib := below_sets (B := w.heap.size) (b := H + 1) (by omega) pc 0 fb
         generalize hwc : World.setCells wb (H + 1) 0 pc.toArray.toList = wc
         replace i1 : Blk wc H cc := hwc ▸ i1
         replace i2 : Blk wc (H + 1) pc := hwc ▸ i2
         replace ir : Rd wc w.heap.size gr l ac eC := hwc ▸ ir
         replace is_ : Rd wc w1.heap.size gs l ap eP := hwc ▸ is_
         replace ib : Below w.heap.size w wc := hwc ▸ ib
         clear hwc f1 f2 fr fs fb T2)
      | fail)
    have hll : l.length ≤ 2097152 := by rw [HNL.out]; omega
    refine (rd_left w.heap.size gr l ac eC wc ir (by rw [HNL.out]; exact AC) hll).mono ?_
    rintro e w6 ⟨rfl, k6, rfl⟩
    rw [HQC.out]
    have ir6 := ir.drewN k6
    have is6 := is_.drewN k6
    have i16 := i1.drewN k6
    have i26 := i2.drewN k6
    have ib6 := below_drewN ib k6
    clear ir is_ i1 i2 ib
    obtain ⟨hnq, hnp⟩ := HNQ.out
    go_wp2_with fail
    refine (rd_left w1.heap.size gs l ap eP _ is6 (by rw [HNL.out]; exact AP) hll).mono ?_
    rintro e w7 ⟨rfl, k7, hw7⟩
    rw [HQP.out]
    have ir7 := ir6.drewN k7
    have is7 := is6.drewN k7
    have i17 := i16.drewN k7
    have i27 := i26.drewN k7
    have ib7 := below_drewN ib6 k7
    rw [← hw7] at ir7 is7 i17 i27 ib7
    clear ir6 is6 i16 i26 ib6 hw7 hll
    have c0 : decide ((ac : Int) < 0) = false := by simp
    have c1 : decide ((n : Int) < (ac : Int)) = false := by simp; omega
    have c2 : decide ((ap : Int) < 0) = false := by simp
    have c3 : decide ((n : Int) < (ap : Int)) = false := by simp; omega
    have HEC := Lib.hid (fun wx (hl : Le w7 wx) => (rd_err w.heap.size gr l ac eC wx (ir7.later hl)).mono fun e w' h => (show e = .returned (.int .i64 eC) ∧ Below wx.heap.size wx w' from ⟨h.1, h.2 ▸ Below.refl _ _⟩))
    have HEP := Lib.hid (fun wx (hl : Le w7 wx) => (rd_err w1.heap.size gs l ap eP wx (is7.later hl)).mono fun e w' h => (show e = .returned (.int .i64 eP) ∧ Below wx.heap.size wx w' from ⟨h.1, h.2 ▸ Below.refl _ _⟩))
    have HRC : Hid (∀ wx, Le w7 wx → wx.rangeAt H 0 cc) := Lib.hid (fun wx hl => (i17.later hl).wholeC)
    have HRP : Hid (∀ wx, Le w7 wx → wx.rangeAt (H + 1) 0 pc) := Lib.hid (fun wx hl => (i27.later hl).wholeC)
    have HRV : Hid (∀ wx, Le w7 wx → wx.rangeAt H 3 (vcells v0)) := Lib.hid (fun wx hl => HF8.out wx H (i17.later hl))
    have hs7 : Sees w7 w7.heap.size A (bvs l) := (hs.below ib7).more ib7.size
    have HB7 := Lib.hid ib7
    have L77 := Le.refl w7
    clear ir7 is7 i17 i27 ib7 hs HF8
    by_cases ec0 : eC = 0
    · have tc : (eC == 0) = true := by simpa using ec0
      obtain ⟨bc, mc0, hbt, hk1, hk2⟩ := HON.out ec0
      have MC := Lib.hid mc0
      have HKC := Lib.hid hk1
      have HPC := Lib.hid hk2
      obtain ⟨hi, hz0, hz1, hz2⟩ := HI.out
      obtain ⟨SC, hSSC⟩ : ∃ z, z = str bc := ⟨_, rfl⟩
      have HVC : Hid (∀ (wx : World) (A' : Option Addr) (c' : Nat) (h : Sees wx wx.heap.size A' (bvs bc)), (convert 30 9 (.slice A' ac c')).run Try.prog wx = .ok (.string SC) wx) := Lib.hid (fun wx A' c' h => str_conv wx wx.heap.size A' ac c' bc SC MC.out h hSSC)
      obtain ⟨A2c, hslSC, hssSC⟩ := cutto_fact 30 5 i0 Try.underlying30 hi hz1 hs7 n ac c (ac : Int) .i64 (by rw [bvs_length, HNL.out]) (by omega) rfl HNC.out
      have HUC : Hid (∀ wx : World, Le w7 wx → (convert 30 9 (.slice A2c ac c)).run Try.prog wx = .ok (.string SC) wx) := Lib.hid (fun wx hl => str_conv wx w7.heap.size A2c ac c bc SC MC.out ((sees_take hssSC hbt).below hl) hSSC)
      clear hSSC hssSC hbt
      clear mc0 hk1 hk2 ec0 hi hz0 hz1 hz2
      go_wp2_with fail
      refine wp_region_steady [(58, relSee ac bc)] 92 (by kernel_rfl) (by kernel_rfl) (by kernel_rfl) (by rfl) ?_
      iterate 1 (refine wpG_quiet (by rfl) (by rfl) (by rfl) (fun K hK => ?_); go_big_quiet_op; refine hK _ ?_; clear hK K)
      refine wpG_call (by rfl) (by rfl) 22 #[.pointer (some ⟨gr, 0, none⟩)] (.int .i64 eC) (by intro _; simp [go_sem]) (by kernel_rfl) (fun w1 hl => HEC.out w1 (L77.trans hl.1)) ?_
      simp only [Act.put, List.setIfInBounds_toArray, List.set_cons_zero, List.set_cons_succ]
      iterate 2 (refine wpG_quiet (by rfl) (by rfl) (by rfl) (fun K hK => ?_); go_big_quiet_op; refine hK _ ?_; clear hK K)
      refine wpG_run (by rfl) (by rfl) (.agg cc.toArray) (fun w1 hl => exec_load 27 (.tmp 5) rfl H 0 rfl cc _ (HRC.out w1 (L77.trans hl.1)) hu27 rfl (by rw [HCL.out]; exact info_card)) ?_
      simp only [Act.put, List.setIfInBounds_toArray, List.set_cons_zero, List.set_cons_succ]
      refine wpG_call (by rfl) (by rfl) 24 #[.agg cc.toArray] (.bool true) (by intro _; simp [go_sem]) (by kernel_rfl) (fun w1 hl => HKC.out w1) ?_
      simp only [Act.put, List.setIfInBounds_toArray, List.set_cons_zero, List.set_cons_succ]
      iterate 2 (refine wpG_quiet (by rfl) (by rfl) (by rfl) (fun K hK => ?_); go_big_quiet_op; refine hK _ ?_; clear hK K)
      refine wpG_run (by rfl) (by rfl) (.agg cc.toArray) (fun w1 hl => exec_load 27 (.tmp 5) rfl H 0 rfl cc _ (HRC.out w1 (L77.trans hl.1)) hu27 rfl (by rw [HCL.out]; exact info_card)) ?_
      simp only [Act.put, List.setIfInBounds_toArray, List.set_cons_zero, List.set_cons_succ]
      refine wpG_calls (relSee ac bc) (by rfl) (by rfl) 11 #[.slice none 0 0, .agg cc.toArray] (by intro _; simp [go_sem]) (fun w1 hl => (HPC.out w1).mono fun e w' h => gives_see MC.out h) ?_
      rintro _ ⟨_, _, _, ⟨A7, c7, rfl, _⟩⟩
      simp only [Act.put, List.setIfInBounds_toArray, List.set_cons_zero, List.set_cons_succ]
      refine wpG_run (by rfl) (by rfl) (.string SC) (fun w1 hl => ?_) ?_
      · obtain ⟨A8, c8, h8, s8⟩ := hl.2 58 _ (by simp [Op.operands]) rfl (by intro h; cases h)
        cases h8
        exact exec_conv (.tmp 58) 30 9 rfl _ rfl _ (HVC.out w1 A7 c7 s8)
      simp only [Act.put, List.setIfInBounds_toArray, List.set_cons_zero, List.set_cons_succ]
      iterate 3 (refine wpG_quiet (by rfl) (by rfl) (by rfl) (fun K hK => ?_); go_big_quiet_op; refine hK _ ?_; clear hK K)
      refine wpG_run (by rfl) (by rfl) (.string SC) (fun w1 hl => exec_conv (.tmp 62) 30 9 rfl _ rfl _ (HUC.out w1 (L77.trans hl.1))) ?_
      simp only [Act.put, List.setIfInBounds_toArray, List.set_cons_zero, List.set_cons_succ]
      iterate 3 (refine wpG_quiet (by rfl) (by rfl) (by rfl) (fun K hK => ?_); go_big_quiet_op; refine hK _ ?_; clear hK K)
      refine wpG_nil (fun w8 l8 _ => ?_)
      clear hslSC
      by_cases ep0 : eP = 0
      · have tp : (eP == 0) = true := by simpa using ep0
        obtain ⟨bp, mp0, hbt, hk1, hk2⟩ := HOP.out ep0
        have MP := Lib.hid mp0
        have HKP := Lib.hid hk1
        have HPP := Lib.hid hk2
        obtain ⟨hi, hz0, hz1, hz2⟩ := HI.out
        obtain ⟨SP, hSSP⟩ : ∃ z, z = str bp := ⟨_, rfl⟩
        have HVP : Hid (∀ (wx : World) (A' : Option Addr) (c' : Nat) (h : Sees wx wx.heap.size A' (bvs bp)), (convert 30 9 (.slice A' ap c')).run Try.prog wx = .ok (.string SP) wx) := Lib.hid (fun wx A' c' h => str_conv wx wx.heap.size A' ap c' bp SP MP.out h hSSP)
        obtain ⟨A2p, hslSP, hssSP⟩ := cutto_fact 30 5 i0 Try.underlying30 hi hz1 hs7 n ap c (ap : Int) .i64 (by rw [bvs_length, HNL.out]) (by omega) rfl HNC.out
        have HUP : Hid (∀ wx : World, Le w7 wx → (convert 30 9 (.slice A2p ap c)).run Try.prog wx = .ok (.string SP) wx) := Lib.hid (fun wx hl => str_conv wx w7.heap.size A2p ap c bp SP MP.out ((sees_take hssSP hbt).below hl) hSSP)
        clear hSSP hssSP hbt
        clear mp0 hk1 hk2 ep0 hi hz0 hz1 hz2
        go_wp2_with fail
        refine wp_region_steady [(76, relSee ap bp)] 92 (by kernel_rfl) (by kernel_rfl) (by kernel_rfl) (by rfl) ?_
        iterate 1 (refine wpG_quiet (by rfl) (by rfl) (by rfl) (fun K hK => ?_); go_big_quiet_op; refine hK _ ?_; clear hK K)
        refine wpG_call (by rfl) (by rfl) 22 #[.pointer (some ⟨gs, 0, none⟩)] (.int .i64 eP) (by intro _; simp [go_sem]) (by kernel_rfl) (fun w1 hl => HEP.out w1 (l8.trans hl.1)) ?_
        simp only [Act.put, List.setIfInBounds_toArray, List.set_cons_zero, List.set_cons_succ]
        iterate 2 (refine wpG_quiet (by rfl) (by rfl) (by rfl) (fun K hK => ?_); go_big_quiet_op; refine hK _ ?_; clear hK K)
        refine wpG_run (by rfl) (by rfl) (.agg pc.toArray) (fun w1 hl => exec_load 29 (.tmp 6) rfl (H + 1) 0 rfl pc _ (HRP.out w1 (l8.trans hl.1)) hu29 rfl (by rw [HPL.out]; exact info_patch)) ?_
        simp only [Act.put, List.setIfInBounds_toArray, List.set_cons_zero, List.set_cons_succ]
        refine wpG_call (by rfl) (by rfl) 25 #[.agg pc.toArray] (.int .i64 0) (by intro _; simp [go_sem]) (by kernel_rfl) (fun w1 hl => HKP.out w1) ?_
        simp only [Act.put, List.setIfInBounds_toArray, List.set_cons_zero, List.set_cons_succ]
        iterate 2 (refine wpG_quiet (by rfl) (by rfl) (by rfl) (fun K hK => ?_); go_big_quiet_op; refine hK _ ?_; clear hK K)
        refine wpG_run (by rfl) (by rfl) (.agg pc.toArray) (fun w1 hl => exec_load 29 (.tmp 6) rfl (H + 1) 0 rfl pc _ (HRP.out w1 (l8.trans hl.1)) hu29 rfl (by rw [HPL.out]; exact info_patch)) ?_
        simp only [Act.put, List.setIfInBounds_toArray, List.set_cons_zero, List.set_cons_succ]
        refine wpG_calls (relSee ap bp) (by rfl) (by rfl) 13 #[.slice none 0 0, .agg pc.toArray] (by intro _; simp [go_sem]) (fun w1 hl => (HPP.out w1).mono fun e w' h => gives_see MP.out h) ?_
        rintro _ ⟨_, _, _, ⟨A7, c7, rfl, _⟩⟩
        simp only [Act.put, List.setIfInBounds_toArray, List.set_cons_zero, List.set_cons_succ]
        refine wpG_run (by rfl) (by rfl) (.string SP) (fun w1 hl => ?_) ?_
        · obtain ⟨A8, c8, h8, s8⟩ := hl.2 76 _ (by simp [Op.operands]) rfl (by intro h; cases h)
          cases h8
          exact exec_conv (.tmp 76) 30 9 rfl _ rfl _ (HVP.out w1 A7 c7 s8)
        simp only [Act.put, List.setIfInBounds_toArray, List.set_cons_zero, List.set_cons_succ]
        iterate 3 (refine wpG_quiet (by rfl) (by rfl) (by rfl) (fun K hK => ?_); go_big_quiet_op; refine hK _ ?_; clear hK K)
        refine wpG_run (by rfl) (by rfl) (.string SP) (fun w1 hl => exec_conv (.tmp 80) 30 9 rfl _ rfl _ (HUP.out w1 (l8.trans hl.1))) ?_
        simp only [Act.put, List.setIfInBounds_toArray, List.set_cons_zero, List.set_cons_succ]
        iterate 3 (refine wpG_quiet (by rfl) (by rfl) (by rfl) (fun K hK => ?_); go_big_quiet_op; refine hK _ ?_; clear hK K)
        refine wpG_nil (fun w9 l9 _ => ?_)
        have l89 := l8.trans l9
        clear hslSP
        have RV := HRV.out _ l89
        go_wp2_with (first
          | (refine wpList_load_g (by rfl) 24 (.tmp 86) rfl H 3 rfl (vcells v0) _ RV hu24 rfl info_val ?_)
          | fail)
        refine (HVK.out _).mono ?_
        rintro e wy ⟨rfl, by_⟩
        have hby := l89.trans by_
        clear RV by_
        go_wp2_with fail
        refine (wire_awake _).mono ?_
        rintro e wz ⟨rfl, bz⟩
        go_wp2_with fail
        go_ret
        exact ⟨rfl, HB7.out.trans ((hby.trans bz).mono HB7.out.size)⟩
      · have tp : (eP == 0) = false := by simpa using ep0
        clear ep0
        go_wp2_with fail
        refine wp_region_steady [] 92 (by kernel_rfl) (by kernel_rfl) (by kernel_rfl) (by rfl) ?_
        iterate 1 (refine wpG_quiet (by rfl) (by rfl) (by rfl) (fun K hK => ?_); go_big_quiet_op; refine hK _ ?_; clear hK K)
        refine wpG_call (by rfl) (by rfl) 22 #[.pointer (some ⟨gs, 0, none⟩)] (.int .i64 eP) (by intro _; simp [go_sem]) (by kernel_rfl) (fun w1 hl => HEP.out w1 (l8.trans hl.1)) ?_
        simp only [Act.put, List.setIfInBounds_toArray, List.set_cons_zero, List.set_cons_succ]
        iterate 2 (refine wpG_quiet (by rfl) (by rfl) (by rfl) (fun K hK => ?_); go_big_quiet_op; refine hK _ ?_; clear hK K)
        iterate 13 (refine wpG_skip (by rfl) ?_; simp only [Act.put, List.setIfInBounds_toArray, List.set_cons_zero, List.set_cons_succ])
        iterate 1 (refine wpG_quiet (by rfl) (by rfl) (by rfl) (fun K hK => ?_); go_big_quiet_op; refine hK _ ?_; clear hK K)
        refine wpG_nil (fun w9 l9 _ => ?_)
        have l89 := l8.trans l9
        have RV := HRV.out _ l89
        go_wp2_with (first
          | (refine wpList_load_g (by rfl) 24 (.tmp 86) rfl H 3 rfl (vcells v0) _ RV hu24 rfl info_val ?_)
          | fail)
        refine (HVK.out _).mono ?_
        rintro e wy ⟨rfl, by_⟩
        have hby := l89.trans by_
        clear RV by_
        go_wp2_with fail
        refine (wire_awake _).mono ?_
        rintro e wz ⟨rfl, bz⟩
        go_wp2_with fail
        go_ret
        exact ⟨rfl, HB7.out.trans ((hby.trans bz).mono HB7.out.size)⟩
    · have tc : (eC == 0) = false := by simpa using ec0
      clear ec0
      go_wp2_with fail
      refine wp_region_steady [] 92 (by kernel_rfl) (by kernel_rfl) (by kernel_rfl) (by rfl) ?_
      iterate 1 (refine wpG_quiet (by rfl) (by rfl) (by rfl) (fun K hK => ?_); go_big_quiet_op; refine hK _ ?_; clear hK K)
      refine wpG_call (by rfl) (by rfl) 22 #[.pointer (some ⟨gr, 0, none⟩)] (.int .i64 eC) (by intro _; simp [go_sem]) (by kernel_rfl) (fun w1 hl => HEC.out w1 (L77.trans hl.1)) ?_
      simp only [Act.put, List.setIfInBounds_toArray, List.set_cons_zero, List.set_cons_succ]
      iterate 2 (refine wpG_quiet (by rfl) (by rfl) (by rfl) (fun K hK => ?_); go_big_quiet_op; refine hK _ ?_; clear hK K)
      iterate 13 (refine wpG_skip (by rfl) ?_; simp only [Act.put, List.setIfInBounds_toArray, List.set_cons_zero, List.set_cons_succ])
      iterate 1 (refine wpG_quiet (by rfl) (by rfl) (by rfl) (fun K hK => ?_); go_big_quiet_op; refine hK _ ?_; clear hK K)
      refine wpG_nil (fun w8 l8 _ => ?_)
      by_cases ep0 : eP = 0
      · have tp : (eP == 0) = true := by simpa using ep0
        obtain ⟨bp, mp0, hbt, hk1, hk2⟩ := HOP.out ep0
        have MP := Lib.hid mp0
        have HKP := Lib.hid hk1
        have HPP := Lib.hid hk2
        obtain ⟨hi, hz0, hz1, hz2⟩ := HI.out
        obtain ⟨SP, hSSP⟩ : ∃ z, z = str bp := ⟨_, rfl⟩
        have HVP : Hid (∀ (wx : World) (A' : Option Addr) (c' : Nat) (h : Sees wx wx.heap.size A' (bvs bp)), (convert 30 9 (.slice A' ap c')).run Try.prog wx = .ok (.string SP) wx) := Lib.hid (fun wx A' c' h => str_conv wx wx.heap.size A' ap c' bp SP MP.out h hSSP)
        obtain ⟨A2p, hslSP, hssSP⟩ := cutto_fact 30 5 i0 Try.underlying30 hi hz1 hs7 n ap c (ap : Int) .i64 (by rw [bvs_length, HNL.out]) (by omega) rfl HNC.out
        have HUP : Hid (∀ wx : World, Le w7 wx → (convert 30 9 (.slice A2p ap c)).run Try.prog wx = .ok (.string SP) wx) := Lib.hid (fun wx hl => str_conv wx w7.heap.size A2p ap c bp SP MP.out ((sees_take hssSP hbt).below hl) hSSP)
        clear hSSP hssSP hbt
        clear mp0 hk1 hk2 ep0 hi hz0 hz1 hz2
        go_wp2_with fail
        refine wp_region_steady [(76, relSee ap bp)] 92 (by kernel_rfl) (by kernel_rfl) (by kernel_rfl) (by rfl) ?_
        iterate 1 (refine wpG_quiet (by rfl) (by rfl) (by rfl) (fun K hK => ?_); go_big_quiet_op; refine hK _ ?_; clear hK K)
        refine wpG_call (by rfl) (by rfl) 22 #[.pointer (some ⟨gs, 0, none⟩)] (.int .i64 eP) (by intro _; simp [go_sem]) (by kernel_rfl) (fun w1 hl => HEP.out w1 (l8.trans hl.1)) ?_
        simp only [Act.put, List.setIfInBounds_toArray, List.set_cons_zero, List.set_cons_succ]
        iterate 2 (refine wpG_quiet (by rfl) (by rfl) (by rfl) (fun K hK => ?_); go_big_quiet_op; refine hK _ ?_; clear hK K)
        refine wpG_run (by rfl) (by rfl) (.agg pc.toArray) (fun w1 hl => exec_load 29 (.tmp 6) rfl (H + 1) 0 rfl pc _ (HRP.out w1 (l8.trans hl.1)) hu29 rfl (by rw [HPL.out]; exact info_patch)) ?_
        simp only [Act.put, List.setIfInBounds_toArray, List.set_cons_zero, List.set_cons_succ]
        refine wpG_call (by rfl) (by rfl) 25 #[.agg pc.toArray] (.int .i64 0) (by intro _; simp [go_sem]) (by kernel_rfl) (fun w1 hl => HKP.out w1) ?_
        simp only [Act.put, List.setIfInBounds_toArray, List.set_cons_zero, List.set_cons_succ]
        iterate 2 (refine wpG_quiet (by rfl) (by rfl) (by rfl) (fun K hK => ?_); go_big_quiet_op; refine hK _ ?_; clear hK K)
        refine wpG_run (by rfl) (by rfl) (.agg pc.toArray) (fun w1 hl => exec_load 29 (.tmp 6) rfl (H + 1) 0 rfl pc _ (HRP.out w1 (l8.trans hl.1)) hu29 rfl (by rw [HPL.out]; exact info_patch)) ?_
        simp only [Act.put, List.setIfInBounds_toArray, List.set_cons_zero, List.set_cons_succ]
        refine wpG_calls (relSee ap bp) (by rfl) (by rfl) 13 #[.slice none 0 0, .agg pc.toArray] (by intro _; simp [go_sem]) (fun w1 hl => (HPP.out w1).mono fun e w' h => gives_see MP.out h) ?_
        rintro _ ⟨_, _, _, ⟨A7, c7, rfl, _⟩⟩
        simp only [Act.put, List.setIfInBounds_toArray, List.set_cons_zero, List.set_cons_succ]
        refine wpG_run (by rfl) (by rfl) (.string SP) (fun w1 hl => ?_) ?_
        · obtain ⟨A8, c8, h8, s8⟩ := hl.2 76 _ (by simp [Op.operands]) rfl (by intro h; cases h)
          cases h8
          exact exec_conv (.tmp 76) 30 9 rfl _ rfl _ (HVP.out w1 A7 c7 s8)
        simp only [Act.put, List.setIfInBounds_toArray, List.set_cons_zero, List.set_cons_succ]
        iterate 3 (refine wpG_quiet (by rfl) (by rfl) (by rfl) (fun K hK => ?_); go_big_quiet_op; refine hK _ ?_; clear hK K)
        refine wpG_run (by rfl) (by rfl) (.string SP) (fun w1 hl => exec_conv (.tmp 80) 30 9 rfl _ rfl _ (HUP.out w1 (l8.trans hl.1))) ?_
        simp only [Act.put, List.setIfInBounds_toArray, List.set_cons_zero, List.set_cons_succ]
        iterate 3 (refine wpG_quiet (by rfl) (by rfl) (by rfl) (fun K hK => ?_); go_big_quiet_op; refine hK _ ?_; clear hK K)
        refine wpG_nil (fun w9 l9 _ => ?_)
        have l89 := l8.trans l9
        clear hslSP
        have RV := HRV.out _ l89
        go_wp2_with (first
          | (refine wpList_load_g (by rfl) 24 (.tmp 86) rfl H 3 rfl (vcells v0) _ RV hu24 rfl info_val ?_)
          | fail)
        refine (HVK.out _).mono ?_
        rintro e wy ⟨rfl, by_⟩
        have hby := l89.trans by_
        clear RV by_
        go_wp2_with fail
        refine (wire_awake _).mono ?_
        rintro e wz ⟨rfl, bz⟩
        go_wp2_with fail
        go_ret
        exact ⟨rfl, HB7.out.trans ((hby.trans bz).mono HB7.out.size)⟩
      · have tp : (eP == 0) = false := by simpa using ep0
        clear ep0
        go_wp2_with fail
        refine wp_region_steady [] 92 (by kernel_rfl) (by kernel_rfl) (by kernel_rfl) (by rfl) ?_
        iterate 1 (refine wpG_quiet (by rfl) (by rfl) (by rfl) (fun K hK => ?_); go_big_quiet_op; refine hK _ ?_; clear hK K)
        refine wpG_call (by rfl) (by rfl) 22 #[.pointer (some ⟨gs, 0, none⟩)] (.int .i64 eP) (by intro _; simp [go_sem]) (by kernel_rfl) (fun w1 hl => HEP.out w1 (l8.trans hl.1)) ?_
        simp only [Act.put, List.setIfInBounds_toArray, List.set_cons_zero, List.set_cons_succ]
        iterate 2 (refine wpG_quiet (by rfl) (by rfl) (by rfl) (fun K hK => ?_); go_big_quiet_op; refine hK _ ?_; clear hK K)
        iterate 13 (refine wpG_skip (by rfl) ?_; simp only [Act.put, List.setIfInBounds_toArray, List.set_cons_zero, List.set_cons_succ])
        iterate 1 (refine wpG_quiet (by rfl) (by rfl) (by rfl) (fun K hK => ?_); go_big_quiet_op; refine hK _ ?_; clear hK K)
        refine wpG_nil (fun w9 l9 _ => ?_)
        have l89 := l8.trans l9
        have RV := HRV.out _ l89
        go_wp2_with (first
          | (refine wpList_load_g (by rfl) 24 (.tmp 86) rfl H 3 rfl (vcells v0) _ RV hu24 rfl info_val ?_)
          | fail)
        refine (HVK.out _).mono ?_
        rintro e wy ⟨rfl, by_⟩
        have hby := l89.trans by_
        clear RV by_
        go_wp2_with fail
        refine (wire_awake _).mono ?_
        rintro e wz ⟨rfl, bz⟩
        go_wp2_with fail
        go_ret
        exact ⟨rfl, HB7.out.trans ((hby.trans bz).mono HB7.out.size)⟩
  · have d5 : decide ((1000 : Int) < (n : Int)) = true := by simp; omega
    clear hs hn
    go_enter Try.func6, Try.ntmps6
    go_wp2_with fail
    refine (wire_awake _).mono ?_
    rintro e' w3 ⟨rfl, b3⟩
    go_wp2_with fail
    go_ret
    exact ⟨rfl, b3⟩
end Go.Proofs.Yticdpfjajkfheaa
