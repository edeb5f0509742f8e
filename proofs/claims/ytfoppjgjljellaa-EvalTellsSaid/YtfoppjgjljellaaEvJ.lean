/- EvalJoins: the walk. -/
import Derived.Test.YtfoppjgjljellaaEvI
import Derived.Test.YtfoppjgjljellaaPrdN
import Derived.Test.YtfoppjgjljellaaPrdO
import Derived.OrdersHeld
namespace Go.Proofs.Ytfoppjgjljellaa
set_option linter.unusedVariables false
set_option linter.unusedSimpArgs false
open Go Go.RowKit Go.Shelf BitM ValM

/-- A filter stays as it is where another is written. -/
theorem Fresh.far {mm : Int} {w w' : World} {F G : Nat} {l k : List Nd} (h : Fresh mm w F l) (hG : Fresh mm w G k) (hne : G ≠ F) (hg : w.grownBy w' (some G)) : Fresh mm w' F l := by
  obtain ⟨A, n, c, h1, h2⟩ := h
  obtain ⟨A', n', c', g1, _⟩ := hG
  exact ⟨A, n, c, h1.kept hg (by intro e; injection e with e; exact hne e), h2.keep g1 (fun y e => by cases e) hg⟩
def acells (id ver : Int) (lab g : BitVec 32) (fs : List V3) : List Value := ccells id ver (lab.toNat : Int) fs ++ [Value.int .u32 (g.toNat : Int)]
theorem info_fls : (Try.prog.info? 26).map (·.size) = some 24 := by kernel_rfl
/-- What New has returned. -/
def Made (mm : Int) (w : World) (lo hi : Nat) (p : Value) (l : List Nd) : Prop := (lchk l ≠ 0 ∧ p = .pointer none) ∨ (lchk l = 0 ∧ ∃ F, p = .pointer (some ⟨F, 0, none⟩) ∧ lo ≤ F ∧ F < hi ∧ Fresh mm w F l)
theorem Fresh.lt {mm : Int} {w : World} {F : Nat} {l : List Nd} (h : Fresh mm w F l) : F < w.heap.size := by
  obtain ⟨A, n, c, h1, _⟩ := h
  exact h1.lt
theorem GivesNew.made {mm : Int} {w w' : World} {l : List Nd} {e : Ending} (h : GivesNew mm w l e w') : ∃ p, e = .returned p ∧ Made mm w' w.heap.size w'.heap.size p l ∧ Below w.heap.size w w' := by
  obtain ⟨hb, ⟨h0, rfl⟩ | ⟨h0, F, rfl, hF, hfr⟩⟩ := h
  · exact ⟨_, rfl, .inl ⟨h0, rfl⟩, hb⟩
  · exact ⟨_, rfl, .inr ⟨h0, F, rfl, hF, hfr.lt, hfr⟩, hb⟩
theorem Made.later {mm : Int} {w w' : World} {lo hi : Nat} {p : Value} {l : List Nd} (h : Made mm w lo hi p l) (hl : Le w w') : Made mm w' lo hi p l := by
  rcases h with h | ⟨h0, F, e, h1, h2, h3⟩
  · exact .inl h
  · exact .inr ⟨h0, F, e, h1, h2, h3.later hl⟩
theorem Made.far {mm : Int} {w w' : World} {lo hi G : Nat} {p : Value} {l k : List Nd} (h : Made mm w lo hi p l) (hG : Fresh mm w G k) (hge : hi ≤ G) (hg : w.grownBy w' (some G)) : Made mm w' lo hi p l := by
  rcases h with h | ⟨h0, F, e, h1, h2, h3⟩
  · exact .inl h
  · exact .inr ⟨h0, F, e, h1, h2, h3.far hG (by omega) hg⟩
theorem SeesL.first {w : World} {A : Option Addr} {l0 l1 : List Nd} (h : SeesL w A [l0, l1]) : SeesL w A [l0] := fun _ => by
  obtain ⟨b, o, e, hb, hk⟩ := h (by simp)
  refine ⟨b, o, e, hb, fun k hk2 => ?_⟩
  have : k = 0 := by simp at hk2; omega
  subst this
  exact hk 0 (by simp)
theorem small_fields {fs : List V3} (h : tooLong fs = false) : ∀ u ∈ fs, u.2.2.size ≤ 1000 := fun u hu => by
  have := List.any_eq_false.1 h u hu
  simp at this
  omega
section
variable {P : Program} {md : Region.Mode} {ops : Array Oper} {Q : Exit → Act → World → Prop} {S : World → Prop} {i : Nat} {oi : Oper} {v : Value} {fuel : Nat} {listed : Array Bool} {a : Act} {w : World}
theorem takeD (d : Option Tmp) (hi : ops[i]? = some oi) (hd : oi.dst = d) (hs : Region.noSelect ops = true) (hf : Region.free md ops listed i = true) (hr : (Region.ready md ops listed).contains i = true)
    (hQ : ∀ c a w, Q (.panic c) (a.put oi.dst v) w → Q (.panic c) a w) (hy : YieldsIf P ops S oi v a) (hS : S w)
    (h : Go.wpAnyH P md ops Q S fuel (listed.setIfInBounds i true) (a.put d v) w) : Go.wpAnyH P md ops Q S (fuel + 1) listed a w := by
  subst hd
  exact wpAnyH_take hi hs hf hr hQ hy hS h
theorem callD {K : Act → World → Prop} (d : Option Tmp) (o : Oper) (ho : ops[i]? = some o) (hd : o.dst = d) (f : FuncId) (args : Array Value) (hx : (execOp a.eval o).run P w = .ok (.enter f args) w) (hw : Region.wanted o (yielded ops a.tmps) = true)
    (h : Calls P f args w fun e w' => ∃ v, e = .returned v ∧ K (a.put d v) w') : wpOp P ops Q i K a w := by
  subst hd
  exact wpOp_call o ho f args hx hw h
end
set_option maxRecDepth 100000 in
set_option maxHeartbeats 6400000 in
theorem walk_joins (mm : Int) (A0 A1 : Option Addr) (n0 c0 n1 c1 : Nat) (l0 l1 : List Nd) (id ver : Int) (lab g : BitVec 32) (fs : List V3) (w : World) (hf : fs.length = 8) (h0 : l0.length = n0) (h1 : l1.length = n1)
    (s0 : Sees w w.heap.size A0 (ncs l0)) (s1 : Sees w w.heap.size A1 (ncs l1)) (hc0 : n0 ≤ c0) (hc1 : n1 ≤ c1) (hm : MaxV mm w) :
    Calls Try.prog 5 #[.slice A0 n0 c0, .slice A1 n1 c1, .agg (acells id ver lab g fs).toArray] w fun e w' => e = .returned (.bool true) ∧ Below w.heap.size w w' := by
  have hu := Try.underlying26
  have huc := Try.underlying28
  have hl0 := (Below.refl w.heap.size w).alloc (Nat.le_refl _) (.cells (acells id ver lab g fs).toArray 52)
  have BP := Blk.new w (acells id ver lab g fs) 52
  have HAW := Lib.hid (fun wx (h : Below w.heap.size w wx) => awake_any mm wx (hm.later h))
  have HCA := Lib.hid (fun wx (h : Below w.heap.size w wx) => rlcheck_any A0 n0 c0 l0 wx h0 ((s0.below h).more h.size) hc0)
  have HCB := Lib.hid (fun wx (h : Below w.heap.size w wx) => rlcheck_any A1 n1 c1 l1 wx h1 ((s1.below h).more h.size) hc1)
  have HLG := Lib.hid (fun wx => large_any fs wx hf)
  have HNA := Lib.hid (fun wx (h : Below w.heap.size w wx) => new_any mm A0 n0 c0 l0 wx h0 ((s0.below h).more h.size) (hm.later h))
  have HNB := Lib.hid (fun wx (h : Below w.heap.size w wx) => new_any mm A1 n1 c1 l1 wx h1 ((s1.below h).more h.size) (hm.later h))
  have HM := Lib.hid hm
  have HF := Lib.hid hf
  have H0 := Lib.hid h0
  have H1 := Lib.hid h1
  have HS0 := Lib.hid (fun wx (h : Below w.heap.size w wx) => (s0.below h).more h.size)
  have HS1 := Lib.hid (fun wx (h : Below w.heap.size w wx) => (s1.below h).more h.size)
  have RF : ∀ wx, Le (w.alloc (.cells (acells id ver lab g fs).toArray 52)) wx → wx.rangeAt w.heap.size 3 (fcells fs) := fun wx h => (BP.later h).range 3 (fcells fs) (by
    unfold acells ccells
    rw [List.append_assoc, List.drop_left' (by rfl), List.take_left' rfl])
  have RC : ∀ wx, Blk wx w.heap.size (acells id ver lab g fs) → wx.rangeAt w.heap.size 0 (ccells id ver (lab.toNat : Int) fs) ∧ wx.cell? ⟨w.heap.size, 27, none⟩ = some (.int .u32 (g.toNat : Int)) := fun wx h => ⟨h.range 0 _ (by unfold acells; rw [List.drop_zero, List.take_left' rfl]), h.cell (by
    unfold acells; rw [List.getElem?_append_right (by rw [ccells_len _ _ _ hf]; exact Nat.le_refl _), ccells_len _ _ _ hf]; rfl)⟩
  have HFL : Hid ((fcells fs).length = 24) := Lib.hid (by rw [fcells_len, hf])
  have HCL := Lib.hid (ccells_len id ver (lab.toNat : Int) hf)
  have HRC := Lib.hid RC
  have HRF := Lib.hid RF
  have HBP := Lib.hid BP
  have HL0 := Lib.hid hl0
  obtain ⟨pa, hpa⟩ : ∃ pa, pa = (acells id ver lab g fs).toArray := ⟨_, rfl⟩
  have HPA := Lib.hid hpa
  rw [← hpa] at HBP HRF HL0 ⊢
  clear hf h0 h1 s0 s1 hc0 hc1 hm hl0 BP RF RC hpa
  go_enter Try.func5, Try.ntmps5
  go_wp2_with fail
  refine (HCA.out _ HL0.out).mono ?_
  rintro e w1 ⟨rfl, hb1⟩
  have HB1 := Lib.hid (HL0.out.trans (hb1.mono HL0.out.size))
  have HP1 := Lib.hid hb1
  clear hb1
  by_cases k0 : lchk l0 = 0
  · have HK0 := Lib.hid k0
    rw [k0]
    clear k0
    go_wp2_with fail
    refine (HCB.out _ HB1.out).mono ?_
    rintro e w2 ⟨rfl, hb2⟩
    have HB2 := Lib.hid (HB1.out.trans (hb2.mono HB1.out.size))
    have HP2 := Lib.hid (HP1.out.trans (hb2.mono HP1.out.size))
    clear hb2
    by_cases k1 : lchk l1 = 0
    · have HK1 := Lib.hid k1
      rw [k1]
      clear k1
      have hrf := HRF.out w2 HP2.out
      go_wp2_with (first
        | (refine wpList_load_g (by rfl) 26 (.tmp 23) rfl w.heap.size 3 rfl (fcells fs) _ hrf hu rfl (by rw [HFL.out]; exact info_fls) ?_
           clear hrf)
        | fail)
      refine (HLG.out _).mono ?_
      rintro e w3 ⟨rfl, hb3⟩
      have HB3 := Lib.hid (HB2.out.trans (hb3.mono HB2.out.size))
      have HP3 := Lib.hid (HP2.out.trans (hb3.mono HP2.out.size))
      clear hb3
      cases hbig : tooLong fs
      · go_wp2_with fail
        have hsl : SeesL (w3.alloc (.cells #[.slice A0 n0 c0, .slice A1 n1 c1] 22)) (some ⟨w3.heap.size, 0, none⟩) [l0, l1] := SeesL.two H0.out H1.out (HS0.out w3 HB3.out) (HS1.out w3 HB3.out) _
        have hlj := (Below.refl w3.heap.size w3).alloc (Nat.le_refl _) (.cells #[.slice A0 n0 c0, .slice A1 n1 c1] 22)
        have HBj := Lib.hid (HB3.out.trans (hlj.mono HB3.out.size))
        have HPj := Lib.hid (HP3.out.trans (hlj.mono HP3.out.size))
        have HPJj := Lib.hid (Le.refl (w3.alloc (.cells #[.slice A0 n0 c0, .slice A1 n1 c1] 22)))
        have HLEN0 := Lib.hid (lchk_ok HK0.out).1
        have HLEN1 := Lib.hid (lchk_ok HK1.out).1
        obtain ⟨m1, hm1⟩ : ∃ m, (((10, 0, zv) : Nd) :: [l0].flatten).length = m := ⟨_, rfl⟩
        have HLM1 := Lib.hid hm1
        have HJ1 := Lib.hid (fun wx (h : Le (w3.alloc (.cells #[.slice A0 n0 c0, .slice A1 n1 c1] 22)) wx) => (rjoin_any 10 (some ⟨w3.heap.size, 0, none⟩) 1 2 [l0] wx rfl (hsl.first.later h) (by omega) (by have := HLEN0.out; simp; omega)).mono fun e w' hg => GivesNodes.got (B := wx.heap.size) HLM1.out (Nat.le_refl _) hg)
        obtain ⟨m2, hm2⟩ : ∃ m, (((11, 0, zv) : Nd) :: [l0, l1].flatten).length = m := ⟨_, rfl⟩
        have HLM2 := Lib.hid hm2
        have HJ2 := Lib.hid (fun wx (h : Le (w3.alloc (.cells #[.slice A0 n0 c0, .slice A1 n1 c1] 22)) wx) => (rjoin_any 11 (some ⟨w3.heap.size, 0, none⟩) 2 2 [l0, l1] wx rfl (hsl.later h) (by omega) (by have := HLEN0.out; have := HLEN1.out; simp; omega)).mono fun e w' hg => GivesNodes.got (B := wx.heap.size) HLM2.out (Nat.le_refl _) hg)
        obtain ⟨m3, hm3⟩ : ∃ m, (((12, 0, zv) : Nd) :: [l0, l1].flatten).length = m := ⟨_, rfl⟩
        have HLM3 := Lib.hid hm3
        have HJ3 := Lib.hid (fun wx (h : Le (w3.alloc (.cells #[.slice A0 n0 c0, .slice A1 n1 c1] 22)) wx) => (rjoin_any 12 (some ⟨w3.heap.size, 0, none⟩) 2 2 [l0, l1] wx rfl (hsl.later h) (by omega) (by have := HLEN0.out; have := HLEN1.out; simp; omega)).mono fun e w' hg => GivesNodes.got (B := wx.heap.size) HLM3.out (Nat.le_refl _) hg)
        have HSM := Lib.hid (small_fields hbig)
        clear hsl hlj hm1 hm2 hm3
        refine (HJ1.out _ HPJj.out).mono ?_
        rintro e wa1 ⟨AJ1, cJ1, rfl, ho1, _, hba1⟩
        have HBa1 := Lib.hid (HBj.out.trans (hba1.mono HBj.out.size))
        have HPa1 := Lib.hid (HPj.out.trans (hba1.mono HPj.out.size))
        have HPJa1 := Lib.hid (Le.trans HPJj.out hba1)
        have HNJ := Lib.hid (new_any mm AJ1 m1 cJ1 _ wa1 HLM1.out ho1.out (HM.out.later HBa1.out))
        clear ho1 hba1
        go_wp2_with fail
        refine HNJ.out.mono ?_
        clear HNJ
        rintro e wj1 hgn
        obtain ⟨p1, rfl, hmd, hbn⟩ := hgn.made
        have HMD1 := Lib.hid hmd
        have HBj1 := Lib.hid (HBa1.out.trans (hbn.mono HBa1.out.size))
        have HPj1 := Lib.hid (HPa1.out.trans (hbn.mono HPa1.out.size))
        have HPJj1 := Lib.hid (Le.trans HPJa1.out hbn)
        have HSB1 := Lib.hid hbn.size
        clear hgn hmd hbn
        go_wp2_with fail
        refine (HJ2.out _ HPJj1.out).mono ?_
        rintro e wa2 ⟨AJ2, cJ2, rfl, ho2, _, hba2⟩
        have HBa2 := Lib.hid (HBj1.out.trans (hba2.mono HBj1.out.size))
        have HPa2 := Lib.hid (HPj1.out.trans (hba2.mono HPj1.out.size))
        have HPJa2 := Lib.hid (Le.trans HPJj1.out hba2)
        have HNJ := Lib.hid (new_any mm AJ2 m2 cJ2 _ wa2 HLM2.out ho2.out (HM.out.later HBa2.out))
        have HMD1a := Lib.hid (HMD1.out.later hba2)
        have HSA2 := Lib.hid hba2.size
        clear ho2 hba2
        go_wp2_with fail
        refine HNJ.out.mono ?_
        clear HNJ
        rintro e wj2 hgn
        obtain ⟨p2, rfl, hmd, hbn⟩ := hgn.made
        have HMD2 := Lib.hid hmd
        have HBj2 := Lib.hid (HBa2.out.trans (hbn.mono HBa2.out.size))
        have HPj2 := Lib.hid (HPa2.out.trans (hbn.mono HPa2.out.size))
        have HPJj2 := Lib.hid (Le.trans HPJa2.out hbn)
        have HMD1b := Lib.hid (HMD1a.out.later hbn)
        have HSB2 := Lib.hid hbn.size
        clear hgn hmd hbn
        go_wp2_with fail
        refine (HJ3.out _ HPJj2.out).mono ?_
        rintro e wa3 ⟨AJ3, cJ3, rfl, ho3, _, hba3⟩
        have HBa3 := Lib.hid (HBj2.out.trans (hba3.mono HBj2.out.size))
        have HPa3 := Lib.hid (HPj2.out.trans (hba3.mono HPj2.out.size))
        have HPJa3 := Lib.hid (Le.trans HPJj2.out hba3)
        have HNJ := Lib.hid (new_any mm AJ3 m3 cJ3 _ wa3 HLM3.out ho3.out (HM.out.later HBa3.out))
        have HMD1c := Lib.hid (HMD1b.out.later hba3)
        have HSA3 := Lib.hid hba3.size
        have HMD2a := Lib.hid (HMD2.out.later hba3)
        clear ho3 hba3
        go_wp2_with fail
        refine HNJ.out.mono ?_
        clear HNJ
        rintro e wj3 hgn
        obtain ⟨p3, rfl, hmd, hbn⟩ := hgn.made
        have HMD3 := Lib.hid hmd
        have HBj3 := Lib.hid (HBa3.out.trans (hbn.mono HBa3.out.size))
        have HPj3 := Lib.hid (HPa3.out.trans (hbn.mono HPa3.out.size))
        have HPJj3 := Lib.hid (Le.trans HPJa3.out hbn)
        have HMD1d := Lib.hid (HMD1c.out.later hbn)
        have HSB3 := Lib.hid hbn.size
        have HMD2b := Lib.hid (HMD2a.out.later hbn)
        clear HMD1 HMD1a HMD1b HMD1c HMD2 HMD2a
        clear hgn hmd hbn
        go_wp2_with fail
        have hbd := (Below.refl wj3.heap.size wj3).drew
        have HPJd := Lib.hid (Le.trans HPJj3.out hbd)
        have HBd := Lib.hid (HBj3.out.trans (hbd.mono HBj3.out.size))
        have hPd := HBP.out.later (HPj3.out.trans (hbd.mono HPj3.out.size))
        have HPlt := Lib.hid hPd.lt
        have hS := HRC.out _ hPd
        have hm1 := HMD1d.out.later hbd
        have hm2 := HMD2b.out.later hbd
        have hm3 := HMD3.out.later hbd
        have HZ := Lib.hid (show wj3.drew.heap.size = wj3.heap.size from rfl)
        refine wp_region_held (S := fun wx => wx.rangeAt w.heap.size 0 (ccells id ver (lab.toNat : Int) fs) ∧ wx.cell? ⟨w.heap.size, 27, none⟩ = some (.int .u32 (g.toNat : Int))) (by kernel_rfl) ?_
        refine takeD (i := 0) (oi := _) (v := (.slice A0 n0 c0)) (fuel := 15) (some 41) rfl rfl (by kernel_rfl) (by kernel_rfl) (by kernel_rfl) (fun _ _ _ h => h) (.inl ⟨by rfl, fun wx hS => by simp [go_sem]⟩) hS ?_
        simp only [Act.put, List.setIfInBounds_toArray, List.set_cons_zero, List.set_cons_succ]
        refine takeD (i := 2) (oi := _) (v := (.pointer (some ⟨w.heap.size, 0, none⟩))) (fuel := 14) (some 43) rfl rfl (by kernel_rfl) (by kernel_rfl) (by kernel_rfl) (fun _ _ _ h => h) (.inl ⟨by rfl, fun wx hS => by simp [go_sem]⟩) hS ?_
        simp only [Act.put, List.setIfInBounds_toArray, List.set_cons_zero, List.set_cons_succ]
        refine takeD (i := 3) (oi := _) (v := (.agg (ccells id ver (lab.toNat : Int) fs).toArray)) (fuel := 13) (some 44) rfl rfl (by kernel_rfl) (by kernel_rfl) (by kernel_rfl) (fun _ _ _ h => h) (yieldsIf_load_mid (by rfl) 28 (.tmp 43) rfl w.heap.size 0 rfl (ccells id ver (lab.toNat : Int) fs) _ (fun wx hS => hS.1) huc rfl (by rw [HCL.out]; exact info_crd)) hS ?_
        simp only [Act.put, List.setIfInBounds_toArray, List.set_cons_zero, List.set_cons_succ]
        refine takeD (i := 4) (oi := _) (v := (.pointer (some ⟨w.heap.size, 27, none⟩))) (fuel := 12) (some 45) rfl rfl (by kernel_rfl) (by kernel_rfl) (by kernel_rfl) (fun _ _ _ h => h) (.inl ⟨by rfl, fun wx hS => by simp [go_sem]⟩) hS ?_
        simp only [Act.put, List.setIfInBounds_toArray, List.set_cons_zero, List.set_cons_succ]
        refine takeD (i := 5) (oi := _) (v := (.int .u32 (g.toNat : Int))) (fuel := 11) (some 46) rfl rfl (by kernel_rfl) (by kernel_rfl) (by kernel_rfl) (fun _ _ _ h => h) (.inl ⟨by rfl, fun wx hS => by simp [go_sem, hS.2]⟩) hS ?_
        simp only [Act.put, List.setIfInBounds_toArray, List.set_cons_zero, List.set_cons_succ]
        refine takeD (i := 7) (oi := _) (v := (.slice A1 n1 c1)) (fuel := 10) (some 48) rfl rfl (by kernel_rfl) (by kernel_rfl) (by kernel_rfl) (fun _ _ _ h => h) (.inl ⟨by rfl, fun wx hS => by simp [go_sem]⟩) hS ?_
        simp only [Act.put, List.setIfInBounds_toArray, List.set_cons_zero, List.set_cons_succ]
        refine takeD (i := 9) (oi := _) (v := (.pointer (some ⟨w.heap.size, 0, none⟩))) (fuel := 9) (some 50) rfl rfl (by kernel_rfl) (by kernel_rfl) (by kernel_rfl) (fun _ _ _ h => h) (.inl ⟨by rfl, fun wx hS => by simp [go_sem]⟩) hS ?_
        simp only [Act.put, List.setIfInBounds_toArray, List.set_cons_zero, List.set_cons_succ]
        refine takeD (i := 10) (oi := _) (v := (.agg (ccells id ver (lab.toNat : Int) fs).toArray)) (fuel := 8) (some 51) rfl rfl (by kernel_rfl) (by kernel_rfl) (by kernel_rfl) (fun _ _ _ h => h) (yieldsIf_load_mid (by rfl) 28 (.tmp 50) rfl w.heap.size 0 rfl (ccells id ver (lab.toNat : Int) fs) _ (fun wx hS => hS.1) huc rfl (by rw [HCL.out]; exact info_crd)) hS ?_
        simp only [Act.put, List.setIfInBounds_toArray, List.set_cons_zero, List.set_cons_succ]
        refine takeD (i := 11) (oi := _) (v := (.pointer (some ⟨w.heap.size, 27, none⟩))) (fuel := 7) (some 52) rfl rfl (by kernel_rfl) (by kernel_rfl) (by kernel_rfl) (fun _ _ _ h => h) (.inl ⟨by rfl, fun wx hS => by simp [go_sem]⟩) hS ?_
        simp only [Act.put, List.setIfInBounds_toArray, List.set_cons_zero, List.set_cons_succ]
        refine takeD (i := 12) (oi := _) (v := (.int .u32 (g.toNat : Int))) (fuel := 6) (some 53) rfl rfl (by kernel_rfl) (by kernel_rfl) (by kernel_rfl) (fun _ _ _ h => h) (.inl ⟨by rfl, fun wx hS => by simp [go_sem, hS.2]⟩) hS ?_
        simp only [Act.put, List.setIfInBounds_toArray, List.set_cons_zero, List.set_cons_succ]
        refine wpAnyH_all (fuel := 5) (rs := [1]) (by kernel_rfl) (by simp) (fun i hi => ?_)
        simp only [List.mem_cons, List.not_mem_nil, or_false] at hi
        subst hi
        refine callD (some 42) _ rfl rfl 9 #[.slice A0 n0 c0] (by simp [go_sem]) (by rfl) ((HNA.out _ HBd.out).mono ?_)
        rintro e w5 ⟨hb5, ⟨hne, _⟩ | ⟨_, Fa, rfl, hFa, hfa⟩⟩
        · exact absurd HK0.out hne
        replace hPd := hPd.later hb5
        replace hS := HRC.out _ hPd
        replace hm1 := hm1.later hb5
        replace hm2 := hm2.later hb5
        replace hm3 := hm3.later hb5
        have HPJ5 := Lib.hid (Le.trans HPJd.out hb5)
        have HB5 := Lib.hid (HBd.out.trans (hb5.mono HBd.out.size))
        refine ⟨_, rfl, hS, ?_⟩
        simp only [Act.put, List.setIfInBounds_toArray, List.set_cons_zero, List.set_cons_succ]
        refine wpAnyH_all (fuel := 4) (rs := [6]) (by kernel_rfl) (by simp) (fun i hi => ?_)
        simp only [List.mem_cons, List.not_mem_nil, or_false] at hi
        subst hi
        refine callD (some 47) _ rfl rfl 10 #[.pointer (some ⟨Fa, 0, none⟩), (.agg (ccells id ver (lab.toNat : Int) fs).toArray), (.int .u32 (g.toNat : Int))] (by simp [go_sem]) (by rfl) ((match_any mm Fa l0 w5 id ver lab g fs (.inl hfa) HF.out HSM.out).mono ?_)
        rintro e w6 ⟨rfl, _, hg6⟩
        have hFa2 : wj3.heap.size ≤ Fa := hFa
        replace hPd := hPd.kept hg6 (by intro e; injection e with e; have := HPlt.out; rw [HZ.out] at this; omega)
        replace hS := HRC.out _ hPd
        replace hm1 := hm1.far hfa (by have := HSA2.out; have := HSB2.out; have := HSA3.out; have := HSB3.out; omega) hg6
        replace hm2 := hm2.far hfa (by have := HSA3.out; have := HSB3.out; omega) hg6
        replace hm3 := hm3.far hfa hFa2 hg6
        have HPJ6 : Hid (Le (w3.alloc (.cells #[.slice A0 n0 c0, .slice A1 n1 c1] 22)) w6) := Lib.hid (Below.grown HPJ5.out hg6 HPJ5.out.size (fun k e => by injection e with e; have := HPJj3.out.size; omega))
        have HB6 := Lib.hid (HB5.out.grown hg6 HB5.out.size (fun k e => by injection e with e; have := HBj3.out.size; omega))
        have HZ6 := Lib.hid (Nat.le_trans hb5.size hg6.size)
        clear hfa hFa
        refine ⟨_, rfl, hS, ?_⟩
        simp only [Act.put, List.setIfInBounds_toArray, List.set_cons_zero, List.set_cons_succ]
        refine wpAnyH_all (fuel := 3) (rs := [8]) (by kernel_rfl) (by simp) (fun i hi => ?_)
        simp only [List.mem_cons, List.not_mem_nil, or_false] at hi
        subst hi
        refine callD (some 49) _ rfl rfl 9 #[.slice A1 n1 c1] (by simp [go_sem]) (by rfl) ((HNB.out _ HB6.out).mono ?_)
        rintro e w7 ⟨hb7, ⟨hne, _⟩ | ⟨_, Fb, rfl, hFb, hfb⟩⟩
        · exact absurd HK1.out hne
        replace hPd := hPd.later hb7
        replace hS := HRC.out _ hPd
        replace hm1 := hm1.later hb7
        replace hm2 := hm2.later hb7
        replace hm3 := hm3.later hb7
        have HPJ7 := Lib.hid (Le.trans HPJ6.out hb7)
        have HB7 := Lib.hid (HB6.out.trans (hb7.mono HB6.out.size))
        refine ⟨_, rfl, hS, ?_⟩
        simp only [Act.put, List.setIfInBounds_toArray, List.set_cons_zero, List.set_cons_succ]
        refine wpAnyH_all (fuel := 2) (rs := [13]) (by kernel_rfl) (by simp) (fun i hi => ?_)
        simp only [List.mem_cons, List.not_mem_nil, or_false] at hi
        subst hi
        refine callD (some 54) _ rfl rfl 10 #[.pointer (some ⟨Fb, 0, none⟩), (.agg (ccells id ver (lab.toNat : Int) fs).toArray), (.int .u32 (g.toNat : Int))] (by simp [go_sem]) (by rfl) ((match_any mm Fb l1 w7 id ver lab g fs (.inl hfb) HF.out HSM.out).mono ?_)
        rintro e w8 ⟨rfl, _, hg8⟩
        have hFb2 : wj3.heap.size ≤ Fb := by have h1 : wj3.heap.size ≤ w6.heap.size := HZ6.out; omega
        replace hPd := hPd.kept hg8 (by intro e; injection e with e; have := HPlt.out; rw [HZ.out] at this; omega)
        replace hS := HRC.out _ hPd
        replace hm1 := hm1.far hfb (by have := HSA2.out; have := HSB2.out; have := HSA3.out; have := HSB3.out; omega) hg8
        replace hm2 := hm2.far hfb (by have := HSA3.out; have := HSB3.out; omega) hg8
        replace hm3 := hm3.far hfb hFb2 hg8
        have HPJ8 : Hid (Le (w3.alloc (.cells #[.slice A0 n0 c0, .slice A1 n1 c1] 22)) w8) := Lib.hid (Below.grown HPJ7.out hg8 HPJ7.out.size (fun k e => by injection e with e; have := HPJj3.out.size; omega))
        have HB8 := Lib.hid (HB7.out.grown hg8 HB7.out.size (fun k e => by injection e with e; have := HBj3.out.size; omega))
        refine ⟨_, rfl, hS, ?_⟩
        simp only [Act.put, List.setIfInBounds_toArray, List.set_cons_zero, List.set_cons_succ]
        refine takeD (i := 14) (oi := _) (v := (.bool (ev lab g fs l0))) (fuel := 1) (some 11) rfl rfl (by kernel_rfl) (by kernel_rfl) (by kernel_rfl) (fun _ _ _ h => h) (.inl ⟨by rfl, fun wx hS => by simp [go_sem]⟩) hS ?_
        simp only [Act.put, List.setIfInBounds_toArray, List.set_cons_zero, List.set_cons_succ]
        refine takeD (i := 15) (oi := _) (v := (.bool (ev lab g fs l1))) (fuel := 0) (some 12) rfl rfl (by kernel_rfl) (by kernel_rfl) (by kernel_rfl) (fun _ _ _ h => h) (.inl ⟨by rfl, fun wx hS => by simp [go_sem]⟩) hS ?_
        simp only [Act.put, List.setIfInBounds_toArray, List.set_cons_zero, List.set_cons_succ]
        refine wpAnyH_done (by kernel_rfl) ?_ _
        have HE1 : ev lab g fs ((10, 0, zv) :: [l0].flatten) = !ev lab g fs l0 := by
          simp only [List.flatten_cons, List.flatten_nil, List.append_nil]
          exact ev_not rfl
        have HE2 : ev lab g fs ((11, 0, zv) :: [l0, l1].flatten) = (ev lab g fs l0 && ev lab g fs l1) := by
          simp only [List.flatten_cons, List.flatten_nil, List.append_nil]
          exact ev_and rfl (lchk_ok HK0.out).2.2.1
        have HE3 : ev lab g fs ((12, 0, zv) :: [l0, l1].flatten) = (ev lab g fs l0 || ev lab g fs l1) := by
          simp only [List.flatten_cons, List.flatten_nil, List.append_nil]
          exact ev_or rfl (lchk_ok HK0.out).2.2.1
        have HX1 := Lib.hid (fun F wx (h : Fresh mm wx F ((10, 0, zv) :: [l0].flatten)) => match_any mm F ((10, 0, zv) :: [l0].flatten) wx id ver lab g fs (.inl h) HF.out HSM.out)
        rw [HE1] at HX1
        have HX2 := Lib.hid (fun F wx (h : Fresh mm wx F ((11, 0, zv) :: [l0, l1].flatten)) => match_any mm F ((11, 0, zv) :: [l0, l1].flatten) wx id ver lab g fs (.inl h) HF.out HSM.out)
        rw [HE2] at HX2
        have HX3 := Lib.hid (fun F wx (h : Fresh mm wx F ((12, 0, zv) :: [l0, l1].flatten)) => match_any mm F ((12, 0, zv) :: [l0, l1].flatten) wx id ver lab g fs (.inl h) HF.out HSM.out)
        rw [HE3] at HX3
        obtain ⟨r2, hr2⟩ : ∃ r, r = lchk ((11, 0, zv) :: [l0, l1].flatten) := ⟨_, rfl⟩
        have HCK := Lib.hid (fun A c wx (hs : Sees wx wx.heap.size A (ncs ((11, 0, zv) :: [l0, l1].flatten))) (hc : m2 ≤ c) => rlcheck_any A m2 c ((11, 0, zv) :: [l0, l1].flatten) wx HLM2.out hs hc)
        rw [← hr2] at HCK
        obtain ⟨R0, hR0⟩ : ∃ R, R = ev lab g fs l0 := ⟨_, rfl⟩
        obtain ⟨R1, hR1⟩ : ∃ R, R = ev lab g fs l1 := ⟨_, rfl⟩
        rw [← hR0] at HX1 HX2 HX3 ⊢
        rw [← hR1] at HX2 HX3 ⊢
        have HZ12 := Lib.hid (show wj1.heap.size ≤ wa2.heap.size from HSA2.out)
        have HR2 := Lib.hid hr2
        clear hr2 hR0 hR1 HE1 HE2 HE3 HJ1 HJ3 HCA HCB HLG HNA HNB hfb hFb hFa2 hFb2 hg6 hg8 hb5 hb7 hbig
        obtain ⟨hrc, hgc⟩ := hS
        rcases hm1 with ⟨q1, rfl⟩ | ⟨q1, F1, rfl, lo1, hi1, hf1⟩
        · rcases hm2 with ⟨q2, rfl⟩ | ⟨q2, F2, rfl, lo2, hi2, hf2⟩
          · rw [← HR2.out] at q2
            have b2 : (r2 != 0) = true := by simpa using q2
            rcases hm3 with ⟨q3, rfl⟩ | ⟨q3, F3, rfl, lo3, hi3, hf3⟩
            · cases R0 <;> cases R1
              all_goals
                go_wp2_with (first
                  | (refine wpList_load_g (by rfl) 28 (.tmp 59) rfl w.heap.size 0 rfl (ccells id ver (lab.toNat : Int) fs) _ hrc huc rfl (by rw [HCL.out]; exact info_crd) ?_)
                  | (refine wpList_load_g (by rfl) 28 (.tmp 72) rfl w.heap.size 0 rfl (ccells id ver (lab.toNat : Int) fs) _ hrc huc rfl (by rw [HCL.out]; exact info_crd) ?_)
                  | (refine wpList_load_g (by rfl) 28 (.tmp 89) rfl w.heap.size 0 rfl (ccells id ver (lab.toNat : Int) fs) _ hrc huc rfl (by rw [HCL.out]; exact info_crd) ?_)
                  | fail)
                refine (HJ2.out _ HPJ8.out).mono ?_
                rintro e wq ⟨AQ, cQ, rfl, hoq, hcq, hbq⟩
                have HBq := Lib.hid (HB8.out.trans (hbq.mono HB8.out.size))
                clear hbq
                go_wp2_with fail
                refine (HCK.out _ _ _ hoq.out hcq).mono ?_
                rintro e wt ⟨rfl, hbt⟩
                have HBt := Lib.hid (HBq.out.trans (hbt.mono HBq.out.size))
                clear hbt
                go_wp2_with fail
                refine (HAW.out _ HBt.out).mono ?_
                rintro e wu ⟨rfl, hbu⟩
                go_wp2_with fail
                go_ret
                exact ⟨rfl, HBt.out.trans (hbu.mono HBt.out.size)⟩
            · cases R0 <;> cases R1
              all_goals
                go_wp2_with (first
                  | (refine wpList_load_g (by rfl) 28 (.tmp 59) rfl w.heap.size 0 rfl (ccells id ver (lab.toNat : Int) fs) _ hrc huc rfl (by rw [HCL.out]; exact info_crd) ?_)
                  | (refine wpList_load_g (by rfl) 28 (.tmp 72) rfl w.heap.size 0 rfl (ccells id ver (lab.toNat : Int) fs) _ hrc huc rfl (by rw [HCL.out]; exact info_crd) ?_)
                  | (refine wpList_load_g (by rfl) 28 (.tmp 89) rfl w.heap.size 0 rfl (ccells id ver (lab.toNat : Int) fs) _ hrc huc rfl (by rw [HCL.out]; exact info_crd) ?_)
                  | fail)
                refine (HX3.out F3 _ hf3).mono ?_
                rintro e w9 ⟨rfl, _, hg9⟩
                replace hPd := hPd.kept hg9 (by intro e; injection e with e; have := HPlt.out; have := HBa1.out.size; have := HPa1.out.size; simp at this; have := HSB1.out; have := HSA2.out; have := HSB2.out; have := HSA3.out; omega)
                obtain ⟨hrc, hgc⟩ := HRC.out _ hPd
                have HB9 := Lib.hid (HB8.out.grown hg9 HB8.out.size (fun k e => by injection e with e; have := HBa1.out.size; have := HSB1.out; have := HSA2.out; have := HSB2.out; have := HSA3.out; omega))
                have HPJ9 : Hid (Le (w3.alloc (.cells #[.slice A0 n0 c0, .slice A1 n1 c1] 22)) w9) := Lib.hid (Below.grown HPJ8.out hg9 HPJ8.out.size (fun k e => by injection e with e; have := HPJa1.out.size; have := HSB1.out; have := HSA2.out; have := HSB2.out; have := HSA3.out; omega))
                clear hg9
                go_wp2_with (first
                  | (refine wpList_load_g (by rfl) 28 (.tmp 59) rfl w.heap.size 0 rfl (ccells id ver (lab.toNat : Int) fs) _ hrc huc rfl (by rw [HCL.out]; exact info_crd) ?_)
                  | (refine wpList_load_g (by rfl) 28 (.tmp 72) rfl w.heap.size 0 rfl (ccells id ver (lab.toNat : Int) fs) _ hrc huc rfl (by rw [HCL.out]; exact info_crd) ?_)
                  | (refine wpList_load_g (by rfl) 28 (.tmp 89) rfl w.heap.size 0 rfl (ccells id ver (lab.toNat : Int) fs) _ hrc huc rfl (by rw [HCL.out]; exact info_crd) ?_)
                  | fail)
                refine (HJ2.out _ HPJ9.out).mono ?_
                rintro e wq ⟨AQ, cQ, rfl, hoq, hcq, hbq⟩
                have HBq := Lib.hid (HB9.out.trans (hbq.mono HB9.out.size))
                clear hbq
                go_wp2_with fail
                refine (HCK.out _ _ _ hoq.out hcq).mono ?_
                rintro e wt ⟨rfl, hbt⟩
                have HBt := Lib.hid (HBq.out.trans (hbt.mono HBq.out.size))
                clear hbt
                go_wp2_with fail
                refine (HAW.out _ HBt.out).mono ?_
                rintro e wu ⟨rfl, hbu⟩
                go_wp2_with fail
                go_ret
                exact ⟨rfl, HBt.out.trans (hbu.mono HBt.out.size)⟩
          · rw [← HR2.out] at q2
            have b2 : (r2 != 0) = false := by simpa using q2
            rcases hm3 with ⟨q3, rfl⟩ | ⟨q3, F3, rfl, lo3, hi3, hf3⟩
            · cases R0 <;> cases R1
              all_goals
                go_wp2_with (first
                  | (refine wpList_load_g (by rfl) 28 (.tmp 59) rfl w.heap.size 0 rfl (ccells id ver (lab.toNat : Int) fs) _ hrc huc rfl (by rw [HCL.out]; exact info_crd) ?_)
                  | (refine wpList_load_g (by rfl) 28 (.tmp 72) rfl w.heap.size 0 rfl (ccells id ver (lab.toNat : Int) fs) _ hrc huc rfl (by rw [HCL.out]; exact info_crd) ?_)
                  | (refine wpList_load_g (by rfl) 28 (.tmp 89) rfl w.heap.size 0 rfl (ccells id ver (lab.toNat : Int) fs) _ hrc huc rfl (by rw [HCL.out]; exact info_crd) ?_)
                  | fail)
                refine (HX2.out F2 _ hf2).mono ?_
                rintro e w9 ⟨rfl, _, hg9⟩
                replace hPd := hPd.kept hg9 (by intro e; injection e with e; have := HPlt.out; have := HBa1.out.size; have := HPa1.out.size; simp at this; have := HSB1.out; have := HSA2.out; have := HSB2.out; have := HSA3.out; omega)
                obtain ⟨hrc, hgc⟩ := HRC.out _ hPd
                have HB9 := Lib.hid (HB8.out.grown hg9 HB8.out.size (fun k e => by injection e with e; have := HBa1.out.size; have := HSB1.out; have := HSA2.out; have := HSB2.out; have := HSA3.out; omega))
                have HPJ9 : Hid (Le (w3.alloc (.cells #[.slice A0 n0 c0, .slice A1 n1 c1] 22)) w9) := Lib.hid (Below.grown HPJ8.out hg9 HPJ8.out.size (fun k e => by injection e with e; have := HPJa1.out.size; have := HSB1.out; have := HSA2.out; have := HSB2.out; have := HSA3.out; omega))
                clear hg9
                go_wp2_with (first
                  | (refine wpList_load_g (by rfl) 28 (.tmp 59) rfl w.heap.size 0 rfl (ccells id ver (lab.toNat : Int) fs) _ hrc huc rfl (by rw [HCL.out]; exact info_crd) ?_)
                  | (refine wpList_load_g (by rfl) 28 (.tmp 72) rfl w.heap.size 0 rfl (ccells id ver (lab.toNat : Int) fs) _ hrc huc rfl (by rw [HCL.out]; exact info_crd) ?_)
                  | (refine wpList_load_g (by rfl) 28 (.tmp 89) rfl w.heap.size 0 rfl (ccells id ver (lab.toNat : Int) fs) _ hrc huc rfl (by rw [HCL.out]; exact info_crd) ?_)
                  | fail)
                refine (HJ2.out _ HPJ9.out).mono ?_
                rintro e wq ⟨AQ, cQ, rfl, hoq, hcq, hbq⟩
                have HBq := Lib.hid (HB9.out.trans (hbq.mono HB9.out.size))
                clear hbq
                go_wp2_with fail
                refine (HCK.out _ _ _ hoq.out hcq).mono ?_
                rintro e wt ⟨rfl, hbt⟩
                have HBt := Lib.hid (HBq.out.trans (hbt.mono HBq.out.size))
                clear hbt
                go_wp2_with fail
                refine (HAW.out _ HBt.out).mono ?_
                rintro e wu ⟨rfl, hbu⟩
                go_wp2_with fail
                go_ret
                exact ⟨rfl, HBt.out.trans (hbu.mono HBt.out.size)⟩
            · cases R0 <;> cases R1
              all_goals
                go_wp2_with (first
                  | (refine wpList_load_g (by rfl) 28 (.tmp 59) rfl w.heap.size 0 rfl (ccells id ver (lab.toNat : Int) fs) _ hrc huc rfl (by rw [HCL.out]; exact info_crd) ?_)
                  | (refine wpList_load_g (by rfl) 28 (.tmp 72) rfl w.heap.size 0 rfl (ccells id ver (lab.toNat : Int) fs) _ hrc huc rfl (by rw [HCL.out]; exact info_crd) ?_)
                  | (refine wpList_load_g (by rfl) 28 (.tmp 89) rfl w.heap.size 0 rfl (ccells id ver (lab.toNat : Int) fs) _ hrc huc rfl (by rw [HCL.out]; exact info_crd) ?_)
                  | fail)
                refine (HX2.out F2 _ hf2).mono ?_
                rintro e w9 ⟨rfl, _, hg9⟩
                replace hPd := hPd.kept hg9 (by intro e; injection e with e; have := HPlt.out; have := HBa1.out.size; have := HPa1.out.size; simp at this; have := HSB1.out; have := HSA2.out; have := HSB2.out; have := HSA3.out; omega)
                obtain ⟨hrc, hgc⟩ := HRC.out _ hPd
                replace hf3 := hf3.far hf2 (by have := HSB1.out; have := HSA2.out; have := HSB2.out; have := HSA3.out; have := HSB3.out; omega) hg9
                have HB9 := Lib.hid (HB8.out.grown hg9 HB8.out.size (fun k e => by injection e with e; have := HBa1.out.size; have := HSB1.out; have := HSA2.out; have := HSB2.out; have := HSA3.out; omega))
                have HPJ9 : Hid (Le (w3.alloc (.cells #[.slice A0 n0 c0, .slice A1 n1 c1] 22)) w9) := Lib.hid (Below.grown HPJ8.out hg9 HPJ8.out.size (fun k e => by injection e with e; have := HPJa1.out.size; have := HSB1.out; have := HSA2.out; have := HSB2.out; have := HSA3.out; omega))
                clear hg9
                go_wp2_with (first
                  | (refine wpList_load_g (by rfl) 28 (.tmp 59) rfl w.heap.size 0 rfl (ccells id ver (lab.toNat : Int) fs) _ hrc huc rfl (by rw [HCL.out]; exact info_crd) ?_)
                  | (refine wpList_load_g (by rfl) 28 (.tmp 72) rfl w.heap.size 0 rfl (ccells id ver (lab.toNat : Int) fs) _ hrc huc rfl (by rw [HCL.out]; exact info_crd) ?_)
                  | (refine wpList_load_g (by rfl) 28 (.tmp 89) rfl w.heap.size 0 rfl (ccells id ver (lab.toNat : Int) fs) _ hrc huc rfl (by rw [HCL.out]; exact info_crd) ?_)
                  | fail)
                refine (HX3.out F3 _ hf3).mono ?_
                rintro e w10 ⟨rfl, _, hg10⟩
                replace hPd := hPd.kept hg10 (by intro e; injection e with e; have := HPlt.out; have := HBa1.out.size; have := HPa1.out.size; simp at this; have := HSB1.out; have := HSA2.out; have := HSB2.out; have := HSA3.out; omega)
                obtain ⟨hrc, hgc⟩ := HRC.out _ hPd
                have HB10 := Lib.hid (HB9.out.grown hg10 HB9.out.size (fun k e => by injection e with e; have := HBa1.out.size; have := HSB1.out; have := HSA2.out; have := HSB2.out; have := HSA3.out; omega))
                have HPJ10 : Hid (Le (w3.alloc (.cells #[.slice A0 n0 c0, .slice A1 n1 c1] 22)) w10) := Lib.hid (Below.grown HPJ9.out hg10 HPJ9.out.size (fun k e => by injection e with e; have := HPJa1.out.size; have := HSB1.out; have := HSA2.out; have := HSB2.out; have := HSA3.out; omega))
                clear hg10
                go_wp2_with (first
                  | (refine wpList_load_g (by rfl) 28 (.tmp 59) rfl w.heap.size 0 rfl (ccells id ver (lab.toNat : Int) fs) _ hrc huc rfl (by rw [HCL.out]; exact info_crd) ?_)
                  | (refine wpList_load_g (by rfl) 28 (.tmp 72) rfl w.heap.size 0 rfl (ccells id ver (lab.toNat : Int) fs) _ hrc huc rfl (by rw [HCL.out]; exact info_crd) ?_)
                  | (refine wpList_load_g (by rfl) 28 (.tmp 89) rfl w.heap.size 0 rfl (ccells id ver (lab.toNat : Int) fs) _ hrc huc rfl (by rw [HCL.out]; exact info_crd) ?_)
                  | fail)
                refine (HJ2.out _ HPJ10.out).mono ?_
                rintro e wq ⟨AQ, cQ, rfl, hoq, hcq, hbq⟩
                have HBq := Lib.hid (HB10.out.trans (hbq.mono HB10.out.size))
                clear hbq
                go_wp2_with fail
                refine (HCK.out _ _ _ hoq.out hcq).mono ?_
                rintro e wt ⟨rfl, hbt⟩
                have HBt := Lib.hid (HBq.out.trans (hbt.mono HBq.out.size))
                clear hbt
                go_wp2_with fail
                refine (HAW.out _ HBt.out).mono ?_
                rintro e wu ⟨rfl, hbu⟩
                go_wp2_with fail
                go_ret
                exact ⟨rfl, HBt.out.trans (hbu.mono HBt.out.size)⟩
        · rcases hm2 with ⟨q2, rfl⟩ | ⟨q2, F2, rfl, lo2, hi2, hf2⟩
          · rw [← HR2.out] at q2
            have b2 : (r2 != 0) = true := by simpa using q2
            rcases hm3 with ⟨q3, rfl⟩ | ⟨q3, F3, rfl, lo3, hi3, hf3⟩
            · cases R0 <;> cases R1
              all_goals
                go_wp2_with (first
                  | (refine wpList_load_g (by rfl) 28 (.tmp 59) rfl w.heap.size 0 rfl (ccells id ver (lab.toNat : Int) fs) _ hrc huc rfl (by rw [HCL.out]; exact info_crd) ?_)
                  | (refine wpList_load_g (by rfl) 28 (.tmp 72) rfl w.heap.size 0 rfl (ccells id ver (lab.toNat : Int) fs) _ hrc huc rfl (by rw [HCL.out]; exact info_crd) ?_)
                  | (refine wpList_load_g (by rfl) 28 (.tmp 89) rfl w.heap.size 0 rfl (ccells id ver (lab.toNat : Int) fs) _ hrc huc rfl (by rw [HCL.out]; exact info_crd) ?_)
                  | fail)
                refine (HX1.out F1 _ hf1).mono ?_
                rintro e w9 ⟨rfl, _, hg9⟩
                replace hPd := hPd.kept hg9 (by intro e; injection e with e; have := HPlt.out; have := HBa1.out.size; have := HPa1.out.size; simp at this; have := HSB1.out; have := HSA2.out; have := HSB2.out; have := HSA3.out; omega)
                obtain ⟨hrc, hgc⟩ := HRC.out _ hPd
                have HB9 := Lib.hid (HB8.out.grown hg9 HB8.out.size (fun k e => by injection e with e; have := HBa1.out.size; have := HSB1.out; have := HSA2.out; have := HSB2.out; have := HSA3.out; omega))
                have HPJ9 : Hid (Le (w3.alloc (.cells #[.slice A0 n0 c0, .slice A1 n1 c1] 22)) w9) := Lib.hid (Below.grown HPJ8.out hg9 HPJ8.out.size (fun k e => by injection e with e; have := HPJa1.out.size; have := HSB1.out; have := HSA2.out; have := HSB2.out; have := HSA3.out; omega))
                clear hg9
                go_wp2_with (first
                  | (refine wpList_load_g (by rfl) 28 (.tmp 59) rfl w.heap.size 0 rfl (ccells id ver (lab.toNat : Int) fs) _ hrc huc rfl (by rw [HCL.out]; exact info_crd) ?_)
                  | (refine wpList_load_g (by rfl) 28 (.tmp 72) rfl w.heap.size 0 rfl (ccells id ver (lab.toNat : Int) fs) _ hrc huc rfl (by rw [HCL.out]; exact info_crd) ?_)
                  | (refine wpList_load_g (by rfl) 28 (.tmp 89) rfl w.heap.size 0 rfl (ccells id ver (lab.toNat : Int) fs) _ hrc huc rfl (by rw [HCL.out]; exact info_crd) ?_)
                  | fail)
                refine (HJ2.out _ HPJ9.out).mono ?_
                rintro e wq ⟨AQ, cQ, rfl, hoq, hcq, hbq⟩
                have HBq := Lib.hid (HB9.out.trans (hbq.mono HB9.out.size))
                clear hbq
                go_wp2_with fail
                refine (HCK.out _ _ _ hoq.out hcq).mono ?_
                rintro e wt ⟨rfl, hbt⟩
                have HBt := Lib.hid (HBq.out.trans (hbt.mono HBq.out.size))
                clear hbt
                go_wp2_with fail
                refine (HAW.out _ HBt.out).mono ?_
                rintro e wu ⟨rfl, hbu⟩
                go_wp2_with fail
                go_ret
                exact ⟨rfl, HBt.out.trans (hbu.mono HBt.out.size)⟩
            · cases R0 <;> cases R1
              all_goals
                go_wp2_with (first
                  | (refine wpList_load_g (by rfl) 28 (.tmp 59) rfl w.heap.size 0 rfl (ccells id ver (lab.toNat : Int) fs) _ hrc huc rfl (by rw [HCL.out]; exact info_crd) ?_)
                  | (refine wpList_load_g (by rfl) 28 (.tmp 72) rfl w.heap.size 0 rfl (ccells id ver (lab.toNat : Int) fs) _ hrc huc rfl (by rw [HCL.out]; exact info_crd) ?_)
                  | (refine wpList_load_g (by rfl) 28 (.tmp 89) rfl w.heap.size 0 rfl (ccells id ver (lab.toNat : Int) fs) _ hrc huc rfl (by rw [HCL.out]; exact info_crd) ?_)
                  | fail)
                refine (HX1.out F1 _ hf1).mono ?_
                rintro e w9 ⟨rfl, _, hg9⟩
                replace hPd := hPd.kept hg9 (by intro e; injection e with e; have := HPlt.out; have := HBa1.out.size; have := HPa1.out.size; simp at this; have := HSB1.out; have := HSA2.out; have := HSB2.out; have := HSA3.out; omega)
                obtain ⟨hrc, hgc⟩ := HRC.out _ hPd
                replace hf3 := hf3.far hf1 (by have := HSB1.out; have := HSA2.out; have := HSB2.out; have := HSA3.out; have := HSB3.out; omega) hg9
                have HB9 := Lib.hid (HB8.out.grown hg9 HB8.out.size (fun k e => by injection e with e; have := HBa1.out.size; have := HSB1.out; have := HSA2.out; have := HSB2.out; have := HSA3.out; omega))
                have HPJ9 : Hid (Le (w3.alloc (.cells #[.slice A0 n0 c0, .slice A1 n1 c1] 22)) w9) := Lib.hid (Below.grown HPJ8.out hg9 HPJ8.out.size (fun k e => by injection e with e; have := HPJa1.out.size; have := HSB1.out; have := HSA2.out; have := HSB2.out; have := HSA3.out; omega))
                clear hg9
                go_wp2_with (first
                  | (refine wpList_load_g (by rfl) 28 (.tmp 59) rfl w.heap.size 0 rfl (ccells id ver (lab.toNat : Int) fs) _ hrc huc rfl (by rw [HCL.out]; exact info_crd) ?_)
                  | (refine wpList_load_g (by rfl) 28 (.tmp 72) rfl w.heap.size 0 rfl (ccells id ver (lab.toNat : Int) fs) _ hrc huc rfl (by rw [HCL.out]; exact info_crd) ?_)
                  | (refine wpList_load_g (by rfl) 28 (.tmp 89) rfl w.heap.size 0 rfl (ccells id ver (lab.toNat : Int) fs) _ hrc huc rfl (by rw [HCL.out]; exact info_crd) ?_)
                  | fail)
                refine (HX3.out F3 _ hf3).mono ?_
                rintro e w10 ⟨rfl, _, hg10⟩
                replace hPd := hPd.kept hg10 (by intro e; injection e with e; have := HPlt.out; have := HBa1.out.size; have := HPa1.out.size; simp at this; have := HSB1.out; have := HSA2.out; have := HSB2.out; have := HSA3.out; omega)
                obtain ⟨hrc, hgc⟩ := HRC.out _ hPd
                have HB10 := Lib.hid (HB9.out.grown hg10 HB9.out.size (fun k e => by injection e with e; have := HBa1.out.size; have := HSB1.out; have := HSA2.out; have := HSB2.out; have := HSA3.out; omega))
                have HPJ10 : Hid (Le (w3.alloc (.cells #[.slice A0 n0 c0, .slice A1 n1 c1] 22)) w10) := Lib.hid (Below.grown HPJ9.out hg10 HPJ9.out.size (fun k e => by injection e with e; have := HPJa1.out.size; have := HSB1.out; have := HSA2.out; have := HSB2.out; have := HSA3.out; omega))
                clear hg10
                go_wp2_with (first
                  | (refine wpList_load_g (by rfl) 28 (.tmp 59) rfl w.heap.size 0 rfl (ccells id ver (lab.toNat : Int) fs) _ hrc huc rfl (by rw [HCL.out]; exact info_crd) ?_)
                  | (refine wpList_load_g (by rfl) 28 (.tmp 72) rfl w.heap.size 0 rfl (ccells id ver (lab.toNat : Int) fs) _ hrc huc rfl (by rw [HCL.out]; exact info_crd) ?_)
                  | (refine wpList_load_g (by rfl) 28 (.tmp 89) rfl w.heap.size 0 rfl (ccells id ver (lab.toNat : Int) fs) _ hrc huc rfl (by rw [HCL.out]; exact info_crd) ?_)
                  | fail)
                refine (HJ2.out _ HPJ10.out).mono ?_
                rintro e wq ⟨AQ, cQ, rfl, hoq, hcq, hbq⟩
                have HBq := Lib.hid (HB10.out.trans (hbq.mono HB10.out.size))
                clear hbq
                go_wp2_with fail
                refine (HCK.out _ _ _ hoq.out hcq).mono ?_
                rintro e wt ⟨rfl, hbt⟩
                have HBt := Lib.hid (HBq.out.trans (hbt.mono HBq.out.size))
                clear hbt
                go_wp2_with fail
                refine (HAW.out _ HBt.out).mono ?_
                rintro e wu ⟨rfl, hbu⟩
                go_wp2_with fail
                go_ret
                exact ⟨rfl, HBt.out.trans (hbu.mono HBt.out.size)⟩
          · rw [← HR2.out] at q2
            have b2 : (r2 != 0) = false := by simpa using q2
            rcases hm3 with ⟨q3, rfl⟩ | ⟨q3, F3, rfl, lo3, hi3, hf3⟩
            · cases R0 <;> cases R1
              all_goals
                go_wp2_with (first
                  | (refine wpList_load_g (by rfl) 28 (.tmp 59) rfl w.heap.size 0 rfl (ccells id ver (lab.toNat : Int) fs) _ hrc huc rfl (by rw [HCL.out]; exact info_crd) ?_)
                  | (refine wpList_load_g (by rfl) 28 (.tmp 72) rfl w.heap.size 0 rfl (ccells id ver (lab.toNat : Int) fs) _ hrc huc rfl (by rw [HCL.out]; exact info_crd) ?_)
                  | (refine wpList_load_g (by rfl) 28 (.tmp 89) rfl w.heap.size 0 rfl (ccells id ver (lab.toNat : Int) fs) _ hrc huc rfl (by rw [HCL.out]; exact info_crd) ?_)
                  | fail)
                refine (HX1.out F1 _ hf1).mono ?_
                rintro e w9 ⟨rfl, _, hg9⟩
                replace hPd := hPd.kept hg9 (by intro e; injection e with e; have := HPlt.out; have := HBa1.out.size; have := HPa1.out.size; simp at this; have := HSB1.out; have := HSA2.out; have := HSB2.out; have := HSA3.out; omega)
                obtain ⟨hrc, hgc⟩ := HRC.out _ hPd
                replace hf2 := hf2.far hf1 (by have := HSB1.out; have := HSA2.out; have := HSB2.out; have := HSA3.out; have := HSB3.out; omega) hg9
                have HB9 := Lib.hid (HB8.out.grown hg9 HB8.out.size (fun k e => by injection e with e; have := HBa1.out.size; have := HSB1.out; have := HSA2.out; have := HSB2.out; have := HSA3.out; omega))
                have HPJ9 : Hid (Le (w3.alloc (.cells #[.slice A0 n0 c0, .slice A1 n1 c1] 22)) w9) := Lib.hid (Below.grown HPJ8.out hg9 HPJ8.out.size (fun k e => by injection e with e; have := HPJa1.out.size; have := HSB1.out; have := HSA2.out; have := HSB2.out; have := HSA3.out; omega))
                clear hg9
                go_wp2_with (first
                  | (refine wpList_load_g (by rfl) 28 (.tmp 59) rfl w.heap.size 0 rfl (ccells id ver (lab.toNat : Int) fs) _ hrc huc rfl (by rw [HCL.out]; exact info_crd) ?_)
                  | (refine wpList_load_g (by rfl) 28 (.tmp 72) rfl w.heap.size 0 rfl (ccells id ver (lab.toNat : Int) fs) _ hrc huc rfl (by rw [HCL.out]; exact info_crd) ?_)
                  | (refine wpList_load_g (by rfl) 28 (.tmp 89) rfl w.heap.size 0 rfl (ccells id ver (lab.toNat : Int) fs) _ hrc huc rfl (by rw [HCL.out]; exact info_crd) ?_)
                  | fail)
                refine (HX2.out F2 _ hf2).mono ?_
                rintro e w10 ⟨rfl, _, hg10⟩
                replace hPd := hPd.kept hg10 (by intro e; injection e with e; have := HPlt.out; have := HBa1.out.size; have := HPa1.out.size; simp at this; have := HSB1.out; have := HSA2.out; have := HSB2.out; have := HSA3.out; omega)
                obtain ⟨hrc, hgc⟩ := HRC.out _ hPd
                have HB10 := Lib.hid (HB9.out.grown hg10 HB9.out.size (fun k e => by injection e with e; have := HBa1.out.size; have := HSB1.out; have := HSA2.out; have := HSB2.out; have := HSA3.out; omega))
                have HPJ10 : Hid (Le (w3.alloc (.cells #[.slice A0 n0 c0, .slice A1 n1 c1] 22)) w10) := Lib.hid (Below.grown HPJ9.out hg10 HPJ9.out.size (fun k e => by injection e with e; have := HPJa1.out.size; have := HSB1.out; have := HSA2.out; have := HSB2.out; have := HSA3.out; omega))
                clear hg10
                go_wp2_with (first
                  | (refine wpList_load_g (by rfl) 28 (.tmp 59) rfl w.heap.size 0 rfl (ccells id ver (lab.toNat : Int) fs) _ hrc huc rfl (by rw [HCL.out]; exact info_crd) ?_)
                  | (refine wpList_load_g (by rfl) 28 (.tmp 72) rfl w.heap.size 0 rfl (ccells id ver (lab.toNat : Int) fs) _ hrc huc rfl (by rw [HCL.out]; exact info_crd) ?_)
                  | (refine wpList_load_g (by rfl) 28 (.tmp 89) rfl w.heap.size 0 rfl (ccells id ver (lab.toNat : Int) fs) _ hrc huc rfl (by rw [HCL.out]; exact info_crd) ?_)
                  | fail)
                refine (HJ2.out _ HPJ10.out).mono ?_
                rintro e wq ⟨AQ, cQ, rfl, hoq, hcq, hbq⟩
                have HBq := Lib.hid (HB10.out.trans (hbq.mono HB10.out.size))
                clear hbq
                go_wp2_with fail
                refine (HCK.out _ _ _ hoq.out hcq).mono ?_
                rintro e wt ⟨rfl, hbt⟩
                have HBt := Lib.hid (HBq.out.trans (hbt.mono HBq.out.size))
                clear hbt
                go_wp2_with fail
                refine (HAW.out _ HBt.out).mono ?_
                rintro e wu ⟨rfl, hbu⟩
                go_wp2_with fail
                go_ret
                exact ⟨rfl, HBt.out.trans (hbu.mono HBt.out.size)⟩
            · cases R0 <;> cases R1
              all_goals
                go_wp2_with (first
                  | (refine wpList_load_g (by rfl) 28 (.tmp 59) rfl w.heap.size 0 rfl (ccells id ver (lab.toNat : Int) fs) _ hrc huc rfl (by rw [HCL.out]; exact info_crd) ?_)
                  | (refine wpList_load_g (by rfl) 28 (.tmp 72) rfl w.heap.size 0 rfl (ccells id ver (lab.toNat : Int) fs) _ hrc huc rfl (by rw [HCL.out]; exact info_crd) ?_)
                  | (refine wpList_load_g (by rfl) 28 (.tmp 89) rfl w.heap.size 0 rfl (ccells id ver (lab.toNat : Int) fs) _ hrc huc rfl (by rw [HCL.out]; exact info_crd) ?_)
                  | fail)
                refine (HX1.out F1 _ hf1).mono ?_
                rintro e w9 ⟨rfl, _, hg9⟩
                replace hPd := hPd.kept hg9 (by intro e; injection e with e; have := HPlt.out; have := HBa1.out.size; have := HPa1.out.size; simp at this; have := HSB1.out; have := HSA2.out; have := HSB2.out; have := HSA3.out; omega)
                obtain ⟨hrc, hgc⟩ := HRC.out _ hPd
                replace hf2 := hf2.far hf1 (by have := HSB1.out; have := HSA2.out; have := HSB2.out; have := HSA3.out; have := HSB3.out; omega) hg9
                replace hf3 := hf3.far hf1 (by have := HSB1.out; have := HSA2.out; have := HSB2.out; have := HSA3.out; have := HSB3.out; omega) hg9
                have HB9 := Lib.hid (HB8.out.grown hg9 HB8.out.size (fun k e => by injection e with e; have := HBa1.out.size; have := HSB1.out; have := HSA2.out; have := HSB2.out; have := HSA3.out; omega))
                have HPJ9 : Hid (Le (w3.alloc (.cells #[.slice A0 n0 c0, .slice A1 n1 c1] 22)) w9) := Lib.hid (Below.grown HPJ8.out hg9 HPJ8.out.size (fun k e => by injection e with e; have := HPJa1.out.size; have := HSB1.out; have := HSA2.out; have := HSB2.out; have := HSA3.out; omega))
                clear hg9
                go_wp2_with (first
                  | (refine wpList_load_g (by rfl) 28 (.tmp 59) rfl w.heap.size 0 rfl (ccells id ver (lab.toNat : Int) fs) _ hrc huc rfl (by rw [HCL.out]; exact info_crd) ?_)
                  | (refine wpList_load_g (by rfl) 28 (.tmp 72) rfl w.heap.size 0 rfl (ccells id ver (lab.toNat : Int) fs) _ hrc huc rfl (by rw [HCL.out]; exact info_crd) ?_)
                  | (refine wpList_load_g (by rfl) 28 (.tmp 89) rfl w.heap.size 0 rfl (ccells id ver (lab.toNat : Int) fs) _ hrc huc rfl (by rw [HCL.out]; exact info_crd) ?_)
                  | fail)
                refine (HX2.out F2 _ hf2).mono ?_
                rintro e w10 ⟨rfl, _, hg10⟩
                replace hPd := hPd.kept hg10 (by intro e; injection e with e; have := HPlt.out; have := HBa1.out.size; have := HPa1.out.size; simp at this; have := HSB1.out; have := HSA2.out; have := HSB2.out; have := HSA3.out; omega)
                obtain ⟨hrc, hgc⟩ := HRC.out _ hPd
                replace hf3 := hf3.far hf2 (by have := HSB1.out; have := HSA2.out; have := HSB2.out; have := HSA3.out; have := HSB3.out; omega) hg10
                have HB10 := Lib.hid (HB9.out.grown hg10 HB9.out.size (fun k e => by injection e with e; have := HBa1.out.size; have := HSB1.out; have := HSA2.out; have := HSB2.out; have := HSA3.out; omega))
                have HPJ10 : Hid (Le (w3.alloc (.cells #[.slice A0 n0 c0, .slice A1 n1 c1] 22)) w10) := Lib.hid (Below.grown HPJ9.out hg10 HPJ9.out.size (fun k e => by injection e with e; have := HPJa1.out.size; have := HSB1.out; have := HSA2.out; have := HSB2.out; have := HSA3.out; omega))
                clear hg10
                go_wp2_with (first
                  | (refine wpList_load_g (by rfl) 28 (.tmp 59) rfl w.heap.size 0 rfl (ccells id ver (lab.toNat : Int) fs) _ hrc huc rfl (by rw [HCL.out]; exact info_crd) ?_)
                  | (refine wpList_load_g (by rfl) 28 (.tmp 72) rfl w.heap.size 0 rfl (ccells id ver (lab.toNat : Int) fs) _ hrc huc rfl (by rw [HCL.out]; exact info_crd) ?_)
                  | (refine wpList_load_g (by rfl) 28 (.tmp 89) rfl w.heap.size 0 rfl (ccells id ver (lab.toNat : Int) fs) _ hrc huc rfl (by rw [HCL.out]; exact info_crd) ?_)
                  | fail)
                refine (HX3.out F3 _ hf3).mono ?_
                rintro e w11 ⟨rfl, _, hg11⟩
                replace hPd := hPd.kept hg11 (by intro e; injection e with e; have := HPlt.out; have := HBa1.out.size; have := HPa1.out.size; simp at this; have := HSB1.out; have := HSA2.out; have := HSB2.out; have := HSA3.out; omega)
                obtain ⟨hrc, hgc⟩ := HRC.out _ hPd
                have HB11 := Lib.hid (HB10.out.grown hg11 HB10.out.size (fun k e => by injection e with e; have := HBa1.out.size; have := HSB1.out; have := HSA2.out; have := HSB2.out; have := HSA3.out; omega))
                have HPJ11 : Hid (Le (w3.alloc (.cells #[.slice A0 n0 c0, .slice A1 n1 c1] 22)) w11) := Lib.hid (Below.grown HPJ10.out hg11 HPJ10.out.size (fun k e => by injection e with e; have := HPJa1.out.size; have := HSB1.out; have := HSA2.out; have := HSB2.out; have := HSA3.out; omega))
                clear hg11
                go_wp2_with (first
                  | (refine wpList_load_g (by rfl) 28 (.tmp 59) rfl w.heap.size 0 rfl (ccells id ver (lab.toNat : Int) fs) _ hrc huc rfl (by rw [HCL.out]; exact info_crd) ?_)
                  | (refine wpList_load_g (by rfl) 28 (.tmp 72) rfl w.heap.size 0 rfl (ccells id ver (lab.toNat : Int) fs) _ hrc huc rfl (by rw [HCL.out]; exact info_crd) ?_)
                  | (refine wpList_load_g (by rfl) 28 (.tmp 89) rfl w.heap.size 0 rfl (ccells id ver (lab.toNat : Int) fs) _ hrc huc rfl (by rw [HCL.out]; exact info_crd) ?_)
                  | fail)
                refine (HJ2.out _ HPJ11.out).mono ?_
                rintro e wq ⟨AQ, cQ, rfl, hoq, hcq, hbq⟩
                have HBq := Lib.hid (HB11.out.trans (hbq.mono HB11.out.size))
                clear hbq
                go_wp2_with fail
                refine (HCK.out _ _ _ hoq.out hcq).mono ?_
                rintro e wt ⟨rfl, hbt⟩
                have HBt := Lib.hid (HBq.out.trans (hbt.mono HBq.out.size))
                clear hbt
                go_wp2_with fail
                refine (HAW.out _ HBt.out).mono ?_
                rintro e wu ⟨rfl, hbu⟩
                go_wp2_with fail
                go_ret
                exact ⟨rfl, HBt.out.trans (hbu.mono HBt.out.size)⟩
      · go_wp2_with fail
        refine (HAW.out _ HB3.out).mono ?_
        rintro e w4 ⟨rfl, hb4⟩
        go_wp2_with fail
        go_ret
        exact ⟨rfl, HB3.out.trans (hb4.mono HB3.out.size)⟩
    · have d1 : (lchk l1 != 0) = true := by simpa using k1
      go_wp2_with fail
      refine (HAW.out _ HB2.out).mono ?_
      rintro e w4 ⟨rfl, hb4⟩
      go_wp2_with fail
      go_ret
      exact ⟨rfl, HB2.out.trans (hb4.mono HB2.out.size)⟩
  · have d1 : (lchk l0 != 0) = true := by simpa using k0
    go_wp2_with fail
    refine (HAW.out _ HB1.out).mono ?_
    rintro e w4 ⟨rfl, hb4⟩
    go_wp2_with fail
    go_ret
    exact ⟨rfl, HB1.out.trans (hb4.mono HB1.out.size)⟩
end Go.Proofs.Ytfoppjgjljellaa
