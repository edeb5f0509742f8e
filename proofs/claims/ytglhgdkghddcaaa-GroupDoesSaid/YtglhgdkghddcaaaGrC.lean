/- Groups: when two lists are the same, both; where a group stands, by the program. -/
import Derived.Test.YtglhgdkghddcaaaGrB
namespace Go.Proofs.Ytglhgdkghddcaaa
set_option linter.unusedVariables false
set_option linter.unusedSimpArgs false
open Go Go.RowKit IdsM

def gab (g : Gp) : Int × List Int := (g.no, g.m)
def gabs (l : List Gp) : List (Int × List Int) := l.map gab
theorem gabs_len (l : List Gp) : (gabs l).length = l.length := by simp [gabs]
theorem gabs_get (l : List Gp) (k : Nat) (hk : k < l.length) : (gabs l)[k]'(by rw [gabs_len]; exact hk) = gab l[k] := by simp [gabs]
theorem gabs_ne {l m : List Gp} (k : Nat) (hk : k < l.length) (hm : k < m.length) (h : gab l[k] ≠ gab m[k]) : gabs l ≠ gabs m := fun e => h (by
  rw [← gabs_get l k hk, ← gabs_get m k hm]
  simp only [e])
theorem gabs_eq {l m : List Gp} (hl : l.length = m.length) (h : ∀ k (hk : k < l.length) (hm : k < m.length), gab l[k] = gab m[k]) : gabs l = gabs m :=
  List.ext_getElem (by rw [gabs_len, gabs_len, hl]) (fun i h1 h2 => by
    rw [gabs_len] at h1 h2
    rw [gabs_get l i h1, gabs_get m i h2]
    exact h i h1 h2)
theorem gab_no {g h : Gp} (e : g.no ≠ h.no) : gab g ≠ gab h := fun x => e (congrArg Prod.fst x)
theorem gab_m {g h : Gp} (e : g.m ≠ h.m) : gab g ≠ gab h := fun x => e (congrArg Prod.snd x)
theorem gab_eq {g h : Gp} (e : g.no = h.no) (f : g.m = h.m) : gab g = gab h := by unfold gab; rw [e, f]
def gcmp (a b : Int) : Int := if a < b then -1 else if b < a then 1 else 0
theorem cmpint_any (x y : Int) (w : World) : Calls Try.prog 59 #[.int .i64 x, .int .i64 y] w fun e w' => e = .returned (.int .i64 (gcmp x y)) ∧ w = w' := by
  obtain ⟨F, hF⟩ : ∃ F, F = gcmp x y := ⟨_, rfl⟩
  rw [← hF]
  unfold gcmp at hF
  have HF := Lib.hid hF
  clear hF
  rcases Int.lt_trichotomy x y with h | h | h
  · have HR : Hid (F = -1) := Lib.hid (by rw [HF.out, if_pos h])
    clear HF
    go_enter Try.func59, Try.ntmps59
    go_wp2
    go_ret
    exact ⟨by rw [HR.out]; rfl, rfl⟩
  · have HR : Hid (F = 0) := Lib.hid (by rw [HF.out, if_neg (by omega), if_neg (by omega)])
    clear HF
    subst h
    go_enter Try.func59, Try.ntmps59
    go_wp2
    go_ret
    exact ⟨by rw [HR.out]; rfl, rfl⟩
  · have HR : Hid (F = 1) := Lib.hid (by rw [HF.out, if_neg (by omega), if_pos h])
    clear HF
    go_enter Try.func59, Try.ntmps59
    go_wp2
    go_ret
    exact ⟨by rw [HR.out]; rfl, rfl⟩
set_option maxRecDepth 100000 in
set_option maxHeartbeats 1600000 in
theorem eqints_any (A : Option Addr) (n c : Nat) (l : List Int) (A' : Option Addr) (n' c' : Nat) (l' : List Int) (w : World) (hn : l.length = n) (hs : Sees w w.heap.size A (ivs l)) (hn' : l'.length = n') (hs' : Sees w w.heap.size A' (ivs l')) (hm : n ≤ 65536) (hm' : n' ≤ 65536) :
    Calls Try.prog 51 #[.slice A n c, .slice A' n' c'] w fun e w' => e = .returned (.bool (decide (l = l'))) ∧ Below w.heap.size w w' := by
  by_cases hne : n = n'
  · subst hne
    have hbe : ((n : Int) != (n : Int)) = false := by simp
    go_enter Try.func51, Try.ntmps51
    go_wp2
    go_loopw [13] (fun i wr => ∃ k : Nat, k ≤ n ∧ i = .int .i64 k ∧ l.take k = l'.take k ∧ Below w.heap.size w wr) (fun i _ => n - (intOf i).toNat)
    case atStart => exact ⟨0, Nat.zero_le _, rfl, by simp, Below.refl _ _⟩
    case round =>
      obtain ⟨k, hk, rfl, hpre, hbr⟩ := hrel
      by_cases hlt : k < n
      · have hkl : k < l.length := by omega
        have hkl' : k < l'.length := by omega
        obtain ⟨b, o, rfl, hb, hc⟩ := (hs.below hbr).int k hkl
        obtain ⟨b', o', rfl, hb', hc'⟩ := (hs'.below hbr).int k hkl'
        obtain ⟨x, hx⟩ : ∃ x, x = l[k] := ⟨_, rfl⟩
        obtain ⟨y, hy⟩ : ∃ y, y = l'[k] := ⟨_, rfl⟩
        rw [← hx] at hc
        rw [← hy] at hc'
        have HX := Lib.hid hx
        have HY := Lib.hid hy
        have HP := Lib.hid hpre
        have HN := Lib.hid hn
        have HN' := Lib.hid hn'
        clear hx hy hpre hn hn'
        by_cases he : x = y
        · have hb1 : (x != y) = false := by simp [he]
          have HE := Lib.hid he
          clear he
          go_wp2
          go_quiet (fail)
          go_wp2
          go_roundw
          case rel =>
            refine ⟨k + 1, by omega, by go_num, ?_, below_drewN hbr _⟩
            rw [List.take_succ_eq_append_getElem hkl, List.take_succ_eq_append_getElem hkl', HP.out, ← HX.out, ← HY.out, HE.out]
          case measure => simp [intOf]; omega
        · have hb1 : (x != y) = true := by simp [he]
          have HE := Lib.hid he
          clear he
          go_wp2
          go_quiet (fail)
          go_wp2
          go_ret
          refine ⟨?_, below_drewN hbr _⟩
          have : l ≠ l' := by
            rintro rfl
            exact HE.out (by rw [HX.out, HY.out])
          simp [this]
      · obtain rfl : k = n := by omega
        have hl : l = l' := by
          rw [List.take_of_length_le (by omega), List.take_of_length_le (by omega)] at hpre
          exact hpre
        have HL := Lib.hid hl
        clear hpre hl hn hn'
        go_wp2
        go_ret
        exact ⟨by simp [HL.out], hbr⟩
  · have hbe : ((n : Int) != (n' : Int)) = true := by rw [bne_iff_ne]; omega
    have hne2 : l ≠ l' := by rintro rfl; omega
    have HNE := Lib.hid hne2
    clear hne hne2 hn hn'
    go_enter Try.func51, Try.ntmps51
    go_wp2
    go_ret
    exact ⟨by simp [HNE.out], Below.refl _ _⟩

set_option maxRecDepth 100000 in
set_option maxHeartbeats 1600000 in
theorem same1_any (g h : Gp) (w : World) (hg : okGp w g) (hh : okGp w h) (hz : g.n ≤ 65536) (hy : h.n ≤ 65536) :
    Calls Try.prog 50 #[.agg #[.int .i64 g.no, .slice g.A g.n g.c], .agg #[.int .i64 h.no, .slice h.A h.n h.c]] w fun e w' => e = .returned (.bool (decide (gab g = gab h))) ∧ Below w.heap.size w w' := by
  have hb0 := ((Below.refl w.heap.size w).alloc (Nat.le_refl _) (.cells #[.int .i64 g.no, .slice g.A g.n g.c] 41)).alloc (by simp) (.cells #[.int .i64 h.no, .slice h.A h.n h.c] 41)
  have HB0 := Lib.hid hb0
  have HEQ : Hid (∀ W, Below w.heap.size w W → Calls Try.prog 51 #[.slice g.A g.n g.c, .slice h.A h.n h.c] W fun e w' => e = .returned (.bool (decide (g.m = h.m))) ∧ Below W.heap.size W w') := Lib.hid (fun W hW => eqints_any _ _ _ _ _ _ _ _ W (hg.later hW).len (hg.later hW).see (hh.later hW).len (hh.later hW).see hz hy)
  have HNO := Lib.hid (fun (e : g.no ≠ h.no) => decide_eq_false (gab_no e))
  have HM := Lib.hid (fun (e : g.m ≠ h.m) => decide_eq_false (gab_m e))
  have HY := Lib.hid (fun (e : g.no = h.no) (f : g.m = h.m) => decide_eq_true (gab_eq e f))
  obtain ⟨R, hR⟩ : ∃ R, R = decide (gab g = gab h) := ⟨_, rfl⟩
  rw [← hR] at HNO HM HY ⊢
  obtain ⟨rm, hrm⟩ : ∃ R, R = decide (g.m = h.m) := ⟨_, rfl⟩
  rw [← hrm] at HEQ
  have HRM := Lib.hid hrm
  obtain ⟨x, A, n, c, m⟩ := g
  obtain ⟨y, B, k, d, p⟩ := h
  dsimp only at *
  clear hR hb0 hg hh hrm
  by_cases h1 : x = y
  · have b1 : (x == y) = true := by simpa using h1
    have H1 := Lib.hid h1
    have HR : Hid (R = rm) := Lib.hid (by
      cases rm with
      | true => exact HY.out h1 (of_decide_eq_true HRM.out.symm)
      | false => exact HM.out (of_decide_eq_false HRM.out.symm))
    clear h1 HNO HM HY
    go_enter Try.func50, Try.ntmps50
    go_wp2_with fail
    refine (HEQ.out _ HB0.out).mono ?_
    rintro e w2 ⟨rfl, hb2⟩
    have HB2 := Lib.hid (HB0.out.trans (hb2.mono HB0.out.size))
    clear hb2
    go_wp2_with fail
    go_ret
    exact ⟨by rw [HR.out]; first | rfl | simp, HB2.out⟩
  · have b1 : (x == y) = false := by simpa using h1
    have HR := Lib.hid (HNO.out h1)
    clear h1 HNO HM HY HEQ
    go_enter Try.func50, Try.ntmps50
    go_wp2_with fail
    go_ret
    exact ⟨by rw [HR.out]; rfl, HB0.out⟩

set_option maxRecDepth 100000 in
set_option maxHeartbeats 3200000 in
theorem eqf_any (A : Option Addr) (n c : Nat) (l : List Gp) (B : Option Addr) (m d : Nat) (l' : List Gp) (w : World) (h : SeesG w A n c l) (h' : SeesG w B m d l') (hz : n ≤ 65536) (hz' : m ≤ 65536) (hg : ∀ g ∈ l, g.n ≤ 65536) (hg' : ∀ g ∈ l', g.n ≤ 65536) :
    Calls Try.prog 49 #[.slice A n c, .slice B m d, (.func (.func 50) #[] #[])] w fun e w' => e = .returned (.bool (decide (gabs l = gabs l'))) ∧ Below w.heap.size w w' := by
  have hu := Try.underlying41
  have HS := Lib.hid h
  have HS' := Lib.hid h'
  have HN := Lib.hid h.len
  have HN' := Lib.hid h'.len
  have HG := Lib.hid hg
  have HG' := Lib.hid hg'
  have HNE := Lib.hid (fun k (hk : k < l.length) (hm : k < l'.length) (e : gab l[k] ≠ gab l'[k]) => decide_eq_false (gabs_ne k hk hm e))
  have HLEN := Lib.hid (fun (e : n ≠ m) => decide_eq_false (p := gabs l = gabs l') (fun x => e (by rw [← HN.out, ← HN'.out, ← gabs_len l, x, gabs_len])))
  have HALL := Lib.hid (fun (e : l.length = l'.length) (f : ∀ k (hk : k < l.length) (hm : k < l'.length), gab l[k] = gab l'[k]) => decide_eq_true (gabs_eq e f))
  obtain ⟨R, hR⟩ : ∃ R, R = decide (gabs l = gabs l') := ⟨_, rfl⟩
  rw [← hR] at HNE HLEN HALL ⊢
  clear hR h h' hg hg'
  by_cases hnm : n = m
  · subst hnm
    have b0 : ((n : Int) != (n : Int)) = false := by simp
    clear HLEN
    go_enter Try.func49, Try.ntmps49
    go_wp2_with fail
    go_loopw [17] (fun i wr => ∃ k : Nat, k ≤ n ∧ i = .int .i64 (k : Int) ∧ Hid (∀ j (hj : j < l.length) (hj' : j < l'.length), j < k → gab l[j] = gab l'[j]) ∧ Hid (Below w.heap.size w wr)) (fun i _ => n - (intOf i).toNat)
    case atStart => exact ⟨0, by omega, rfl, Lib.hid (fun _ _ _ hj => absurd hj (by omega)), Lib.hid (Below.refl _ _)⟩
    case round =>
      obtain ⟨k, hk, rfl, HK, HB⟩ := hrel
      by_cases hlt : k < n
      · have d0 : decide ((k : Int) < (n : Int)) = true := decide_eq_true (by omega)
        have hkl : k < l.length := by rw [HN.out]; exact hlt
        have hkm : k < l'.length := by rw [HN'.out]; exact hlt
        obtain ⟨b1, o1, rfl, hb1, hg1⟩ := HS.out.get k hkl
        obtain ⟨b2, o2, rfl, hb2, hg2⟩ := HS'.out.get k hkm
        have HC : Hid (∀ W, Below w.heap.size w W → W.cell? ⟨b1, o1 + k * 2, none⟩ = some (.int .i64 l[k].no) ∧ W.cell? ⟨b1, o1 + k * 2 + 1, none⟩ = some (.slice l[k].A l[k].n l[k].c) ∧ W.rangeAt b1 (o1 + k * 2) [.int .i64 l[k].no, .slice l[k].A l[k].n l[k].c]) := Lib.hid (fun W hW => ⟨(hg1 W hW).2.1, (hg1 W hW).2.2.1, (hg1 W hW).1⟩)
        have HD : Hid (∀ W, Below w.heap.size w W → W.cell? ⟨b2, o2 + k * 2, none⟩ = some (.int .i64 l'[k].no) ∧ W.cell? ⟨b2, o2 + k * 2 + 1, none⟩ = some (.slice l'[k].A l'[k].n l'[k].c) ∧ W.rangeAt b2 (o2 + k * 2) [.int .i64 l'[k].no, .slice l'[k].A l'[k].n l'[k].c]) := Lib.hid (fun W hW => ⟨(hg2 W hW).2.1, (hg2 W hW).2.2.1, (hg2 W hW).1⟩)
        have HX := Lib.hid (HNE.out k hkl hkm)
        have HIN : Hid (∀ W, Below w.heap.size w W → Calls Try.prog 50 #[.agg #[.int .i64 l[k].no, .slice l[k].A l[k].n l[k].c], .agg #[.int .i64 l'[k].no, .slice l'[k].A l'[k].n l'[k].c]] W fun e w' => e = .returned (.bool (decide (gab l[k] = gab l'[k]))) ∧ Below W.heap.size W w') := Lib.hid (fun W hW => same1_any _ _ W (hg1 W hW).2.2.2 (hg2 W hW).2.2.2 (HG.out _ (List.getElem_mem hkl)) (HG'.out _ (List.getElem_mem hkm)))
        obtain ⟨rm, hrm⟩ : ∃ R, R = decide (gab l[k] = gab l'[k]) := ⟨_, rfl⟩
        rw [← hrm] at HIN
        have HRM := Lib.hid hrm
        generalize hy1 : l[k].no = y1 at HC HIN
        generalize hy2 : l[k].A = y2 at HC HIN
        generalize hy3 : l[k].n = y3 at HC HIN
        generalize hy4 : l[k].c = y4 at HC HIN
        generalize hx1 : l'[k].no = x1 at HD HIN
        generalize hx2 : l'[k].A = x2 at HD HIN
        generalize hx3 : l'[k].n = x3 at HD HIN
        generalize hx4 : l'[k].c = x4 at HD HIN
        clear hg1 hg2 hrm hy1 hy2 hy3 hy4 hx1 hx2 hx3 hx4 hb1 hb2 HALL
        have hr1 := (HC.out wr HB.out).2.2
        have hb5 := HB.out.alloc HB.out.size (.cells #[.int .i64 y1, .slice y2 y3 y4] 41)
        have F5 : Blk (wr.alloc (.cells #[.int .i64 y1, .slice y2 y3 y4] 41)) wr.heap.size [.int .i64 y1, .slice y2 y3 y4] := Blk.new wr [.int .i64 y1, .slice y2 y3 y4] 41
        have hr2 := (HD.out _ hb5).2.2
        have HB6 := Lib.hid (hb5.alloc hb5.size (.cells #[.int .i64 x1, .slice x2 x3 x4] 41))
        have F6 : Blk ((wr.alloc (.cells #[.int .i64 y1, .slice y2 y3 y4] 41)).alloc (.cells #[.int .i64 x1, .slice x2 x3 x4] 41)) (wr.heap.size + 1) [.int .i64 x1, .slice x2 x3 x4] := by
          have hb := Blk.new (wr.alloc (.cells #[.int .i64 y1, .slice y2 y3 y4] 41)) [.int .i64 x1, .slice x2 x3 x4] 41
          rwa [show (wr.alloc (.cells #[.int .i64 y1, .slice y2 y3 y4] 41)).heap.size = wr.heap.size + 1 by simp] at hb
        have G6 := F5.later ((Below.refl (wr.alloc (.cells #[.int .i64 y1, .slice y2 y3 y4] 41)).heap.size (wr.alloc (.cells #[.int .i64 y1, .slice y2 y3 y4] 41))).alloc (Nat.le_refl _) (.cells #[.int .i64 x1, .slice x2 x3 x4] 41))
        have rg5 := G6.range 0 [.int .i64 y1, .slice y2 y3 y4] rfl
        have rg6 := F6.range 0 [.int .i64 x1, .slice x2 x3 x4] rfl
        clear F5 F6 G6 HC HD hb5
        go_wp2_with (first
          | (refine wpList_load_mid rfl 41 (.tmp 20) rfl b1 (o1 + k * 2) rfl [.int .i64 y1, .slice y2 y3 y4] _ hr1 hu rfl info_gp ?_
             simp only [Act.put, List.setIfInBounds_toArray, List.set_cons_zero, List.set_cons_succ])
          | (refine wpList_load_mid rfl 41 (.tmp 24) rfl b2 (o2 + k * 2) rfl [.int .i64 x1, .slice x2 x3 x4] _ hr2 hu rfl info_gp ?_
             simp only [Act.put, List.setIfInBounds_toArray, List.set_cons_zero, List.set_cons_succ])
          | (refine wpList_load_mid rfl 41 (.tmp 8) rfl wr.heap.size 0 rfl [.int .i64 y1, .slice y2 y3 y4] _ rg5 hu rfl info_gp ?_
             simp only [Act.put, List.setIfInBounds_toArray, List.set_cons_zero, List.set_cons_succ])
          | (refine wpList_load_mid rfl 41 (.tmp 9) rfl (wr.heap.size + 1) 0 rfl [.int .i64 x1, .slice x2 x3 x4] _ rg6 hu rfl info_gp ?_
             simp only [Act.put, List.setIfInBounds_toArray, List.set_cons_zero, List.set_cons_succ])
          | fail)
        refine (HIN.out _ HB6.out).mono ?_
        rintro e w2 ⟨rfl, hb2⟩
        have HB2 := Lib.hid (HB6.out.trans (hb2.mono HB6.out.size))
        clear hb2 rg5 rg6 hr1 hr2
        cases rm with
        | false =>
          have HR := Lib.hid (HX.out (of_decide_eq_false HRM.out.symm))
          go_wp2_with fail
          go_ret
          exact ⟨by rw [HR.out]; rfl, HB2.out⟩
        | true =>
          have HE := Lib.hid (of_decide_eq_true HRM.out.symm)
          go_wp2_with fail
          go_roundw
          case rel => exact ⟨k + 1, by omega, by go_num, Lib.hid (fun j hj hj' hjk => by
            by_cases e : j = k
            · subst e; exact HE.out
            · exact HK.out j hj hj' (by omega)), HB2⟩
          case measure => simp [intOf]; omega
      · obtain rfl : k = n := by omega
        have HR := Lib.hid (HALL.out (by rw [HN.out, HN'.out]) (fun j hj hj' => HK.out j hj hj' (by have := HN.out; omega)))
        go_wp2_with fail
        go_ret
        exact ⟨by rw [HR.out]; rfl, HB.out⟩
  · have b0 : ((n : Int) != (m : Int)) = true := by rw [bne_iff_ne]; omega
    have HR := Lib.hid (HLEN.out hnm)
    clear hnm HALL HNE
    go_enter Try.func49, Try.ntmps49
    go_wp2_with fail
    go_ret
    exact ⟨by rw [HR.out]; rfl, Below.refl _ _⟩

theorem gsame_any (A : Option Addr) (n c : Nat) (l : List Gp) (B : Option Addr) (m d : Nat) (l' : List Gp) (w : World) (h : SeesG w A n c l) (h' : SeesG w B m d l') (hz : n ≤ 65536) (hz' : m ≤ 65536) (hg : ∀ g ∈ l, g.n ≤ 65536) (hg' : ∀ g ∈ l', g.n ≤ 65536) :
    Calls Try.prog 19 #[.slice A n c, .slice B m d] w fun e w' => e = .returned (.bool (decide (gabs l = gabs l'))) ∧ Below w.heap.size w w' := by
  have HC := Lib.hid (eqf_any A n c l B m d l' w h h' hz hz' hg hg')
  clear h h' hg hg'
  go_enter Try.func19, Try.ntmps19
  go_wp2_with fail
  refine HC.out.mono ?_
  rintro e w2 ⟨rfl, hb2⟩
  have HB2 := Lib.hid hb2
  clear hb2
  go_wp2_with fail
  go_ret
  exact ⟨rfl, HB2.out⟩

set_option maxRecDepth 100000 in
set_option maxHeartbeats 3200000 in
theorem rgsame_any (A : Option Addr) (n c : Nat) (l : List Gp) (B : Option Addr) (m d : Nat) (l' : List Gp) (w : World) (h : SeesG w A n c l) (h' : SeesG w B m d l') (hz : n ≤ 65536) (hz' : m ≤ 65536) (hg : ∀ g ∈ l, g.n ≤ 65536) (hg' : ∀ g ∈ l', g.n ≤ 65536) :
    Calls Try.prog 12 #[.slice A n c, .slice B m d] w fun e w' => e = .returned (.bool (decide (gabs l = gabs l'))) ∧ Below w.heap.size w w' := by
  have hu := Try.underlying41
  have HS := Lib.hid h
  have HS' := Lib.hid h'
  have HN := Lib.hid h.len
  have HN' := Lib.hid h'.len
  have HG := Lib.hid hg
  have HG' := Lib.hid hg'
  have HNE := Lib.hid (fun k (hk : k < l.length) (hm : k < l'.length) (e : gab l[k] ≠ gab l'[k]) => decide_eq_false (gabs_ne k hk hm e))
  have HLEN := Lib.hid (fun (e : n ≠ m) => decide_eq_false (p := gabs l = gabs l') (fun x => e (by rw [← HN.out, ← HN'.out, ← gabs_len l, x, gabs_len])))
  have HALL := Lib.hid (fun (e : l.length = l'.length) (f : ∀ k (hk : k < l.length) (hm : k < l'.length), gab l[k] = gab l'[k]) => decide_eq_true (gabs_eq e f))
  obtain ⟨R, hR⟩ : ∃ R, R = decide (gabs l = gabs l') := ⟨_, rfl⟩
  rw [← hR] at HNE HLEN HALL ⊢
  clear hR h h' hg hg'
  by_cases hnm : n = m
  · subst hnm
    have b0 : ((n : Int) != (n : Int)) = false := by simp
    clear HLEN
    go_enter Try.func12, Try.ntmps12
    go_wp2_with fail
    go_loopw [5] (fun i wr => ∃ k : Nat, k ≤ n ∧ i = .int .i64 (k : Int) ∧ Hid (∀ j (hj : j < l.length) (hj' : j < l'.length), j < k → gab l[j] = gab l'[j]) ∧ Hid (Below w.heap.size w wr)) (fun i _ => n - (intOf i).toNat)
    case atStart => exact ⟨0, by omega, rfl, Lib.hid (fun _ _ _ hj => absurd hj (by omega)), Lib.hid (Below.refl _ _)⟩
    case round =>
      obtain ⟨k, hk, rfl, HK, HB⟩ := hrel
      by_cases hlt : k < n
      · have d0 : decide ((k : Int) < (n : Int)) = true := decide_eq_true (by omega)
        have hkl : k < l.length := by rw [HN.out]; exact hlt
        have hkm : k < l'.length := by rw [HN'.out]; exact hlt
        obtain ⟨b1, o1, rfl, hb1, hg1⟩ := HS.out.get k hkl
        obtain ⟨b2, o2, rfl, hb2, hg2⟩ := HS'.out.get k hkm
        have HC : Hid (∀ W, Below w.heap.size w W → W.cell? ⟨b1, o1 + k * 2, none⟩ = some (.int .i64 l[k].no) ∧ W.cell? ⟨b1, o1 + k * 2 + 1, none⟩ = some (.slice l[k].A l[k].n l[k].c) ∧ W.rangeAt b1 (o1 + k * 2) [.int .i64 l[k].no, .slice l[k].A l[k].n l[k].c]) := Lib.hid (fun W hW => ⟨(hg1 W hW).2.1, (hg1 W hW).2.2.1, (hg1 W hW).1⟩)
        have HD : Hid (∀ W, Below w.heap.size w W → W.cell? ⟨b2, o2 + k * 2, none⟩ = some (.int .i64 l'[k].no) ∧ W.cell? ⟨b2, o2 + k * 2 + 1, none⟩ = some (.slice l'[k].A l'[k].n l'[k].c) ∧ W.rangeAt b2 (o2 + k * 2) [.int .i64 l'[k].no, .slice l'[k].A l'[k].n l'[k].c]) := Lib.hid (fun W hW => ⟨(hg2 W hW).2.1, (hg2 W hW).2.2.1, (hg2 W hW).1⟩)
        have HX := Lib.hid (HNE.out k hkl hkm)
        have HIN : Hid (∀ W, Below w.heap.size w W → Calls Try.prog 20 #[.slice l[k].A l[k].n l[k].c, .slice l'[k].A l'[k].n l'[k].c] W fun e w' => e = .returned (.bool (decide (l[k].m = l'[k].m))) ∧ Below W.heap.size W w') := Lib.hid (fun W hW => ref_ints _ _ _ _ _ _ _ _ W (hg1 W hW).2.2.2.len (hg1 W hW).2.2.2.see (hg2 W hW).2.2.2.len (hg2 W hW).2.2.2.see (HG.out _ (List.getElem_mem hkl)) (HG'.out _ (List.getElem_mem hkm)))
        have HM := Lib.hid (fun (e : l[k].m ≠ l'[k].m) => HX.out (gab_m e))
        have HNO := Lib.hid (fun (e : l[k].no ≠ l'[k].no) => HX.out (gab_no e))
        have HYES := Lib.hid (fun (e : l[k].no = l'[k].no) (f : l[k].m = l'[k].m) => gab_eq e f)
        obtain ⟨rm, hrm⟩ : ∃ R, R = decide (l[k].m = l'[k].m) := ⟨_, rfl⟩
        rw [← hrm] at HIN
        have HRM := Lib.hid hrm
        generalize hy1 : l[k].no = y1 at HC HNO HYES
        generalize hy2 : l[k].A = y2 at HC HIN
        generalize hy3 : l[k].n = y3 at HC HIN
        generalize hy4 : l[k].c = y4 at HC HIN
        generalize hx1 : l'[k].no = x1 at HD HNO HYES
        generalize hx2 : l'[k].A = x2 at HD HIN
        generalize hx3 : l'[k].n = x3 at HD HIN
        generalize hx4 : l'[k].c = x4 at HD HIN
        have HBW : Hid (∀ W, Le wr W → Below w.heap.size w W) := Lib.hid (fun W hl => HB.out.trans (hl.mono HB.out.size))
        have ca : ∀ kk : LW wr, kk.val.cell? ⟨b1, o1 + k * 2, none⟩ = some (.int .i64 y1) := fun kk => (HC.out _ (HBW.out _ kk.le)).1
        have cb : ∀ kk : LW wr, kk.val.cell? ⟨b1, o1 + k * 2 + 1, none⟩ = some (.slice y2 y3 y4) := fun kk => (HC.out _ (HBW.out _ kk.le)).2.1
        have cc : ∀ kk : LW wr, kk.val.cell? ⟨b2, o2 + k * 2, none⟩ = some (.int .i64 x1) := fun kk => (HD.out _ (HBW.out _ kk.le)).1
        have cd : ∀ kk : LW wr, kk.val.cell? ⟨b2, o2 + k * 2 + 1, none⟩ = some (.slice x2 x3 x4) := fun kk => (HD.out _ (HBW.out _ kk.le)).2.1
        clear hg1 hg2 hrm hy1 hy2 hy3 hy4 hx1 hx2 hx3 hx4 hb1 hb2 HC HD HALL HX
        by_cases h1 : y1 = x1
        · have b1 : (y1 != x1) = false := by simp [h1]
          have H1 := Lib.hid h1
          clear h1
          cases rm with
          | false =>
            have HR := Lib.hid (HM.out (of_decide_eq_false HRM.out.symm))
            go_wp2_with fail
            refine wp_region_steady [] 42 (by kernel_rfl) (by kernel_rfl) (by kernel_rfl) (by rfl) ?_
            repeat (first | (refine wpG_quiet (by rfl) (by rfl) (by rfl) (fun K hK => ?_); go_big_quiet_op; refine hK _ ?_; clear hK K) | (refine wpG_skip (by rfl) ?_; simp only [Act.put, List.setIfInBounds_toArray, List.set_cons_zero, List.set_cons_succ]))
            refine wpG_call (by rfl) (by rfl) 20 #[.slice y2 y3 y4, .slice x2 x3 x4] (.bool false) (by intro _; simp [go_sem]) (by kernel_rfl) (fun w1 hl => HIN.out w1 (HBW.out w1 hl.1)) ?_
            simp only [Act.put, List.setIfInBounds_toArray, List.set_cons_zero, List.set_cons_succ]
            repeat (first | (refine wpG_quiet (by rfl) (by rfl) (by rfl) (fun K hK => ?_); go_big_quiet_op; refine hK _ ?_; clear hK K) | (refine wpG_skip (by rfl) ?_; simp only [Act.put, List.setIfInBounds_toArray, List.set_cons_zero, List.set_cons_succ]))
            refine wpG_nil fun w1 hl _ => ?_
            have HB1 := Lib.hid (HBW.out w1 hl)
            clear HBW
            go_wp2_with fail
            go_ret
            exact ⟨by rw [HR.out]; rfl, HB1.out⟩
          | true =>
            have HE := Lib.hid (HYES.out H1.out (of_decide_eq_true HRM.out.symm))
            go_wp2_with fail
            refine wp_region_steady [] 42 (by kernel_rfl) (by kernel_rfl) (by kernel_rfl) (by rfl) ?_
            repeat (first | (refine wpG_quiet (by rfl) (by rfl) (by rfl) (fun K hK => ?_); go_big_quiet_op; refine hK _ ?_; clear hK K) | (refine wpG_skip (by rfl) ?_; simp only [Act.put, List.setIfInBounds_toArray, List.set_cons_zero, List.set_cons_succ]))
            refine wpG_call (by rfl) (by rfl) 20 #[.slice y2 y3 y4, .slice x2 x3 x4] (.bool true) (by intro _; simp [go_sem]) (by kernel_rfl) (fun w1 hl => HIN.out w1 (HBW.out w1 hl.1)) ?_
            simp only [Act.put, List.setIfInBounds_toArray, List.set_cons_zero, List.set_cons_succ]
            repeat (first | (refine wpG_quiet (by rfl) (by rfl) (by rfl) (fun K hK => ?_); go_big_quiet_op; refine hK _ ?_; clear hK K) | (refine wpG_skip (by rfl) ?_; simp only [Act.put, List.setIfInBounds_toArray, List.set_cons_zero, List.set_cons_succ]))
            refine wpG_nil fun w1 hl _ => ?_
            have HB1 := Lib.hid (HBW.out w1 hl)
            clear HBW
            go_wp2_with fail
            go_roundw
            case rel => exact ⟨k + 1, by omega, by go_num, Lib.hid (fun j hj hj' hjk => by
              by_cases e : j = k
              · subst e; exact HE.out
              · exact HK.out j hj hj' (by omega)), HB1⟩
            case measure => simp [intOf]; omega
        · have b1 : (y1 != x1) = true := by simp [h1]
          have HR := Lib.hid (HNO.out h1)
          clear h1
          go_wp2_with fail
          refine wp_region_steady [] 42 (by kernel_rfl) (by kernel_rfl) (by kernel_rfl) (by rfl) ?_
          repeat (first | (refine wpG_quiet (by rfl) (by rfl) (by rfl) (fun K hK => ?_); go_big_quiet_op; refine hK _ ?_; clear hK K) | (refine wpG_skip (by rfl) ?_; simp only [Act.put, List.setIfInBounds_toArray, List.set_cons_zero, List.set_cons_succ]))
          refine wpG_nil fun w1 hl _ => ?_
          have HB1 := Lib.hid (HBW.out w1 hl)
          clear HBW
          go_wp2_with fail
          go_ret
          exact ⟨by rw [HR.out]; rfl, HB1.out⟩
      · obtain rfl : k = n := by omega
        have HR := Lib.hid (HALL.out (by rw [HN.out, HN'.out]) (fun j hj hj' => HK.out j hj hj' (by have := HN.out; omega)))
        go_wp2_with fail
        go_ret
        exact ⟨by rw [HR.out]; rfl, HB.out⟩
  · have b0 : ((n : Int) != (m : Int)) = true := by rw [bne_iff_ne]; omega
    have HR := Lib.hid (HLEN.out hnm)
    clear hnm HALL HNE
    go_enter Try.func12, Try.ntmps12
    go_wp2_with fail
    go_ret
    exact ⟨by rw [HR.out]; rfl, Below.refl _ _⟩
end Go.Proofs.Ytglhgdkghddcaaa
