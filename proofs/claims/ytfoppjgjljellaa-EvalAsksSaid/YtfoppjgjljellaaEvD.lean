/- The functions of a filter: a leaf's; that of one part. -/
import Derived.Test.YtfoppjgjljellaaEvC
import Derived.Test.YtfoppjgjljellaaPrdO
import Derived.Test.YtfoppjgjljellaaTwoBox
import Derived.Laws.EntriesVeiled
namespace Go.Proofs.Ytfoppjgjljellaa
set_option linter.unusedVariables false
set_option linter.unusedSimpArgs false
open Go Go.RowKit Go.Shelf BitM ValM

theorem ev_lab {lab g : BitVec 32} {f : List V3} {x : Nd} {l : List Nd} (h : x.1 = 3) : ev lab g f (x :: l) = has lab x.2.1 := by
  rw [ev_leaf (by rw [h]; decide) (by rw [h]; decide) (by rw [h]; decide)]
  simp [leafv, h]
theorem ev_grp {lab g : BitVec 32} {f : List V3} {x : Nd} {l : List Nd} (h : x.1 = 4) : ev lab g f (x :: l) = has g x.2.1 := by
  rw [ev_leaf (by rw [h]; decide) (by rw [h]; decide) (by rw [h]; decide)]
  simp [leafv, h]
theorem ev_con {lab g : BitVec 32} {f : List V3} {x : Nd} {l : List Nd} (h : x.1 = 1 ∨ x.1 = 2) : ev lab g f (x :: l) = (x.1 == 1) := by
  rcases h with h | h <;> rw [ev_leaf (by rw [h]; decide) (by rw [h]; decide) (by rw [h]; decide)] <;> simp [leafv, h]
theorem ev_fld {lab g : BitVec 32} {f : List V3} {x : Nd} {l : List Nd} (h5 : 5 ≤ x.1) (h9 : x.1 ≤ 9) : ev lab g f (x :: l) = fieldv x (f.getD x.2.1.toNat zv) := by
  rw [ev_leaf (by omega) (by omega) (by omega)]
  unfold leafv fieldv
  rw [if_neg (by omega), if_neg (by omega), if_neg (by omega)]
  by_cases e5 : x.1 = 5
  · rw [if_pos e5, if_pos e5]
  · rw [if_neg e5, if_neg e5]
    by_cases e6 : x.1 = 6
    · rw [if_pos e6, if_pos e6]
    · rw [if_neg e6, if_neg e6]
      by_cases e7 : x.1 = 7
      · rw [if_pos e7, if_pos e7]
      · rw [if_neg e7, if_neg e7]
        by_cases e8 : x.1 = 8
        · rw [if_pos e8, if_pos e8]
        · rw [if_neg e8, if_neg e8, if_pos (by omega)]
theorem vchk_str {v : V3} (h : vchk v = true) : v.2.2.size ≤ 1000 := by
  unfold vchk at h
  split at h
  · simp only [decide_eq_true_eq] at h; rw [h.2]; decide
  · split at h
    · simp only [decide_eq_true_eq] at h; rw [h.2.2]; decide
    · split at h
      · simp only [decide_eq_true_eq] at h; omega
      · cases h
theorem nok_str {x : Nd} (h : nok x = true) : x.2.2.2.2.size ≤ 1000 := by
  have hz : zv.2.2.size ≤ 1000 := by decide
  unfold nok at h
  split at h
  · simp only [decide_eq_true_eq] at h; rw [h.2]; exact hz
  · split at h
    · simp only [decide_eq_true_eq] at h; rw [h.2.2]; exact hz
    · split at h
      · simp only [decide_eq_true_eq] at h; rw [h.2.2]; exact hz
      · split at h
        · simp only [decide_eq_true_eq] at h; exact vchk_str h.2.2.1
        · split at h
          · simp only [decide_eq_true_eq] at h; exact vchk_str h.2.2.1
          · cases h
theorem nok_op {x : Nd} (h : nok x = true) : 1 ≤ x.1 ∧ x.1 ≤ 12 := by
  unfold nok at h
  repeat' split at h
  all_goals first
    | (cases h; done)
    | omega
theorem nok_n {x : Nd} (h : nok x = true) (h5 : 5 ≤ x.1) (h9 : x.1 ≤ 9) : 0 ≤ x.2.1 ∧ x.2.1 < 8 := by
  unfold nok at h
  rw [if_neg (by omega), if_neg (by omega)] at h
  split at h
  · simp only [decide_eq_true_eq] at h; omega
  · split at h
    · simp only [decide_eq_true_eq] at h; omega
    · split at h
      · simp only [decide_eq_true_eq] at h; omega
      · cases h

/-- Lists of nodes, as a slice of slices shows them, with room. -/
def KidsAt (w : World) (A : Option Addr) (ks : List (List Nd)) : Prop := 0 < ks.length → ∃ b o, A = some ⟨b, o, none⟩ ∧ b < w.heap.size ∧ ∀ k (h : k < ks.length), ∃ A' c', w.cell? ⟨b, o + k, none⟩ = some (.slice A' ks[k].length c') ∧ Sees w w.heap.size A' (ncs ks[k]) ∧ ks[k].length ≤ c'
theorem KidsAt.later {w w' : World} {A : Option Addr} {ks : List (List Nd)} (h : KidsAt w A ks) (hl : Below w.heap.size w w') : KidsAt w' A ks := fun hp => by
  obtain ⟨b, o, e, hb, hk⟩ := h hp
  refine ⟨b, o, e, Nat.lt_of_lt_of_le hb hl.size, fun k hk2 => ?_⟩
  obtain ⟨A', c', h1, h2, h3⟩ := hk k hk2
  exact ⟨A', c', (hl.cell (p := ⟨b, o + k, none⟩) hb).trans h1, (h2.below hl).more hl.size, h3⟩
theorem kids_tree (A : Option Addr) (n c : Nat) (x : Nd) (l' : List Nd) (w : World) (hn : (x :: l').length = n) (hs : Sees w w.heap.size A (ncs (x :: l'))) (hc : n ≤ c) (hm : n ≤ 65536) (hw : Wood (x :: l') 1) :
    Calls Try.prog 52 #[.slice A n c, .int .i64 0] w fun e w' => ∃ A c, e = .returned (.slice A (kidsOf l' (par x.1)).length c) ∧ Hid (KidsAt w' A (kidsOf l' (par x.1))) ∧ Below w.heap.size w w' := by
  obtain ⟨j, hj, h1⟩ := wood_cons hw
  obtain rfl : j = 0 := by omega
  rw [Nat.zero_add] at h1
  have h := kids_any A n c (x :: l') 0 w hn hs hc hm (by simp) l'.length (by have h2 : endOf l' (par x.1) = some l'.length := h1; simpa using h2)
  have hK : kidsOf ((x :: l').drop (0 + 1)) (par (x :: l')[0].1) = kidsOf l' (par x.1) := by simp
  rw [hK] at h
  refine h.mono ?_
  rintro e w' ⟨A', c', vs, rfl, hr, hk, hb⟩
  refine ⟨A', c', rfl, Lib.hid (fun hp => ?_), hb⟩
  have hs := row_sees hr
  obtain ⟨b, o, e, hb, hc⟩ := hs (by rw [hk.1]; exact hp)
  refine ⟨b, o, e, hb, fun k hk2 => ?_⟩
  obtain ⟨A', c', h1, h2⟩ := hk.2 k hk2
  have hkv : k < vs.length := by rw [hk.1]; exact hk2
  refine ⟨A', c', ?_, row_sees h2, row_cap h2⟩
  rw [hc k hkv]
  rw [List.getElem?_eq_getElem hkv] at h1
  exact h1

/-- What tree returns. -/
def GivesF (mm : Int) (w : World) (l : List Nd) : Ending → World → Prop := fun e w' => ∃ v, e = .returned v ∧ Says mm w' v l ∧ Below w.heap.size w w'
/-- What is asked of the nodes that tree is given. -/
structure TreeIn (mm : Int) (A : Option Addr) (n c : Nat) (l : List Nd) (w : World) : Prop where
  len : l.length = n
  sees : Sees w w.heap.size A (ncs l)
  cap : n ≤ c
  max : n ≤ 65536
  wood : Wood l 1
  ok : ∀ x ∈ l, nok x = true
  mem : MaxV mm w
set_option maxRecDepth 100000 in
set_option maxHeartbeats 3200000 in
theorem tree_leaf (mm : Int) (A : Option Addr) (n c : Nat) (x : Nd) (l' : List Nd) (w : World) (hin : TreeIn mm A n c (x :: l') w) (hx : x.1 ≤ 9) :
    Calls Try.prog 41 #[.slice A n c] w (GivesF mm w (x :: l')) := by
  have hu := Try.underlying57
  have hok := hin.ok x (by simp)
  have hop := nok_op hok
  obtain ⟨b, o, rfl, hb, _, _, hrg⟩ := sees_node hin.sees 0 (by simp)
  have hnx : (x :: l')[0] = x := rfl
  rw [hnx] at hrg
  have hn1 : (0 : Int) < (n : Int) := by have := hin.len; simp at this; omega
  have HK := Lib.hid (kids_tree (some ⟨b, o, none⟩) n c x l' w hin.len hin.sees hin.cap hin.max hin.wood)
  have HI := Lib.hid hin
  have HRG := Lib.hid (fun (wx : World) (h : Below w.heap.size w wx) => ((sees_node (hin.sees.below h) 0 (by simp))))
  have hrg' : ∀ wx, Below w.heap.size w wx → wx.rangeAt b (o + 0 * 5) (ncells x) := fun wx h j v hj => (h.cell (p := ⟨b, o + 0 * 5 + j, none⟩) hb).trans (hrg j v hj)
  clear HRG
  go_enter Try.func41, Try.ntmps41
  go_wp2_with fail
  refine (HK.out).mono ?_
  rintro e w1 ⟨Ak, ck, rfl, hk, hb1⟩
  have hrg1 := hrg' w1 hb1
  have BN := Blk.new w1 (ncells zn) 57
  have TH := BN.there 0 5 (by decide)
  have HSZ := Lib.hid (show (ncells x).length = 5 from rfl)
  have HONE := Lib.hid (show ∀ v ∈ ncells x, v.oneCell' = true from fun v hv => ncs_one [x] v (by simpa [ncs] using hv))
  have FIN : Hid (Blk ((w1.alloc (.cells (ncells zn).toArray 57)).setCells w1.heap.size 0 (ncells x)) w1.heap.size (ncells x)) := Lib.hid (by
    have h := BN.sets (ncells x) 0 (by rw [ncells_len, ncells_len]; exact Nat.le_refl 5)
    simpa [ncells] using h)
  have G1 : Hid (Below w1.heap.size w1 ((w1.alloc (.cells (ncells zn).toArray 57)).setCells w1.heap.size 0 (ncells x))) := Lib.hid (by
    exact ((Below.refl w1.heap.size w1).alloc (Nat.le_refl _) _).grown (grown_sets w1.heap.size (ncells x) 0 (w1.alloc (.cells (ncells zn).toArray 57))) (by simp) (fun k e => by injection e with e; omega))
  have HB := Lib.hid hb1
  obtain ⟨op, hop0⟩ : ∃ op, op = x.1 := ⟨_, rfl⟩
  have c0 : Hid (((w1.alloc (.cells (ncells zn).toArray 57)).setCells w1.heap.size 0 (ncells x)).cell? ⟨w1.heap.size, 0, none⟩ = some (.int .i64 op)) := Lib.hid (by rw [hop0]; exact FIN.out.cell (j := 0) rfl)
  obtain ⟨nc, hnc⟩ : ∃ nc, nc = ncells x := ⟨_, rfl⟩
  rw [← hnc] at HSZ HONE FIN G1 hrg1 c0
  rw [znode] at TH FIN G1 c0
  have HNC := Lib.hid hnc
  clear hnc hrg' hb1 BN hrg hb
  have b10 : (op == 10) = false := by rw [hop0]; simp; omega
  have b11 : (op == 11) = false := by rw [hop0]; simp; omega
  have b12 : (op == 12) = false := by rw [hop0]; simp; omega
  go_wp2_with (first
    | (refine wpList_load_mid rfl 57 (.tmp 13) rfl b (o + 0 * 5) rfl nc _ hrg1 hu rfl (by rw [HSZ.out]; exact info_node) ?_)
    | (refine wpList_store_mid rfl 57 (.tmp 4) (.tmp 14) rfl w1.heap.size 0 nc.toArray rfl rfl (by simpa [HSZ.out] using TH) (by simpa [HSZ.out] using info_node) (all_oneCell_toArray HONE.out) ?_
       clear hrg1 TH
       generalize (w1.alloc (.cells #[Value.int .i64 0, .int .i64 0, .int .i64 0, .int .i64 0, .string { data := #[] }] 57)).setCells w1.heap.size 0 nc = w2 at *
       replace c0 := c0.out)
    | fail)
  all_goals
    have hb2 : Below w.heap.size w w2 := HB.out.trans (G1.out.mono HB.out.size)
    have hFN : Blk w2 w1.heap.size (ncells x) := by rw [← HNC.out]; exact FIN.out
    have hmm := HI.out.mem.later hb2
    clear c0 G1 FIN HK HB
    go_ret
    refine ⟨_, rfl, ?_, hb2⟩
    first
      | exact lab_says mm w2 w1.heap.size x (x :: l') hFN (fun lab g fs => ev_lab (by have := ‹(x.1 == 3) = true›; simpa using this))
      | exact grp_says mm w2 w1.heap.size x (x :: l') hFN (fun lab g fs => ev_grp (by have := ‹(x.1 == 4) = true›; simpa using this))
      | exact con_says mm w2 w1.heap.size x (x :: l') hFN (fun lab g fs => ev_con (.inl (by have := ‹(x.1 == 1) = true›; simpa using this)))
      | exact con_says mm w2 w1.heap.size x (x :: l') hFN (fun lab g fs => ev_con (.inr (by have := ‹(x.1 == 2) = true›; simpa using this)))
      | (have f1 := ‹(x.1 == 1) = false›
         have f2 := ‹(x.1 == 2) = false›
         have f3 := ‹(x.1 == 3) = false›
         have f4 := ‹(x.1 == 4) = false›
         simp only [beq_eq_false_iff_ne, ne_eq] at f1 f2 f3 f4
         have hnn := nok_n hok (by omega) hx
         exact fld_says mm w2 w1.heap.size x (x :: l') hFN hmm x.2.1.toNat (by omega) (by omega) (nok_str hok) (fun lab g fs => ev_fld (by omega) hx))
set_option maxRecDepth 100000 in
set_option maxHeartbeats 3200000 in
theorem tree_one (mm : Int) (A : Option Addr) (n c : Nat) (x : Nd) (l' : List Nd) (w : World) (hin : TreeIn mm A n c (x :: l') w) (hx : x.1 = 10) (IH : ∀ A n c w, TreeIn mm A n c l' w → Calls Try.prog 41 #[.slice A n c] w (GivesF mm w l')) :
    Calls Try.prog 41 #[.slice A n c] w (GivesF mm w (x :: l')) := by
  have hu := Try.underlying57
  have hok := hin.ok x (by simp)
  have hop := nok_op hok
  obtain ⟨b, o, rfl, hb, _, _, hrg⟩ := sees_node hin.sees 0 (by simp)
  have hnx : (x :: l')[0] = x := rfl
  rw [hnx] at hrg
  have hn1 : (0 : Int) < (n : Int) := by have := hin.len; simp at this; omega
  have HK := Lib.hid (kids_tree (some ⟨b, o, none⟩) n c x l' w hin.len hin.sees hin.cap hin.max hin.wood)
  have HI := Lib.hid hin
  have HRG := Lib.hid (fun (wx : World) (h : Below w.heap.size w wx) => ((sees_node (hin.sees.below h) 0 (by simp))))
  have hrg' : ∀ wx, Below w.heap.size w wx → wx.rangeAt b (o + 0 * 5) (ncells x) := fun wx h j v hj => (h.cell (p := ⟨b, o + 0 * 5 + j, none⟩) hb).trans (hrg j v hj)
  clear HRG
  have hwl : Wood l' 1 := by
    obtain ⟨j, hj, h1⟩ := wood_cons hin.wood
    obtain rfl : j = 0 := by omega
    rwa [Nat.zero_add, show par x.1 = 1 from by rw [hx]; rfl] at h1
  have hpk : kidsOf l' (par x.1) = [l'] := by rw [show par x.1 = 1 from by rw [hx]; rfl]; exact kids_one hwl
  rw [hpk, show ([l'] : List (List Nd)).length = 1 from rfl] at HK
  have HIH := Lib.hid IH
  have HWL := Lib.hid hwl
  clear IH hwl hpk
  go_enter Try.func41, Try.ntmps41
  go_wp2_with fail
  refine (HK.out).mono ?_
  rintro e w1 ⟨Ak, ck, rfl, hk, hb1⟩
  have hrg1 := hrg' w1 hb1
  have BN := Blk.new w1 (ncells zn) 57
  have TH := BN.there 0 5 (by decide)
  have HSZ := Lib.hid (show (ncells x).length = 5 from rfl)
  have HONE := Lib.hid (show ∀ v ∈ ncells x, v.oneCell' = true from fun v hv => ncs_one [x] v (by simpa [ncs] using hv))
  have FIN : Hid (Blk ((w1.alloc (.cells (ncells zn).toArray 57)).setCells w1.heap.size 0 (ncells x)) w1.heap.size (ncells x)) := Lib.hid (by
    have h := BN.sets (ncells x) 0 (by rw [ncells_len, ncells_len]; exact Nat.le_refl 5)
    simpa [ncells] using h)
  have G1 : Hid (Below w1.heap.size w1 ((w1.alloc (.cells (ncells zn).toArray 57)).setCells w1.heap.size 0 (ncells x))) := Lib.hid (by
    exact ((Below.refl w1.heap.size w1).alloc (Nat.le_refl _) _).grown (grown_sets w1.heap.size (ncells x) 0 (w1.alloc (.cells (ncells zn).toArray 57))) (by simp) (fun k e => by injection e with e; omega))
  have HB := Lib.hid hb1
  obtain ⟨op, hop0⟩ : ∃ op, op = x.1 := ⟨_, rfl⟩
  have c0 : Hid (((w1.alloc (.cells (ncells zn).toArray 57)).setCells w1.heap.size 0 (ncells x)).cell? ⟨w1.heap.size, 0, none⟩ = some (.int .i64 op)) := Lib.hid (by rw [hop0]; exact FIN.out.cell (j := 0) rfl)
  obtain ⟨nc, hnc⟩ : ∃ nc, nc = ncells x := ⟨_, rfl⟩
  rw [← hnc] at HSZ HONE FIN G1 hrg1 c0
  rw [znode] at TH FIN G1 c0
  have HNC := Lib.hid hnc
  clear hnc hrg' hb1 BN hrg hb
  have hkk := hk.out
  obtain ⟨bk, ok, rfl, hbk, hkk⟩ := hkk (by simp)
  obtain ⟨A0, c0', hc0, hs0, hcap⟩ := hkk 0 (by simp)
  have hl0 : ([l'] : List (List Nd))[0] = l' := rfl
  rw [hl0] at hc0 hs0 hcap
  have hkc : ∀ wx, Below w1.heap.size w1 wx → wx.cell? ⟨bk, ok, none⟩ = some (.slice A0 l'.length c0') := fun wx h => (h.cell (p := ⟨bk, ok, none⟩) hbk).trans hc0
  have HS0 := Lib.hid hs0
  have HCAP := Lib.hid hcap
  clear hkk hk hs0 hcap
  have b10 : (op == 10) = true := by rw [hop0, hx]; rfl
  go_wp2_with (first
    | (refine wpList_load_mid rfl 57 (.tmp 13) rfl b (o + 0 * 5) rfl nc _ hrg1 hu rfl (by rw [HSZ.out]; exact info_node) ?_)
    | (refine wpList_store_mid rfl 57 (.tmp 4) (.tmp 14) rfl w1.heap.size 0 nc.toArray rfl rfl (by simpa [HSZ.out] using TH) (by simpa [HSZ.out] using info_node) (all_oneCell_toArray HONE.out) ?_
       clear hrg1 TH
       generalize (w1.alloc (.cells #[Value.int .i64 0, .int .i64 0, .int .i64 0, .int .i64 0, .string { data := #[] }] 57)).setCells w1.heap.size 0 nc = w2 at *
       replace c0 := c0.out
       have kc := hkc w2 G1.out)
    | fail)
  have hin2 : TreeIn mm A0 l'.length c0' l' w2 := ⟨rfl, (HS0.out.below G1.out).more G1.out.size, HCAP.out, by have h1 := HI.out.len; have h2 := HI.out.max; simp at h1; omega, HWL.out, fun y hy => HI.out.ok y (List.mem_cons_of_mem _ hy), HI.out.mem.later (HB.out.trans (G1.out.mono HB.out.size))⟩
  refine (HIH.out _ _ _ _ hin2).mono ?_
  rintro e w3 ⟨v, rfl, hsv, hb3⟩
  have HSV := Lib.hid hsv
  obtain ⟨f', caps', _, rfl, _, _, _⟩ := hsv
  have hb2 : Below w.heap.size w w2 := HB.out.trans (G1.out.mono HB.out.size)
  have hb4 := hb2.trans (hb3.mono hb2.size)
  clear hb2 hb3 c0 kc hkc hc0 hbk
  go_wp2_with fail
  go_ret
  refine ⟨_, rfl, ?_, hb4.alloc hb4.size _⟩
  exact not_says mm _ w3.heap.size _ l' (x :: l') ((Blk.new w3 [_] _).cell (j := 0) rfl) ((Blk.new w3 [_] _).out5 (by simp)) (HSV.out.later ((Below.refl w3.heap.size w3).alloc (Nat.le_refl _) _)) (fun lab g fs => ev_not hx)
end Go.Proofs.Ytfoppjgjljellaa
