/- What turns come to: the document's Net. -/
import Derived.Test.YtepefocpeeihdaaT5
import Derived.Test.YtepefocpeeihdaaT3
import Derived.Maps.Own
import Derived.Laws.EntriesVeiled
import Derived.Shelf.SlIterI.Nil
import Derived.Shelf.SortM.Plain
import Derived.Shelf.SortM.SortNone
import Derived.Shelf.SlGeneric
import Derived.Test.YtepefocpeeihdaaProg
namespace Go.Proofs.Ytepefocpeeihdaa
set_option linter.unusedVariables false
set_option linter.unusedSimpArgs false
open Go Go.RowKit BitM

theorem okCd_itm {t : Tn} (h : okCd t.cd) : okCd (itm t).cd := by
  unfold itm
  split
  · exact h
  · split
    · rfl
    · exact h
/-- The last turn of a card among those from a place on, up to another one. -/
def lstU (l : List Tn) (k : Nat) (t : Tn) (j : Nat) : Tn := (lastT ((l.drop k).take j) t.id).getD t
theorem lst_step {l : List Tn} {k m : Nat} (t : Tn) (hm : m < l.length) (hk : k ≤ m) : lstU l k t (m + 1 - k) = if l[m].id = t.id then l[m] else lstU l k t (m - k) := by
  have h1 : m - k < (l.drop k).length := by simp; omega
  have h2 := last_back h1 t.id
  have h3 : (l.drop k)[m - k] = l[m] := by rw [List.getElem_drop]; congr 1; omega
  rw [h3] at h2
  unfold lstU
  rw [show m + 1 - k = m - k + 1 by omega, h2]
  split <;> rfl
theorem lst_end {l : List Tn} {k : Nat} (t : Tn) : lstU l k t (l.length - k) = lastAt l k t := by
  unfold lstU lastAt
  rw [List.take_of_length_le (by simp)]
theorem lastAt_mem {l : List Tn} {k : Nat} (hk : k < l.length) : lastAt l k l[k] ∈ l ∧ (lastAt l k l[k]).id = l[k].id := by
  unfold lastAt
  cases h : lastT (l.drop k) l[k].id with
  | none => exact ⟨List.getElem_mem hk, rfl⟩
  | some u => exact ⟨List.mem_of_mem_drop (last_id h).2, (last_id h).1⟩
theorem lstU_ok {l : List Tn} {k : Nat} (hk : k < l.length) (hok : ∀ t ∈ l, okCd t.cd) (j : Nat) : okCd (lstU l k l[k] j).cd := by
  unfold lstU
  cases h : lastT ((l.drop k).take j) l[k].id with
  | none => exact hok _ (List.getElem_mem hk)
  | some u => exact hok _ (List.mem_of_mem_drop (List.mem_of_mem_take (last_id h).2))
theorem rnet_at {l : List Tn} {k : Nat} (hk : k < l.length) : rnetTo l (k + 1) = if firstAt l k then (if l[k].old = (lastAt l k l[k]).nw then rnetTo l k else rput (rnetTo l k) (itm { lastAt l k l[k] with old := l[k].old })) else rnetTo l k := by
  simp only [rnetTo, List.getElem?_eq_getElem hk]
theorem rput_len (L : List Im) (x : Im) : (rput L x).length = L.length + 1 := by
  have := rpos_le L x
  unfold rput
  simp only [List.length_append, List.length_cons, List.length_take, List.length_drop]
  omega
theorem rnet_len (l : List Tn) : ∀ k, k ≤ l.length → (rnetTo l k).length ≤ k
  | 0, _ => Nat.le_refl _
  | k + 1, h => by
    have ih := rnet_len l k (by omega)
    rw [rnet_at (by omega)]
    split
    · split
      · omega
      · rw [rput_len]; omega
    · omega
theorem rnet_ok {l : List Tn} (hok : ∀ t ∈ l, okCd t.cd) : ∀ k, k ≤ l.length → ∀ x ∈ rnetTo l k, okCd x.cd
  | 0, _ => fun x hx => by cases hx
  | k + 1, h => by
    have ih := rnet_ok hok k (by omega)
    rw [rnet_at (by omega)]
    split
    · split
      · exact ih
      · intro x hx
        rcases rput_mem.1 hx with rfl | hx
        · exact okCd_itm (t := { lastAt l k l[k] with old := l[k].old }) (show okCd (lastAt l k l[k]).cd from hok _ (lastAt_mem (k := k) (l := l) (by omega)).1)
        · exact ih x hx
    · exact ih
/-- A slice of items that is seen is given back. -/
def GivesS (w : World) (L : List Im) (e : Ending) (w' : World) : Prop :=
  ∃ A' c', e = .returned (.slice A' L.length c') ∧ SeesR icl w' A' L.length c' L ∧ Below w.heap.size w w'
theorem row_capi {w : World} {base : Nat} {e : TypeId} {size n c : Nat} {A : Option Addr} {xs : List Value} (h : w.ownsRow base e size (.slice A n c) n xs) : n ≤ c ∧ c ≤ maxLen := by
  rcases h.2 with ⟨e, h0⟩ | ⟨g, cap, cur, e, hx⟩
  · cases e; exact ⟨by omega, by simp [maxLen]⟩
  · cases e; exact ⟨hx.2.2.1, hx.2.2.2.1⟩
theorem row_at {w : World} {base : Nat} {e : TypeId} {size n c : Nat} {A : Option Addr} {xs : List Value} (h : w.ownsRow base e size (.slice A n c) n xs) (hn : 0 < n) : ∃ g, A = some ⟨g, 0, none⟩ := by
  rcases h.2 with ⟨e, h0⟩ | ⟨g, cap, cur, e, hx⟩
  · omega
  · cases e; exact ⟨g, rfl⟩
/-- The items so far, as they lie amid Net. -/
def NetIn (w : World) (g m c : Nat) (L : List Im) : Prop := SeesR icl w (some ⟨g, 0, none⟩) m c L
theorem NetIn.later {w w' : World} {g m c : Nat} {L : List Im} (h : NetIn w g m c L) (hb : Below w.heap.size w w') : NetIn w' g m c L := SeesR.later h hb
theorem netin_put (w : World) (g m c : Nat) (L : List Im) (x : Im) (h : NetIn w g m c L) (hok : ∀ y ∈ L, okCd y.cd) (hx : okCd x.cd) (hz : L.length ≤ 65536) :
    Calls Try.prog 33 #[.slice (some ⟨g, 0, none⟩) m c, .agg (icl x).toArray] w fun e w' => ∃ g' m' c', e = .returned (.slice (some ⟨g', 0, none⟩) m' c') ∧ NetIn w' g' m' c' (rput L x) ∧ Below w.heap.size w w' := by
  refine (rput23_any g 0 m c L x w h hok hx (by have := h.len; omega)).mono ?_
  rintro e w' ⟨A', c', rfl, hr, _, hb⟩
  obtain ⟨g', rfl⟩ := row_at hr (by rw [rput_len]; omega)
  exact ⟨g', _, c', rfl, SeesR.of_row hr rfl (row_capi hr), hb⟩
set_option maxRecDepth 100000 in
set_option maxHeartbeats 6400000 in
theorem rnets_any (A : Option Addr) (n c : Nat) (l : List Tn) (w : World) (h : SeesR tcl w A n c l) (hok : ∀ t ∈ l, okCd t.cd) (hz : n ≤ 65000) :
    Calls Try.prog 15 #[.slice A n c] w (GivesS w (rnetTo l l.length)) := by
  have hu := Try.underlying32
  have huc := Try.underlying30
  have HS := Lib.hid h
  have HN := Lib.hid h.len
  have HOK := Lib.hid hok
  have HCE : Hid (∀ k, k < l.length → ∃ b o, A = some ⟨b, o, none⟩ ∧ ∀ W, Below w.heap.size w W → ∀ k (hk : k < l.length), W.cell? ⟨b, o + k * 31 + 1, none⟩ = some (.int .i64 l[k].id) ∧
      W.cell? ⟨b, o + k * 31 + 2, none⟩ = some (.int .i64 l[k].old) ∧ W.rangeAt b (o + k * 31) (tcl l[k])) := Lib.hid (fun k hk => by
    obtain ⟨b, o, e, _, hc⟩ := turn_cells h hok (by omega)
    exact ⟨b, o, e, fun W hW k hk => ⟨(hc W hW k hk).2.1, (hc W hW k hk).2.2.1, (hc W hW k hk).2.2.2.2.1⟩⟩)
  have HFI := Lib.hid (fun W (hW : Below w.heap.size w W) k (hk : k < l.length) R hR => rfirst_any A n c l W (h.later hW) hok k hk (by omega) R hR)
  have HPUT := Lib.hid (fun W g m c k (hk : k ≤ l.length) x hn hx => netin_put W g m c (rnetTo l k) x hn (rnet_ok hok k hk) hx (by have := rnet_len l k hk; have := h.len; omega))
  have HNET := Lib.hid (fun k (hk : k < l.length) => rnet_at hk)
  have HTLN := Lib.hid (fun k (hk : k < l.length) => tcl_len (hok _ (List.getElem_mem hk)))
  have HLST := Lib.hid (fun k (hk : k < l.length) m (hm : m < l.length) hkm => lst_step l[k] (l := l) (k := k) hm hkm)
  have HUOK := Lib.hid (fun k (hk : k < l.length) j => lstU_ok hk hok j)
  have HEND := Lib.hid (fun k (hk : k < l.length) => And.intro (lst_end (l := l) (k := k) l[k]) (lastAt_mem hk))
  obtain ⟨Z, hZ⟩ : ∃ Z, Z = tcl ⟨0, 0, 0, 0, zcd⟩ := ⟨_, rfl⟩
  have HZL := Lib.hid (show Z.length = 31 by rw [hZ]; rfl)
  have HZZ : Hid (Z.toArray = #[Value.int .i64 0, .int .i64 0, .int .i64 0, .int .i64 0, .int .i64 0, .int .i64 0, .int .u32 0, .int .i64 0, .int .i64 0, .string { data := #[] }, .int .i64 0, .int .i64 0, .string { data := #[] }, .int .i64 0, .int .i64 0, .string { data := #[] }, .int .i64 0, .int .i64 0, .string { data := #[] }, .int .i64 0, .int .i64 0, .string { data := #[] }, .int .i64 0, .int .i64 0, .string { data := #[] }, .int .i64 0, .int .i64 0, .string { data := #[] }, .int .i64 0, .int .i64 0, .string { data := #[] }]) := Lib.hid (by rw [hZ]; exact zc31)
  have HB0 := Lib.hid ((Below.refl w.heap.size w).alloc (Nat.le_refl _) (.cells #[] 49))
  have HI0 : Hid (NetIn (w.alloc (.cells #[] 49)) w.heap.size 0 0 (rnetTo l 0)) := Lib.hid ⟨rfl, Nat.le_refl _, by simp [maxLen], fun hx => by simp [rws, rnetTo] at hx⟩
  clear h hok hZ
  go_enter Try.func15, Try.ntmps15
  go_wp2_with fail
  go_loopw [3, 4] (fun v i wr => ∃ k g mm cc : Nat, k ≤ n ∧ v = .slice (some ⟨g, 0, none⟩) mm cc ∧ i = .int .i64 (k : Int) ∧ Hid (NetIn wr g mm cc (rnetTo l k)) ∧ Hid (Below w.heap.size w wr)) (fun _ i _ => n - (iOf i).toNat)
  case atStart => exact ⟨0, w.heap.size, 0, 0, by omega, rfl, rfl, HI0, HB0⟩
  case round =>
    clear HI0 HB0
    obtain ⟨k, g, mm, cc, hk, rfl, rfl, HI, HB⟩ := hrel
    by_cases hlt : k < n
    · have d0 : decide ((k : Int) < (n : Int)) = true := decide_eq_true (by omega)
      have hkl : k < l.length := by rw [HN.out]; exact hlt
      obtain ⟨b, o, rfl, hcc⟩ := HCE.out k hkl
      have HCC := Lib.hid hcc
      have HN1 := Lib.hid (HNET.out k hkl)
      by_cases hf : firstAt l k
      · have HF1 := Lib.hid (HFI.out wr HB.out k hkl true (by simpa using hf))
        have HN2 : Hid (rnetTo l (k + 1) = if l[k].old = (lastAt l k l[k]).nw then rnetTo l k else rput (rnetTo l k) (itm { lastAt l k l[k] with old := l[k].old })) := Lib.hid (by rw [HN1.out, if_pos hf])
        have HPK := Lib.hid (fun W x hn hx => HPUT.out W g mm cc k (Nat.le_of_lt hkl) x hn hx)
        have HTT := Lib.hid (HTLN.out k hkl)
        have HT1 := Lib.hid (tcl_one l[k])
        have HST := Lib.hid (HLST.out k hkl)
        have HUK := Lib.hid (HUOK.out k hkl)
        have HEN := Lib.hid (HEND.out k hkl)
        have HU0 : Hid (lstU l k l[k] (k - k) = l[k]) := Lib.hid (by rw [Nat.sub_self]; rfl)
        clear HFI HPUT HNET HLST HUOK HEND HN1 hf hcc HCE
        go_wp2_with fail
        refine (HF1.out).mono ?_
        rintro e w1 ⟨rfl, hb1⟩
        have HB1 := Lib.hid (HB.out.trans (hb1.mono HB.out.size))
        have HI1 := Lib.hid (HI.out.later hb1)
        clear HF1 HB HI hb1
        obtain ⟨TT, hTT⟩ : ∃ TT, TT = tcl l[k] := ⟨_, rfl⟩
        have hrg := (HCC.out w1 HB1.out k hkl).2.2
        rw [← hTT] at hrg HTT HT1
        have B1 := Blk.new w1 Z 32
        have hb2 := (Below.refl w1.heap.size w1).alloc (Nat.le_refl _) (.cells Z.toArray 32)
        have TH1 := B1.there 0 31 (by rw [HZL.out]; omega)
        obtain ⟨W1, hW1⟩ : ∃ W1, W1 = (w1.alloc (.cells Z.toArray 32)).setCells w1.heap.size 0 TT := ⟨_, rfl⟩
        have B2 : Blk W1 w1.heap.size TT := by rw [hW1]; exact B1.whole (by rw [HZL.out, HTT.out])
        have hb3 : Below w1.heap.size w1 W1 := by rw [hW1]; exact below_sets (Nat.le_refl _) _ _ hb2
        have HBI : Hid (Blk W1 w1.heap.size (tcl (lstU l k l[k] (k - k)))) := Lib.hid (by rw [HU0.out, ← hTT]; exact B2)
        have HBE := Lib.hid hb3
        have HW1 := Lib.hid hW1
        rw [HZZ.out] at TH1
        clear hTT B1 hb2 hW1 B2 hb3 HU0
        go_wp2_with (first
          | (refine wpList_load_mid rfl 32 (.tmp 21) rfl b (o + k * 31) rfl TT _ hrg hu rfl (by rw [HTT.out]; exact info_turn) ?_
             simp only [Act.put, List.setIfInBounds_toArray, List.set_cons_zero, List.set_cons_succ])
          | (refine wpList_store_mid rfl 32 (.tmp 5) (.tmp 22) rfl w1.heap.size 0 TT.toArray rfl rfl (by simpa [HTT.out] using TH1) (by simpa [HTT.out] using info_turn) (all_oneCell_toArray HT1.out) ?_
             rw [← HZZ.out, ← HW1.out]
             clear TH1 hrg HTT HT1)
          | fail)
        go_loopw [6] (fun i wr => ∃ m : Nat, k ≤ m ∧ m ≤ n ∧ i = .int .i64 (m : Int) ∧ Hid (Blk wr w1.heap.size (tcl (lstU l k l[k] (m - k)))) ∧ Hid (Below w1.heap.size w1 wr)) (fun i _ => n - (iOf i).toNat)
        case atStart => exact ⟨k, by omega, by omega, rfl, HBI, HBE⟩
        case round =>
          clear HBI HBE HW1
          obtain ⟨m, hm1, hm2, rfl, HBI, HBE⟩ := hrel
          by_cases hmn : m < n
          · have dm : decide ((m : Int) < (n : Int)) = true := decide_eq_true (by omega)
            have hml : m < l.length := by rw [HN.out]; exact hmn
            have HBW : Hid (∀ W, Le wr W → Below w.heap.size w W) := Lib.hid (fun W hl => HB1.out.trans ((HBE.out.trans (hl.mono HBE.out.size)).mono HB1.out.size))
            have HLS := Lib.hid (HST.out m hml hm1)
            have HTM := Lib.hid (HTLN.out m hml)
            have HTO := Lib.hid (tcl_one l[m])
            have ca : ∀ kk : LW wr, kk.val.cell? ⟨b, o + m * 31 + 1, none⟩ = some (.int .i64 l[m].id) := fun kk => (HCC.out _ (HBW.out _ kk.le) m hml).1
            have cb : ∀ kk : LW wr, kk.val.cell? ⟨b, o + k * 31 + 1, none⟩ = some (.int .i64 l[k].id) := fun kk => (HCC.out _ (HBW.out _ kk.le) k hkl).1
            have HRM : Hid (∀ W, Le wr W → W.rangeAt b (o + m * 31) (tcl l[m])) := Lib.hid (fun W hl => (HCC.out W (HBW.out W hl) m hml).2.2)
            generalize hx : l[m].id = x at ca HLS
            generalize hy : l[k].id = y at cb HLS
            have HUL : Hid ((tcl (lstU l k l[k] (m - k))).length = 31) := Lib.hid (tcl_len (HUK.out (m - k)))
            clear hx hy HEN HPK HN2 HI1 HST HCC HUK
            by_cases hxy : x = y
            · have dx : decide (x = y) = true := decide_eq_true hxy
              have dx' : (x == y) = true := by simpa using hxy
              have HL2 : Hid (lstU l k l[k] (m + 1 - k) = l[m]) := Lib.hid (by rw [HLS.out, if_pos hxy])
              clear HLS hxy
              obtain ⟨TT, hTT⟩ : ∃ TT, TT = tcl l[m] := ⟨_, rfl⟩
              rw [← hTT] at HTM HTO HRM
              have HTE := Lib.hid hTT
              clear hTT
              go_wp2_with fail
              refine wp_region_steady [] 76 (by kernel_rfl) (by kernel_rfl) (by kernel_rfl) (by rfl) ?_
              iterate 11 (refine wpG_quiet (by rfl) (by rfl) (by rfl) (fun K hK => ?_); go_big_quiet_op; refine hK _ ?_; clear hK K)
              refine wpG_nil fun w2 hl _ => ?_
              have HB2 := Lib.hid (HBE.out.trans (hl.mono HBE.out.size))
              have HBI2 := Lib.hid (HBI.out.later hl)
              have hrg := HRM.out w2 hl
              have TH := HBI2.out.there 0 31 (by rw [HUL.out]; omega)
              obtain ⟨W3, hW3⟩ : ∃ W3, W3 = w2.setCells w1.heap.size 0 TT := ⟨_, rfl⟩
              have HBI3 : Hid (Blk W3 w1.heap.size (tcl (lstU l k l[k] (m + 1 - k)))) := Lib.hid (by rw [HL2.out, ← HTE.out, hW3]; exact HBI2.out.whole (by rw [HUL.out, HTM.out]))
              have HB3 : Hid (Below w1.heap.size w1 W3) := Lib.hid (by rw [hW3]; exact below_sets (Nat.le_refl _) _ _ HB2.out)
              have HW3 := Lib.hid hW3
              clear HBW ca cb hl HRM hW3
              go_wp2_with (first
                | (refine wpList_load_mid rfl 32 (.tmp 43) rfl b (o + m * 31) rfl TT _ hrg hu rfl (by rw [HTM.out]; exact info_turn) ?_
                   simp only [Act.put, List.setIfInBounds_toArray, List.set_cons_zero, List.set_cons_succ])
                | (refine wpList_store_mid rfl 32 (.tmp 5) (.tmp 44) rfl w1.heap.size 0 TT.toArray rfl rfl (by simpa [HTM.out] using TH) (by simpa [HTM.out] using info_turn) (all_oneCell_toArray HTO.out) ?_
                   rw [← HW3.out]
                   clear TH hrg)
                | fail)
              go_roundw
              case rel => exact ⟨m + 1, by omega, by omega, by go_num, HBI3, HB3⟩
              case measure => simp [iOf]; omega
            · have dx : decide (x = y) = false := decide_eq_false hxy
              have dx' : (x == y) = false := by simpa using hxy
              have HL2 : Hid (lstU l k l[k] (m + 1 - k) = lstU l k l[k] (m - k)) := Lib.hid (by rw [HLS.out, if_neg hxy])
              clear HLS hxy HRM HTM HTO
              go_wp2_with fail
              refine wp_region_steady [] 76 (by kernel_rfl) (by kernel_rfl) (by kernel_rfl) (by rfl) ?_
              iterate 11 (refine wpG_quiet (by rfl) (by rfl) (by rfl) (fun K hK => ?_); go_big_quiet_op; refine hK _ ?_; clear hK K)
              refine wpG_nil fun w2 hl _ => ?_
              have HB2 := Lib.hid (HBE.out.trans (hl.mono HBE.out.size))
              have HBI3 : Hid (Blk w2 w1.heap.size (tcl (lstU l k l[k] (m + 1 - k)))) := Lib.hid (by rw [HL2.out]; exact HBI.out.later hl)
              clear HBW ca cb hl
              go_wp2_with fail
              go_roundw
              case rel => exact ⟨m + 1, by omega, by omega, by go_num, HBI3, HB2⟩
              case measure => simp [iOf]; omega
          · obtain rfl : m = n := by omega
            have HBU : Hid (Blk wr w1.heap.size (tcl (lastAt l k l[k]))) := Lib.hid (by
              have := HBI.out
              rw [← HN.out, HEN.out.1] at this
              exact this)
            have HUO : Hid (okCd (lastAt l k l[k]).cd) := Lib.hid (by have := HUK.out (l.length - k); rwa [HEN.out.1] at this)
            have HBF := Lib.hid (HB1.out.trans (HBE.out.mono HB1.out.size))
            have HI2 := Lib.hid (HI1.out.later HBE.out)
            have HCO := (HCC.out wr HBF.out k hkl).2.1
            clear HBI HBE HEN HST HUK HCC HB1 HI1
            generalize lastAt l k l[k] = U at HBU HUO HN2
            generalize l[k].old = q at HCO HN2
            obtain ⟨sq, id, old, nw, cd⟩ := U
            dsimp only at HN2 HUO
            have u1 := HBU.out.cell (j := 1) (v := .int .i64 id) rfl
            have u3 := HBU.out.cell (j := 3) (v := .int .i64 nw) rfl
            have RG := HBU.out.range 4 (ccl cd) (tcl_drop HUO.out)
            have HCL := Lib.hid (ccl_len HUO.out)
            clear HBU HTLN
            by_cases hq : q = nw
            · have dq : decide (q = nw) = true := decide_eq_true hq
              have dq' : (q == nw) = true := by simpa using hq
              have HG : Hid (NetIn wr g mm cc (rnetTo l (k + 1))) := Lib.hid (by rw [HN2.out, if_pos hq]; exact HI2.out)
              clear hq HN2 HPK HI2
              go_wp2_with fail
              go_roundw
              case rel => exact ⟨k + 1, g, mm, cc, by omega, rfl, by go_num, HG, HBF⟩
              case measure => simp [iOf]; omega
            · have dq : decide (q = nw) = false := decide_eq_false hq
              have dq' : (q == nw) = false := by simpa using hq
              have HN3 : Hid (rnetTo l (k + 1) = rput (rnetTo l k) (itm ⟨sq, id, q, nw, cd⟩)) := Lib.hid (by rw [HN2.out, if_neg hq])
              have HPK2 := Lib.hid (fun x hx => HPK.out wr x HI2.out hx)
              clear hq HN2 HPK HI2
              by_cases h0 : q = 0
              · have e0 : decide (q = 0) = true := decide_eq_true h0
                have e0' : (q == 0) = true := by simpa using h0
                have HX : Hid (rnetTo l (k + 1) = rput (rnetTo l k) ⟨1, cd⟩) := Lib.hid (by rw [HN3.out]; unfold itm; rw [if_pos h0])
                have HP := Lib.hid (HPK2.out ⟨1, cd⟩ HUO.out)
                rw [← HX.out] at HP
                clear h0 HN3 HPK2 HX
                go_wp2_with (first
                  | (refine wpList_load_mid rfl 30 (.tmp 57) rfl w1.heap.size 4 rfl (ccl cd) _ RG huc rfl (by rw [HCL.out]; exact info_card) ?_
                     simp only [Act.put, List.setIfInBounds_toArray, List.set_cons_zero, List.set_cons_succ])
                  | (refine wpList_exec (by rfl) (.agg (icl ⟨1, cd⟩).toArray) (exec_item (.const (.int .i64 1)) (.tmp 58) rfl 1 cd HUO.out rfl rfl _) ?_
                     simp only [Act.put, List.setIfInBounds_toArray, List.set_cons_zero, List.set_cons_succ])
                  | fail)
                refine HP.out.mono ?_
                rintro e w5 ⟨g5, m5, c5, rfl, hi5, hb5⟩
                have HI5 := Lib.hid hi5
                have HB5 := Lib.hid (HBF.out.trans (hb5.mono HBF.out.size))
                clear hi5 hb5 RG u1 u3 HCO HP
                go_wp2_with fail
                go_roundw
                case rel => exact ⟨k + 1, g5, m5, c5, by omega, rfl, by go_num, HI5, HB5⟩
                case measure => simp [iOf]; omega
              · have e0 : decide (q = 0) = false := decide_eq_false h0
                have e0' : (q == 0) = false := by simpa using h0
                by_cases h1 : nw = 0
                · have e1 : decide (nw = 0) = true := decide_eq_true h1
                  have e1' : (nw == 0) = true := by simpa using h1
                  have HX : Hid (rnetTo l (k + 1) = rput (rnetTo l k) ⟨2, (id, 0, 0, zeros)⟩) := Lib.hid (by rw [HN3.out]; unfold itm; rw [if_neg h0, if_pos h1])
                  have HP := Lib.hid (HPK2.out ⟨2, (id, 0, 0, zeros)⟩ rfl)
                  rw [← HX.out] at HP
                  clear h0 h1 HN3 HPK2 HX
                  go_wp2_with (first
                    | (refine wpList_exec (by rfl) (.agg (ccl (id, 0, 0, zeros)).toArray) (exec_cid (.tmp 66) rfl id rfl _) ?_
                       simp only [Act.put, List.setIfInBounds_toArray, List.set_cons_zero, List.set_cons_succ])
                    | (refine wpList_exec (by rfl) (.agg (icl ⟨2, (id, 0, 0, zeros)⟩).toArray) (exec_item (.const (.int .i64 2)) (.tmp 67) rfl 2 (id, 0, 0, zeros) (show okCd (id, 0, 0, zeros) from rfl) rfl rfl _) ?_
                       simp only [Act.put, List.setIfInBounds_toArray, List.set_cons_zero, List.set_cons_succ])
                    | fail)
                  refine HP.out.mono ?_
                  rintro e w5 ⟨g5, m5, c5, rfl, hi5, hb5⟩
                  have HI5 := Lib.hid hi5
                  have HB5 := Lib.hid (HBF.out.trans (hb5.mono HBF.out.size))
                  clear hi5 hb5 RG u1 u3 HCO HP
                  go_wp2_with fail
                  go_roundw
                  case rel => exact ⟨k + 1, g5, m5, c5, by omega, rfl, by go_num, HI5, HB5⟩
                  case measure => simp [iOf]; omega
                · have e1 : decide (nw = 0) = false := decide_eq_false h1
                  have e1' : (nw == 0) = false := by simpa using h1
                  have HX : Hid (rnetTo l (k + 1) = rput (rnetTo l k) ⟨3, cd⟩) := Lib.hid (by rw [HN3.out]; unfold itm; rw [if_neg h0, if_neg h1])
                  have HP := Lib.hid (HPK2.out ⟨3, cd⟩ HUO.out)
                  rw [← HX.out] at HP
                  clear h0 h1 HN3 HPK2 HX
                  go_wp2_with (first
                    | (refine wpList_load_mid rfl 30 (.tmp 71) rfl w1.heap.size 4 rfl (ccl cd) _ RG huc rfl (by rw [HCL.out]; exact info_card) ?_
                       simp only [Act.put, List.setIfInBounds_toArray, List.set_cons_zero, List.set_cons_succ])
                    | (refine wpList_exec (by rfl) (.agg (icl ⟨3, cd⟩).toArray) (exec_item (.const (.int .i64 3)) (.tmp 72) rfl 3 cd HUO.out rfl rfl _) ?_
                       simp only [Act.put, List.setIfInBounds_toArray, List.set_cons_zero, List.set_cons_succ])
                    | fail)
                  refine HP.out.mono ?_
                  rintro e w5 ⟨g5, m5, c5, rfl, hi5, hb5⟩
                  have HI5 := Lib.hid hi5
                  have HB5 := Lib.hid (HBF.out.trans (hb5.mono HBF.out.size))
                  clear hi5 hb5 RG u1 u3 HCO HP
                  go_wp2_with fail
                  go_roundw
                  case rel => exact ⟨k + 1, g5, m5, c5, by omega, rfl, by go_num, HI5, HB5⟩
                  case measure => simp [iOf]; omega
      · have HF1 := Lib.hid (HFI.out wr HB.out k hkl false (by simpa using hf))
        have HN2 : Hid (rnetTo l (k + 1) = rnetTo l k) := Lib.hid (by rw [HN1.out, if_neg hf])
        clear HFI HPUT HNET HLST HUOK HEND HN1 hf hcc HCE HTLN HCC
        go_wp2_with fail
        refine (HF1.out).mono ?_
        rintro e w1 ⟨rfl, hb1⟩
        have HB1 := Lib.hid (HB.out.trans (hb1.mono HB.out.size))
        have HI1 : Hid (NetIn w1 g mm cc (rnetTo l (k + 1))) := Lib.hid (by rw [HN2.out]; exact HI.out.later hb1)
        clear HF1 HB HI hb1 HN2
        go_wp2_with fail
        go_roundw
        case rel => exact ⟨k + 1, g, mm, cc, by omega, rfl, by go_num, HI1, HB1⟩
        case measure => simp [iOf]; omega
    · obtain rfl : k = n := by omega
      have HF : Hid (GivesS w (rnetTo l l.length) (.returned (.slice (some ⟨g, 0, none⟩) mm cc)) wr) := Lib.hid (by
        have hs := HI.out
        unfold NetIn at hs
        rw [← HN.out] at hs
        have e := hs.len
        exact ⟨_, cc, by rw [e], by rw [e]; exact hs, HB.out⟩)
      clear HFI HPUT HNET HTLN HLST HUOK HEND HI HCE HS
      go_wp2_with fail
      go_ret
      exact HF.out
end Go.Proofs.Ytepefocpeeihdaa

/- Maps whose keys are ints: laws of the walk: make, put, look, delete, len; general. -/
namespace Go.Proofs.Ytepefocpeeihdaa
set_option linter.unusedVariables false
set_option linter.unusedSimpArgs false
open Go Go.RowKit

section
variable {P : Program} {ops : Array Oper} {rest : List Oper} {o : Oper} {a : Act} {Q : Exit → Act → World → Prop} {k t e : TypeId} {w : World} {b N : Nat} {mm : IM}
theorem wpList_mkM (hg : o.guard = none) (hop : o.op = Op.makeMap t none) (hK : ∀ w', MapI P k w' w.heap.size 0 [] → Below w.heap.size w w' → wpList P ops Q rest (a.put o.dst (.map (some w.heap.size))) w') : wpList P ops Q (o :: rest) a w := by
  refine wpList_plain hg fun K' hK' => ?_
  unfold Oper.wp
  simp [execOp, hop, Instr.makeMap, Result.andThen]
  exact hK' _ _ (hK (w.alloc (.map #[] 0)) (MapI.new P k w) ((Below.refl _ _).alloc (Nat.le_refl _) _))
theorem wpList_putM (hg : o.guard = none) (m x v : Operand) (z : Int) (hop : o.op = Op.mapUpdate t m x v) (hI : MapI P k w b N mm) (hk : P.underlying k = some (.int .i64)) (ht : P.underlying t = some (.map k e)) (hn : N < maxLen) (hm : a.eval m = .map (some b)) (hx : a.eval x = .int .i64 z) (hz : (Lit.int .i64 z).wf = true)
    (val : Value) (hv : a.eval v = val) (hK : ∀ w', MapI P k w' b (N + 1) (mput mm z val) → w.grownBy w' (some b) → wpList P ops Q rest (a.put o.dst undef) w') : wpList P ops Q (o :: rest) a w := by
  refine wpList_plain hg fun K' hK' => ?_
  obtain ⟨w', hrun, r1, r2⟩ := hI.store hk ht hn hz val
  unfold Oper.wp
  simp [execOp, hop, hm, hx, hv, hrun, Result.andThen]
  exact hK' _ _ (hK w' r1 r2)
theorem exec_lookM2 (m x : Operand) (ho : o.op = .lookup t m x true) (z : Int) (hm : a.eval m = .map (some b)) (hx : a.eval x = .int .i64 z) {v : Value} (hr : (Instr.lookup t (.map (some b)) (.int .i64 z) true).run P w = .ok v w) : (execOp a.eval o).run P w = .ok (.value v) w := by
  unfold execOp
  simp only [ho, hm, hx, Sem.run_bind, hr, Result.andThen_ok, Sem.run_pure]
theorem exec_lookM1 (m x : Operand) (ho : o.op = .lookup t m x false) (z : Int) (hm : a.eval m = .map (some b)) (hx : a.eval x = .int .i64 z) {v : Value} (hr : (Instr.lookup t (.map (some b)) (.int .i64 z) false).run P w = .ok v w) : (execOp a.eval o).run P w = .ok (.value v) w := by
  unfold execOp
  simp only [ho, hm, hx, Sem.run_bind, hr, Result.andThen_ok, Sem.run_pure]
theorem below_rowM {w' : World} {B : Nat} (hg : w.grownBy w' (some b)) (hb : B ≤ b) (hz : B ≤ w.heap.size) : Below B w w' := ⟨hg.os, hg.tape, hg.output, hg.size, fun k hk => hg.block k (by omega) (fun e => by injection e with e; omega)⟩
theorem wf_small {x : Int} (h : 0 ≤ x ∧ x ≤ 1099511627776) : (Lit.int .i64 x).wf = true := by
  simp only [Lit.wf, Bool.and_eq_true, decide_eq_true_eq]
  exact ⟨by show (-9223372036854775808 : Int) ≤ x; omega, by show x ≤ (9223372036854775807 : Int); omega⟩
end
end Go.Proofs.Ytepefocpeeihdaa

/- Which turns go on: the program's Check. -/
namespace Go.Proofs.Ytepefocpeeihdaa
set_option linter.unusedVariables false
set_option linter.unusedSimpArgs false
open Go Go.RowKit BitM

def iv64 (x : Int) : Value := .int .i64 x
set_option maxRecDepth 100000 in
set_option maxHeartbeats 6400000 in
theorem goes_any (A : Option Addr) (n c : Nat) (l : List Tn) (w : World) (h : SeesR tcl w A n c l) (hok : ∀ t ∈ l, okCd t.cd) (hz : n ≤ 65536) :
    Calls Try.prog 11 #[.slice A n c] w fun e w' => e = .returned (.bool (goes l)) ∧ Below w.heap.size w w' := by
  have hu := Try.underlying32
  have hkk := Try.underlying3
  have hmt := Try.underlying50
  have HS := Lib.hid h
  have HN := Lib.hid h.len
  obtain ⟨R, hR⟩ : ∃ R, R = goes l := ⟨_, rfl⟩
  rw [← hR]
  have HF0 := Lib.hid (fun k (hk : k < l.length) (e : tmay l[k] = false) => show R = false by rw [hR]; exact no_may hk e)
  have HF1 := Lib.hid (fun m (hk : m + 1 < l.length) (e : l[m + 1].sq ≤ l[m].sq) => show R = false by rw [hR]; exact no_seq hk e)
  have HF2 := Lib.hid (fun k (hk : k < l.length) u (e : lastT (l.take k) l[k].id = some u) (e2 : u.nw ≠ l[k].old) => show R = false by rw [hR]; exact no_old hk e e2)
  have HALL := Lib.hid (fun (e : goTo l l.length = true) => show R = true by rw [hR]; exact e)
  have HTU := Lib.hid (fun k (hk : k < l.length) wx => tmay_any l[k] wx (hok _ (List.getElem_mem hk)))
  have HTLN := Lib.hid (fun k (hk : k < l.length) => tcl_len (hok _ (List.getElem_mem hk)))
  have HLOOK : Hid (∀ W gm N k x, MapI Try.prog 3 W gm N (vmap iv64 (lmap (l.take k))) → (Lit.int .i64 x).wf = true → (Instr.lookup 50 (.map (some gm)) (.int .i64 x) true).run Try.prog W = .ok (.tuple #[((lastT (l.take k) x).map fun u => iv64 u.nw).getD (.int .i64 0), .bool (lastT (l.take k) x).isSome]) W) := Lib.hid (fun W gm N k x hI hx => by
    have := hI.look2 hkk hmt (z := .int .i64 0) (by kernel_rfl) hx
    rw [vmap_get, lmap_get] at this
    rw [this]
    cases lastT (l.take k) x <;> rfl)
  have HPUT : Hid (∀ k (hk : k < l.length), mput (vmap iv64 (lmap (l.take k))) l[k].id (.int .i64 l[k].nw) = vmap iv64 (lmap (l.take (k + 1)))) := Lib.hid (fun k hk => by
    rw [lmap_take hk]
    exact vmap_put iv64 _ _ _)
  have HWF : Hid (∀ k (hk : k < l.length), tmay l[k] = true → (Lit.int .i64 l[k].id).wf = true) := Lib.hid (fun k hk e => wf_small (by
    unfold tmay at e
    rw [Bool.and_eq_true] at e
    have := of_decide_eq_true e.1
    omega))
  have HCE : Hid (∀ k, k < l.length → ∃ b o, A = some ⟨b, o, none⟩ ∧ ∀ W, Below w.heap.size w W → ∀ k (hk : k < l.length), W.cell? ⟨b, o + k * 31, none⟩ = some (.int .i64 l[k].sq) ∧ W.cell? ⟨b, o + k * 31 + 1, none⟩ = some (.int .i64 l[k].id) ∧
      W.cell? ⟨b, o + k * 31 + 2, none⟩ = some (.int .i64 l[k].old) ∧ W.cell? ⟨b, o + k * 31 + 3, none⟩ = some (.int .i64 l[k].nw) ∧ W.rangeAt b (o + k * 31) (tcl l[k])) := Lib.hid (fun k hk => by
    obtain ⟨b, o, e, _, hc⟩ := turn_cells h hok (by omega)
    exact ⟨b, o, e, fun W hW k hk => ⟨(hc W hW k hk).1, (hc W hW k hk).2.1, (hc W hW k hk).2.2.1, (hc W hW k hk).2.2.2.1, (hc W hW k hk).2.2.2.2.1⟩⟩)
  obtain ⟨Z, hZ⟩ : ∃ Z, Z = tcl ⟨0, 0, 0, 0, zcd⟩ := ⟨_, rfl⟩
  have HZL := Lib.hid (show Z.length = 31 by rw [hZ]; rfl)
  have HZZ : Hid (Z.toArray = #[Value.int .i64 0, .int .i64 0, .int .i64 0, .int .i64 0, .int .i64 0, .int .i64 0, .int .u32 0, .int .i64 0, .int .i64 0, .string { data := #[] }, .int .i64 0, .int .i64 0, .string { data := #[] }, .int .i64 0, .int .i64 0, .string { data := #[] }, .int .i64 0, .int .i64 0, .string { data := #[] }, .int .i64 0, .int .i64 0, .string { data := #[] }, .int .i64 0, .int .i64 0, .string { data := #[] }, .int .i64 0, .int .i64 0, .string { data := #[] }, .int .i64 0, .int .i64 0, .string { data := #[] }]) := Lib.hid (by rw [hZ]; exact zc31)
  clear hR h hok hZ
  go_enter Try.func11, Try.ntmps11
  go_wp2_with (first
    | (refine wpList_mkM (k := 3) rfl rfl ?_
       intro w1 hI1 hb1
       have HI1 : Hid (MapI Try.prog 3 w1 w.heap.size 0 (vmap iv64 (lmap (l.take 0)))) := Lib.hid hI1
       have HB1 := Lib.hid hb1
       clear hI1 hb1)
    | fail)
  go_loopw [11] (fun i wr => ∃ k : Nat, k ≤ n ∧ i = .int .i64 (k : Int) ∧ Hid (goTo l k = true) ∧ Hid (MapI Try.prog 3 wr w.heap.size k (vmap iv64 (lmap (l.take k)))) ∧ Hid (Below w.heap.size w wr)) (fun i _ => n - (iOf i).toNat)
  case atStart => exact ⟨0, by omega, rfl, Lib.hid rfl, HI1, HB1⟩
  case round =>
    clear HI1 HB1
    obtain ⟨k, hk, rfl, HK, HI, HB⟩ := hrel
    by_cases hlt : k < n
    · have d0 : decide ((k : Int) < (n : Int)) = true := decide_eq_true (by omega)
      have hkl : k < l.length := by rw [HN.out]; exact hlt
      obtain ⟨b, o, rfl, hcc⟩ := HCE.out k hkl
      have HCC := Lib.hid hcc
      have HNEXT : Hid (tmay l[k] = true → (k = 0 ∨ sqAt l k < l[k].sq) → (∀ u, lastT (l.take k) l[k].id = some u → u.nw = l[k].old) → goTo l (k + 1) = true) := Lib.hid (go_next hkl HK.out)
      have HNM := Lib.hid (HF0.out k hkl)
      have HNO := Lib.hid (HF2.out k hkl)
      have HNS : Hid (∀ m (hm : k = m + 1), l[k].sq ≤ (l[m]'(by omega)).sq → R = false) := Lib.hid (fun m hm e => by subst hm; exact HF1.out m hkl e)
      have HSQ : Hid (∀ m (hm : k = m + 1), (l[m]'(by omega)).sq < l[k].sq → sqAt l k < l[k].sq) := Lib.hid (fun m hm e => by subst hm; exact sq_prev hkl e)
      have HT := Lib.hid (HTU.out k hkl)
      have HWFK := Lib.hid (HWF.out k hkl)
      have HPK := Lib.hid (HPUT.out k hkl)
      have HLK := Lib.hid (fun W gm N x => HLOOK.out W gm N k x)
      obtain ⟨TT, hTT⟩ : ∃ TT, TT = tcl l[k] := ⟨_, rfl⟩
      have hrg := (HCC.out wr HB.out k hkl).2.2.2.2
      have HTL := Lib.hid (HTLN.out k hkl)
      have HT1 := Lib.hid (tcl_one l[k])
      have HTC : Hid (∀ W, Blk W wr.heap.size TT → W.cell? ⟨wr.heap.size, 0, none⟩ = some (.int .i64 l[k].sq) ∧ W.cell? ⟨wr.heap.size, 1, none⟩ = some (.int .i64 l[k].id) ∧ W.cell? ⟨wr.heap.size, 2, none⟩ = some (.int .i64 l[k].old) ∧ W.cell? ⟨wr.heap.size, 3, none⟩ = some (.int .i64 l[k].nw)) := Lib.hid (fun W hW => by
        rw [hTT] at hW
        exact ⟨hW.cell (j := 0) rfl, hW.cell (j := 1) rfl, hW.cell (j := 2) rfl, hW.cell (j := 3) rfl⟩)
      rw [← hTT] at hrg HTL HT1
      have B1 := Blk.new wr Z 32
      have hb2 := (Below.refl wr.heap.size wr).alloc (Nat.le_refl _) (.cells Z.toArray 32)
      have TH1 := B1.there 0 31 (by rw [HZL.out]; omega)
      obtain ⟨W1, hW1⟩ : ∃ W1, W1 = (wr.alloc (.cells Z.toArray 32)).setCells wr.heap.size 0 TT := ⟨_, rfl⟩
      have HBI : Hid (Blk W1 wr.heap.size TT) := Lib.hid (by rw [hW1]; exact B1.whole (by rw [HZL.out, HTL.out]))
      have hb3 : Below wr.heap.size wr W1 := by rw [hW1]; exact below_sets (Nat.le_refl _) _ _ hb2
      have HBE := Lib.hid (HB.out.trans (hb3.mono HB.out.size))
      have HLE := Lib.hid hb3
      have HW1 := Lib.hid hW1
      rw [HZZ.out] at TH1
      rw [← hTT] at HT
      obtain ⟨tm, htm⟩ : ∃ tm, tm = tmay l[k] := ⟨_, rfl⟩
      rw [← htm] at HT HNEXT HNM HWFK
      have HPREV : Hid (∀ m (hm : k = m + 1), ∀ W, Below w.heap.size w W → W.cell? ⟨b, o + m * 31, none⟩ = some (.int .i64 (l[m]'(by omega)).sq)) := Lib.hid (fun m hm W hW => (HCC.out W hW m (by omega)).1)
      have HPV : Hid (∀ m (hm : k = m + 1), ∃ p, p = (l[m]'(by omega)).sq) := Lib.hid (fun m hm => ⟨_, rfl⟩)
      have HI2 := Lib.hid (HI.out.later HLE.out)
      have HBW : Hid (∀ W, Le W1 W → Below w.heap.size w W) := Lib.hid (fun W hl => HBE.out.trans (hl.mono HBE.out.size))
      have HBL : Hid (∀ W, Le W1 W → Blk W wr.heap.size TT) := Lib.hid (fun W hl => HBI.out.later hl)
      generalize l[k].id = x at HNEXT HNO HTC HWFK HPK
      generalize l[k].old = y at HNEXT HNO HTC
      generalize l[k].nw = z at HTC HPK
      generalize l[k].sq = q at HNEXT HNS HSQ HTC
      have HQ : Hid (∀ W, Le W1 W → W.cell? ⟨wr.heap.size, 0, none⟩ = some (.int .i64 q)) := Lib.hid (fun W hl => (HTC.out W (HBL.out W hl)).1)
      clear hcc hTT htm HF0 HF1 HF2 HTU HTLN HALL HS B1 hb2 hW1 hb3 HCE HCC HLOOK HPUT HWF HI HB HPV
      have cq : ∀ kk : LW W1, kk.val.cell? ⟨wr.heap.size, 0, none⟩ = some (.int .i64 q) := fun kk => HQ.out _ kk.le
      cases tm with
      | false =>
        have HR := Lib.hid (HNM.out rfl)
        go_wp2_with (first
          | (refine wpList_load_mid rfl 32 (.tmp 14) rfl b (o + k * 31) rfl TT _ hrg hu rfl (by rw [HTL.out]; exact info_turn) ?_
             simp only [Act.put, List.setIfInBounds_toArray, List.set_cons_zero, List.set_cons_succ])
          | (refine wpList_store_mid rfl 32 (.tmp 5) (.tmp 15) rfl wr.heap.size 0 TT.toArray rfl rfl (by simpa [HTL.out] using TH1) (by simpa [HTL.out] using info_turn) (all_oneCell_toArray HT1.out) ?_
             rw [← HZZ.out, ← HW1.out]
             clear TH1 hrg HT1)
          | fail)
        refine wp_region_steady [] 54 (by kernel_rfl) (by kernel_rfl) (by kernel_rfl) (by rfl) ?_
        refine wpG_run (by rfl) (by rfl) (.agg TT.toArray) (fun wx hl => exec_load 32 (.tmp 5) rfl wr.heap.size 0 rfl TT _ (HBL.out wx hl.1).wholeC hu rfl (by rw [HTL.out]; exact info_turn)) ?_
        simp only [Act.put, List.setIfInBounds_toArray, List.set_cons_zero, List.set_cons_succ]
        refine wpG_call (by rfl) (by rfl) 26 #[.agg TT.toArray] (.bool false) (by intro _; simp [go_sem]) (by kernel_rfl) (fun wx hl => HT.out wx) ?_
        simp only [Act.put, List.setIfInBounds_toArray, List.set_cons_zero, List.set_cons_succ]
        iterate 2 (refine wpG_quiet (by rfl) (by rfl) (by rfl) (fun K hK => ?_); go_big_quiet_op; refine hK _ ?_; clear hK K)
        iterate 13 (refine wpG_skip (by rfl) ?_; simp only [Act.put, List.setIfInBounds_toArray, List.set_cons_zero, List.set_cons_succ])
        iterate 1 (refine wpG_quiet (by rfl) (by rfl) (by rfl) (fun K hK => ?_); go_big_quiet_op; refine hK _ ?_; clear hK K)
        refine wpG_nil fun w2 hl _ => ?_
        have HB2 := Lib.hid (HBW.out w2 hl)
        clear HBW
        go_wp2_with fail
        go_ret
        exact ⟨by rw [HR.out]; rfl, HB2.out⟩
      | true =>
        by_cases h0 : k = 0
        · have d1 : decide ((0 : Int) < (k : Int)) = false := decide_eq_false (by omega)
          have d1' : decide (0 < k) = false := decide_eq_false (by omega)
          have H0 := Lib.hid h0
          clear h0
          go_wp2_with (first
            | (refine wpList_load_mid rfl 32 (.tmp 14) rfl b (o + k * 31) rfl TT _ hrg hu rfl (by rw [HTL.out]; exact info_turn) ?_
               simp only [Act.put, List.setIfInBounds_toArray, List.set_cons_zero, List.set_cons_succ])
            | (refine wpList_store_mid rfl 32 (.tmp 5) (.tmp 15) rfl wr.heap.size 0 TT.toArray rfl rfl (by simpa [HTL.out] using TH1) (by simpa [HTL.out] using info_turn) (all_oneCell_toArray HT1.out) ?_
               rw [← HZZ.out, ← HW1.out]
               clear TH1 hrg HT1)
            | fail)
          refine wp_region_steady [] 54 (by kernel_rfl) (by kernel_rfl) (by kernel_rfl) (by rfl) ?_
          refine wpG_run (by rfl) (by rfl) (.agg TT.toArray) (fun wx hl => exec_load 32 (.tmp 5) rfl wr.heap.size 0 rfl TT _ (HBL.out wx hl.1).wholeC hu rfl (by rw [HTL.out]; exact info_turn)) ?_
          simp only [Act.put, List.setIfInBounds_toArray, List.set_cons_zero, List.set_cons_succ]
          refine wpG_call (by rfl) (by rfl) 26 #[.agg TT.toArray] (.bool true) (by intro _; simp [go_sem]) (by kernel_rfl) (fun wx hl => HT.out wx) ?_
          simp only [Act.put, List.setIfInBounds_toArray, List.set_cons_zero, List.set_cons_succ]
          iterate 5 (refine wpG_quiet (by rfl) (by rfl) (by rfl) (fun K hK => ?_); go_big_quiet_op; refine hK _ ?_; clear hK K)
          iterate 9 (refine wpG_skip (by rfl) ?_; simp only [Act.put, List.setIfInBounds_toArray, List.set_cons_zero, List.set_cons_succ])
          iterate 2 (refine wpG_quiet (by rfl) (by rfl) (by rfl) (fun K hK => ?_); go_big_quiet_op; refine hK _ ?_; clear hK K)
          refine wpG_nil fun w2 hl _ => ?_
          have HB2 := Lib.hid (HBW.out w2 hl)
          have HX2 := HTC.out w2 (HBL.out w2 hl)
          have x1 := HX2.2.1
          have x2 := HX2.2.2.1
          have x3 := HX2.2.2.2
          have HI3 := Lib.hid (HI2.out.later hl)
          have HKW := Lib.hid (HWFK.out (by trivial))
          have hlk := HLK.out w2 w.heap.size k x HI3.out HKW.out
          have HSTEP : Hid ((∀ u, lastT (l.take k) x = some u → u.nw = y) → goTo l (k + 1) = true) := Lib.hid (HNEXT.out (by trivial) (.inl H0.out))
          clear HBW HNEXT HNS HSQ HT HTL HTC HPREV HLK HWFK HBL HI2 HNM HX2 HQ cq hl d1 d1'
          cases hla : lastT (l.take k) x with
          | none =>
            rw [hla] at hlk
            have HLK := Lib.hid (show (Instr.lookup 50 (.map (some w.heap.size)) (.int .i64 x) true).run Try.prog w2 = .ok (.tuple #[.int .i64 0, .bool false]) w2 from hlk)
            have HG := Lib.hid (HSTEP.out (fun u e => by rw [hla] at e; cases e))
            clear hla hlk HSTEP HNO
            go_wp2_with (first
              | (refine wpList_exec (by rfl) (.tuple #[.int .i64 0, .bool false]) (exec_lookM2 (.tmp 35) (.tmp 37) rfl x rfl rfl HLK.out) ?_
                 simp only [Act.put, List.setIfInBounds_toArray, List.set_cons_zero, List.set_cons_succ])
              | (refine wpList_putM rfl (.tmp 48) (.tmp 50) (.tmp 52) x rfl HI3.out hkk hmt (by unfold maxLen; omega) rfl rfl HKW.out (.int .i64 z) rfl ?_
                 intro w4 hI4 hg4
                 rw [HPK.out] at hI4
                 have HI4 := Lib.hid hI4
                 have HB4 := Lib.hid (HB2.out.trans (below_rowM hg4 (Nat.le_refl _) HB2.out.size))
                 clear hI4 hg4)
              | fail)
            go_roundw
            case rel => exact ⟨k + 1, by omega, by go_num, HG, HI4, HB4⟩
            case measure => simp [iOf]; omega
          | some u =>
            rw [hla] at hlk
            have HLK := Lib.hid (show (Instr.lookup 50 (.map (some w.heap.size)) (.int .i64 x) true).run Try.prog w2 = .ok (.tuple #[.int .i64 u.nw, .bool true]) w2 from hlk)
            have HNO2 := Lib.hid (HNO.out u hla)
            have HG2 : Hid (u.nw = y → goTo l (k + 1) = true) := Lib.hid (fun e => HSTEP.out (fun u' e' => by rw [hla] at e'; cases e'; exact e))
            clear hla hlk HSTEP HNO
            generalize u.nw = v at HLK HNO2 HG2
            by_cases hv : v = y
            · have dv : decide (v = y) = true := decide_eq_true hv
              have dv' : (v != y) = false := by simpa using hv
              have HG := Lib.hid (HG2.out hv)
              clear hv HG2 HNO2
              go_wp2_with (first
                | (refine wpList_exec (by rfl) (.tuple #[.int .i64 v, .bool true]) (exec_lookM2 (.tmp 35) (.tmp 37) rfl x rfl rfl HLK.out) ?_
                   simp only [Act.put, List.setIfInBounds_toArray, List.set_cons_zero, List.set_cons_succ])
                | (refine wpList_putM rfl (.tmp 48) (.tmp 50) (.tmp 52) x rfl HI3.out hkk hmt (by unfold maxLen; omega) rfl rfl HKW.out (.int .i64 z) rfl ?_
                   intro w4 hI4 hg4
                   rw [HPK.out] at hI4
                   have HI4 := Lib.hid hI4
                   have HB4 := Lib.hid (HB2.out.trans (below_rowM hg4 (Nat.le_refl _) HB2.out.size))
                   clear hI4 hg4)
                | fail)
              go_roundw
              case rel => exact ⟨k + 1, by omega, by go_num, HG, HI4, HB4⟩
              case measure => simp [iOf]; omega
            · have dv : decide (v = y) = false := decide_eq_false hv
              have dv' : (v != y) = true := by simpa using hv
              have HR := Lib.hid (HNO2.out hv)
              clear hv HG2 HNO2
              go_wp2_with (first
                | (refine wpList_exec (by rfl) (.tuple #[.int .i64 v, .bool true]) (exec_lookM2 (.tmp 35) (.tmp 37) rfl x rfl rfl HLK.out) ?_
                   simp only [Act.put, List.setIfInBounds_toArray, List.set_cons_zero, List.set_cons_succ])
                | fail)
              go_ret
              exact ⟨by rw [HR.out]; rfl, HB2.out⟩
        · obtain ⟨m, hm⟩ : ∃ m, k = m + 1 := ⟨k - 1, by omega⟩
          have d1 : decide ((0 : Int) < (k : Int)) = true := decide_eq_true (by omega)
          have d1' : decide (0 < k) = true := decide_eq_true (by omega)
          obtain ⟨p, hp⟩ : ∃ p, p = (l[m]'(by omega)).sq := ⟨_, rfl⟩
          have cp : ∀ kk : LW W1, kk.val.cell? ⟨b, o + m * 31, none⟩ = some (.int .i64 p) := fun kk => by rw [hp]; exact HPREV.out m hm _ (HBW.out _ kk.le)
          have HNS2 : Hid (q ≤ p → R = false) := Lib.hid (fun e => HNS.out m hm (by rw [← hp]; exact e))
          have HSQ2 : Hid (p < q → sqAt l k < q) := Lib.hid (fun e => HSQ.out m hm (by rw [← hp]; exact e))
          have km : (k : Int) - 1 = (m : Int) := by omega
          have hmn : m < n := by omega
          clear hp hm h0
          by_cases h4 : q ≤ p
          · have d4 : decide (q ≤ p) = true := decide_eq_true h4
            have HR := Lib.hid (HNS2.out h4)
            clear h4
            go_wp2_with (first
              | (refine wpList_load_mid rfl 32 (.tmp 14) rfl b (o + k * 31) rfl TT _ hrg hu rfl (by rw [HTL.out]; exact info_turn) ?_
                 simp only [Act.put, List.setIfInBounds_toArray, List.set_cons_zero, List.set_cons_succ])
              | (refine wpList_store_mid rfl 32 (.tmp 5) (.tmp 15) rfl wr.heap.size 0 TT.toArray rfl rfl (by simpa [HTL.out] using TH1) (by simpa [HTL.out] using info_turn) (all_oneCell_toArray HT1.out) ?_
                 rw [← HZZ.out, ← HW1.out]
                 clear TH1 hrg HT1)
              | fail)
            refine wp_region_steady [] 54 (by kernel_rfl) (by kernel_rfl) (by kernel_rfl) (by rfl) ?_
            refine wpG_run (by rfl) (by rfl) (.agg TT.toArray) (fun wx hl => exec_load 32 (.tmp 5) rfl wr.heap.size 0 rfl TT _ (HBL.out wx hl.1).wholeC hu rfl (by rw [HTL.out]; exact info_turn)) ?_
            simp only [Act.put, List.setIfInBounds_toArray, List.set_cons_zero, List.set_cons_succ]
            refine wpG_call (by rfl) (by rfl) 26 #[.agg TT.toArray] (.bool true) (by intro _; simp [go_sem]) (by kernel_rfl) (fun wx hl => HT.out wx) ?_
            simp only [Act.put, List.setIfInBounds_toArray, List.set_cons_zero, List.set_cons_succ]
            iterate 16 (refine wpG_quiet (by rfl) (by rfl) (by rfl) (fun K hK => ?_); go_big_quiet_op; refine hK _ ?_; clear hK K)
            refine wpG_nil fun w2 hl _ => ?_
            have HB2 := Lib.hid (HBW.out w2 hl)
            clear HBW
            go_wp2_with fail
            go_ret
            exact ⟨by rw [HR.out]; rfl, HB2.out⟩
          · have d4 : decide (q ≤ p) = false := decide_eq_false h4
            have HQP := Lib.hid (HSQ2.out (by omega))
            clear h4
            go_wp2_with (first
              | (refine wpList_load_mid rfl 32 (.tmp 14) rfl b (o + k * 31) rfl TT _ hrg hu rfl (by rw [HTL.out]; exact info_turn) ?_
                 simp only [Act.put, List.setIfInBounds_toArray, List.set_cons_zero, List.set_cons_succ])
              | (refine wpList_store_mid rfl 32 (.tmp 5) (.tmp 15) rfl wr.heap.size 0 TT.toArray rfl rfl (by simpa [HTL.out] using TH1) (by simpa [HTL.out] using info_turn) (all_oneCell_toArray HT1.out) ?_
                 rw [← HZZ.out, ← HW1.out]
                 clear TH1 hrg HT1)
              | fail)
            refine wp_region_steady [] 54 (by kernel_rfl) (by kernel_rfl) (by kernel_rfl) (by rfl) ?_
            refine wpG_run (by rfl) (by rfl) (.agg TT.toArray) (fun wx hl => exec_load 32 (.tmp 5) rfl wr.heap.size 0 rfl TT _ (HBL.out wx hl.1).wholeC hu rfl (by rw [HTL.out]; exact info_turn)) ?_
            simp only [Act.put, List.setIfInBounds_toArray, List.set_cons_zero, List.set_cons_succ]
            refine wpG_call (by rfl) (by rfl) 26 #[.agg TT.toArray] (.bool true) (by intro _; simp [go_sem]) (by kernel_rfl) (fun wx hl => HT.out wx) ?_
            simp only [Act.put, List.setIfInBounds_toArray, List.set_cons_zero, List.set_cons_succ]
            iterate 16 (refine wpG_quiet (by rfl) (by rfl) (by rfl) (fun K hK => ?_); go_big_quiet_op; refine hK _ ?_; clear hK K)
            refine wpG_nil fun w2 hl _ => ?_
            have HB2 := Lib.hid (HBW.out w2 hl)
            have HX2 := HTC.out w2 (HBL.out w2 hl)
            have x1 := HX2.2.1
            have x2 := HX2.2.2.1
            have x3 := HX2.2.2.2
            have HI3 := Lib.hid (HI2.out.later hl)
            have HKW := Lib.hid (HWFK.out (by trivial))
            have hlk := HLK.out w2 w.heap.size k x HI3.out HKW.out
            have HSTEP : Hid ((∀ u, lastT (l.take k) x = some u → u.nw = y) → goTo l (k + 1) = true) := Lib.hid (HNEXT.out (by trivial) (.inr HQP.out))
            clear HBW HNEXT HNS HSQ HT HTL HTC HPREV HLK HWFK HBL HI2 HNM HX2 HQ cq hl cp d1 d1' d4 km hmn HNS2 HSQ2
            cases hla : lastT (l.take k) x with
            | none =>
              rw [hla] at hlk
              have HLK := Lib.hid (show (Instr.lookup 50 (.map (some w.heap.size)) (.int .i64 x) true).run Try.prog w2 = .ok (.tuple #[.int .i64 0, .bool false]) w2 from hlk)
              have HG := Lib.hid (HSTEP.out (fun u e => by rw [hla] at e; cases e))
              clear hla hlk HSTEP HNO
              go_wp2_with (first
                | (refine wpList_exec (by rfl) (.tuple #[.int .i64 0, .bool false]) (exec_lookM2 (.tmp 35) (.tmp 37) rfl x rfl rfl HLK.out) ?_
                   simp only [Act.put, List.setIfInBounds_toArray, List.set_cons_zero, List.set_cons_succ])
                | (refine wpList_putM rfl (.tmp 48) (.tmp 50) (.tmp 52) x rfl HI3.out hkk hmt (by unfold maxLen; omega) rfl rfl HKW.out (.int .i64 z) rfl ?_
                   intro w4 hI4 hg4
                   rw [HPK.out] at hI4
                   have HI4 := Lib.hid hI4
                   have HB4 := Lib.hid (HB2.out.trans (below_rowM hg4 (Nat.le_refl _) HB2.out.size))
                   clear hI4 hg4)
                | fail)
              go_roundw
              case rel => exact ⟨k + 1, by omega, by go_num, HG, HI4, HB4⟩
              case measure => simp [iOf]; omega
            | some u =>
              rw [hla] at hlk
              have HLK := Lib.hid (show (Instr.lookup 50 (.map (some w.heap.size)) (.int .i64 x) true).run Try.prog w2 = .ok (.tuple #[.int .i64 u.nw, .bool true]) w2 from hlk)
              have HNO2 := Lib.hid (HNO.out u hla)
              have HG2 : Hid (u.nw = y → goTo l (k + 1) = true) := Lib.hid (fun e => HSTEP.out (fun u' e' => by rw [hla] at e'; cases e'; exact e))
              clear hla hlk HSTEP HNO
              generalize u.nw = v at HLK HNO2 HG2
              by_cases hv : v = y
              · have dv : decide (v = y) = true := decide_eq_true hv
                have dv' : (v != y) = false := by simpa using hv
                have HG := Lib.hid (HG2.out hv)
                clear hv HG2 HNO2
                go_wp2_with (first
                  | (refine wpList_exec (by rfl) (.tuple #[.int .i64 v, .bool true]) (exec_lookM2 (.tmp 35) (.tmp 37) rfl x rfl rfl HLK.out) ?_
                     simp only [Act.put, List.setIfInBounds_toArray, List.set_cons_zero, List.set_cons_succ])
                  | (refine wpList_putM rfl (.tmp 48) (.tmp 50) (.tmp 52) x rfl HI3.out hkk hmt (by unfold maxLen; omega) rfl rfl HKW.out (.int .i64 z) rfl ?_
                     intro w4 hI4 hg4
                     rw [HPK.out] at hI4
                     have HI4 := Lib.hid hI4
                     have HB4 := Lib.hid (HB2.out.trans (below_rowM hg4 (Nat.le_refl _) HB2.out.size))
                     clear hI4 hg4)
                  | fail)
                go_roundw
                case rel => exact ⟨k + 1, by omega, by go_num, HG, HI4, HB4⟩
                case measure => simp [iOf]; omega
              · have dv : decide (v = y) = false := decide_eq_false hv
                have dv' : (v != y) = true := by simpa using hv
                have HR := Lib.hid (HNO2.out hv)
                clear hv HG2 HNO2
                go_wp2_with (first
                  | (refine wpList_exec (by rfl) (.tuple #[.int .i64 v, .bool true]) (exec_lookM2 (.tmp 35) (.tmp 37) rfl x rfl rfl HLK.out) ?_
                     simp only [Act.put, List.setIfInBounds_toArray, List.set_cons_zero, List.set_cons_succ])
                  | fail)
                go_ret
                exact ⟨by rw [HR.out]; rfl, HB2.out⟩
    · obtain rfl : k = n := by omega
      have HR := Lib.hid (HALL.out (by rw [HN.out]; exact HK.out))
      clear HF0 HF1 HF2 HALL HTU HTLN HCE HS HLOOK HPUT HWF HI
      go_wp2_with fail
      go_ret
      exact ⟨by rw [HR.out]; rfl, HB.out⟩
end Go.Proofs.Ytepefocpeeihdaa

/- Contracts of Go's library at this program: maps.Keys, slices.Sorted, slices.Sort at ints, laid by the shelf's own tools. No condition beside what each says. -/
namespace Go.Proofs.Ytepefocpeeihdaa
open Go Go.Shelf
def Try.keysT_ren : Go.Shelf.Ren := ⟨fun | 7 => 30 | 10 => 42 | n => n, fun | 23 => 53 | 26 => 3 | 3 => 32 | 28 => 57 | 0 => 0 | 27 => 56 | 33 => 67 | 4 => 4 | n => n, fun | n => n⟩
theorem Try.keysT : Go.Proofs.SlLaysZI.n7 Try.prog Try.keysT_ren := {
  mixed := by kernel_rfl
  f7 := ⟨Try.f30.name, by decide, Try.func30.trans (congrArg some (by kernel_rfl))⟩
  f10 := ⟨Try.f42.name, by decide, Try.func42.trans (congrArg some (by kernel_rfl))⟩
  t0 := Try.underlying0
  a0 := Try.isAgg0
  z0 := Try.sizeOf0
  v0 := Try.zeroValue0
  t4 := Try.underlying4
  a4 := Try.isAgg4
  z4 := Try.sizeOf4
  v4 := Try.zeroValue4
  t23 := Try.underlying53
  a23 := Try.isAgg53
  z23 := Try.sizeOf53
  v23 := Try.zeroValue53
  t26 := Try.underlying3
  a26 := Try.isAgg3
  z26 := Try.sizeOf3
  v26 := Try.zeroValue3
  t27 := Try.underlying56
  a27 := Try.isAgg56
  z27 := Try.sizeOf56
  v27 := Try.zeroValue56
  t28 := Try.underlying57
  a28 := Try.isAgg57
  z28 := Try.sizeOf57
  v28 := Try.zeroValue57
  t33 := Try.underlying67
  a33 := Try.isAgg67
  z33 := Try.sizeOf67
  v33 := Try.zeroValue67 }
def Try.sortedI_ren : Go.Shelf.Ren := ⟨fun | 6 => 29 | 8 => 40 | 9 => 41 | 11 => 46 | 13 => 48 | 12 => 47 | 23 => 59 | 24 => 60 | 14 => 50 | 15 => 51 | 16 => 52 | 17 => 53 | 18 => 54 | 19 => 55 | 20 => 56 | 21 => 57 | 22 => 58 | 25 => 61 | 26 => 62 | 27 => 63 | 28 => 64 | 29 => 65 | 30 => 66 | 31 => 67 | n => n, fun | 26 => 3 | 28 => 57 | 24 => 54 | 0 => 0 | 3 => 3 | 37 => 73 | 48 => 25 | 50 => 84 | 4 => 4 | 40 => 76 | 39 => 75 | 45 => 52 | 5 => 5 | 9 => 9 | 51 => 85 | 55 => 89 | 57 => 91 | 58 => 92 | 33 => 67 | n => n, fun | n => n⟩
theorem Try.sortedI : Go.Proofs.SlLaysZI.n6 Try.prog Try.sortedI_ren := {
  mixed := by kernel_rfl
  f6 := ⟨Try.f29.name, by decide, Try.func29.trans (congrArg some (by kernel_rfl))⟩
  f8 := ⟨Try.f40.name, by decide, Try.func40.trans (congrArg some (by kernel_rfl))⟩
  f11 := ⟨Try.f46.name, by decide, Try.func46.trans (congrArg some (by kernel_rfl))⟩
  t0 := Try.underlying0
  a0 := Try.isAgg0
  z0 := Try.sizeOf0
  v0 := Try.zeroValue0
  t24 := Try.underlying54
  a24 := Try.isAgg54
  z24 := Try.sizeOf54
  v24 := Try.zeroValue54
  t26 := Try.underlying3
  a26 := Try.isAgg3
  z26 := Try.sizeOf3
  v26 := Try.zeroValue3
  t28 := Try.underlying57
  a28 := Try.isAgg57
  z28 := Try.sizeOf57
  v28 := Try.zeroValue57
  i26 := by kernel_rfl }
def Try.sortI_ren : Go.Shelf.Ren := ⟨fun | 5 => 41 | 8 => 48 | 7 => 47 | 19 => 59 | 20 => 60 | 10 => 50 | 11 => 51 | 12 => 52 | 13 => 53 | 14 => 54 | 15 => 55 | 16 => 56 | 17 => 57 | 18 => 58 | 30 => 61 | 31 => 62 | 32 => 63 | 33 => 64 | 34 => 65 | 35 => 66 | 40 => 67 | n => n, fun | 23 => 54 | 25 => 3 | 3 => 3 | 32 => 73 | 22 => 54 | 0 => 0 | 44 => 25 | 46 => 84 | 4 => 4 | 36 => 76 | 35 => 75 | 41 => 52 | 5 => 5 | 9 => 9 | 53 => 85 | 57 => 89 | 63 => 91 | 64 => 92 | n => n, fun | n => n⟩
theorem Try.sortI : Go.Proofs.SlLaysM.n5 Try.prog Try.sortI_ren := {
  mixed := by kernel_rfl
  f5 := ⟨Try.f41.name, by decide, Try.func41.trans (congrArg some (by kernel_rfl))⟩
  f7 := ⟨Try.f47.name, by decide, Try.func47.trans (congrArg some (by kernel_rfl))⟩
  f8 := Try.func48.trans (congrArg some (by kernel_rfl))
  f10 := ⟨Try.f50.name, by decide, Try.func50.trans (congrArg some (by kernel_rfl))⟩
  f11 := ⟨Try.f51.name, by decide, Try.func51.trans (congrArg some (by kernel_rfl))⟩
  f12 := ⟨Try.f52.name, by decide, Try.func52.trans (congrArg some (by kernel_rfl))⟩
  f13 := ⟨Try.f53.name, by decide, Try.func53.trans (congrArg some (by kernel_rfl))⟩
  f14 := ⟨Try.f54.name, by decide, Try.func54.trans (congrArg some (by kernel_rfl))⟩
  f15 := ⟨Try.f55.name, by decide, Try.func55.trans (congrArg some (by kernel_rfl))⟩
  f16 := ⟨Try.f56.name, by decide, Try.func56.trans (congrArg some (by kernel_rfl))⟩
  f17 := ⟨Try.f57.name, by decide, Try.func57.trans (congrArg some (by kernel_rfl))⟩
  f18 := ⟨Try.f58.name, by decide, Try.func58.trans (congrArg some (by kernel_rfl))⟩
  f19 := Try.func59.trans (congrArg some (by kernel_rfl))
  f20 := Try.func60.trans (congrArg some (by kernel_rfl))
  f30 := ⟨Try.f61.name, by decide, Try.func61.trans (congrArg some (by kernel_rfl))⟩
  f31 := Try.func62.trans (congrArg some (by kernel_rfl))
  f32 := Try.func63.trans (congrArg some (by kernel_rfl))
  f33 := ⟨Try.f64.name, by decide, Try.func64.trans (congrArg some (by kernel_rfl))⟩
  f34 := ⟨Try.f65.name, by decide, Try.func65.trans (congrArg some (by kernel_rfl))⟩
  f35 := ⟨Try.f66.name, by decide, Try.func66.trans (congrArg some (by kernel_rfl))⟩
  f40 := ⟨Try.f67.name, by decide, Try.func67.trans (congrArg some (by kernel_rfl))⟩
  t0 := Try.underlying0
  a0 := Try.isAgg0
  z0 := Try.sizeOf0
  v0 := Try.zeroValue0
  t3 := Try.underlying3
  a3 := Try.isAgg3
  z3 := Try.sizeOf3
  v3 := Try.zeroValue3
  t4 := Try.underlying4
  a4 := Try.isAgg4
  z4 := Try.sizeOf4
  v4 := Try.zeroValue4
  t5 := Try.underlying5
  a5 := Try.isAgg5
  z5 := Try.sizeOf5
  v5 := Try.zeroValue5
  t9 := Try.underlying9
  a9 := Try.isAgg9
  z9 := Try.sizeOf9
  v9 := Try.zeroValue9
  t22 := Try.underlying54
  a22 := Try.isAgg54
  z22 := Try.sizeOf54
  v22 := Try.zeroValue54
  t23 := Try.underlying54
  a23 := Try.isAgg54
  z23 := Try.sizeOf54
  v23 := Try.zeroValue54
  t25 := Try.underlying3
  a25 := Try.isAgg3
  z25 := Try.sizeOf3
  v25 := Try.zeroValue3
  t32 := Try.underlying73
  a32 := Try.isAgg73
  z32 := Try.sizeOf73
  v32 := Try.zeroValue73
  t35 := Try.underlying75
  a35 := Try.isAgg75
  z35 := Try.sizeOf75
  v35 := Try.zeroValue75
  t36 := Try.underlying76
  a36 := Try.isAgg76
  z36 := Try.sizeOf76
  v36 := Try.zeroValue76
  t41 := Try.underlying52
  a41 := Try.isAgg52
  z41 := Try.sizeOf52
  v41 := Try.zeroValue52
  t44 := Try.underlying25
  a44 := Try.isAgg25
  z44 := Try.sizeOf25
  v44 := Try.zeroValue25
  t46 := Try.underlying84
  a46 := Try.isAgg84
  z46 := Try.sizeOf84
  v46 := Try.zeroValue84
  t53 := Try.underlying85
  a53 := Try.isAgg85
  z53 := Try.sizeOf85
  v53 := Try.zeroValue85
  t57 := Try.underlying89
  a57 := Try.isAgg89
  z57 := Try.sizeOf89
  v57 := Try.zeroValue89
  t63 := Try.underlying91
  a63 := Try.isAgg91
  z63 := Try.sizeOf91
  v63 := Try.zeroValue91
  t64 := Try.underlying92
  a64 := Try.isAgg92
  z64 := Try.sizeOf92
  v64 := Try.zeroValue92 }
end Go.Proofs.Ytepefocpeeihdaa

/- The keys of a map whose keys are ints, sorted: slices.Sorted(maps.Keys(m)). -/
namespace Go.Proofs.Ytepefocpeeihdaa
set_option linter.unusedVariables false
set_option linter.unusedSimpArgs false
open Go Go.RowKit Go.Maps Go.Sort Go.Shelf

theorem row_le {w : World} {base : Nat} {e : TypeId} {size n c : Nat} {A : Option Addr} {xs : List Value} (h : w.ownsRow base e size (.slice A n c) n xs) : n ≤ c := by
  rcases h.2 with ⟨e, h0⟩ | ⟨g, cap, cur, e, hx⟩
  · cases e; omega
  · cases e; exact hx.2.2.1
theorem sortsI (m : Nat) : AnyZI.SortsIn Try.prog Try.sortedI_ren Fence.wide m :=
  ⟨fun blk off cap ss W hH hblk hsz => callsIn_wide.2 (AnyM.slices_Sort_int Try.sortI blk off cap ss W hH hblk hsz),
   fun p cap W => callsIn_wide.2 (AnyM.slices_Sort_int_none Try.sortI p cap W)⟩
/-- The keys of a map, sorted, are handed back in memory of the call's own. -/
def GivesK (w0 : Nat) (l : List Int) (e : Ending) (W w' : World) : Prop :=
  ∃ A c, e = .returned (.slice A l.length c) ∧ Sees w' w'.heap.size A (l.map fun x => Value.int .i64 x) ∧ l.length ≤ c ∧ Below W.heap.size W w'
theorem keysT_any (b : Nat) (W : World) : Calls Try.prog 30 #[.map (some b)] W fun e w' =>
    e = .returned (.func (.func 42) #[] #[.pointer (some ⟨W.heap.size, 0, none⟩)]) ∧ w' = W.alloc (.cells #[.map (some b)] 53) :=
  (callsIn_wide (n := 5)).1 (AnyZI.keys_in Try.keysT Fence.wide 5 trivial rfl (some b) W)
theorem sortedT_any {α : Type} (f : α → Value) (b N : Nat) (m : KV α) (w : World) (hr : KRise m) (hI : MapI Try.prog 3 w b N (vmap f m)) (hm : m.length ≤ 65536) :
    Calls Try.prog 29 #[.func (.func 42) #[] #[.pointer (some ⟨w.heap.size, 0, none⟩)]] (w.alloc (.cells #[.map (some b)] 53)) fun e w' =>
      GivesK w.heap.size (m.map (·.1)) e (w.alloc (.cells #[.map (some b)] 53)) w' := by
  refine (callsIn_wide (n := 5)).1 ?_
  have hown := hI.own
  have hbl := hown.lt
  have hsz : Maps.size (DataW.map ((vmap f m).map mlit) : DataW Value) = m.length := vmap_size f m
  have hseq : SeqGives Fence.wide 2 Try.prog 42 #[.pointer (some ⟨w.heap.size, 0, none⟩)] encZ (fun ss => ss.Perm (intKeys (DataW.map ((vmap f m).map mlit) : DataW Value))) (Maps.size (DataW.map ((vmap f m).map mlit) : DataW Value)) (w.alloc (.cells #[.map (some b)] 53)) :=
    AnyZI.keys_gives (ρ := Try.keysT_ren) { Try.keysT with } Fence.wide _ trivial rfl (by omega) w.heap.size b N _ _ (by simp) (by simp) (by
      obtain ⟨es, clock, hb, Ft, hs, hD⟩ := hown
      exact ⟨es, clock, (Below.heap_alloc _ _ b hbl).trans hb, Ft, hs, hD⟩)
  refine (AnyZI.sorted_in Try.sortedI Fence.wide 5 trivial trivial trivial trivial rfl (by omega) (sortsI _) (enters_of Try.func41 (by kernel_rfl) rfl) 42 #[.pointer (some ⟨w.heap.size, 0, none⟩)] trivial (enters_of Try.func42 (by kernel_rfl) rfl) _ _ (by rw [hsz]; unfold maxLen; omega) (by rw [hsz]; omega) _ hseq).mono ?_
  rintro e w' ⟨v, ss, rfl, hp, hrow, hnil, hb⟩
  have hl : ss.length = (m.map (·.1)).length := by
    have := hp.length_eq
    rw [vmap_keys] at this
    exact this
  rw [keys_sorted f hr hp] at hrow
  obtain ⟨A, c, rfl⟩ := row_form hrow
  refine ⟨A, c, by rw [hl], row_sees hrow, by rw [← hl]; exact row_le hrow, hb⟩
end Go.Proofs.Ytepefocpeeihdaa
