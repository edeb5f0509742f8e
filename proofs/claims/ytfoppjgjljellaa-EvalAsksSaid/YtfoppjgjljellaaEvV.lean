/- Less and Holds of values: what both sides return (of ValB, ValC, ValD, ValF, ValH, Door). -/
import Derived.Test.YtfoppjgjljellaaPrdQ
import Derived.Test.YtfoppjgjljellaaShelf
import Derived.Lib.ConvBytes
import Derived.Lib.IndexMore
import Derived.Lib.IndexBytes
namespace Go.Proofs.Ytfoppjgjljellaa
set_option linter.unusedVariables false
set_option linter.unusedSimpArgs false
open Go Go.RowKit BitM ValM

set_option maxRecDepth 100000 in
set_option maxHeartbeats 1600000 in
theorem vless_any (a b : V3) (w : World) : Calls Try.prog 70 #[.agg (vcells a).toArray, .agg (vcells b).toArray] w fun e w' => e = .returned (.bool (vless a b)) ∧ Below w.heap.size w w' := by
  have HC := Lib.hid (fun wx : World => vcompare_any a b wx)
  have hu := Try.underlying25
  obtain ⟨W, hW, B0, B1, hb⟩ := two_boxes a b w
  have R0 := B0.valR
  have R1 := B1.valR
  have p0 : W.cell? ⟨w.heap.size, 0, none⟩ = some (.int .i64 a.1) := B0.val.1
  have q0 : W.cell? ⟨w.heap.size + 1, 0, none⟩ = some (.int .i64 b.1) := B1.val.1
  clear B0 B1
  obtain ⟨ca, hca⟩ : ∃ ca, ca = (vcells a).toArray := ⟨_, rfl⟩
  obtain ⟨cb, hcb⟩ : ∃ cb, cb = (vcells b).toArray := ⟨_, rfl⟩
  rw [← hca, ← hcb] at hW
  rw [← hca, ← hcb]
  have HW := Lib.hid hW
  clear hca hcb hW
  rw [HW.out] at R0 R1 p0 q0 hb
  have HV : Hid (vless a b = if a.1 = b.1 ∧ (a.1 = 1 ∨ a.1 = 2) then decide (vcmp a b < 0) else false) := Lib.hid rfl
  obtain ⟨v, hv⟩ : ∃ v, v = vless a b := ⟨_, rfl⟩
  rw [← hv] at HV ⊢
  obtain ⟨r, hr⟩ : ∃ r, r = vcmp a b := ⟨_, rfl⟩
  rw [← hr] at HC HV
  obtain ⟨k, hk⟩ : ∃ k, k = a.1 := ⟨_, rfl⟩
  obtain ⟨k', hk'⟩ : ∃ k', k' = b.1 := ⟨_, rfl⟩
  rw [← hk] at p0 HV
  rw [← hk'] at q0 HV
  clear hv hr hk hk' HW
  have hb2 := Lib.hid hb
  clear hb
  by_cases h1 : k = k'
  · subst h1
    by_cases h2 : k = 1 ∨ k = 2
    · have HL : Hid (v = decide (r < 0)) := Lib.hid (by rw [HV.out, if_pos ⟨rfl, h2⟩])
      clear HV
      rcases h2 with rfl | rfl
      all_goals
        go_enter Try.func70, Try.ntmps70
        go_wp2_with (first
          | (refine wpList_load_mid rfl 25 (.tmp 2) rfl w.heap.size 0 rfl (vcells a) _ R0 hu rfl info_val ?_)
          | (refine wpList_load_mid rfl 25 (.tmp 3) rfl (w.heap.size + 1) 0 rfl (vcells b) _ R1 hu rfl info_val ?_))
        refine (HC.out _).mono ?_
        rintro e w1 ⟨rfl, hb3⟩
        have hb4 := hb2.out.trans (hb3.mono hb2.out.size)
        clear R0 R1 p0 q0
        go_wp2_with fail
        go_ret
        exact ⟨by rw [HL.out]; rfl, hb4⟩
    · have HL : Hid (v = false) := Lib.hid (by rw [HV.out, if_neg (fun h => h2 h.2)])
      have b1 : (k != 1) = true := by simp; intro e; exact h2 (.inl e)
      have b2 : (k != 2) = true := by simp; intro e; exact h2 (.inr e)
      clear h2 HV
      go_enter Try.func70, Try.ntmps70
      go_wp2_with fail
      go_ret
      exact ⟨by rw [HL.out]; rfl, hb2.out⟩
  · have HL : Hid (v = false) := Lib.hid (by rw [HV.out, if_neg (fun h => h1 h.1)])
    have b1 : (k != k') = true := by simpa using h1
    clear h1 HV
    go_enter Try.func70, Try.ntmps70
    go_wp2_with fail
    go_ret
    exact ⟨by rw [HL.out]; rfl, hb2.out⟩

/-- A block of bytes that a conversion made. -/
def FB (w : World) (g : Nat) (l : List UInt8) : Prop := ∃ (rest : List Value) (e : TypeId), w.heap[g]? = some (.cells (bvs l ++ rest).toArray e ((bvs l ++ rest).length, (bvs l ++ rest).length + 1))
section
variable {w w' : World} {g : Nat} {l : List UInt8}
theorem FB.lt (h : FB w g l) : g < w.heap.size := by
  obtain ⟨r, e, h⟩ := h
  exact (Array.getElem?_eq_some_iff.1 h).1
theorem FB.cell (h : FB w g l) (j : Nat) (hj : j < l.length) : w.cell? ⟨g, j, none⟩ = some (.int .u8 (l[j].toNat : Int)) := by
  obtain ⟨r, e, h⟩ := h
  have hb : j < (bvs l).length := by rw [bvs_length]; exact hj
  simp only [World.cell?, h, List.getElem?_toArray, List.getElem?_append_left hb]
  simp [bvs, bv, hj]
theorem FB.frozen (h : FB w g l) (j : Nat) (hj : j < l.length) : w.frozen? ⟨g, j, none⟩ = false := by
  obtain ⟨r, e, h⟩ := h
  have hb : j < (bvs l).length := by rw [bvs_length]; exact hj
  simp [World.frozen?, h]
  omega
theorem FB.set (h : FB w g l) (j : Nat) (c : UInt8) (hj : j < l.length) : FB (w.setCell ⟨g, j, none⟩ (.int .u8 (c.toNat : Int))) g (l.set j c) := by
  have hlt := h.lt
  obtain ⟨r, e, h⟩ := h
  refine ⟨r, e, ?_⟩
  obtain ⟨h1, h2⟩ := Array.getElem?_eq_some_iff.1 h
  show (w.heap.modify g _)[g]? = _
  rw [Array.getElem?_eq_getElem (by rw [Array.size_modify]; exact hlt), Array.getElem_modify_self, h2]
  have hb : j < (bvs l).length := by rw [bvs_length]; exact hj
  have e1 : bvs (l.set j c) = (bvs l).set j (.int .u8 (c.toNat : Int)) := by simp [bvs, bv, List.map_set]
  rw [e1]
  simp [List.set_append_left _ _ hb]
theorem FB.new (w : World) (e : TypeId) (s : ByteArray) : FB (Lib.bytesWorld w e s) w.heap.size s.data.toList := by
  refine ⟨List.replicate (grownCap w s.size 0 e - s.size) (Value.int .u8 0), e, ?_⟩
  rw [Lib.bytesWorld_at_new]
  have : Lib.bytesCells w e s = (bvs s.data.toList ++ List.replicate (grownCap w s.size 0 e - s.size) (Value.int .u8 0)).toArray := by
    unfold Lib.bytesCells bvs bv
    apply Array.ext'
    simp
  rw [this]
  simp
end
theorem below_bytes (w : World) (e : TypeId) (s : ByteArray) : Below w.heap.size w (Lib.bytesWorld w e s) := by
  refine ⟨?_, ?_, ?_, by rw [Lib.bytesWorld_size]; omega, fun k hk => Lib.bytesWorld_at_old w e s k hk⟩ <;> (unfold Lib.bytesWorld World.freeze; split <;> rfl)
theorem fold_step (l : List UInt8) (k : Nat) (h : k < l.length) : ((l.take k).map lowB ++ l.drop k).set k (lowB l[k]) = (l.take (k + 1)).map lowB ++ l.drop (k + 1) := by
  have hl : ((l.take k).map lowB).length = k := by rw [List.length_map, List.length_take]; omega
  rw [List.set_append_right _ _ (by omega), hl, Nat.sub_self, List.drop_eq_getElem_cons h, List.set_cons_zero, List.take_succ_eq_append_getElem h, List.map_append]
  simp
theorem mid_len (l : List UInt8) (k : Nat) (h : k ≤ l.length) : ((l.take k).map lowB ++ l.drop k).length = l.length := by simp; omega
theorem mid_get (l : List UInt8) (k : Nat) (h : k < l.length) (h2 : k < ((l.take k).map lowB ++ l.drop k).length) : ((l.take k).map lowB ++ l.drop k)[k] = l[k] := by
  have hl : ((l.take k).map lowB).length = k := by rw [List.length_map, List.length_take]; omega
  rw [List.getElem_append_right (by omega)]
  simp only [hl, Nat.sub_self, List.getElem_drop, Nat.add_zero]

set_option maxRecDepth 100000 in
set_option maxHeartbeats 1600000 in
theorem vfold_any (s : ByteArray) (w : World) (hs : s.size ≤ maxLen) : Calls Try.prog 80 #[.string s] w fun e w' => e = .returned (.string (str (fold s.data.toList))) ∧ Below w.heap.size w w' := by
  unfold maxLen at hs
  have hcv := Lib.run_convert_string_bytes (P := Try.prog) w 9 101 5 s Try.underlying9 Try.underlying101 Try.underlying5
  have hF := FB.new w 5 s
  have hb := below_bytes w 5 s
  obtain ⟨C, hC⟩ : ∃ C, C = grownCap w s.size 0 5 := ⟨_, rfl⟩
  rw [← hC] at hcv
  clear hC
  generalize hW : Lib.bytesWorld w 5 s = W at *
  clear hW
  have HN : Hid (s.data.toList.length = s.size) := Lib.hid (by simp)
  obtain ⟨l, hl⟩ : ∃ l, l = s.data.toList := ⟨_, rfl⟩
  rw [← hl] at hF HN ⊢
  clear hl
  obtain ⟨n, hn⟩ : ∃ n, n = s.size := ⟨_, rfl⟩
  rw [← hn] at hcv HN hs
  obtain ⟨u, hu⟩ : ∃ u, u = str (fold l) := ⟨_, rfl⟩
  rw [← hu]
  have HUU := Lib.hid hu
  clear hn hu
  go_enter Try.func80, Try.ntmps80
  go_wp2_with fail
  go_loopw [10] (fun i wr => ∃ k : Nat, k ≤ n ∧ i = .int .i64 k ∧ FB wr w.heap.size ((l.take k).map lowB ++ l.drop k) ∧ Below w.heap.size w wr) (fun i _ => n - (intOf i).toNat)
  case atStart => exact ⟨0, Nat.zero_le _, rfl, by simpa using hF, hb⟩
  case round =>
    obtain ⟨k, hk, rfl, hf, hbr⟩ := hrel
    clear hF hb hcv
    by_cases hlt : k < n
    · have hkl : k < l.length := by rw [HN.out]; exact hlt
      have hkm : k < ((l.take k).map lowB ++ l.drop k).length := by rw [mid_len l k (by omega)]; exact hkl
      have hc := hf.cell k hkm
      have hz := hf.frozen k hkm
      rw [mid_get l k hkl hkm] at hc
      have HS := Lib.hid (hf.set k (lowB l[k]) hkm)
      rw [fold_step l k hkl] at HS
      obtain ⟨c, hcd⟩ : ∃ c : UInt8, c = l[k] := ⟨_, rfl⟩
      rw [← hcd] at hc HS
      have HCD : Hid (c = l[k]) := Lib.hid hcd
      have hbs : Below w.heap.size w (wr.setCell ⟨w.heap.size, k, none⟩ (.int .u8 ((lowB c).toNat : Int))) := hbr.setCell (Nat.le_refl _) _
      clear hcd hkm
      by_cases hu : 65 ≤ c.toNat ∧ c.toNat ≤ 90
      · have HU := Lib.hid (lowB_up hu.1 hu.2)
        rw [HU.out] at HS hbs
        obtain ⟨h1, h2⟩ := hu
        obtain ⟨m, hm⟩ : ∃ m, m = c.toNat := ⟨_, rfl⟩
        rw [← hm] at hc HS hbs h1 h2
        have HBS := Lib.hid hbs
        clear HU hm hf hbs
        have h1' : (65 : Int) ≤ (m : Int) := by omega
        have h2' : (m : Int) ≤ 90 := by omega
        have e32 : (m : Int) + 97 - 65 = ((m + 32 : Nat) : Int) := by omega
        have E32 := Lib.hid e32
        clear e32
        go_wp2_with fail
        go_roundw
        case rel =>
          refine ⟨k + 1, by omega, by go_num, ?_, ?_⟩
          · rw [E32.out]; exact HS.out
          · rw [E32.out]; exact HBS.out
        case measure => simp [intOf]; omega
      · have HE : Hid ((l.take k).map lowB ++ l.drop k = (l.take (k + 1)).map lowB ++ l.drop (k + 1)) := Lib.hid (by
          rw [← fold_step l k hkl, ← HCD.out, lowB_same hu, HCD.out, ← mid_get l k hkl (by rw [mid_len l k (by omega)]; exact hkl), List.set_getElem_self])
        have hf2 := hf
        rw [HE.out] at hf2
        have HF2 := Lib.hid hf2
        clear hf hf2 HS hbs
        obtain ⟨m, hm⟩ : ∃ m, m = c.toNat := ⟨_, rfl⟩
        rw [← hm] at hc hu
        clear hm
        by_cases h1 : 65 ≤ m
        · have h1' : (65 : Int) ≤ (m : Int) := by omega
          have h2' : (90 : Int) < (m : Int) := by omega
          clear hu h1
          go_wp2_with fail
          go_roundw
          case rel => exact ⟨k + 1, by omega, by go_num, HF2.out, hbr⟩
          case measure => simp [intOf]; omega
        · have h1' : (m : Int) < 65 := by omega
          clear hu h1
          go_wp2_with fail
          go_roundw
          case rel => exact ⟨k + 1, by omega, by go_num, HF2.out, hbr⟩
          case measure => simp [intOf]; omega
    · obtain rfl : k = n := by omega
      have hl2 : (l.take k).map lowB ++ l.drop k = fold l := by
        rw [← HN.out, List.take_length, List.drop_length, List.append_nil]; rfl
      rw [hl2] at hf
      have HFL : Hid ((fold l).length = k) := Lib.hid (by unfold fold; rw [List.length_map, HN.out])
      have hback := run_convert_bytes_back (P := Try.prog) wr 101 9 5 ⟨w.heap.size, 0, none⟩ C (fold l) Try.underlying101 Try.underlying5 Try.underlying9 (fun j hj => by rw [add_at, Nat.zero_add]; exact hf.cell j hj)
      rw [HFL.out] at hback
      have e0 : ({ data := (fold l).toArray } : ByteArray) = str (fold l) := rfl
      rw [e0, ← HUU.out] at hback
      clear hf hl2 e0
      go_wp2_with fail
      go_ret
      exact ⟨rfl, hbr⟩
theorem max_block {W : World} {m : Int} (h : W.cell? ⟨0, 0, none⟩ = some (.int .i64 m)) : 0 < W.heap.size := by
  rcases Nat.eq_zero_or_pos W.heap.size with e | e
  · exfalso
    have : W.heap[0]? = none := Array.getElem?_eq_none (by omega)
    simp [World.cell?, this] at h
  · exact e
theorem max_later {B : Nat} {W W' : World} {m : Int} (h : W.cell? ⟨0, 0, none⟩ = some (.int .i64 m)) (hb : Below W.heap.size W W') : W'.cell? ⟨0, 0, none⟩ = some (.int .i64 m) :=
  (hb.cell (p := ⟨0, 0, none⟩) (max_block h)).trans h
def MaxV (m : Int) (w : World) : Prop := w.cell? ⟨0, 0, none⟩ = some (.int .i64 m)
theorem MaxV.later {m : Int} {w w' : World} (h : MaxV m w) (hb : Below w.heap.size w w') : MaxV m w' := max_later (B := 0) h hb

set_option maxRecDepth 100000 in
set_option maxHeartbeats 3200000 in
theorem vholds_any (a b : V3) (mm : Int) (w : World) (hs : a.2.2.size ≤ 1000) (hs' : b.2.2.size ≤ 1000) (hmm : MaxV mm w) :
    Calls Try.prog 71 #[.agg (vcells a).toArray, .agg (vcells b).toArray] w fun e w' => e = .returned (.bool (vholds a b)) ∧ Below w.heap.size w w' := by
  obtain ⟨k, n, s⟩ := a
  obtain ⟨k', n', s'⟩ := b
  have HF1 := Lib.hid (fun wx : World => vfold_any s wx (by simp only at hs; unfold maxLen; omega))
  have HF2 := Lib.hid (fun wx : World => vfold_any s' wx (by simp only at hs'; unfold maxLen; omega))
  have HC := Lib.hid (fun (wx : World) (hm : MaxV mm wx) => (Try.strings_Contains (str (fold s.data.toList)) (str (fold s'.data.toList)) mm wx (by rw [str_size]; unfold fold; rw [List.length_map]; simp only at hs; simp; omega) hm).mono fun e w' (h : e = .returned (.bool (Lib.contains (fold s.data.toList) (fold s'.data.toList))) ∧ w' = wx) => (show e = .returned (.bool (Lib.contains (fold s.data.toList) (fold s'.data.toList))) ∧ Below wx.heap.size wx w' from ⟨h.1, h.2 ▸ Below.refl _ _⟩))
  have HV : Hid (vholds (k, n, s) (k', n', s') = (decide (k = 2) && decide (k' = 2) && Lib.contains (fold s.data.toList) (fold s'.data.toList))) := Lib.hid rfl
  obtain ⟨v, hv⟩ : ∃ v, v = vholds (k, n, s) (k', n', s') := ⟨_, rfl⟩
  rw [← hv] at HV ⊢
  obtain ⟨cn, hcn⟩ : ∃ cn, cn = Lib.contains (fold s.data.toList) (fold s'.data.toList) := ⟨_, rfl⟩
  rw [← hcn] at HV HC
  obtain ⟨u, hu⟩ : ∃ u, u = str (fold s.data.toList) := ⟨_, rfl⟩
  rw [← hu] at HF1 HC
  obtain ⟨u', hu'⟩ : ∃ u', u' = str (fold s'.data.toList) := ⟨_, rfl⟩
  rw [← hu'] at HF2 HC
  obtain ⟨W, hW, B0, B1, hb⟩ := two_boxes (k, n, s) (k', n', s') w
  obtain ⟨ca, hca⟩ : ∃ ca, ca = (vcells (k, n, s)).toArray := ⟨_, rfl⟩
  obtain ⟨cb, hcb⟩ : ∃ cb, cb = (vcells (k', n', s')).toArray := ⟨_, rfl⟩
  rw [← hca, ← hcb] at hW
  rw [← hca, ← hcb]
  have HW := Lib.hid hW
  clear hv hcn hu hu' hca hcb hW hs hs'
  go_enter Try.func71, Try.ntmps71
  go_wp2_with fail
  rw [← HW.out]
  by_cases hk : k = 2
  · subst hk
    by_cases hk' : k' = 2
    · subst hk'
      have p0 : ∀ kk : LW W, kk.val.cell? ⟨w.heap.size, 0, none⟩ = some (.int .i64 2) := fun kk => (B0.later kk.le).val.1
      have p2 : ∀ kk : LW W, kk.val.cell? ⟨w.heap.size, 2, none⟩ = some (.string s) := fun kk => (B0.later kk.le).val.2.2
      have q0 : ∀ kk : LW W, kk.val.cell? ⟨w.heap.size + 1, 0, none⟩ = some (.int .i64 2) := fun kk => (B1.later kk.le).val.1
      have q2 : ∀ kk : LW W, kk.val.cell? ⟨w.heap.size + 1, 2, none⟩ = some (.string s') := fun kk => (B1.later kk.le).val.2.2
      refine wp_region_steady [] 22 (by kernel_rfl) (by kernel_rfl) (by kernel_rfl) (by rfl) ?_
      iterate 9 (refine wpG_quiet (by rfl) (by rfl) (by rfl) (fun K hK => ?_); go_big_quiet_op; refine hK _ ?_; clear hK K)
      iterate 2 (refine wpG_quiet (by rfl) (by rfl) (by rfl) (fun K hK => ?_); go_big_quiet_op; refine hK _ ?_; clear hK K)
      refine wpG_call (by rfl) (by rfl) 80 #[.string s] (.string u) (by intro _; simp [go_sem]) (by kernel_rfl) (fun w1 hl => (HF1.out w1)) ?_
      simp only [Act.put, List.setIfInBounds_toArray, List.set_cons_zero, List.set_cons_succ]
      iterate 2 (refine wpG_quiet (by rfl) (by rfl) (by rfl) (fun K hK => ?_); go_big_quiet_op; refine hK _ ?_; clear hK K)
      refine wpG_call (by rfl) (by rfl) 80 #[.string s'] (.string u') (by intro _; simp [go_sem]) (by kernel_rfl) (fun w1 hl => (HF2.out w1)) ?_
      simp only [Act.put, List.setIfInBounds_toArray, List.set_cons_zero, List.set_cons_succ]
      refine wpG_call (by rfl) (by rfl) 79 #[.string u, .string u'] (.bool cn) (by intro _; simp [go_sem]) (by kernel_rfl) (fun w1 hl => (HC.out w1 (hmm.later (hb.trans (hl.1.mono hb.size))))) ?_
      simp only [Act.put, List.setIfInBounds_toArray, List.set_cons_zero, List.set_cons_succ]
      iterate 2 (refine wpG_quiet (by rfl) (by rfl) (by rfl) (fun K hK => ?_); go_big_quiet_op; refine hK _ ?_; clear hK K)
      refine wpG_nil fun w1 hl _ => ?_
      have hb1 := hb.trans (hl.mono hb.size)
      clear p0 q0 p2 q2 B0 B1 hb
      go_wp2_with fail
      go_ret
      exact ⟨by rw [HV.out]; rfl, hb1⟩
    · have b1 : (k' == 2) = false := by simpa using hk'
      rw [decide_eq_false hk', Bool.and_false, Bool.false_and] at HV
      have p0 : ∀ kk : LW W, kk.val.cell? ⟨w.heap.size, 0, none⟩ = some (.int .i64 2) := fun kk => (B0.later kk.le).val.1
      have p2 : True := trivial
      have q0 : ∀ kk : LW W, kk.val.cell? ⟨w.heap.size + 1, 0, none⟩ = some (.int .i64 k') := fun kk => (B1.later kk.le).val.1
      have q2 : True := trivial
      clear hk'
      refine wp_region_steady [] 22 (by kernel_rfl) (by kernel_rfl) (by kernel_rfl) (by rfl) ?_
      iterate 9 (refine wpG_quiet (by rfl) (by rfl) (by rfl) (fun K hK => ?_); go_big_quiet_op; refine hK _ ?_; clear hK K)
      iterate 7 (refine wpG_skip (by rfl) ?_; simp only [Act.put, List.setIfInBounds_toArray, List.set_cons_zero, List.set_cons_succ])
      iterate 2 (refine wpG_quiet (by rfl) (by rfl) (by rfl) (fun K hK => ?_); go_big_quiet_op; refine hK _ ?_; clear hK K)
      refine wpG_nil fun w1 hl _ => ?_
      have hb1 := hb.trans (hl.mono hb.size)
      clear p0 q0 p2 q2 B0 B1 hb
      go_wp2_with fail
      go_ret
      exact ⟨by rw [HV.out]; rfl, hb1⟩
  · have b1 : (k == 2) = false := by simpa using hk
    rw [decide_eq_false hk, Bool.false_and, Bool.false_and] at HV
    have p0 : ∀ kk : LW W, kk.val.cell? ⟨w.heap.size, 0, none⟩ = some (.int .i64 k) := fun kk => (B0.later kk.le).val.1
    have p2 : True := trivial
    have q0 : True := trivial
    have q2 : True := trivial
    clear hk
    refine wp_region_steady [] 22 (by kernel_rfl) (by kernel_rfl) (by kernel_rfl) (by rfl) ?_
    iterate 4 (refine wpG_quiet (by rfl) (by rfl) (by rfl) (fun K hK => ?_); go_big_quiet_op; refine hK _ ?_; clear hK K)
    iterate 3 (refine wpG_skip (by rfl) ?_; simp only [Act.put, List.setIfInBounds_toArray, List.set_cons_zero, List.set_cons_succ])
    iterate 2 (refine wpG_quiet (by rfl) (by rfl) (by rfl) (fun K hK => ?_); go_big_quiet_op; refine hK _ ?_; clear hK K)
    iterate 7 (refine wpG_skip (by rfl) ?_; simp only [Act.put, List.setIfInBounds_toArray, List.set_cons_zero, List.set_cons_succ])
    iterate 2 (refine wpG_quiet (by rfl) (by rfl) (by rfl) (fun K hK => ?_); go_big_quiet_op; refine hK _ ?_; clear hK K)
    refine wpG_nil fun w1 hl _ => ?_
    have hb1 := hb.trans (hl.mono hb.size)
    clear p0 q0 p2 q2 B0 B1 hb
    go_wp2_with fail
    go_ret
    exact ⟨by rw [HV.out]; rfl, hb1⟩

theorem digit_str (w : World) (x : Int) (m : Nat) (hm : m < 256) (hx : x = (m : Int)) :
    (convert 101 9 (.slice (some ⟨w.heap.size, 0, none⟩) 1 1)).run Try.prog (w.alloc (.cells #[.int .u8 x] 5)) = .ok (.string (str [UInt8.ofNat m])) (w.alloc (.cells #[.int .u8 x] 5)) :=
  run_str (P := Try.prog) _ (w.heap.size + 1) 101 5 9 Try.underlying101 Try.underlying5 Try.underlying9 _ 1 1 [UInt8.ofNat m] rfl
    (by subst hx; exact sees_lit w #[.int .u8 (m : Int)] 5 (0, 0) (bvs [UInt8.ofNat m]) (by simp [bvs, bv, UInt8.toNat_ofNat', Nat.mod_eq_of_lt hm]))

theorem rlow_any (c : UInt8) (w : World) : Calls Try.prog 73 #[.int .u8 (c.toNat : Int)] w fun e w' => e = .returned (.int .u8 ((lowB c).toNat : Int)) ∧ w = w' := by
  obtain ⟨r, hr⟩ : ∃ r, r = (lowB c).toNat := ⟨_, rfl⟩
  have hc : c.toNat < 256 := UInt8.toNat_lt c
  by_cases hu : 65 ≤ c.toNat ∧ c.toNat ≤ 90
  · rw [lowB_up hu.1 hu.2] at hr
    rw [lowB_up hu.1 hu.2]
    obtain ⟨h1, h2⟩ := hu
    obtain ⟨m, hm⟩ : ∃ m, m = c.toNat := ⟨_, rfl⟩
    rw [← hm] at h1 h2 ⊢
    have h1' : (65 : Int) ≤ (m : Int) := by omega
    have h2' : (m : Int) ≤ 90 := by omega
    clear hm hc hr
    go_enter Try.func73, Try.ntmps73
    go_wp2_with fail
    go_ret
    exact ⟨by first | rfl | (simp; done), rfl⟩
  · rw [lowB_same hu]
    obtain ⟨m, hm⟩ : ∃ m, m = c.toNat := ⟨_, rfl⟩
    rw [← hm] at hu ⊢
    clear hm hc hr
    by_cases h1 : 65 ≤ m
    · have h1' : (65 : Int) ≤ (m : Int) := by omega
      have h2' : ¬ (m : Int) ≤ 90 := by omega
      clear hu h1
      go_enter Try.func73, Try.ntmps73
      go_wp2_with fail
      go_ret
      exact ⟨rfl, rfl⟩
    · have h1' : ¬ (65 : Int) ≤ (m : Int) := by omega
      clear hu h1
      go_enter Try.func73, Try.ntmps73
      go_wp2_with fail
      go_ret
      exact ⟨rfl, rfl⟩

set_option maxRecDepth 100000 in
set_option maxHeartbeats 1600000 in
theorem rfold_any (s : ByteArray) (w : World) (hs : s.size ≤ 1000) : Calls Try.prog 64 #[.string s] w fun e w' => e = .returned (.string (str (fold s.data.toList))) ∧ Below w.heap.size w w' := by
  have HN : Hid (s.data.toList.length = s.size) := Lib.hid (by simp)
  obtain ⟨u, hu⟩ : ∃ u, u = str (fold s.data.toList) := ⟨_, rfl⟩
  rw [← hu]
  have HUU := Lib.hid hu
  clear hu
  go_enter Try.func64, Try.ntmps64
  go_wp2_with fail
  go_loopw [4, 3] (fun i t wr => ∃ (k : Nat) (p : ByteArray), k ≤ s.size ∧ i = .int .i64 k ∧ t = .string p ∧ p.size = k ∧ Hid (p = str ((s.data.toList.take k).map lowB)) ∧ Below w.heap.size w wr) (fun i _ _ => s.size - (intOf i).toNat)
  case atStart => exact ⟨0, _, Nat.zero_le _, rfl, rfl, rfl, Lib.hid rfl, Below.refl _ _⟩
  case round =>
    obtain ⟨k, p, hk, rfl, rfl, hp, HP, hbr⟩ := hrel
    by_cases hlt : k < s.size
    · have HL := Lib.hid (fun wx : World => rlow_any s[k] wx)
      have HX := Lib.hid (take_byte s k hlt)
      obtain ⟨c, hc⟩ : ∃ c, c = s[k] := ⟨_, rfl⟩
      have HC := Lib.hid hc
      rw [← hc] at HX
      have hstr := digit_str wr ((lowB c).toNat : Int) (lowB c).toNat (UInt8.toNat_lt _) rfl
      rw [show UInt8.ofNat (lowB c).toNat = lowB c by simp] at hstr
      have hs1 : (str [lowB c]).size = 1 := str_size _
      obtain ⟨q, hq⟩ : ∃ q, q = str [lowB c] := ⟨_, rfl⟩
      rw [← hq] at hstr hs1
      have HQ := Lib.hid hq
      obtain ⟨m, hm⟩ : ∃ m, m = (lowB c).toNat := ⟨_, rfl⟩
      rw [← hm] at hstr
      have HL : Hid (∀ wx : World, Calls Try.prog 73 #[.int .u8 ((s[k]).toNat : Int)] wx fun e w' => e = .returned (.int .u8 (m : Int)) ∧ wx = w') := Lib.hid (by
        intro wx; rw [hm, hc]; exact rlow_any _ _)
      have hb2 : Below w.heap.size w (wr.alloc (.cells #[.int .u8 (m : Int)] 5)) := hbr.alloc hbr.size _
      have HB := Lib.hid hb2
      clear hc hq hm hb2 hbr
      go_wp2_with fail
      refine (HL.out _).mono ?_
      rintro e w' ⟨rfl, rfl⟩
      go_wp2_with fail
      go_roundw
      case rel =>
        refine ⟨k + 1, p ++ q, by omega, by go_num, rfl, ?_, Lib.hid ?_, HB.out⟩
        · rw [ByteArray.size_append]; omega
        · rw [HX.out, List.map_append, ← str_append, ← HP.out, HQ.out]; rfl
      case measure => simp [intOf]; omega
    · have hkk : k = s.size := by omega
      subst hkk
      have HE : Hid (p = u) := Lib.hid (by rw [HP.out, HUU.out, List.take_of_length_le (by rw [HN.out]; exact Nat.le_refl _)]; rfl)
      go_wp2_with fail
      go_ret
      exact ⟨by rw [HE.out]; rfl, hbr⟩
set_option maxRecDepth 100000 in
set_option maxHeartbeats 1600000 in
theorem rless_any (a b : V3) (w : World) (hsa : a.2.2.size ≤ 1000) (hsb : b.2.2.size ≤ 1000) : Calls Try.prog 45 #[.agg (vcells a).toArray, .agg (vcells b).toArray] w fun e w' => e = .returned (.bool (vless a b)) ∧ Below w.heap.size w w' := by
  have HC := Lib.hid (fun wx : World => rcompare_any a b wx hsa hsb)
  have hu := Try.underlying25
  obtain ⟨W, hW, B0, B1, hb⟩ := two_boxes a b w
  have R0 := B0.valR
  have R1 := B1.valR
  have p0 : W.cell? ⟨w.heap.size, 0, none⟩ = some (.int .i64 a.1) := B0.val.1
  have q0 : W.cell? ⟨w.heap.size + 1, 0, none⟩ = some (.int .i64 b.1) := B1.val.1
  clear B0 B1
  obtain ⟨ca, hca⟩ : ∃ ca, ca = (vcells a).toArray := ⟨_, rfl⟩
  obtain ⟨cb, hcb⟩ : ∃ cb, cb = (vcells b).toArray := ⟨_, rfl⟩
  rw [← hca, ← hcb] at hW
  rw [← hca, ← hcb]
  have HW := Lib.hid hW
  clear hca hcb hW
  rw [HW.out] at R0 R1 p0 q0 hb
  have HV : Hid (vless a b = if a.1 = b.1 ∧ (a.1 = 1 ∨ a.1 = 2) then decide (vcmp a b < 0) else false) := Lib.hid rfl
  obtain ⟨v, hv⟩ : ∃ v, v = vless a b := ⟨_, rfl⟩
  rw [← hv] at HV ⊢
  obtain ⟨r, hr⟩ : ∃ r, r = vcmp a b := ⟨_, rfl⟩
  rw [← hr] at HC HV
  obtain ⟨k, hk⟩ : ∃ k, k = a.1 := ⟨_, rfl⟩
  obtain ⟨k', hk'⟩ : ∃ k', k' = b.1 := ⟨_, rfl⟩
  rw [← hk] at p0 HV
  rw [← hk'] at q0 HV
  clear hv hr hk hk' HW
  have hb2 := Lib.hid hb
  clear hb
  by_cases h1 : k = k'
  · subst h1
    by_cases h2 : k = 1 ∨ k = 2
    · have HL : Hid (v = decide (r < 0)) := Lib.hid (by rw [HV.out, if_pos ⟨rfl, h2⟩])
      clear HV
      rcases h2 with rfl | rfl
      all_goals
        go_enter Try.func45, Try.ntmps45
        go_wp2_with (first
          | (refine wpList_load_g (by rfl) 25 (.tmp 2) rfl w.heap.size 0 rfl (vcells a) _ R0 hu rfl info_val ?_)
          | (refine wpList_load_g (by rfl) 25 (.tmp 3) rfl (w.heap.size + 1) 0 rfl (vcells b) _ R1 hu rfl info_val ?_))
        refine (HC.out _).mono ?_
        rintro e w1 ⟨rfl, hb3⟩
        have hb4 := hb2.out.trans (hb3.mono hb2.out.size)
        clear R0 R1 p0 q0
        go_wp2_with fail
        go_ret
        exact ⟨by rw [HL.out]; rfl, hb4⟩
    · have HL : Hid (v = false) := Lib.hid (by rw [HV.out, if_neg (fun h => h2 h.2)])
      have b1 : (k == 1) = false := by simp; intro e; exact h2 (.inl e)
      have b2 : (k == 2) = false := by simp; intro e; exact h2 (.inr e)
      clear h2 HV
      go_enter Try.func45, Try.ntmps45
      go_wp2_with fail
      go_ret
      exact ⟨by rw [HL.out]; rfl, hb2.out⟩
  · have HL : Hid (v = false) := Lib.hid (by rw [HV.out, if_neg (fun h => h1 h.1)])
    have b1 : (k == k') = false := by simpa using h1
    clear h1 HV
    go_enter Try.func45, Try.ntmps45
    go_wp2_with fail
    go_ret
    exact ⟨by rw [HL.out]; rfl, hb2.out⟩

theorem contains_hit {s t : List UInt8} {k : Nat} (hk : k ≤ s.length) (h : Lib.occAt s t k = true) (hn : ∀ j, j < k → Lib.occAt s t j = false) : Lib.contains s t = true := by
  unfold Lib.contains
  rw [Lib.index_first hk h hn, decide_eq_true_eq]
  omega
theorem contains_none {s t : List UInt8} {k : Nat} (hk : s.length < k + t.length) (hn : ∀ j, j < k → Lib.occAt s t j = false) : Lib.contains s t = false := by
  unfold Lib.contains
  rw [Lib.index_none (s := s) (sub := t) (fun j hj => by
    rcases Nat.lt_or_ge j k with h | h
    · exact hn j h
    · cases ho : Lib.occAt s t j
      · rfl
      · rcases Lib.occAt_room ho with h2 | h2
        · omega
        · rw [h2] at hk; simp at hk; omega)]
  rfl

set_option maxRecDepth 100000 in
set_option maxHeartbeats 3200000 in
theorem rholds_any (a b : V3) (w : World) (hs : a.2.2.size ≤ 1000) (hs' : b.2.2.size ≤ 1000) :
    Calls Try.prog 46 #[.agg (vcells a).toArray, .agg (vcells b).toArray] w fun e w' => e = .returned (.bool (vholds a b)) ∧ Below w.heap.size w w' := by
  obtain ⟨k, n, s⟩ := a
  obtain ⟨k', n', s'⟩ := b
  simp only at hs hs'
  have HF1 := Lib.hid (fun wx : World => rfold_any s wx hs)
  have HF2 := Lib.hid (fun wx : World => rfold_any s' wx hs')
  have HV : Hid (vholds (k, n, s) (k', n', s') = (decide (k = 2) && decide (k' = 2) && Lib.contains (fold s.data.toList) (fold s'.data.toList))) := Lib.hid rfl
  obtain ⟨v, hv⟩ : ∃ v, v = vholds (k, n, s) (k', n', s') := ⟨_, rfl⟩
  rw [← hv] at HV ⊢
  obtain ⟨cn, hcn⟩ : ∃ cn, cn = Lib.contains (fold s.data.toList) (fold s'.data.toList) := ⟨_, rfl⟩
  rw [← hcn] at HV
  have HCN := Lib.hid hcn
  have hz : (str (fold s.data.toList)).size ≤ 1000 := by rw [str_size]; unfold fold; rw [List.length_map]; simpa using hs
  have hz' : (str (fold s'.data.toList)).size ≤ 1000 := by rw [str_size]; unfold fold; rw [List.length_map]; simpa using hs'
  have HU1 : Hid ((str (fold s.data.toList)).data.toList = fold s.data.toList) := Lib.hid rfl
  have HU2 : Hid ((str (fold s'.data.toList)).data.toList = fold s'.data.toList) := Lib.hid rfl
  obtain ⟨u, hu⟩ : ∃ u, u = str (fold s.data.toList) := ⟨_, rfl⟩
  rw [← hu] at HF1 hz HU1
  obtain ⟨u', hu'⟩ : ∃ u', u' = str (fold s'.data.toList) := ⟨_, rfl⟩
  rw [← hu'] at HF2 hz' HU2
  rw [← HU1.out, ← HU2.out] at HCN
  obtain ⟨W, hW, B0, B1, hb⟩ := two_boxes (k, n, s) (k', n', s') w
  obtain ⟨p0, _, p2⟩ := B0.val
  obtain ⟨q0, _, q2⟩ := B1.val
  obtain ⟨ca, hca⟩ : ∃ ca, ca = (vcells (k, n, s)).toArray := ⟨_, rfl⟩
  obtain ⟨cb, hcb⟩ : ∃ cb, cb = (vcells (k', n', s')).toArray := ⟨_, rfl⟩
  rw [← hca, ← hcb] at hW
  rw [← hca, ← hcb]
  have HW := Lib.hid hW
  clear hv hcn hu hu' hca hcb hW hs hs' HU1 HU2
  have P2 : ∀ kk : LW W, kk.val.cell? ⟨w.heap.size, 2, none⟩ = some (.string s) := fun kk => (B0.later kk.le).val.2.2
  have Q2 : ∀ kk : LW W, kk.val.cell? ⟨w.heap.size + 1, 2, none⟩ = some (.string s') := fun kk => (B1.later kk.le).val.2.2
  rw [HW.out] at p0 p2 q0 q2 hb P2 Q2
  clear B0 B1 HW
  have hb2 := Lib.hid hb
  clear hb
  by_cases hk : k = 2
  · subst hk
    by_cases hk' : k' = 2
    · subst hk'
      have HL : Hid (v = cn) := Lib.hid (by rw [HV.out]; simp)
      clear HV
      go_enter Try.func46, Try.ntmps46
      go_wp2_with fail
      refine wp_region_steady [] 40 (by kernel_rfl) (by kernel_rfl) (by kernel_rfl) (by rfl) ?_
      iterate 2 (refine wpG_quiet (by rfl) (by rfl) (by rfl) (fun K hK => ?_); go_big_quiet_op; refine hK _ ?_; clear hK K)
      refine wpG_call (by rfl) (by rfl) 64 #[.string s] (.string u) (by intro _; simp [go_sem]) (by kernel_rfl) (fun w1 hl => (HF1.out w1)) ?_
      simp only [Act.put, List.setIfInBounds_toArray, List.set_cons_zero, List.set_cons_succ]
      iterate 2 (refine wpG_quiet (by rfl) (by rfl) (by rfl) (fun K hK => ?_); go_big_quiet_op; refine hK _ ?_; clear hK K)
      refine wpG_call (by rfl) (by rfl) 64 #[.string s'] (.string u') (by intro _; simp [go_sem]) (by kernel_rfl) (fun w1 hl => (HF2.out w1)) ?_
      simp only [Act.put, List.setIfInBounds_toArray, List.set_cons_zero, List.set_cons_succ]
      iterate 2 (refine wpG_quiet (by rfl) (by rfl) (by rfl) (fun K hK => ?_); go_big_quiet_op; refine hK _ ?_; clear hK K)
      refine wpG_nil fun w1 hl _ => ?_
      replace hb2 := Lib.hid (hb2.out.trans (hl.mono hb2.out.size))
      clear p0 p2 q0 q2 P2 Q2 hl
      go_wp2_with fail
      go_loop [7] (fun i => ∃ k : Nat, k ≤ 1001 ∧ k ≤ u.size + 1 ∧ i = .int .i64 k ∧ Hid (∀ j, j < k → Lib.occAt u.data.toList u'.data.toList j = false)) (fun i => 1001 - (intOf i).toNat)
      case atStart => exact ⟨0, by omega, by omega, rfl, Lib.hid (fun j hj => absurd hj (by omega))⟩
      case round =>
        obtain ⟨k, hk, hk2, rfl, HO⟩ := hrel
        have HS1 : Hid (u.data.toList.length = u.size) := Lib.hid (by simp)
        have HS2 : Hid (u'.data.toList.length = u'.size) := Lib.hid (by simp)
        by_cases hg : k + u'.size ≤ u.size
        · have hg1 : (k : Int) ≤ (u.size : Int) - (u'.size : Int) := by omega
          have hb1 : (k : Int) + (u'.size : Int) ≤ (u.size : Int) := by omega
          have hb3 : (k : Int) ≤ (k : Int) + (u'.size : Int) := by omega
          have hp := Lib.occ_of_piece u u' k hg
          have hpz : ((k : Int) + (u'.size : Int)).toNat = k + u'.size := by omega
          cases ho : Lib.occAt u.data.toList u'.data.toList k
          · rw [ho] at hp
            have hp2 := hp.symm
            have hp3 := hp2
            rw [← hpz] at hp3
            clear hpz
            have HO2 := Lib.hid ho
            clear hp ho
            go_wp2_with fail
            go_round
            case rel =>
              refine ⟨k + 1, by omega, by omega, by go_num, Lib.hid (fun j hj => ?_)⟩
              rcases Nat.lt_succ_iff_lt_or_eq.1 hj with h | h
              · exact HO.out j h
              · rw [h]; exact HO2.out
            case measure => simp [intOf]; omega
          · rw [ho] at hp
            have hp2 := hp.symm
            have hp3 := hp2
            rw [← hpz] at hp3
            clear hpz
            have HX : Hid (cn = true) := Lib.hid (by rw [HCN.out]; exact contains_hit (by rw [HS1.out]; omega) ho HO.out)
            clear hp ho
            go_wp2_with fail
            go_ret
            exact ⟨by rw [HL.out, HX.out]; rfl, hb2.out⟩
        · have hg1 : ¬ (k : Int) ≤ (u.size : Int) - (u'.size : Int) := by omega
          have HX : Hid (cn = false) := Lib.hid (by rw [HCN.out]; exact contains_none (by rw [HS1.out, HS2.out]; omega) HO.out)
          go_wp2_with fail
          go_ret
          exact ⟨by rw [HL.out, HX.out]; rfl, hb2.out⟩
    · have b1 : (k' != 2) = true := by simpa using hk'
      have HL : Hid (v = false) := Lib.hid (by rw [HV.out, decide_eq_false hk', Bool.and_false, Bool.false_and])
      clear HV hk'
      go_enter Try.func46, Try.ntmps46
      go_wp2_with fail
      go_ret
      exact ⟨by rw [HL.out]; rfl, hb2.out⟩
  · have b1 : (k != 2) = true := by simpa using hk
    have HL : Hid (v = false) := Lib.hid (by rw [HV.out, decide_eq_false hk, Bool.false_and, Bool.false_and])
    clear HV hk
    go_enter Try.func46, Try.ntmps46
    go_wp2_with fail
    go_ret
    exact ⟨by rw [HL.out]; rfl, hb2.out⟩
end Go.Proofs.Ytfoppjgjljellaa
