/- Fold, Holds, and texts in quotes: what each returns. -/
import Derived.Test.YtgdidamjgaegkaaDoorValB
import Derived.Test.YtgdidamjgaegkaaDoorTxtA
import Derived.Lib.ConvBytes
namespace Go.Proofs.YtgdidamjgaegkaaDoor
set_option linter.unusedVariables false
open Go Go.RowKit BitM ValM

/-- A block of bytes that a conversion made. -/
def FB (w : World) (g : Nat) (l : List UInt8) : Prop := ∃ (rest : List Value) (e : TypeId), w.heap[g]? = some (.cells (bvs l ++ rest).toArray e ((bvs l ++ rest).length, (bvs l ++ rest).length + 1))
section
variable {w w' : World} {g : Nat} {l : List UInt8}
theorem FB.lt (h : FB w g l) : g < w.heap.size := by
  obtain ⟨r, e, h⟩ := h
  exact (Array.getElem?_eq_some_iff.1 h).1
theorem FB.cell (h : FB w g l) (j : Nat) (hj : j < l.length) : w.cell? ⟨g, j, none⟩ = some (.int .u8 (l[j].toNat : Int)) := by
  obtain ⟨r, e, h⟩ := h
  have hb : j < (bvs l).length := by rw [bvs_length]; exact hj
  simp only [World.cell?, h, List.getElem?_toArray, List.getElem?_append_left hb]
  simp [bvs, bv, hj]
theorem FB.frozen (h : FB w g l) (j : Nat) (hj : j < l.length) : w.frozen? ⟨g, j, none⟩ = false := by
  obtain ⟨r, e, h⟩ := h
  have hb : j < (bvs l).length := by rw [bvs_length]; exact hj
  simp [World.frozen?, h]
  omega
theorem FB.set (h : FB w g l) (j : Nat) (c : UInt8) (hj : j < l.length) : FB (w.setCell ⟨g, j, none⟩ (.int .u8 (c.toNat : Int))) g (l.set j c) := by
  have hlt := h.lt
  obtain ⟨r, e, h⟩ := h
  refine ⟨r, e, ?_⟩
  obtain ⟨h1, h2⟩ := Array.getElem?_eq_some_iff.1 h
  show (w.heap.modify g _)[g]? = _
  rw [Array.getElem?_eq_getElem (by rw [Array.size_modify]; exact hlt), Array.getElem_modify_self, h2]
  have hb : j < (bvs l).length := by rw [bvs_length]; exact hj
  have e1 : bvs (l.set j c) = (bvs l).set j (.int .u8 (c.toNat : Int)) := by simp [bvs, bv, List.map_set]
  rw [e1]
  simp [List.set_append_left _ _ hb]
theorem FB.new (w : World) (e : TypeId) (s : ByteArray) : FB (Lib.bytesWorld w e s) w.heap.size s.data.toList := by
  refine ⟨List.replicate (grownCap w s.size 0 e - s.size) (Value.int .u8 0), e, ?_⟩
  rw [Lib.bytesWorld_at_new]
  have : Lib.bytesCells w e s = (bvs s.data.toList ++ List.replicate (grownCap w s.size 0 e - s.size) (Value.int .u8 0)).toArray := by
    unfold Lib.bytesCells bvs bv
    apply Array.ext'
    simp
  rw [this]
  simp
end
theorem below_bytes (w : World) (e : TypeId) (s : ByteArray) : Below w.heap.size w (Lib.bytesWorld w e s) := by
  refine ⟨?_, ?_, ?_, by rw [Lib.bytesWorld_size]; omega, fun k hk => Lib.bytesWorld_at_old w e s k hk⟩ <;> (unfold Lib.bytesWorld World.freeze; split <;> rfl)
theorem fold_step (l : List UInt8) (k : Nat) (h : k < l.length) : ((l.take k).map lowB ++ l.drop k).set k (lowB l[k]) = (l.take (k + 1)).map lowB ++ l.drop (k + 1) := by
  have hl : ((l.take k).map lowB).length = k := by rw [List.length_map, List.length_take]; omega
  rw [List.set_append_right _ _ (by omega), hl, Nat.sub_self, List.drop_eq_getElem_cons h, List.set_cons_zero, List.take_succ_eq_append_getElem h, List.map_append]
  simp
theorem mid_len (l : List UInt8) (k : Nat) (h : k ≤ l.length) : ((l.take k).map lowB ++ l.drop k).length = l.length := by simp; omega
theorem mid_get (l : List UInt8) (k : Nat) (h : k < l.length) (h2 : k < ((l.take k).map lowB ++ l.drop k).length) : ((l.take k).map lowB ++ l.drop k)[k] = l[k] := by
  have hl : ((l.take k).map lowB).length = k := by rw [List.length_map, List.length_take]; omega
  rw [List.getElem_append_right (by omega)]
  simp only [hl, Nat.sub_self, List.getElem_drop, Nat.add_zero]

set_option maxRecDepth 100000 in
set_option maxHeartbeats 1600000 in
theorem vfold_any (s : ByteArray) (w : World) (hs : s.size ≤ maxLen) : Calls Tryd.prog 41 #[.string s] w fun e w' => e = .returned (.string (str (fold s.data.toList))) ∧ Below w.heap.size w w' := by
  unfold maxLen at hs
  have hcv := Lib.run_convert_string_bytes (P := Tryd.prog) w 9 68 5 s Tryd.underlying9 Tryd.underlying68 Tryd.underlying5
  have hF := FB.new w 5 s
  have hb := below_bytes w 5 s
  obtain ⟨C, hC⟩ : ∃ C, C = grownCap w s.size 0 5 := ⟨_, rfl⟩
  rw [← hC] at hcv
  clear hC
  generalize hW : Lib.bytesWorld w 5 s = W at *
  clear hW
  have HN : Hid (s.data.toList.length = s.size) := Lib.hid (by simp)
  obtain ⟨l, hl⟩ : ∃ l, l = s.data.toList := ⟨_, rfl⟩
  rw [← hl] at hF HN ⊢
  clear hl
  obtain ⟨n, hn⟩ : ∃ n, n = s.size := ⟨_, rfl⟩
  rw [← hn] at hcv HN hs
  obtain ⟨u, hu⟩ : ∃ u, u = str (fold l) := ⟨_, rfl⟩
  rw [← hu]
  have HUU := Lib.hid hu
  clear hn hu
  go_enter Tryd.func41, Tryd.ntmps41
  go_wp2_with fail
  go_loopw [10] (fun i wr => ∃ k : Nat, k ≤ n ∧ i = .int .i64 k ∧ FB wr w.heap.size ((l.take k).map lowB ++ l.drop k) ∧ Below w.heap.size w wr) (fun i _ => n - (intOf i).toNat)
  case atStart => exact ⟨0, Nat.zero_le _, rfl, by simpa using hF, hb⟩
  case round =>
    obtain ⟨k, hk, rfl, hf, hbr⟩ := hrel
    clear hF hb hcv
    by_cases hlt : k < n
    · have hkl : k < l.length := by rw [HN.out]; exact hlt
      have hkm : k < ((l.take k).map lowB ++ l.drop k).length := by rw [mid_len l k (by omega)]; exact hkl
      have hc := hf.cell k hkm
      have hz := hf.frozen k hkm
      rw [mid_get l k hkl hkm] at hc
      have HS := Lib.hid (hf.set k (lowB l[k]) hkm)
      rw [fold_step l k hkl] at HS
      obtain ⟨c, hcd⟩ : ∃ c : UInt8, c = l[k] := ⟨_, rfl⟩
      rw [← hcd] at hc HS
      have HCD : Hid (c = l[k]) := Lib.hid hcd
      have hbs : Below w.heap.size w (wr.setCell ⟨w.heap.size, k, none⟩ (.int .u8 ((lowB c).toNat : Int))) := hbr.setCell (Nat.le_refl _) _
      clear hcd hkm
      by_cases hu : 65 ≤ c.toNat ∧ c.toNat ≤ 90
      · have HU := Lib.hid (lowB_up hu.1 hu.2)
        rw [HU.out] at HS hbs
        obtain ⟨h1, h2⟩ := hu
        obtain ⟨m, hm⟩ : ∃ m, m = c.toNat := ⟨_, rfl⟩
        rw [← hm] at hc HS hbs h1 h2
        have HBS := Lib.hid hbs
        clear HU hm hf hbs
        have h1' : (65 : Int) ≤ (m : Int) := by omega
        have h2' : (m : Int) ≤ 90 := by omega
        have e32 : (m : Int) + 97 - 65 = ((m + 32 : Nat) : Int) := by omega
        have E32 := Lib.hid e32
        clear e32
        go_wp2_with fail
        go_roundw
        case rel =>
          refine ⟨k + 1, by omega, by go_num, ?_, ?_⟩
          · rw [E32.out]; exact HS.out
          · rw [E32.out]; exact HBS.out
        case measure => simp [intOf]; omega
      · have HE : Hid ((l.take k).map lowB ++ l.drop k = (l.take (k + 1)).map lowB ++ l.drop (k + 1)) := Lib.hid (by
          rw [← fold_step l k hkl, ← HCD.out, lowB_same hu, HCD.out, ← mid_get l k hkl (by rw [mid_len l k (by omega)]; exact hkl), List.set_getElem_self])
        have hf2 := hf
        rw [HE.out] at hf2
        have HF2 := Lib.hid hf2
        clear hf hf2 HS hbs
        obtain ⟨m, hm⟩ : ∃ m, m = c.toNat := ⟨_, rfl⟩
        rw [← hm] at hc hu
        clear hm
        by_cases h1 : 65 ≤ m
        · have h1' : (65 : Int) ≤ (m : Int) := by omega
          have h2' : (90 : Int) < (m : Int) := by omega
          clear hu h1
          go_wp2_with fail
          go_roundw
          case rel => exact ⟨k + 1, by omega, by go_num, HF2.out, hbr⟩
          case measure => simp [intOf]; omega
        · have h1' : (m : Int) < 65 := by omega
          clear hu h1
          go_wp2_with fail
          go_roundw
          case rel => exact ⟨k + 1, by omega, by go_num, HF2.out, hbr⟩
          case measure => simp [intOf]; omega
    · obtain rfl : k = n := by omega
      have hl2 : (l.take k).map lowB ++ l.drop k = fold l := by
        rw [← HN.out, List.take_length, List.drop_length, List.append_nil]; rfl
      rw [hl2] at hf
      have HFL : Hid ((fold l).length = k) := Lib.hid (by unfold fold; rw [List.length_map, HN.out])
      have hback := run_convert_bytes_back (P := Tryd.prog) wr 68 9 5 ⟨w.heap.size, 0, none⟩ C (fold l) Tryd.underlying68 Tryd.underlying5 Tryd.underlying9 (fun j hj => by rw [add_at, Nat.zero_add]; exact hf.cell j hj)
      rw [HFL.out] at hback
      have e0 : ({ data := (fold l).toArray } : ByteArray) = str (fold l) := rfl
      rw [e0, ← HUU.out] at hback
      clear hf hl2 e0
      go_wp2_with fail
      go_ret
      exact ⟨rfl, hbr⟩
end Go.Proofs.YtgdidamjgaegkaaDoor
