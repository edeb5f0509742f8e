/- A mask's values as bytes: what cardwire.putValues returns. -/
import Derived.Test.YticdpfjajkfheaaWirB
import Derived.Test.YticdpfjajkfheaaBitN
namespace Go.Proofs.Yticdpfjajkfheaa
set_option linter.unusedVariables false
open Go Go.RowKit BitM OctM

/-- Bytes that are seen. -/
def SeesBytes (w : World) (xs : List UInt8) : Ending → World → Prop := fun e w' => ∃ A' c', e = .returned (.slice A' xs.length c') ∧ Sees w' w'.heap.size A' (bvs xs) ∧ Below w.heap.size w w'
/-- The bytes of the values of some fields. -/
def fbs (L : List Int) (f : List V3) : List UInt8 := L.flatMap fun i => vbs (f.getD i.toNat zv)
theorem fbs_snoc (L : List Int) (i : Int) (f : List V3) : fbs (L ++ [i]) f = fbs L f ++ vbs (f.getD i.toNat zv) := by simp [fbs]
theorem vbs_len (v : V3) : (vbs v).length ≤ 40 := by
  obtain ⟨k, z, s⟩ := v
  unfold vbs
  split
  · simp
  · rename_i h
    have hv : vchk (k, z, s) = true := by simpa using h
    split
    · rw [List.length_append]
      have h1 := held_len z
      have h2 := held_len 1
      have : enc 1 = enc (held 1) := rfl
      rw [this]
      show (enc (held 1)).length + (enc (held z)).length ≤ 40
      omega
    · split
      · rename_i h1 h2
        have h24 := (vchk_kind hv).2 h2
        have hl : s.data.toList.length = s.size := by simp
        have e1 := enc_len 0 s.data.toList.length (by omega)
        have e2 := held_len 2
        have : enc 2 = enc (held 2) := rfl
        rw [this, List.length_append, List.length_append]
        show (enc (held 2)).length + ((enc s.data.toList.length).length + s.data.toList.length) ≤ 40
        omega
      · have h2 := held_len 0
        have : enc 0 = enc (held 0) := rfl
        rw [this]; omega

set_option maxRecDepth 100000 in
set_option maxHeartbeats 3200000 in
theorem putvals_any (x : BitVec 32) (f : List V3) (A : Option Addr) (n c : Nat) (l : List UInt8) (w : World) (hf : f.length = 8) (hn : l.length = n) (hs : Sees w w.heap.size A (bvs l)) (hm : n ≤ 10000) :
    Calls Try.prog 36 #[.slice A n c, .int .u32 (x.toNat : Int), .agg (fcells f).toArray] w (SeesBytes w (l ++ fbs (flds x) f)) := by
  have HFI := Lib.hid (fun wx : World => fields_any x wx)
  have HMEM := Lib.hid (fun n (h : n ∈ flds x) => (mem_flds x n).1 h)
  have hfl := flds_len x
  obtain ⟨L, hL⟩ : ∃ L, L = flds x := ⟨_, rfl⟩
  rw [← hL] at HFI HMEM hfl ⊢
  clear hL
  obtain ⟨m, hm2⟩ : ∃ m, m = L.length := ⟨_, rfl⟩
  rw [← hm2] at HFI hfl
  have HLM := Lib.hid hm2
  have HF := Lib.hid hf
  have HN := Lib.hid hn
  clear hm2 hf hn
  obtain ⟨R, hR⟩ : ∃ R, R = l ++ fbs L f := ⟨_, rfl⟩
  rw [← hR]
  have HR := Lib.hid hR
  clear hR
  have B0 := Blk.new w (fcells f) 25
  have hb0 : Below w.heap.size w (w.alloc (.cells (fcells f).toArray 25)) := (Below.refl _ w).alloc (Nat.le_refl _) _
  have hs0 : Sees (w.alloc (.cells (fcells f).toArray 25)) w.heap.size A (bvs l) := hs.alloc (Nat.le_refl _) _
  obtain ⟨ca, hca⟩ : ∃ ca, ca = (fcells f).toArray := ⟨_, rfl⟩
  rw [← hca] at B0 hb0 hs0 ⊢
  clear hca hs
  go_enter Try.func36, Try.ntmps36
  go_wp2_with fail
  refine (HFI.out _).mono ?_
  rintro e w1 ⟨AF, cF, rfl, hownF, hb1⟩
  replace B0 := B0.later hb1
  have hsF := hownF.sees
  have hb01 := hb0.trans (hb1.mono hb0.size)
  have hs1 : Sees w1 w1.heap.size A (bvs l) := (hs0.below (hb1.mono (by simp))).more hb01.size
  clear hownF hb0 hs0 hb1
  go_wp2_with fail
  go_loopw [0, 12] (fun v i wr => ∃ (k la : Nat) (acc : List UInt8), k ≤ m ∧ i = .int .i64 k ∧ (∃ A1 c1, v = .slice A1 la c1 ∧ Sees wr wr.heap.size A1 (bvs acc)) ∧ Hid (acc.length = la) ∧ la ≤ n + 40 * k ∧ Hid (acc = l ++ fbs (L.take k) f) ∧ Blk wr w.heap.size (fcells f) ∧ Below w1.heap.size w1 wr ∧ Below w.heap.size w wr) (fun _ i _ => m - (intOf i).toNat)
  case atStart => exact ⟨0, n, l, Nat.zero_le _, rfl, ⟨A, c, rfl, hs1⟩, HN, by omega, Lib.hid (by simp [fbs]), B0, Below.refl _ _, hb01⟩
  case round =>
    obtain ⟨k, la, acc, hk, rfl, ⟨A1, c1, rfl, hsa⟩, HLA, hla, HACC, D0, hbw, hbr⟩ := hrel
    by_cases hlt : k < m
    · have hkl : k < L.length := by rw [← HLM.out]; exact hlt
      obtain ⟨h0, h8, hxx⟩ := HMEM.out L[k] (List.getElem_mem hkl)
      obtain ⟨b, o, rfl, hb, hc⟩ := hsF (by rw [ivs_length]; omega)
      have hck := hc k (by rw [ivs_length]; exact hkl)
      have he : (ivs L)[k]'(by rw [ivs_length]; exact hkl) = .int .i64 L[k] := by simp [ivs]
      rw [he] at hck
      have hck2 : wr.cell? ⟨b, o + k, none⟩ = some (.int .i64 L[k]) := (hbw.cell (p := ⟨b, o + k, none⟩) hb).trans hck
      have HA2 : Hid (acc ++ vbs (f.getD L[k].toNat zv) = l ++ fbs (L.take (k + 1)) f) := Lib.hid (by rw [List.take_succ_eq_append_getElem hkl, fbs_snoc, HACC.out, List.append_assoc])
      obtain ⟨y, hy⟩ : ∃ y, y = L[k] := ⟨_, rfl⟩
      rw [← hy] at h0 h8 hck2 HA2
      obtain ⟨j, rfl⟩ := Int.eq_ofNat_of_zero_le h0
      have hj8 : j < 8 := by omega
      have hjf : j < f.length := by rw [HF.out]; exact hj8
      have hg : f.getD ((j : Int)).toNat zv = f[j] := by simp [List.getD, hjf]
      rw [hg] at HA2
      obtain ⟨l0, l1, l2⟩ := Blk.field0 D0 j hjf
      obtain ⟨⟨v0, v1, v2⟩, hv⟩ : ∃ v, v = f[j] := ⟨_, rfl⟩
      rw [← hv] at l0 l1 l2 HA2
      simp only at l0 l1 l2
      have hvl := vbs_len (v0, v1, v2)
      obtain ⟨r, hr⟩ : ∃ r, r = acc ++ vbs (v0, v1, v2) := ⟨_, rfl⟩
      have hrl : r.length ≤ n + 40 * (k + 1) := by rw [hr, List.length_append, HLA.out]; omega
      have HPV := Lib.hid (putval_any v0 v1 v2 A1 la c1 acc wr HLA.out hsa (by omega))
      rw [← hr] at HPV HA2
      have hki : (k : Int) < (m : Int) := by omega
      have hj0 : (0 : Int) ≤ (j : Int) := by omega
      have hj8i : (j : Int) < 8 := by omega
      clear hxx
      clear hy he hkl hck hc hv hr hg hvl hsa hjf h0 h8 hj8
      go_wp2_with fail
      refine HPV.out.mono ?_
      rintro e w2 ⟨A2, c2, rfl, ho, hb2⟩
      have D2 := D0.later hb2
      have hs2 := ho.sees
      have hbw2 := hbw.trans (hb2.mono hbw.size)
      have hbr2 := hbr.trans (hb2.mono hbr.size)
      clear ho hb2 D0 hbw hbr
      go_wp2_with fail
      go_roundw
      case rel => exact ⟨k + 1, r.length, r, by omega, by go_num, ⟨A2, c2, rfl, hs2⟩, Lib.hid rfl, hrl, HA2, D2, hbw2, hbr2⟩
      case measure => simp [intOf]; omega
    · obtain rfl : k = m := by omega
      have HA2 : Hid (acc = R) := Lib.hid (by rw [HACC.out, HR.out, HLM.out, List.take_length])
      have hl : R.length = la := by rw [← HA2.out]; exact HLA.out
      rw [HA2.out] at hsa
      have HL := Lib.hid hl
      clear hl
      go_wp2_with fail
      go_ret
      exact ⟨A1, c1, by rw [HL.out]; rfl, hsa, hbr⟩
end Go.Proofs.Yticdpfjajkfheaa
