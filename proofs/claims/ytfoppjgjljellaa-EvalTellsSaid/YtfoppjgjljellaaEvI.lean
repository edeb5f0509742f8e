/- The law's own filter is awake. -/
import Derived.Test.YtfoppjgjljellaaEvH
namespace Go.Proofs.Ytfoppjgjljellaa
set_option linter.unusedVariables false
set_option linter.unusedSimpArgs false
open Go Go.RowKit Go.Shelf BitM ValM

def awl : List Nd := [(12, 0, zv), (3, 1, zv), (4, 2, zv)]
theorem awl_chk : lchk awl = 0 := by decide
theorem awl_4 : ev 0#32 4#32 zeros awl = true := by decide
theorem awl_2 : ev 0#32 2#32 zeros awl = false := by decide
theorem zeros_small : ∀ u ∈ zeros, u.2.2.size ≤ 1000 := by decide
set_option maxRecDepth 100000 in
set_option maxHeartbeats 3200000 in
theorem awake_any (mm : Int) (w : World) (hm : MaxV mm w) : Calls Try.prog 8 #[] w fun e w' => e = .returned (.bool true) ∧ Below w.heap.size w w' := by
  have HN := Lib.hid (fun T : TypeId => new_any mm (some ⟨w.heap.size, 0, none⟩) 3 3 awl (w.alloc (.cells #[Value.int .i64 12, .int .i64 0, .int .i64 0, .int .i64 0, .string { data := #[] }, Value.int .i64 3, .int .i64 1, .int .i64 0, .int .i64 0, .string { data := #[] }, Value.int .i64 4, .int .i64 2, .int .i64 0, .int .i64 0, .string { data := #[] }] T)) rfl (fun _ => ⟨w.heap.size, 0, rfl, by simp, fun j hj => by rw [Nat.zero_add]; exact (Blk.new w (ncs awl) T).cell (List.getElem?_eq_getElem hj)⟩) (hm.later ((Below.refl w.heap.size w).alloc (Nat.le_refl _) _)))
  have HM1 := Lib.hid (fun F wx (h : Fresh mm wx F awl) => match_any mm F awl wx 1 0 0#32 4#32 zeros (.inl h) zeros_len zeros_small)
  have HM2 := Lib.hid (fun F wx (h : Ready mm wx F awl) => match_any mm F awl wx 1 0 0#32 2#32 zeros (.inr h) zeros_len zeros_small)
  rw [awl_4] at HM1
  rw [awl_2] at HM2
  have HC := Lib.hid awl_chk
  have HB0 := Lib.hid (fun T : TypeId => (Below.refl w.heap.size w).alloc (Nat.le_refl _) (.cells #[Value.int .i64 12, .int .i64 0, .int .i64 0, .int .i64 0, .string { data := #[] }, Value.int .i64 3, .int .i64 1, .int .i64 0, .int .i64 0, .string { data := #[] }, Value.int .i64 4, .int .i64 2, .int .i64 0, .int .i64 0, .string { data := #[] }] T))
  clear hm
  go_enter Try.func8, Try.ntmps8
  go_wp2_with fail
  refine (HN.out _).mono ?_
  rintro e w1 ⟨hb1, ⟨h0, _⟩ | ⟨_, F, rfl, hF, hfr⟩⟩
  · exact absurd HC.out h0
  have hb2 := (HB0.out _).trans (hb1.mono (HB0.out _).size)
  have hF2 : w.heap.size ≤ F := Nat.le_trans (HB0.out _).size hF
  have HB2 := Lib.hid hb2
  have HF := Lib.hid hF2
  have HFR := Lib.hid hfr
  clear hb1 hb2 hF hF2 hfr HB0 HN
  go_wp2_with fail
  refine (HM1.out F _ HFR.out).mono ?_
  rintro e w2 ⟨rfl, hr2, hg2⟩
  have HB3 := Lib.hid (HB2.out.grown hg2 HB2.out.size (fun k e => by injection e with e; have := HF.out; omega))
  have HR2 := Lib.hid hr2
  clear hg2 hr2
  go_wp2_with fail
  refine (HM2.out F _ HR2.out).mono ?_
  rintro e w3 ⟨rfl, hr3, hg3⟩
  have HB4 := Lib.hid (HB3.out.grown hg3 HB3.out.size (fun k e => by injection e with e; have := HF.out; omega))
  clear hg3 hr3
  go_wp2_with fail
  go_ret
  exact ⟨rfl, HB4.out⟩
end Go.Proofs.Ytfoppjgjljellaa
