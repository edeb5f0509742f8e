/- Values, cards and patches as they are read of no reader. -/
import Derived.Test.YtgpbglmlakildaaG15
import Derived.Test.YtgpbglmlakildaaG19
import Derived.Test.YtgpbglmlakildaaG16
import Derived.Test.YtgpbglmlakildaaG12
namespace Go.Proofs.Ytgpbglmlakildaa
set_option linter.unusedVariables false
open Go Go.RowKit OctM BitM

def relB (B : Nat) (cs : List Value) : Rel where
  rel x w := ∃ g, x = .pointer (some ⟨g, 0, none⟩) ∧ B ≤ g ∧ Blk w g cs
  mono := fun x w w' h ⟨g, e, hg, hr⟩ => ⟨g, e, hg, hr.later h⟩
  real := fun w ⟨g, e, _⟩ => by cases e
theorem fields_zero (w : World) : Calls Try.prog 111 #[.int .u32 0] w fun e w' => ∃ A c, e = .returned (.slice A 0 c) ∧ Below w.heap.size w w' := by
  have h := fields_any 0#32 w
  have hf : flds 0#32 = [] := by decide +kernel
  rw [hf] at h
  exact h.mono fun e w' ⟨A, c, he, _, hb⟩ => ⟨A, c, he, hb⟩

set_option maxRecDepth 100000 in
set_option maxHeartbeats 1600000 in
theorem nil_value (w : World) : Calls Try.prog 97 #[.pointer none] w fun x w' => x = .returned (.agg (vcells zv).toArray) ∧ Below w.heap.size w w' := by
  have hu := Try.underlying27
  have B2 := Blk.new w (vcells zv) 27
  have hb := (Below.refl w.heap.size w).alloc (Nat.le_refl _) (.cells (vcells zv).toArray 27)
  go_enter Try.func97, Try.ntmps97
  go_wp2_with fail
  refine (nil_num _ _).mono ?_
  rintro x w1 ⟨rfl, h1⟩
  generalize hw0 : w.alloc (.cells #[Value.int .i64 0, .int .i64 0, .string { data := #[] }] 27) = w0 at h1
  have B2' : Blk w0 w.heap.size (vcells zv) := hw0 ▸ B2
  have hb0 : Below w.heap.size w w0 := hw0 ▸ hb
  clear B2 hb hw0
  subst h1
  have B3 := Blk.new w0 (vcells zv) 27
  have T3 := B3.there 0 3 (Nat.le_refl _)
  have S3 := B3.wholeT (ds := vcells zv) rfl
  have LE3 : Le w0 (World.setCells (w0.alloc (.cells (vcells zv).toArray 27)) w0.heap.size 0 (vcells zv)) := below_sets (Nat.le_refl _) _ 0 ((Below.refl w0.heap.size w0).alloc (Nat.le_refl _) _)
  have O3 : (vcells zv).toArray.all (·.oneCell') = true := vcells_all _
  have hsz := hb0.size
  have hb2 := B2'.lt
  obtain ⟨g3, hg3⟩ : ∃ z, z = w0.heap.size := ⟨_, rfl⟩
  rw [← hg3] at T3 S3 LE3 hsz hb2
  have HG3 := Lib.hid hg3
  clear hg3 B3
  go_wp2_with (first
    | (rw [← HG3.out]
       refine wpList_store_mid rfl 27 (.tmp 3) (.tmp 6) rfl g3 0 (vcells zv).toArray rfl rfl T3 info_val O3 ?_
       simp only [Act.put]
       generalize hw3 : World.setCells _ g3 0 (vcells zv).toArray.toList = w3
       have S4 : Blk w3 g3 (vcells zv) := hw3 ▸ S3
       have LE3' : Le w0 w3 := hw3 ▸ LE3
       have q1 : w3.cell? ⟨g3, 0, none⟩ = some (.int .i64 0) := S4.cell rfl
       clear hw3 T3 S3 LE3)
    | fail)
  refine (nil_err _).mono ?_
  rintro x w4 ⟨rfl, rfl⟩
  replace B2' := B2'.later LE3'
  replace hb0 := hb0.trans (LE3'.mono hb0.size)
  have T8 := B2'.there 0 3 (Nat.le_refl _)
  have FIN := B2'.wholeT (ds := vcells zv) rfl
  have H9 := below_sets (Nat.le_refl w.heap.size) (vcells zv) 0 hb0
  clear q1 S4
  go_wp2_with (first
    | (refine wpList_store_mid rfl 27 (.tmp 2) (.tmp 22) rfl w.heap.size 0 (vcells zv).toArray rfl rfl T8 info_val O3 ?_)
    | fail)
  exact bodyPost_ret (v := .agg (vcells zv).toArray) (tok_results (q := 2) rfl _ _ w.heap.size _ _ rfl FIN hu rfl info_val) rfl ⟨rfl, H9⟩
set_option maxRecDepth 100000 in
theorem nil_above (w : World) (m : Int) : Calls Try.prog 109 #[.pointer none, .int .i64 m] w fun x w' => x = .returned (.int .i64 0) ∧ w = w' := by
  go_enter Try.func109, Try.ntmps109
  go_wp2_with fail
  refine (nil_num _ _).mono ?_
  rintro x w1 ⟨rfl, rfl⟩
  go_wp2_with fail
  refine (nil_fail _ _).mono ?_
  rintro x w1 ⟨rfl, rfl⟩
  go_wp2_with fail
  go_ret
  exact ⟨rfl, rfl⟩
set_option maxRecDepth 100000 in
set_option maxHeartbeats 3200000 in
theorem nil_patch (w : World) : Calls Try.prog 84 #[.pointer none] w fun x w' => x = .returned (.agg (pcells 0 0 zeros).toArray) ∧ Below w.heap.size w w' := by
  have B1 : Blk (w.alloc (.cells #[.pointer none] 48)) w.heap.size [.pointer none] := Blk.new w [.pointer none] 48
  have hs1 : (w.alloc (.cells #[.pointer none] 48)).heap.size = w.heap.size + 1 := by simp
  obtain ⟨zs, hzs⟩ : ∃ zs, zs = (pcells 0 0 zeros) := ⟨_, rfl⟩
  have HZ := Lib.hid zp26
  have HZL := Lib.hid (show zs.length = 26 by rw [hzs]; exact pcells_len 0 0 zeros_len)
  have hone : zs.toArray.all (·.oneCell') = true := all_oneCell_toArray (by rw [hzs]; exact pcells_one _ _ _)
  rw [← hzs] at HZ ⊢
  have HZS := Lib.hid hzs
  have B2 := Blk.new (w.alloc (.cells #[.pointer none] 48)) zs 61
  rw [hs1] at B2
  replace B1 := B1.alloc (.cells zs.toArray 61)
  have hw0 : Below w.heap.size w ((w.alloc (.cells #[.pointer none] 48)).alloc (.cells zs.toArray 61)) := ((Below.refl w.heap.size w).alloc (Nat.le_refl _) _).alloc (by simp) _
  have hsz : w.heap.size + 2 ≤ ((w.alloc (.cells #[.pointer none] 48)).alloc (.cells zs.toArray 61)).heap.size := by simp
  generalize hW : (w.alloc (.cells #[.pointer none] 48)).alloc (.cells zs.toArray 61) = W at *
  have HW := Lib.hid hW
  have hu := Try.underlying61
  clear hW hs1 hzs
  have x0 : W.cell? ⟨w.heap.size, 0, none⟩ = some (.pointer none) := B1.cell rfl
  go_enter Try.func84, Try.ntmps84
  go_wp2_with fail
  rw [← HZ.out, HW.out]
  clear HW
  refine (nil_above _ _).mono ?_
  rintro x w1 ⟨rfl, rfl⟩
  have B3 := Blk.new W zs 61
  have T3 := B3.there 0 26 (by rw [HZL.out]; omega)
  have S3 := B3.wholeT (ds := zs) rfl
  have LE3 : Le W (World.setCells (W.alloc (.cells zs.toArray 61)) W.heap.size 0 zs) := below_sets (Nat.le_refl _) _ 0 ((Below.refl W.heap.size W).alloc (Nat.le_refl _) _)
  obtain ⟨g3, hg3⟩ : ∃ z, z = W.heap.size := ⟨_, rfl⟩
  rw [← hg3] at T3 S3 LE3 hsz
  have HG3 := Lib.hid hg3
  clear hg3 B3
  go_wp2_with (first
    | (rw [← HZ.out, ← HG3.out]
       refine wpList_store_mid rfl 61 (.tmp 3) (.tmp 10) rfl g3 0 zs.toArray rfl (by rw [HZS.out]; rfl) (by simpa [HZL.out] using T3) (by simpa [HZL.out] using info_patch) hone ?_
       simp only [Act.put]
       generalize hw3 : World.setCells _ g3 0 zs.toArray.toList = w3
       have S4 : Blk w3 g3 (pcells 0 0 zeros) := by rw [← HZS.out]; exact hw3 ▸ S3
       have LE3' : Le W w3 := hw3 ▸ LE3
       have q3 : w3.cell? ⟨g3, 0, none⟩ = some (.int .u32 0) := S4.cell rfl
       clear hw3 T3 S3 LE3)
    | fail)
  have HL0 := labels_any 0#32 w3
  rw [show has 0#32 8 = false from rfl] at HL0
  refine HL0.mono ?_
  rintro x w4 ⟨rfl, rfl⟩
  have X3 := B1.later LE3'
  have B3 := B2.later LE3'
  have H3 := hw0.trans (LE3'.mono hw0.size)
  have x3 : w3.cell? ⟨w.heap.size, 0, none⟩ = some (.pointer none) := X3.cell rfl
  clear HL0 x0 B1 B2 hw0 LE3' S4 hsz
  go_wp2_with fail
  refine (fields_zero _).mono ?_
  rintro x w5 ⟨A, c, rfl, hb5⟩
  have X5 := X3.later hb5
  have B5 := B3.later hb5
  have H5 := H3.trans (hb5.mono H3.size)
  clear X3 B3 H3 x3 hb5
  go_wp2_with fail
  go_loopw [23] (fun i wr => i = .int .i64 0 ∧ Blk wr w.heap.size [.pointer none] ∧ Blk wr (w.heap.size + 1) zs ∧ Below w.heap.size w wr) (fun i _ => 0)
  case atStart => exact ⟨rfl, X5, B5, H5⟩
  case round =>
    obtain ⟨rfl, X, B, H⟩ := hrel
    clear X5 B5 H5
    have xr : wr.cell? ⟨w.heap.size, 0, none⟩ = some (.pointer none) := X.cell rfl
    go_wp2_with fail
    refine (nil_err _).mono ?_
    rintro x w6 ⟨rfl, rfl⟩
    have T8 := B.there 0 26 (by rw [HZL.out]; omega)
    have FIN := B.wholeT (ds := zs) rfl
    have H9 := below_sets (B := w.heap.size) (b := w.heap.size + 1) (by omega) zs 0 H
    clear X B H xr
    go_wp2_with (first
      | (refine wpList_store_mid rfl 61 (.tmp 2) (.tmp 35) rfl (w.heap.size + 1) 0 zs.toArray rfl (by rw [HZS.out]; rfl) (by simpa [HZL.out] using T8) (by simpa [HZL.out] using info_patch) hone ?_)
      | fail)
    exact bodyPost_ret (v := .agg zs.toArray) (tok_results (q := 2) rfl _ _ (w.heap.size + 1) zs _ rfl FIN hu rfl (by rw [HZL.out]; exact info_patch)) rfl ⟨rfl, H9⟩
end Go.Proofs.Ytgpbglmlakildaa

/- CardwireReads: the walk. -/
namespace Go.Proofs.Ytgpbglmlakildaa
set_option linter.unusedVariables false
set_option linter.unusedSimpArgs false
open Go Go.RowKit OctM

theorem guard_patch : Try.prog.eqGuardType Try.prog.depth 61 = false := by kernel_rfl
theorem same_v (v : V3) (w : World) : (Op.equalIn 10000 27 (.agg (vcells v).toArray) (.agg (vcells v).toArray)).run Try.prog w = .ok true w := by
  rw [eq_val 9998 v v w, decide_eq_true rfl]
theorem same_p (m lab : Int) (f : List V3) (hf : f.length = 8) (w : World) : (Op.equalIn 10000 61 (.agg (pcells m lab f).toArray) (.agg (pcells m lab f).toArray)).run Try.prog w = .ok true w := by
  rw [eq_patch 9996 m lab m lab f f hf hf w, decide_eq_true (show m = m ∧ lab = lab ∧ f = f from ⟨rfl, rfl, rfl⟩)]

end Go.Proofs.Ytgpbglmlakildaa

/- CardwirePuts: the walk. -/
namespace Go.Proofs.Ytgpbglmlakildaa
set_option linter.unusedVariables false
open Go Go.RowKit BitM OctM

theorem pbs_len (x : BitVec 32) (lab : Int) (f : List V3) : (pbs x lab f).length ≤ 400 := by
  unfold pbs
  split
  · simp
  · simp only [List.length_append]
    have h1 := held_len (x.toNat : Int)
    have h2 := held_len lab
    have h5 := fbs_len (lst x 8) f
    have h6 := lst_len x 8
    rw [flds_lst]
    split <;> first | omega | (simp only [List.length_nil]; omega)

end Go.Proofs.Ytgpbglmlakildaa

/- CardwireBack: the walk. -/
namespace Go.Proofs.Ytgpbglmlakildaa
set_option linter.unusedVariables false
set_option linter.unusedSimpArgs false
open Go Go.RowKit OctM

theorem below_row {a b c : World} {m : Nat} (h : Below a.heap.size a b) (k : b.grownBy c (some m)) (hm : a.heap.size ≤ m) : Below a.heap.size a c :=
  ⟨k.os.trans h.os, k.tape.trans h.tape, k.output.trans h.output, Nat.le_trans h.size k.size, fun i hi => (k.block i (Nat.lt_of_lt_of_le hi h.size) (by simp; omega)).trans (h.block i hi)⟩
theorem Rd.to {w : World} {base g : Nat} {l : List UInt8} {a a' : Nat} {e e' : Int} (h : Rd w base g l a e) (ha : a = a') (he : e = e') : Rd w base g l a' e' := by subst ha he; exact h
end Go.Proofs.Ytgpbglmlakildaa

/- CardwireOnly: the walk. -/
namespace Go.Proofs.Ytgpbglmlakildaa
set_option linter.unusedVariables false
set_option linter.unusedSimpArgs false
open Go Go.RowKit OctM

theorem Sees.join {w w' : World} {B B' : Nat} {A : Option Addr} {xs : List Value} (h : Sees w B A xs) (h' : Sees w' B' A xs) : Sees w' B A xs := by
  intro hp
  obtain ⟨b, o, e, hb, _⟩ := h hp
  obtain ⟨b', o', e', _, hc⟩ := h' hp
  rw [e] at e'
  injection e' with e'
  injection e' with e1 e2
  subst e1 e2
  exact ⟨b, o, e, hb, hc⟩
/-- A reader whose bytes are known to be new memory, too. -/
def RdB (w : World) (base g : Nat) (l : List UInt8) (at_ : Nat) (err : Int) : Prop :=
  ∃ A c, l.length ≤ c ∧ c ≤ maxLen ∧ Own w base 93 (.slice (some ⟨g, 0, none⟩) 3 3) [.slice A l.length c, .int .i64 at_, .int .i64 err] ∧ Own w base 5 (.slice A l.length c) (bvs l) ∧ Sees w g A (bvs l)
theorem RdB.rd {w : World} {base g : Nat} {l : List UInt8} {a : Nat} {e : Int} (h : RdB w base g l a e) : Rd w base g l a e := by
  obtain ⟨A, c, h1, h2, h3, h4, h5⟩ := h
  exact ⟨A, c, h1, h2, h3, h5⟩
theorem RdB.off {w w' : World} {base g m : Nat} {l : List UInt8} {a : Nat} {e : Int} (h : RdB w base g l a e) (hg : w.grownBy w' (some m)) (hm : m < base) : RdB w' base g l a e := by
  obtain ⟨A, c, h1, h2, h3, h4, h5⟩ := h
  have h6 := h4.other hg hm
  exact ⟨A, c, h1, h2, h3.other hg hm, h6, h5.join h6.sees⟩
theorem rd_newB (A : Option Addr) (n c : Nat) (l : List UInt8) (w : World) (hn : l.length = n) (hs : Sees w w.heap.size A (bvs l)) (hm : n ≤ 1048576) :
    Calls Try.prog 35 #[.slice A n c] w fun e w' => ∃ g, e = .returned (.pointer (some ⟨g, 0, none⟩)) ∧ RdB w' w.heap.size g l 0 0 ∧ Below w.heap.size w w' := by
  have HF := Lib.hid (oct_fresh A n c l 0 w hn hs hm (by omega))
  have HN := Lib.hid hn
  clear hn hs
  go_enter Try.func35, Try.ntmps35
  go_wp2_with fail
  refine HF.out.mono ?_
  rintro e w1 ⟨A1, c1, rfl, o1, b1⟩
  have s1 := o1.sees
  have k1 := o1.cap
  go_wp2_with fail
  go_ret
  refine ⟨w1.heap.size, rfl, ⟨A1, c1, by rw [HN.out]; exact k1.1, k1.2, ?_, ?_, s1.alloc (Nat.le_refl _) _⟩, b1.alloc b1.size _⟩
  · have h := own_lit w1 w.heap.size 93 #[.slice A1 n c1, .int .i64 0, .int .i64 0] b1.size (by simp [maxLen])
    rw [HN.out]
    exact h
  · rw [HN.out]; exact o1.alloc _
theorem cutto_fact {P : Program} (t e : TypeId) (i : TypeInfo) (ht : P.underlying t = some (.slice e)) (hi : P.info? e = some i) (hsz : i.size = 1) {w : World} {B : Nat} {A : Option Addr} {xs : List Value} (h : Sees w B A xs)
    (n m c : Nat) (H : Int) (kh : IntKind) (hn : xs.length = n) (hm : m ≤ n) (hH : H = (m : Int)) (hc : n ≤ c) :
    ∃ A2, (∀ wx, (Instr.slice t (.slice A n c) none (some (.int kh H)) none).run P wx = .ok (.slice A2 m c) wx) ∧ Sees w B A2 (xs.take m) := by
  refine ⟨if c = 0 then A else A.map (·.add 0), fun wx => ?_, ?_⟩
  · have he : P.elem t = e := by simp [Program.elem, ht]
    have ht' : P.underlying t = some (.slice (P.elem t)) := by rw [he]; exact ht
    rw [run_slice_h wx t A n c ht' kh H (by omega) (by omega), he]
    simp [sizeOf, typeInfo, hi, hsz, sliced, hH]
  · have := (h.cut (k := 0) (cap := c) (by omega)).take m
    simpa using this

theorem sees_take {w : World} {B : Nat} {A : Option Addr} {l b : List UInt8} {m : Nat} (h : Sees w B A ((bvs l).take m)) (hb : l.take m = b) : Sees w B A (bvs b) := by
  subst hb
  unfold bvs at *
  rw [List.map_take]
  exact h
theorem pat_said (l : List UInt8) (h0 : (patOut l 0 0).2.2 = 0) : ∃ bp : List UInt8, bp.length = (patOut l 0 0).2.1 ∧ l.take (patOut l 0 0).2.1 = bp ∧
    (∀ wx : World, Calls Try.prog 80 #[.agg (pc3 (patOut l 0 0).1).toArray] wx fun e w' => e = .returned (.int .i64 0) ∧ Below wx.heap.size wx w') ∧
    (∀ wx : World, Calls Try.prog 81 #[.slice none 0 0, .agg (pc3 (patOut l 0 0).1).toArray] wx (GivesBytes wx bp)) := by
  obtain ⟨x, g1, g2, g3, g4, g5⟩ := pat_only (l := l) (a := 0) (e := 0) h0
  have hf := patOut_len l 0 0
  generalize hT : patOut l 0 0 = T at *
  obtain ⟨⟨m, lab, f⟩, a, e⟩ := T
  simp only at g1 g2 g3 g4 g5 hf ⊢
  subst g1
  rw [List.drop_zero] at g4
  rw [Nat.zero_add] at g5
  refine ⟨pbs x lab f, g5.symm, by rw [g5, g4, List.take_left], fun wx => ?_, fun wx => ?_⟩
  · have h := rpcheck_any x lab f wx hf
    rw [g2] at h
    exact h
  · have h := putpatch_any x lab f none 0 0 [] wx hf g3 rfl Sees.nil_ (by omega)
    rw [List.nil_append] at h
    exact h

end Go.Proofs.Ytgpbglmlakildaa

/- PredwireBack: the walk. -/
namespace Go.Proofs.Ytgpbglmlakildaa
set_option linter.unusedVariables false
set_option linter.unusedSimpArgs false
open Go Go.RowKit OctM

set_option maxRecDepth 100000 in
set_option maxHeartbeats 6400000 in
theorem walk_pwback (A : Option Addr) (n c : Nat) (ns : List Nd) (AB : Option Addr) (nb cb : Nat) (lb : List UInt8) (w : World) (hn : ns.length = n) (hs : Sees w w.heap.size A (ncs ns)) (hc : n ≤ c) (hnb : lb.length = nb) (hnc : nb ≤ cb) (hsb : Sees w w.heap.size AB (bvs lb)) :
    Calls Try.prog 8 #[.slice A n c, .slice AB nb cb] w fun e w' => e = .returned (.bool true) ∧ Below w.heap.size w w' := by
  have HAW := Lib.hid (fun wx : World => pw_awake wx)
  by_cases h5 : nb ≤ 500
  · have d5 : decide ((500 : Int) < (nb : Int)) = false := by simp; omega
    have HNW := Lib.hid (rd_new AB nb cb lb w hnb hsb (by omega))
    have HNL := Lib.hid hnb
    have HNC := Lib.hid hnc
    have HS := Lib.hid hs
    have HSB := Lib.hid hsb
    have HN := Lib.hid hn
    -- what is read of the bytes
    have AO := filt_at (l := lb) (a := 0) (e := 0) (Nat.zero_le _)
    have H3 := Lib.hid (fun (base g : Nat) (wx : World) (hx : Rd wx base g lb 0 0) => rd_filter base g lb 0 0 wx hx (Nat.zero_le _) (by omega))
    have HON := Lib.hid (filt_only (l := lb) (a := 0) (e := 0))
    have HLEN := filt_len lb 0 0
    obtain ⟨⟨xs, ac, eC⟩, hq⟩ : ∃ q, q = filtOut lb 0 0 := ⟨_, rfl⟩
    rw [← hq] at AO H3 HON HLEN
    simp only at AO HON HLEN
    have H3 : Hid (∀ (base g : Nat) (wx : World), Rd wx base g lb 0 0 → Calls Try.prog 36 #[.pointer (some ⟨g, 0, none⟩)] wx (NodesRead wx base g lb (xs, ac, eC))) := H3
    rw [hnb] at AO
    obtain ⟨m, hm0⟩ : ∃ m, m = xs.length := ⟨_, rfl⟩
    have HXL := Lib.hid hm0.symm
    rw [← hm0] at HLEN
    obtain ⟨qc, hqc⟩ : ∃ q, q = nb - ac := ⟨_, rfl⟩
    have HNQ := Lib.hid (show (nb : Int) - (qc : Int) = (ac : Int) by omega)
    have HQC := Lib.hid (show ((lb.length : Nat) : Int) - (ac : Int) = (qc : Int) by rw [hnb]; omega)
    have bq : qc ≤ nb := by omega
    -- the filter itself
    have HKE := Lib.hid (fun (wx : World) (h : Sees wx wx.heap.size A (ncs ns)) => rlcheck_any A n c ns wx hn h hc)
    have HPE := Lib.hid (fun (wx : World) (h : Sees wx wx.heap.size A (ncs ns)) => put_nodes none 0 0 [] A n c ns wx rfl Sees.nil_ (by omega) hn h)
    simp only [List.nil_append] at HPE
    obtain ⟨ck, hck⟩ : ∃ z, z = lchk ns := ⟨_, rfl⟩
    rw [← hck] at HKE
    obtain ⟨lp, hlp⟩ : ∃ z, z = lbs ns := ⟨_, rfl⟩
    obtain ⟨kp, hkp⟩ : ∃ z, z = lp.length := ⟨_, rfl⟩
    have e3 : kp ≤ 1308 := by rw [hkp, hlp]; exact lbs_small ns
    have HRD : Hid (ck = 0 → filtOut (lp ++ lb) 0 0 = (ns, kp, 0)) := Lib.hid (by
      intro h1
      have h4 := filt_put [] lb ns (by rw [← hck]; exact h1)
      rw [hkp, hlp]
      simpa using h4)
    have HNS : Hid (ck = 0 → n ≤ 31) := Lib.hid (fun h => by rw [← hn]; exact (lchk_ok (by rw [← hck]; exact h)).1)
    rw [← hlp] at HPE
    have MK : Hid (lp.length = kp) := Lib.hid hkp.symm
    obtain ⟨i0, hi, hz0, hz1, hz2⟩ := oct_parts
    have HI := Lib.hid (And.intro hi (And.intro hz0 (And.intro hz1 hz2)))
    clear hi hz0 hz1 hz2 hq hm0 hqc hck hlp hkp hn hnb hnc hs hsb
    go_enter Try.func8, Try.ntmps8
    go_wp2_with fail
    refine HNW.out.mono ?_
    rintro e w2 ⟨gr, rfl, r2, b2⟩
    have hgr := r2.block
    clear HNW
    go_wp2_with fail
    refine (H3.out _ _ _ r2).mono ?_
    rintro e w3 ⟨⟨AX, cX, rfl, o3⟩, R3, g3⟩
    simp only at o3 R3 ⊢
    rw [HXL.out] at o3 ⊢
    have hb3 := below_row b2 g3 (by omega)
    clear r2 b2 g3 H3
    go_wp2_with fail
    refine (rd_left w.heap.size gr lb ac eC w3 R3 (by rw [HNL.out]; exact AO) (by rw [HNL.out]; omega)).mono ?_
    rintro e w7 ⟨rfl, k6, hw7⟩
    rw [HQC.out]
    have ir7 := R3.drewN k6
    have io7 : (w3.drewN k6).ownsRow w2.heap.size 29 5 (.slice AX m cX) m (ncs xs) := o3
    have ib7 := below_drewN hb3 k6
    rw [← hw7] at ir7 io7 ib7
    clear R3 o3 hb3 hw7
    have c0 : decide ((ac : Int) < 0) = false := by simp
    have c1 : decide ((nb : Int) < (ac : Int)) = false := by simp; omega
    have c1n : decide (nb < ac) = false := decide_eq_false (by omega)
    have hnq := HNQ.out
    have HEC := Lib.hid (fun wx (hl : Le w7 wx) => (rd_err w.heap.size gr lb ac eC wx (ir7.later hl)).mono fun e w' h => (show e = .returned (.int .i64 eC) ∧ Below wx.heap.size wx w' from ⟨h.1, h.2 ▸ Below.refl _ _⟩))
    have HXS := Lib.hid (fun wx (hl : Le w7 wx) => row_sees (row_later io7 hl))
    have hXc := row_cap io7
    have hs7 : Sees w7 w7.heap.size AB (bvs lb) := (HSB.out.below ib7).more ib7.size
    have HS7 : Hid (∀ wx, Le w7 wx → Sees wx wx.heap.size AB (bvs lb)) := Lib.hid (fun wx hl => (hs7.below hl).more hl.size)
    have HA7 : Hid (∀ wx, Le w7 wx → Sees wx wx.heap.size A (ncs ns)) := Lib.hid (fun wx hl => (HS.out.below (ib7.trans (hl.mono ib7.size))).more (Nat.le_trans ib7.size hl.size))
    have HB7 := Lib.hid ib7
    have L77 := Le.refl w7
    clear ir7 io7 ib7
    by_cases ec0 : eC = 0
    · have tc : (eC == 0) = true := by simpa using ec0
      obtain ⟨_, hk0, hbl, hbt⟩ := HON.out ec0
      rw [Nat.zero_add] at hbl
      rw [List.drop_zero] at hbt
      obtain ⟨bc, hbc⟩ : ∃ bc, bc = lbs xs := ⟨_, rfl⟩
      rw [← hbc] at hbl hbt
      have MC := Lib.hid hbl.symm
      have HTK : Hid (lb.take ac = bc) := Lib.hid (by have e := congrArg (List.take ac) hbt; rw [e]; exact List.take_left' hbl.symm)
      have HKC := Lib.hid (fun wx (hl : Le w7 wx) => (show Calls Try.prog 21 #[.slice AX m cX] wx fun e w' => e = .returned (.int .i64 0) ∧ Below wx.heap.size wx w' from by have := rlcheck_any AX m cX xs wx HXL.out (HXS.out wx hl) hXc; rwa [hk0] at this))
      have HPC := Lib.hid (fun wx (hl : Le w7 wx) => (show Calls Try.prog 33 #[.slice none 0 0, .slice AX m cX] wx (GivesBytes wx bc) from by have := put_nodes none 0 0 [] AX m cX xs wx rfl Sees.nil_ (by omega) HXL.out (HXS.out wx hl); rwa [List.nil_append, ← hbc] at this))
      obtain ⟨hi, hz0, hz1, hz2⟩ := HI.out
      obtain ⟨SC, hSC⟩ : ∃ z, z = str bc := ⟨_, rfl⟩
      have HVC : Hid (∀ (wx : World) (A' : Option Addr) (c' : Nat) (h : Sees wx wx.heap.size A' (bvs bc)), (convert 44 9 (.slice A' ac c')).run Try.prog wx = .ok (.string SC) wx) := Lib.hid (fun wx A' c' h => str_conv wx wx.heap.size A' ac c' bc SC MC.out h hSC)
      obtain ⟨A2c, hslSC, hssSC⟩ := cutto_fact 44 5 i0 Try.underlying44 hi hz1 hs7 nb ac cb (ac : Int) .i64 (by rw [bvs_length, HNL.out]) (by omega) rfl HNC.out
      have HUC : Hid (∀ wx : World, Le w7 wx → (convert 44 9 (.slice A2c ac cb)).run Try.prog wx = .ok (.string SC) wx) := Lib.hid (fun wx hl => str_conv wx w7.heap.size A2c ac cb bc SC MC.out ((sees_take hssSC HTK.out).below hl) hSC)
      clear hSC hssSC hbt hbl hbc hk0 ec0 hi hz0 hz1 hz2
      go_wp2_with fail
      refine wp_region_steady [(41, relSee ac bc)] 80 (by kernel_rfl) (by kernel_rfl) (by kernel_rfl) (by rfl) ?_
      iterate 8 (refine wpG_quiet (by rfl) (by rfl) (by rfl) (fun K hK => ?_); go_big_quiet_op; refine hK _ ?_; clear hK K)
      try simp only [c1n]
      iterate 2 (refine wpG_quiet (by rfl) (by rfl) (by rfl) (fun K hK => ?_); go_big_quiet_op; refine hK _ ?_; clear hK K)
      refine wpG_call (by rfl) (by rfl) 38 #[.pointer (some ⟨gr, 0, none⟩)] (.int .i64 eC) (by intro _; simp [go_sem]) (by kernel_rfl) (fun w1 hl => HEC.out w1 (L77.trans hl.1)) ?_
      simp only [Act.put, List.setIfInBounds_toArray, List.set_cons_zero, List.set_cons_succ]
      iterate 3 (refine wpG_quiet (by rfl) (by rfl) (by rfl) (fun K hK => ?_); go_big_quiet_op; refine hK _ ?_; clear hK K)
      refine wpG_call (by rfl) (by rfl) 21 #[.slice AX m cX] (.int .i64 0) (by intro _; simp [go_sem]) (by kernel_rfl) (fun w1 hl => HKC.out w1 (L77.trans hl.1)) ?_
      simp only [Act.put, List.setIfInBounds_toArray, List.set_cons_zero, List.set_cons_succ]
      iterate 3 (refine wpG_quiet (by rfl) (by rfl) (by rfl) (fun K hK => ?_); go_big_quiet_op; refine hK _ ?_; clear hK K)
      refine wpG_calls (relSee ac bc) (by rfl) (by rfl) 33 #[.slice none 0 0, .slice AX m cX] (by intro _; simp [go_sem]) (fun w1 hl => (HPC.out w1 (L77.trans hl.1)).mono fun e w' h => gives_see MC.out h) ?_
      rintro _ ⟨_, _, _, ⟨A7, c7, rfl, _⟩⟩
      simp only [Act.put, List.setIfInBounds_toArray, List.set_cons_zero, List.set_cons_succ]
      refine wpG_run (by rfl) (by rfl) (.string SC) (fun w1 hl => ?_) ?_
      · obtain ⟨A8, c8, h8, s8⟩ := hl.2 41 _ (by simp [Op.operands]) rfl (by intro h; cases h)
        cases h8
        exact exec_conv (.tmp 41) 44 9 rfl _ rfl _ (HVC.out w1 A7 c7 s8)
      simp only [Act.put, List.setIfInBounds_toArray, List.set_cons_zero, List.set_cons_succ]
      iterate 3 (refine wpG_quiet (by rfl) (by rfl) (by rfl) (fun K hK => ?_); go_big_quiet_op; refine hK _ ?_; clear hK K)
      refine wpG_run (by rfl) (by rfl) (.string SC) (fun w1 hl => exec_conv (.tmp 45) 44 9 rfl _ rfl _ (HUC.out w1 (L77.trans hl.1))) ?_
      simp only [Act.put, List.setIfInBounds_toArray, List.set_cons_zero, List.set_cons_succ]
      iterate 4 (refine wpG_quiet (by rfl) (by rfl) (by rfl) (fun K hK => ?_); go_big_quiet_op; refine hK _ ?_; clear hK K)
      refine wpG_nil (fun w8 l8 _ => ?_)
      clear hslSC hs7
      go_wp2_with fail
      refine (HKE.out _ (HA7.out _ l8)).mono ?_
      rintro e w9 ⟨rfl, b9⟩
      have l9 := l8.trans b9
      clear b9 l8
      by_cases hck : ck = 0
      · subst hck
        have hn31 := HNS.out (by trivial)
        go_wp2_with fail
        refine (HPE.out _ (HA7.out _ l9)).mono ?_
        rintro e w10 ⟨A3, c3, rfl, o3, b3⟩
        rw [MK.out] at o3 ⊢
        have l10 := l9.trans b3
        have hs10 := HS7.out _ l10
        obtain ⟨hi, hz0, hz1, hz2⟩ := HI.out
        go_wp2_with (first
          | (at_builtin
             refine wpList_app _ rfl (.tmp 56) (.tmp 57) _ rfl w9.heap.size 5 i0 _ 1 Try.underlying44 hi hz0 hz1 hz2 rfl (.slice A3 kp c3) (bvs lp) kp rfl (by rw [bvs_length, MK.out]) o3 w10.heap.size AB cb (bvs lb) nb rfl (by rw [bvs_length, HNL.out]) hs10 (bvs_one _) (by simp [maxLen]; omega) (by omega) b3.size ?_
             intro A5 c5 w11 o5 b5 hg5 hat5)
          | fail)
        rw [← bvs_append] at o5
        have l11 : Le w7 w11 := l9.trans (b3.trans b5)
        have HLL : Hid ((lp ++ lb).length = kp + nb) := Lib.hid (by rw [List.length_append, MK.out, HNL.out])
        have F1 := HRD.out (by trivial)
        obtain ⟨lq, hlq⟩ : ∃ lq, lq = lp ++ lb := ⟨_, rfl⟩
        rw [← hlq] at o5 HLL F1
        clear hlq hs10 hi hz0 hz1 hz2 o3 hg5 hat5
        refine (rd_new A5 (kp + nb) c5 lq w11 HLL.out o5.sees (by omega)).mono ?_
        rintro e w12 ⟨g, rfl, r6, b6⟩
        have l12 := l11.trans b6
        have hgb := r6.block
        have H5 := Lib.hid (fun wx (hx : Rd wx w11.heap.size g lq 0 0) => rd_filter w11.heap.size g lq 0 0 wx hx (Nat.zero_le _) (by rw [HLL.out]; omega))
        rw [F1] at H5
        have hwz := l11.size
        have hb7z := HB7.out.size
        clear F1 HRD o5
        go_wp2_with fail
        refine (H5.out _ r6).mono ?_
        rintro e w13 ⟨⟨AY, cY, rfl, oY⟩, R13, g13⟩
        simp only at oY R13 ⊢
        rw [HN.out] at oY ⊢
        have hb12 := HB7.out.trans (l12.mono HB7.out.size)
        have hb13 := below_row hb12 g13 (by omega)
        have HSA := Lib.hid ((HS.out.below hb13).more hb13.size)
        have HSY := Lib.hid (row_sees oY)
        clear r6 H5 hb12 g13 oY
        go_wp2_with fail
        refine (rd_err w11.heap.size g lq kp 0 _ R13).mono ?_
        rintro e wd ⟨rfl, rfl⟩
        go_wp2_with fail
        refine (rsame_any AY n cY ns A n c ns _ HN.out HN.out HSY.out HSA.out (by omega)).mono ?_
        rintro e w14 ⟨rfl, b14⟩
        rw [show decide (ns = ns) = true from decide_eq_true rfl]
        have R14 := R13.later b14
        have hb14 := hb13.trans (b14.mono hb13.size)
        clear R13 hb13 b14
        go_wp2_with fail
        refine (rd_left w11.heap.size g lq kp 0 _ R14 (by rw [HLL.out]; omega) (by rw [HLL.out]; omega)).mono ?_
        rintro e wd ⟨rfl, nk, rfl⟩
        rw [show ((lq.length : Nat) : Int) - (kp : Int) = (nb : Int) from by rw [HLL.out]; omega]
        have hbD := below_drewN hb14 nk
        clear R14 hb14
        go_wp2_with fail
        refine (HAW.out _).mono ?_
        rintro e we ⟨rfl, be⟩
        go_wp2_with fail
        go_ret
        exact ⟨rfl, hbD.trans (be.mono hbD.size)⟩
      · have bz : (ck != 0) = true := by simp [hck]
        clear hck
        go_wp2_with fail
        refine (HAW.out _).mono ?_
        rintro e wz ⟨rfl, bz⟩
        go_wp2_with fail
        go_ret
        exact ⟨rfl, (HB7.out.trans (l9.mono HB7.out.size)).trans (bz.mono (HB7.out.trans (l9.mono HB7.out.size)).size)⟩
    · have tc : (eC == 0) = false := by simpa using ec0
      clear ec0 HON
      go_wp2_with fail
      refine wp_region_steady [] 80 (by kernel_rfl) (by kernel_rfl) (by kernel_rfl) (by rfl) ?_
      iterate 8 (refine wpG_quiet (by rfl) (by rfl) (by rfl) (fun K hK => ?_); go_big_quiet_op; refine hK _ ?_; clear hK K)
      try simp only [c1n]
      iterate 2 (refine wpG_quiet (by rfl) (by rfl) (by rfl) (fun K hK => ?_); go_big_quiet_op; refine hK _ ?_; clear hK K)
      refine wpG_call (by rfl) (by rfl) 38 #[.pointer (some ⟨gr, 0, none⟩)] (.int .i64 eC) (by intro _; simp [go_sem]) (by kernel_rfl) (fun w1 hl => HEC.out w1 (L77.trans hl.1)) ?_
      simp only [Act.put, List.setIfInBounds_toArray, List.set_cons_zero, List.set_cons_succ]
      iterate 2 (refine wpG_quiet (by rfl) (by rfl) (by rfl) (fun K hK => ?_); go_big_quiet_op; refine hK _ ?_; clear hK K)
      iterate 13 (refine wpG_skip (by rfl) ?_; simp only [Act.put, List.setIfInBounds_toArray, List.set_cons_zero, List.set_cons_succ])
      iterate 2 (refine wpG_quiet (by rfl) (by rfl) (by rfl) (fun K hK => ?_); go_big_quiet_op; refine hK _ ?_; clear hK K)
      refine wpG_nil (fun w8 l8 _ => ?_)
      clear hs7
      go_wp2_with fail
      refine (HKE.out _ (HA7.out _ l8)).mono ?_
      rintro e w9 ⟨rfl, b9⟩
      have l9 := l8.trans b9
      clear b9 l8
      by_cases hck : ck = 0
      · subst hck
        have hn31 := HNS.out (by trivial)
        go_wp2_with fail
        refine (HPE.out _ (HA7.out _ l9)).mono ?_
        rintro e w10 ⟨A3, c3, rfl, o3, b3⟩
        rw [MK.out] at o3 ⊢
        have l10 := l9.trans b3
        have hs10 := HS7.out _ l10
        obtain ⟨hi, hz0, hz1, hz2⟩ := HI.out
        go_wp2_with (first
          | (at_builtin
             refine wpList_app _ rfl (.tmp 56) (.tmp 57) _ rfl w9.heap.size 5 i0 _ 1 Try.underlying44 hi hz0 hz1 hz2 rfl (.slice A3 kp c3) (bvs lp) kp rfl (by rw [bvs_length, MK.out]) o3 w10.heap.size AB cb (bvs lb) nb rfl (by rw [bvs_length, HNL.out]) hs10 (bvs_one _) (by simp [maxLen]; omega) (by omega) b3.size ?_
             intro A5 c5 w11 o5 b5 hg5 hat5)
          | fail)
        rw [← bvs_append] at o5
        have l11 : Le w7 w11 := l9.trans (b3.trans b5)
        have HLL : Hid ((lp ++ lb).length = kp + nb) := Lib.hid (by rw [List.length_append, MK.out, HNL.out])
        have F1 := HRD.out (by trivial)
        obtain ⟨lq, hlq⟩ : ∃ lq, lq = lp ++ lb := ⟨_, rfl⟩
        rw [← hlq] at o5 HLL F1
        clear hlq hs10 hi hz0 hz1 hz2 o3 hg5 hat5
        refine (rd_new A5 (kp + nb) c5 lq w11 HLL.out o5.sees (by omega)).mono ?_
        rintro e w12 ⟨g, rfl, r6, b6⟩
        have l12 := l11.trans b6
        have hgb := r6.block
        have H5 := Lib.hid (fun wx (hx : Rd wx w11.heap.size g lq 0 0) => rd_filter w11.heap.size g lq 0 0 wx hx (Nat.zero_le _) (by rw [HLL.out]; omega))
        rw [F1] at H5
        have hwz := l11.size
        have hb7z := HB7.out.size
        clear F1 HRD o5
        go_wp2_with fail
        refine (H5.out _ r6).mono ?_
        rintro e w13 ⟨⟨AY, cY, rfl, oY⟩, R13, g13⟩
        simp only at oY R13 ⊢
        rw [HN.out] at oY ⊢
        have hb12 := HB7.out.trans (l12.mono HB7.out.size)
        have hb13 := below_row hb12 g13 (by omega)
        have HSA := Lib.hid ((HS.out.below hb13).more hb13.size)
        have HSY := Lib.hid (row_sees oY)
        clear r6 H5 hb12 g13 oY
        go_wp2_with fail
        refine (rd_err w11.heap.size g lq kp 0 _ R13).mono ?_
        rintro e wd ⟨rfl, rfl⟩
        go_wp2_with fail
        refine (rsame_any AY n cY ns A n c ns _ HN.out HN.out HSY.out HSA.out (by omega)).mono ?_
        rintro e w14 ⟨rfl, b14⟩
        rw [show decide (ns = ns) = true from decide_eq_true rfl]
        have R14 := R13.later b14
        have hb14 := hb13.trans (b14.mono hb13.size)
        clear R13 hb13 b14
        go_wp2_with fail
        refine (rd_left w11.heap.size g lq kp 0 _ R14 (by rw [HLL.out]; omega) (by rw [HLL.out]; omega)).mono ?_
        rintro e wd ⟨rfl, nk, rfl⟩
        rw [show ((lq.length : Nat) : Int) - (kp : Int) = (nb : Int) from by rw [HLL.out]; omega]
        have hbD := below_drewN hb14 nk
        clear R14 hb14
        go_wp2_with fail
        refine (HAW.out _).mono ?_
        rintro e we ⟨rfl, be⟩
        go_wp2_with fail
        go_ret
        exact ⟨rfl, hbD.trans (be.mono hbD.size)⟩
      · have bz : (ck != 0) = true := by simp [hck]
        clear hck
        go_wp2_with fail
        refine (HAW.out _).mono ?_
        rintro e wz ⟨rfl, bz⟩
        go_wp2_with fail
        go_ret
        exact ⟨rfl, (HB7.out.trans (l9.mono HB7.out.size)).trans (bz.mono (HB7.out.trans (l9.mono HB7.out.size)).size)⟩
  · have d3 : decide ((500 : Int) < (nb : Int)) = true := by simp; omega
    clear hs hn hsb hnb
    go_enter Try.func8, Try.ntmps8
    go_wp2_with fail
    refine (HAW.out _).mono ?_
    rintro e' w3 ⟨rfl, b3⟩
    go_wp2_with fail
    go_ret
    exact ⟨rfl, b3⟩
end Go.Proofs.Ytgpbglmlakildaa
