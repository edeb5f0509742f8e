/- Ledger: which answers may be, by the program. -/
import Derived.Test.YtadmaalhhigbeaaLgA
import Derived.Test.YtadmaalhhigbeaaLgC
import Derived.Test.YtadmaalhhigbeaaInMid
import Derived.Test.YtadmaalhhigbeaaRowS
namespace Go.Proofs.Ytadmaalhhigbeaa
set_option linter.unusedVariables false
set_option linter.unusedSimpArgs false
open Go Go.RowKit ValM

/-- Which answers may be. -/
def rok (r : Rp) : Prop := (2 ≤ r.kd ∧ r.kd ≤ 4) ∧ (0 ≤ r.dv ∧ r.dv < 6) ∧ (1 ≤ r.rq ∧ r.rq ≤ 1099511627776) ∧ (0 ≤ r.cd ∧ r.cd ≤ 16) ∧
  (¬ r.cd = 0 → r.id = 0 ∧ r.vr = 0 ∧ r.sq = 0 ∧ r.ep = 0 ∧ r.f.length = 0 ∧ r.ms.toNat = 0) ∧
  (r.cd = 0 → (0 ≤ r.sq ∧ r.sq ≤ 1099511627776) ∧
    (r.kd = 2 → (1 ≤ r.id ∧ r.id < 1073741824) ∧ (1 ≤ r.vr ∧ r.vr ≤ 1099511627776) ∧ r.ep = 0 ∧ r.f.length = 0 ∧ r.ms.toNat = 0) ∧
    (r.kd = 3 → r.id = 0 ∧ r.vr = 0 ∧ (1 ≤ r.ep ∧ r.ep ≤ 1099511627776) ∧ lchk r.f = 0 ∧ r.ms.toNat ≤ 511) ∧
    (r.kd = 4 → r.id = 0 ∧ r.vr = 0 ∧ r.ep = 0 ∧ r.f.length = 0 ∧ r.ms.toNat = 0))
instance (r : Rp) : Decidable (rok r) := by unfold rok; infer_instance
theorem zero_iff (r : Rp) : rab r = rab zrp ↔ r.kd = 0 ∧ r.dv = 0 ∧ r.rq = 0 ∧ r.cd = 0 ∧ r.id = 0 ∧ r.vr = 0 ∧ r.sq = 0 ∧ r.ep = 0 ∧ r.f.length = 0 ∧ r.ms.toNat = 0 := by
  constructor
  · intro e
    refine ⟨rab_kd e, rab_dv e, rab_rq e, rab_cd e, rab_id e, rab_vr e, rab_sq e, rab_ep e, ?_, ?_⟩
    · rw [show r.f = [] from rab_f e]; rfl
    · rw [show r.ms = 0#32 from rab_ms e]; rfl
  · rintro ⟨h0, h1, h2, h3, h4, h5, h6, h7, h8, h9⟩
    exact rab_eq h0 h1 h2 h3 h4 h5 h6 h7 (List.length_eq_zero_iff.1 h8) (mk_nat _ _ h9)
/-- Is an answer the zero one? -/
theorem lzero_any (kd dv rq cd id vr sq ep : Int) (A : Option Addr) (n c : Nat) (f : List Nd) (ms : BitVec 32) (w : World) (h : okRp w ⟨kd, dv, rq, cd, id, vr, sq, ep, A, n, c, f, ms⟩) (hz : n ≤ 65536) :
    Calls Try.prog 13 #[.agg #[.int .i64 kd, .int .i64 dv, .int .i64 rq, .int .i64 cd, .int .i64 id, .int .i64 vr, .int .i64 sq, .int .i64 ep, .slice A n c, .int .u32 (ms.toNat : Int)], .agg #[.int .i64 0, .int .i64 0, .int .i64 0, .int .i64 0, .int .i64 0, .int .i64 0, .int .i64 0, .int .i64 0, .slice none 0 0, .int .u32 0]] w
      fun e w' => e = .returned (.bool (decide (kd = 0 ∧ dv = 0 ∧ rq = 0 ∧ cd = 0 ∧ id = 0 ∧ vr = 0 ∧ sq = 0 ∧ ep = 0 ∧ f.length = 0 ∧ ms.toNat = 0))) ∧ Below w.heap.size w w' := by
  have := lsame_any ⟨kd, dv, rq, cd, id, vr, sq, ep, A, n, c, f, ms⟩ zrp w h (okRp.zero w) hz
  rw [show decide (rab ⟨kd, dv, rq, cd, id, vr, sq, ep, A, n, c, f, ms⟩ = rab zrp) = decide (kd = 0 ∧ dv = 0 ∧ rq = 0 ∧ cd = 0 ∧ id = 0 ∧ vr = 0 ∧ sq = 0 ∧ ep = 0 ∧ f.length = 0 ∧ ms.toNat = 0) from decide_eq_decide.2 (zero_iff _)] at this
  exact this
theorem info_rp : (Try.prog.info? 26).map (·.size) = some 10 := by kernel_rfl

theorem two_frozen {w w3 : World} {cs cs' : List Value} {t t' : TypeId} (hb : Below ((w.alloc (.cells cs.toArray t)).alloc (.cells cs'.toArray t')).heap.size ((w.alloc (.cells cs.toArray t)).alloc (.cells cs'.toArray t')) w3) (j : Nat) :
    w3.frozen? ⟨w.heap.size + 1, j, none⟩ = false := by
  have h2 := (Blk.new (w.alloc (.cells cs.toArray t)) cs' t').later hb
  rw [show (w.alloc (.cells cs.toArray t)).heap.size = w.heap.size + 1 by simp] at h2
  exact h2.frozen j
set_option maxRecDepth 100000 in
set_option maxHeartbeats 6400000 in
theorem lcheck30_any (r : Rp) (w : World) (h : okRp w r) (hz : r.n ≤ 65536) :
    Calls Try.prog 9 #[.agg (rpc r).toArray] w fun e w' => e = .returned (.bool (decide (rok r))) ∧ Below w.heap.size w w' := by
  have hu := Try.underlying26
  obtain ⟨R, hR⟩ : ∃ R, R = decide (rok r) := ⟨_, rfl⟩
  rw [← hR]
  unfold rok at hR
  obtain ⟨kd, dv, rq, cd, id, vr, sq, ep, A, n, c, f, ms⟩ := r
  dsimp only [rpc] at *
  have HZ := Lib.hid (fun (kd dv rq cd id vr sq ep : Int) (ms : BitVec 32) W (hW : Below w.heap.size w W) => lzero_any kd dv rq cd id vr sq ep A n c f ms W ⟨(h.later hW).len, (h.later hW).cap, (h.later hW).max, (h.later hW).see⟩ hz)
  have HZ0 := Lib.hid (fun (kd dv rq cd id vr sq ep : Int) (W : World) (hW : Below w.heap.size w W) => show Calls Try.prog 13 #[.agg #[.int .i64 kd, .int .i64 dv, .int .i64 rq, .int .i64 cd, .int .i64 id, .int .i64 vr, .int .i64 sq, .int .i64 ep, .slice none 0 0, .int .u32 0], .agg #[.int .i64 0, .int .i64 0, .int .i64 0, .int .i64 0, .int .i64 0, .int .i64 0, .int .i64 0, .int .i64 0, .slice none 0 0, .int .u32 0]] W (fun e w' => e = .returned (.bool (decide (kd = 0 ∧ dv = 0 ∧ rq = 0 ∧ cd = 0 ∧ id = 0 ∧ vr = 0 ∧ sq = 0 ∧ ep = 0 ∧ (0 : Nat) = 0 ∧ (0 : Nat) = 0))) ∧ Below W.heap.size W w') from lzero_any kd dv rq cd id vr sq ep none 0 0 [] 0#32 W ⟨rfl, Nat.le_refl _, by simp [maxLen], Sees.nil_⟩ (by omega))
  have HCHK := Lib.hid (fun W (hW : Below w.heap.size w W) => lcheck_any A n c f W (h.later hW).len (h.later hW).see)
  obtain ⟨lc, hlc⟩ : ∃ lc, lc = lchk f := ⟨_, rfl⟩
  obtain ⟨fl, hfl⟩ : ∃ fl, fl = f.length := ⟨_, rfl⟩
  have hR2 : R = decide ((2 ≤ kd ∧ kd ≤ 4) ∧ (0 ≤ dv ∧ dv < 6) ∧ (1 ≤ rq ∧ rq ≤ 1099511627776) ∧ (0 ≤ cd ∧ cd ≤ 16) ∧ (¬ cd = 0 → id = 0 ∧ vr = 0 ∧ sq = 0 ∧ ep = 0 ∧ fl = 0 ∧ ms.toNat = 0) ∧ (cd = 0 → (0 ≤ sq ∧ sq ≤ 1099511627776) ∧ (kd = 2 → (1 ≤ id ∧ id < 1073741824) ∧ (1 ≤ vr ∧ vr ≤ 1099511627776) ∧ ep = 0 ∧ fl = 0 ∧ ms.toNat = 0) ∧ (kd = 3 → id = 0 ∧ vr = 0 ∧ (1 ≤ ep ∧ ep ≤ 1099511627776) ∧ lc = 0 ∧ ms.toNat ≤ 511) ∧ (kd = 4 → id = 0 ∧ vr = 0 ∧ ep = 0 ∧ fl = 0 ∧ ms.toNat = 0))) := by
    rw [hR, hlc, hfl]
  rw [← hlc] at HCHK
  rw [← hfl] at HZ
  have HR := Lib.hid hR2
  clear hR hR2 h hlc hfl
  go_enter Try.func9, Try.ntmps9
  go_wp2_with fail
  repeat' (first | (with_reducible refine (lgdev_any _ _).mono ?_; rintro e wx ⟨rfl, rfl⟩; go_wp2_with fail) | (with_reducible refine (lgabove_any _ _).mono ?_; rintro e wx ⟨rfl, rfl⟩; go_wp2_with fail) | (with_reducible refine (lgnum_any _ _).mono ?_; rintro e wx ⟨rfl, rfl⟩; go_wp2_with fail))
  all_goals (try (
    refine (HCHK.out _ (below_a2 _ _ _)).mono ?_
    rintro e w5 ⟨rfl, hb5⟩
    have HB5 := Lib.hid ((below_a2 _ _ _).trans (hb5.mono (below_a2 _ _ _).size))
    have kx9 := (two_cells hb5).1 9 _ rfl
    have ky0 := (two_cells hb5).2 0 _ rfl
    have ky1 := (two_cells hb5).2 1 _ rfl
    have ky2 := (two_cells hb5).2 2 _ rfl
    have ky3 := (two_cells hb5).2 3 _ rfl
    have ky4 := (two_cells hb5).2 4 _ rfl
    have ky5 := (two_cells hb5).2 5 _ rfl
    have ky6 := (two_cells hb5).2 6 _ rfl
    have ky7 := (two_cells hb5).2 7 _ rfl
    have ky8 := (two_cells hb5).2 8 _ rfl
    have ky9 := (two_cells hb5).2 9 _ rfl
    have kz7 := two_frozen hb5 7
    have kz8 := two_frozen hb5 8
    have kz9 := two_frozen hb5 9
    have HB6 := Lib.hid (fun (a b c : Value) => ((HB5.out.setCell (p := ⟨w.heap.size + 1, 7, none⟩) (by simp) a).setCell (p := ⟨w.heap.size + 1, 8, none⟩) (by simp) b).setCell (p := ⟨w.heap.size + 1, 9, none⟩) (by simp) c)
    clear hb5
    go_wp2_with fail))
  all_goals (repeat' (first | (with_reducible refine (lgabove_any _ _).mono ?_; rintro e wx ⟨rfl, rfl⟩; go_wp2_with fail) | (with_reducible refine (lgnum_any _ _).mono ?_; rintro e wx ⟨rfl, rfl⟩; go_wp2_with fail) | (with_reducible refine (mcheck_any _ _).mono ?_; rintro e wx ⟨rfl, rfl⟩; go_wp2_with fail) | (with_reducible refine (HZ.out _ _ _ _ _ _ _ _ _ _ (below_a2 _ _ _)).mono ?_; rintro e wy ⟨rfl, hby⟩; have HBY := Lib.hid (((below_a2 _ _ _)).trans (hby.mono ((below_a2 _ _ _)).size)); clear hby; go_wp2_with fail) | (with_reducible refine (HZ.out _ _ _ _ _ _ _ _ _ _ HB5.out).mono ?_; rintro e wy ⟨rfl, hby⟩; have HBY := Lib.hid ((HB5.out).trans (hby.mono (HB5.out).size)); clear hby; go_wp2_with fail) | (with_reducible refine (HZ0.out _ _ _ _ _ _ _ _ _ (HB6.out _ _ _)).mono ?_; rintro e wy ⟨rfl, hby⟩; have HBY := Lib.hid (((HB6.out _ _ _)).trans (hby.mono ((HB6.out _ _ _)).size)); clear hby; go_wp2_with fail)))
  all_goals
    go_ret
    refine ⟨?_, by first | exact HBY.out | exact HB5.out | exact HB6.out _ _ _ | exact below_a1 _ _ | exact below_a2 _ _ _⟩
    show Ending.returned (Value.bool _) = _
    rw [HR.out]
    refine congrArg (fun b => Ending.returned (Value.bool b)) (Bool.eq_iff_iff.2 ?_)
    simp only [decide_eq_true_eq, Bool.and_eq_true, Bool.or_eq_true, Bool.not_eq_true', decide_eq_false_iff_not, Bool.false_eq_true, beq_iff_eq, false_iff, true_iff]
    (try simp only [bne_iff_ne, ne_eq, bne_eq_false_iff_eq, beq_iff_eq, beq_eq_false_iff_ne] at *)
    omega
end Go.Proofs.Ytadmaalhhigbeaa
