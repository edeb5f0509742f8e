/- Commands: as they lie; which may be; their bytes: mathematics. -/
import Derived.Test.YtnhcjadkbogioaaGreatM9
import Derived.Test.YtnhcjadkbogioaaGreatM13
import Derived.Test.YtnhcjadkbogioaaGreatM14
import Derived.Test.YtnhcjadkbogioaaGreatM12
set_option maxRecDepth 100000
set_option linter.unusedVariables false
set_option linter.unusedSimpArgs false
set_option maxHeartbeats 6400000
namespace Go.Proofs.YtnhcjadkbogioaaGreat
open Go Go.RowKit OctM
structure Cm where
  kd : Int
  ek : Int
  eid : Int
  eg : Int
  em : BitVec 32
  el : BitVec 32
  ef : List V3
  dv : Int
  rq : Int
  id : Int
  bs : Int
  kp : Int
  pm : BitVec 32
  pl : BitVec 32
  pf : List V3
  A : Option Addr
  n : Nat
  c : Nat
  f : List Nd
  ms : BitVec 32
def cmE (x : Cm) : List Value := ecells x.ek x.eid x.eg (x.em.toNat : Int) (x.el.toNat : Int) x.ef
def cmP (x : Cm) : List Value := pcells (x.pm.toNat : Int) (x.pl.toNat : Int) x.pf
def cmc (x : Cm) : List Value := .int .i64 x.kd :: (cmE x ++ (.int .i64 x.dv :: .int .i64 x.rq :: .int .i64 x.id :: .int .i64 x.bs :: .int .i64 x.kp :: (cmP x ++ [.slice x.A x.n x.c, .int .u32 (x.ms.toNat : Int)])))
structure okCm (w : World) (x : Cm) : Prop where
  e8 : x.ef.length = 8
  p8 : x.pf.length = 8
  len : x.f.length = x.n
  cap : x.n ≤ x.c
  max : x.c ≤ maxLen
  see : Sees w w.heap.size x.A (ncs x.f)
theorem okCm.later {w w' : World} {x : Cm} (h : okCm w x) (hb : Below w.heap.size w w') : okCm w' x := ⟨h.e8, h.p8, h.len, h.cap, h.max, (h.see.below hb).more hb.size⟩
theorem eight8 {l : List V3} (h : l.length = 8) : ∃ a b c d e f g i, l = [a, b, c, d, e, f, g, i] := by
  match l, h with
  | [a, b, c, d, e, f, g, i], _ => exact ⟨a, b, c, d, e, f, g, i, rfl⟩
section
variable {x : Cm} (h1 : x.ef.length = 8) (h2 : x.pf.length = 8)
include h1 h2
theorem cmc_len : (cmc x).length = 63 := by
  obtain ⟨kd, ek, eid, eg, em, el, ef, dv, rq, id, bs, kp, pm, pl, pf, A, n, c, f, ms⟩ := x
  obtain ⟨a1, a2, a3, a4, a5, a6, a7, a8, rfl⟩ := eight8 h1
  obtain ⟨b1, b2, b3, b4, b5, b6, b7, b8, rfl⟩ := eight8 h2
  rfl
theorem cm_at : (cmc x)[0]? = some (.int .i64 x.kd) ∧ (cmc x)[30]? = some (.int .i64 x.dv) ∧ (cmc x)[31]? = some (.int .i64 x.rq) ∧ (cmc x)[32]? = some (.int .i64 x.id) ∧ (cmc x)[33]? = some (.int .i64 x.bs) ∧ (cmc x)[34]? = some (.int .i64 x.kp) ∧ (cmc x)[61]? = some (.slice x.A x.n x.c) ∧ (cmc x)[62]? = some (.int .u32 (x.ms.toNat : Int)) := by
  obtain ⟨kd, ek, eid, eg, em, el, ef, dv, rq, id, bs, kp, pm, pl, pf, A, n, c, f, ms⟩ := x
  obtain ⟨a1, a2, a3, a4, a5, a6, a7, a8, rfl⟩ := eight8 h1
  obtain ⟨b1, b2, b3, b4, b5, b6, b7, b8, rfl⟩ := eight8 h2
  exact ⟨rfl, rfl, rfl, rfl, rfl, rfl, rfl, rfl⟩
theorem cm_edit : ((cmc x).drop 1).take (cmE x).length = cmE x := by
  obtain ⟨kd, ek, eid, eg, em, el, ef, dv, rq, id, bs, kp, pm, pl, pf, A, n, c, f, ms⟩ := x
  obtain ⟨a1, a2, a3, a4, a5, a6, a7, a8, rfl⟩ := eight8 h1
  obtain ⟨b1, b2, b3, b4, b5, b6, b7, b8, rfl⟩ := eight8 h2
  rfl
theorem cm_patch : ((cmc x).drop 35).take (cmP x).length = cmP x := by
  obtain ⟨kd, ek, eid, eg, em, el, ef, dv, rq, id, bs, kp, pm, pl, pf, A, n, c, f, ms⟩ := x
  obtain ⟨a1, a2, a3, a4, a5, a6, a7, a8, rfl⟩ := eight8 h1
  obtain ⟨b1, b2, b3, b4, b5, b6, b7, b8, rfl⟩ := eight8 h2
  rfl
theorem cm_sets (v : Int) (m : BitVec 32) : (cmc x).set 0 (.int .i64 v) = cmc { x with kd := v } ∧ (cmc x).set 30 (.int .i64 v) = cmc { x with dv := v } ∧ (cmc x).set 31 (.int .i64 v) = cmc { x with rq := v } ∧ (cmc x).set 32 (.int .i64 v) = cmc { x with id := v } ∧ (cmc x).set 33 (.int .i64 v) = cmc { x with bs := v } ∧ (cmc x).set 34 (.int .i64 v) = cmc { x with kp := v } ∧
    (cmc x).set 61 (.slice none 0 0) = cmc { x with A := none, n := 0, c := 0, f := [] } ∧ (cmc x).set 62 (.int .u32 (m.toNat : Int)) = cmc { x with ms := m } := by
  obtain ⟨kd, ek, eid, eg, em, el, ef, dv, rq, id, bs, kp, pm, pl, pf, A, n, c, f, ms⟩ := x
  obtain ⟨a1, a2, a3, a4, a5, a6, a7, a8, rfl⟩ := eight8 h1
  obtain ⟨b1, b2, b3, b4, b5, b6, b7, b8, rfl⟩ := eight8 h2
  exact ⟨rfl, rfl, rfl, rfl, rfl, rfl, rfl, rfl⟩
theorem cm_setE : (cmc x).take 1 ++ ecells 0 0 0 0 0 zeros ++ (cmc x).drop (1 + (ecells 0 0 0 0 0 zeros).length) = cmc { x with ek := 0, eid := 0, eg := 0, em := 0#32, el := 0#32, ef := zeros } := by
  obtain ⟨kd, ek, eid, eg, em, el, ef, dv, rq, id, bs, kp, pm, pl, pf, A, n, c, f, ms⟩ := x
  obtain ⟨a1, a2, a3, a4, a5, a6, a7, a8, rfl⟩ := eight8 h1
  obtain ⟨b1, b2, b3, b4, b5, b6, b7, b8, rfl⟩ := eight8 h2
  rfl
theorem cm_setP : (cmc x).take 35 ++ pcells 0 0 zeros ++ (cmc x).drop (35 + (pcells 0 0 zeros).length) = cmc { x with pm := 0#32, pl := 0#32, pf := zeros } := by
  obtain ⟨kd, ek, eid, eg, em, el, ef, dv, rq, id, bs, kp, pm, pl, pf, A, n, c, f, ms⟩ := x
  obtain ⟨a1, a2, a3, a4, a5, a6, a7, a8, rfl⟩ := eight8 h1
  obtain ⟨b1, b2, b3, b4, b5, b6, b7, b8, rfl⟩ := eight8 h2
  rfl
end
theorem cmc_one (x : Cm) : ∀ v ∈ cmc x, v.oneCell' = true := by
  intro v hv
  simp only [cmc, List.mem_cons, List.mem_append, List.not_mem_nil, or_false] at hv
  rcases hv with rfl | hv | rfl | rfl | rfl | rfl | rfl | hv | rfl | rfl
  · rfl
  · exact ecells_one _ _ _ _ _ _ v hv
  · rfl
  · rfl
  · rfl
  · rfl
  · rfl
  · exact pcells_one _ _ _ v hv
  · rfl
  · rfl
def ez (x : Cm) : Prop := x.ek = 0 ∧ x.eid = 0 ∧ x.eg = 0 ∧ ((x.em.toNat : Int) = 0 ∧ (x.el.toNat : Int) = 0 ∧ x.ef = zeros)
def pz (x : Cm) : Prop := (x.pm.toNat : Int) = 0 ∧ (x.pl.toNat : Int) = 0 ∧ x.pf = zeros
instance (x : Cm) : Decidable (ez x) := by unfold ez; infer_instance
instance (x : Cm) : Decidable (pz x) := by unfold pz; infer_instance
def cok (x : Cm) : Prop :=
  (x.kd = 1 ∨ x.kd = 2 ∨ x.kd = 3 ∨ x.kd = 4 ∨ x.kd = 5) ∧
  (x.kd = 1 → echk x.ek x.eid x.eg x.em (x.el.toNat : Int) x.ef = 0 ∧ pz x ∧ x.f.length = 0 ∧ x.ms.toNat = 0 ∧ x.dv = 0 ∧ x.rq = 0 ∧ x.id = 0 ∧ x.bs = 0 ∧ x.kp = 0) ∧
  (x.kd = 5 → (0 ≤ x.kp ∧ x.kp ≤ 1099511627776) ∧ ez x ∧ pz x ∧ x.f.length = 0 ∧ x.ms.toNat = 0 ∧ x.dv = 0 ∧ x.rq = 0 ∧ x.id = 0 ∧ x.bs = 0) ∧
  ((x.kd = 2 ∨ x.kd = 3 ∨ x.kd = 4) → (0 ≤ x.dv ∧ x.dv < 6) ∧ (1 ≤ x.rq ∧ x.rq ≤ 1099511627776) ∧ ez x ∧ x.kp = 0) ∧
  (x.kd = 2 → (1 ≤ x.id ∧ x.id < 1073741824) ∧ (1 ≤ x.bs ∧ x.bs ≤ 1099511627776) ∧ pchk x.pm (x.pl.toNat : Int) x.pf = 0 ∧ x.f.length = 0 ∧ x.ms.toNat = 0) ∧
  (x.kd = 3 → lchk x.f = 0 ∧ x.ms.toNat ≤ 511 ∧ pz x ∧ x.id = 0 ∧ x.bs = 0) ∧
  (x.kd = 4 → pz x ∧ x.f.length = 0 ∧ x.ms.toNat = 0 ∧ x.id = 0 ∧ x.bs = 0)
noncomputable instance (x : Cm) : Decidable (cok x) := Classical.propDecidable _
def cmb (x : Cm) : List UInt8 :=
  enc (held x.kd) ++ (if x.kd = 1 then ebs x.ek x.eid x.eg x.em (x.el.toNat : Int) x.ef else if x.kd = 5 then enc (held x.kp) else
    (enc (held x.dv) ++ enc (held x.rq)) ++ (if x.kd = 2 then (enc (held x.id) ++ enc (held x.bs)) ++ pbs x.pm (x.pl.toNat : Int) x.pf else if x.kd = 3 then lbs x.f ++ enc (held (x.ms.toNat : Int)) else []))
noncomputable def putC (x : Cm) : List UInt8 := if cok x then cmb x else []
end Go.Proofs.YtnhcjadkbogioaaGreat
namespace Go.Proofs.YtnhcjadkbogioaaGreat
open Go Go.RowKit OctM BitM
theorem echeck_001 (k id gr lab : Int) (x : BitVec 32) (f : List V3) (w : World) (hf : f.length = 8) (hk1 : 1 ≤ k) (hk2 : k ≤ 7) (hg : grp k = false) (hi : idk k = false) (hp : ptk k = true) :
    Calls Tryz.prog 42 #[.agg (ecells k id gr (x.toNat : Int) lab f).toArray] w fun e w' => e = .returned (.int .i64 (echk k id gr x lab f)) ∧ Below w.heap.size w w' := by
  have HPC := hid (fun wx : World => pcheck_any x lab f wx hf)
  have HG := hid (fun wx : World => has_grp k wx)
  have HI := hid (fun wx : World => has_idk k wx)
  have HP := hid (fun wx : World => has_ptk k wx)
  have HR0 := hid (fun (zg zi bp d1 d2 e1 e2 : Bool) h1 h2 h3 h4 h5 h6 h7 => echk_bool (k := k) (id := id) (gr := gr) (x := x) (lab := lab) (f := f) (zg := zg) (zi := zi) (bp := bp) (d1 := d1) (d2 := d2) (e1 := e1) (e2 := e2) hk1 hk2 hg hi hp h1 h2 h3 h4 h5 h6 h7)
  have B0 := Blk.new w (ecells k id gr (x.toNat : Int) lab f) 38
  obtain ⟨q0, q1, q2⟩ := B0.edit
  have RP := B0.patchE
  have hb := (Below.refl w.heap.size w).alloc (Nat.le_refl _) (.cells (ecells k id gr (x.toNat : Int) lab f).toArray 38)
  obtain ⟨R, hR⟩ : ∃ R, R = echk k id gr x lab f := ⟨_, rfl⟩
  rw [← hR] at HR0 ⊢
  obtain ⟨P, hP⟩ : ∃ P, P = pchk x lab f := ⟨_, rfl⟩
  rw [← hP] at HR0 HPC
  obtain ⟨bp, kbp⟩ : ∃ b, decide ((x.toNat : Int) = 0 ∧ lab = 0 ∧ f = zeros) = b := ⟨_, rfl⟩
  have HEQ : Hid (∀ wx : World, (Op.equalIn 10000 36 (.agg (pcells (x.toNat : Int) lab f).toArray) (.agg (pcells 0 0 zeros).toArray)).run Tryz.prog wx = .ok bp wx) := hid (fun wx => by rw [eq_patch 9996 _ _ _ _ f zeros hf zeros_len wx, kbp])
  have HPL := hid (pcells_len (x.toNat : Int) lab hf)
  obtain ⟨zg, kzg⟩ : ∃ b, (gr != 0) = b := ⟨_, rfl⟩
  obtain ⟨zi, kzi⟩ : ∃ b, (id != 0) = b := ⟨_, rfl⟩
  obtain ⟨d1, kd1⟩ : ∃ b, decide (gr < 0) = b := ⟨_, rfl⟩
  obtain ⟨d2, kd2⟩ : ∃ b, decide (16 ≤ gr) = b := ⟨_, rfl⟩
  obtain ⟨e1, ke1⟩ : ∃ b, decide (id < 1) = b := ⟨_, rfl⟩
  obtain ⟨e2, ke2⟩ : ∃ b, decide (1073741824 ≤ id) = b := ⟨_, rfl⟩
  have HR := hid (HR0.out zg zi bp d1 d2 e1 e2 kzg kzi kbp kd1 kd2 ke1 ke2)
  rw [hg] at HG
  rw [hi] at HI
  rw [hp] at HP
  have hup := Tryz.underlying36
  obtain ⟨pc, hpc⟩ : ∃ pc, pc = pcells (x.toNat : Int) lab f := ⟨_, rfl⟩
  rw [← hpc] at RP HEQ HPL HPC
  obtain ⟨ec, hec⟩ : ∃ ec, ec = ecells k id gr (x.toNat : Int) lab f := ⟨_, rfl⟩
  rw [← hec] at q0 q1 q2 RP hb B0 ⊢
  have HIN := hid (show inr k = true by unfold inr; exact decide_eq_true ⟨hk1, hk2⟩)
  have HIN := hid (show inr k = true by unfold inr; exact decide_eq_true ⟨hk1, hk2⟩)
  have HIN := hid (show inr k = true by unfold inr; exact decide_eq_true ⟨hk1, hk2⟩)
  have HIN := hid (show inr k = true by unfold inr; exact decide_eq_true ⟨hk1, hk2⟩)
  have HIN := hid (show inr k = true by unfold inr; exact decide_eq_true ⟨hk1, hk2⟩)
  clear HR0 hpc hec hR hP hg hi hp hk1 hk2 kbp hf
  have H7 := hid (fun wx : World => has_inr k wx)
  rw [show inr k = true from HIN.out] at H7
  clear B0
  go_enter Tryz.func42, Tryz.ntmps42
  go_wp2_with fail
  refine (H7.out _).mono ?_
  rintro e' w' ⟨rfl, rfl⟩
  go_wp2_with fail
  refine (HG.out _).mono ?_
  rintro e' w' ⟨rfl, rfl⟩
  cases zg
  · go_wp2_with fail
    refine (HI.out _).mono ?_
    rintro e' w' ⟨rfl, rfl⟩
    cases zi
    · go_wp2_with fail
      refine (HP.out _).mono ?_
      rintro e' w' ⟨rfl, rfl⟩
      cases d1
      · cases d2
        · go_wp2_with fail
          refine (HI.out _).mono ?_
          rintro e' w' ⟨rfl, rfl⟩
          go_wp2_with fail
          refine (HP.out _).mono ?_
          rintro e' w' ⟨rfl, rfl⟩
          go_wp2_with (first
            | (refine wpList_load_g (by rfl) 36 (.tmp 64) rfl w.heap.size 3 rfl pc _ RP hup rfl (by rw [HPL.out]; exact info_patch) ?_)
            | fail)
          refine (HPC.out _).mono ?_
          rintro e' w' ⟨rfl, hb2⟩
          go_wp2_with fail
          go_ret
          exact ⟨by rw [HR.out]; rfl, hb.trans (hb2.mono hb.size)⟩
        · go_wp2_with fail
          go_ret
          exact ⟨by rw [HR.out]; rfl, hb⟩
      · go_wp2_with fail
        go_ret
        exact ⟨by rw [HR.out]; rfl, hb⟩
    · go_wp2_with fail
      go_ret
      exact ⟨by rw [HR.out]; rfl, hb⟩
  · go_wp2_with fail
    go_ret
    exact ⟨by rw [HR.out]; rfl, hb⟩
theorem echeck_011 (k id gr lab : Int) (x : BitVec 32) (f : List V3) (w : World) (hf : f.length = 8) (hk1 : 1 ≤ k) (hk2 : k ≤ 7) (hg : grp k = false) (hi : idk k = true) (hp : ptk k = true) :
    Calls Tryz.prog 42 #[.agg (ecells k id gr (x.toNat : Int) lab f).toArray] w fun e w' => e = .returned (.int .i64 (echk k id gr x lab f)) ∧ Below w.heap.size w w' := by
  have HPC := hid (fun wx : World => pcheck_any x lab f wx hf)
  have HG := hid (fun wx : World => has_grp k wx)
  have HI := hid (fun wx : World => has_idk k wx)
  have HP := hid (fun wx : World => has_ptk k wx)
  have HR0 := hid (fun (zg zi bp d1 d2 e1 e2 : Bool) h1 h2 h3 h4 h5 h6 h7 => echk_bool (k := k) (id := id) (gr := gr) (x := x) (lab := lab) (f := f) (zg := zg) (zi := zi) (bp := bp) (d1 := d1) (d2 := d2) (e1 := e1) (e2 := e2) hk1 hk2 hg hi hp h1 h2 h3 h4 h5 h6 h7)
  have B0 := Blk.new w (ecells k id gr (x.toNat : Int) lab f) 38
  obtain ⟨q0, q1, q2⟩ := B0.edit
  have RP := B0.patchE
  have hb := (Below.refl w.heap.size w).alloc (Nat.le_refl _) (.cells (ecells k id gr (x.toNat : Int) lab f).toArray 38)
  obtain ⟨R, hR⟩ : ∃ R, R = echk k id gr x lab f := ⟨_, rfl⟩
  rw [← hR] at HR0 ⊢
  obtain ⟨P, hP⟩ : ∃ P, P = pchk x lab f := ⟨_, rfl⟩
  rw [← hP] at HR0 HPC
  obtain ⟨bp, kbp⟩ : ∃ b, decide ((x.toNat : Int) = 0 ∧ lab = 0 ∧ f = zeros) = b := ⟨_, rfl⟩
  have HEQ : Hid (∀ wx : World, (Op.equalIn 10000 36 (.agg (pcells (x.toNat : Int) lab f).toArray) (.agg (pcells 0 0 zeros).toArray)).run Tryz.prog wx = .ok bp wx) := hid (fun wx => by rw [eq_patch 9996 _ _ _ _ f zeros hf zeros_len wx, kbp])
  have HPL := hid (pcells_len (x.toNat : Int) lab hf)
  obtain ⟨zg, kzg⟩ : ∃ b, (gr != 0) = b := ⟨_, rfl⟩
  obtain ⟨zi, kzi⟩ : ∃ b, (id != 0) = b := ⟨_, rfl⟩
  obtain ⟨d1, kd1⟩ : ∃ b, decide (gr < 0) = b := ⟨_, rfl⟩
  obtain ⟨d2, kd2⟩ : ∃ b, decide (16 ≤ gr) = b := ⟨_, rfl⟩
  obtain ⟨e1, ke1⟩ : ∃ b, decide (id < 1) = b := ⟨_, rfl⟩
  obtain ⟨e2, ke2⟩ : ∃ b, decide (1073741824 ≤ id) = b := ⟨_, rfl⟩
  have HR := hid (HR0.out zg zi bp d1 d2 e1 e2 kzg kzi kbp kd1 kd2 ke1 ke2)
  rw [hg] at HG
  rw [hi] at HI
  rw [hp] at HP
  have hup := Tryz.underlying36
  obtain ⟨pc, hpc⟩ : ∃ pc, pc = pcells (x.toNat : Int) lab f := ⟨_, rfl⟩
  rw [← hpc] at RP HEQ HPL HPC
  obtain ⟨ec, hec⟩ : ∃ ec, ec = ecells k id gr (x.toNat : Int) lab f := ⟨_, rfl⟩
  rw [← hec] at q0 q1 q2 RP hb B0 ⊢
  have HIN := hid (show inr k = true by unfold inr; exact decide_eq_true ⟨hk1, hk2⟩)
  have HIN := hid (show inr k = true by unfold inr; exact decide_eq_true ⟨hk1, hk2⟩)
  have HIN := hid (show inr k = true by unfold inr; exact decide_eq_true ⟨hk1, hk2⟩)
  have HIN := hid (show inr k = true by unfold inr; exact decide_eq_true ⟨hk1, hk2⟩)
  clear HR0 hpc hec hR hP hg hi hp hk1 hk2 kbp hf
  have H7 := hid (fun wx : World => has_inr k wx)
  rw [show inr k = true from HIN.out] at H7
  clear B0
  go_enter Tryz.func42, Tryz.ntmps42
  go_wp2_with fail
  refine (H7.out _).mono ?_
  rintro e' w' ⟨rfl, rfl⟩
  go_wp2_with fail
  refine (HG.out _).mono ?_
  rintro e' w' ⟨rfl, rfl⟩
  cases zg
  · go_wp2_with fail
    refine (HI.out _).mono ?_
    rintro e' w' ⟨rfl, rfl⟩
    go_wp2_with fail
    refine (HP.out _).mono ?_
    rintro e' w' ⟨rfl, rfl⟩
    cases d1
    · cases d2
      · go_wp2_with fail
        refine (HI.out _).mono ?_
        rintro e' w' ⟨rfl, rfl⟩
        cases e1
        · cases e2
          · go_wp2_with fail
            refine (HP.out _).mono ?_
            rintro e' w' ⟨rfl, rfl⟩
            go_wp2_with (first
              | (refine wpList_load_g (by rfl) 36 (.tmp 64) rfl w.heap.size 3 rfl pc _ RP hup rfl (by rw [HPL.out]; exact info_patch) ?_)
              | fail)
            refine (HPC.out _).mono ?_
            rintro e' w' ⟨rfl, hb2⟩
            go_wp2_with fail
            go_ret
            exact ⟨by rw [HR.out]; rfl, hb.trans (hb2.mono hb.size)⟩
          · go_wp2_with fail
            go_ret
            exact ⟨by rw [HR.out]; rfl, hb⟩
        · go_wp2_with fail
          go_ret
          exact ⟨by rw [HR.out]; rfl, hb⟩
      · go_wp2_with fail
        go_ret
        exact ⟨by rw [HR.out]; rfl, hb⟩
    · go_wp2_with fail
      go_ret
      exact ⟨by rw [HR.out]; rfl, hb⟩
  · go_wp2_with fail
    go_ret
    exact ⟨by rw [HR.out]; rfl, hb⟩
theorem echeck_010 (k id gr lab : Int) (x : BitVec 32) (f : List V3) (w : World) (hf : f.length = 8) (hk1 : 1 ≤ k) (hk2 : k ≤ 7) (hg : grp k = false) (hi : idk k = true) (hp : ptk k = false) :
    Calls Tryz.prog 42 #[.agg (ecells k id gr (x.toNat : Int) lab f).toArray] w fun e w' => e = .returned (.int .i64 (echk k id gr x lab f)) ∧ Below w.heap.size w w' := by
  have HPC := hid (fun wx : World => pcheck_any x lab f wx hf)
  have HG := hid (fun wx : World => has_grp k wx)
  have HI := hid (fun wx : World => has_idk k wx)
  have HP := hid (fun wx : World => has_ptk k wx)
  have HR0 := hid (fun (zg zi bp d1 d2 e1 e2 : Bool) h1 h2 h3 h4 h5 h6 h7 => echk_bool (k := k) (id := id) (gr := gr) (x := x) (lab := lab) (f := f) (zg := zg) (zi := zi) (bp := bp) (d1 := d1) (d2 := d2) (e1 := e1) (e2 := e2) hk1 hk2 hg hi hp h1 h2 h3 h4 h5 h6 h7)
  have B0 := Blk.new w (ecells k id gr (x.toNat : Int) lab f) 38
  obtain ⟨q0, q1, q2⟩ := B0.edit
  have RP := B0.patchE
  have hb := (Below.refl w.heap.size w).alloc (Nat.le_refl _) (.cells (ecells k id gr (x.toNat : Int) lab f).toArray 38)
  obtain ⟨R, hR⟩ : ∃ R, R = echk k id gr x lab f := ⟨_, rfl⟩
  rw [← hR] at HR0 ⊢
  obtain ⟨P, hP⟩ : ∃ P, P = pchk x lab f := ⟨_, rfl⟩
  rw [← hP] at HR0 HPC
  obtain ⟨bp, kbp⟩ : ∃ b, decide ((x.toNat : Int) = 0 ∧ lab = 0 ∧ f = zeros) = b := ⟨_, rfl⟩
  have HEQ : Hid (∀ wx : World, (Op.equalIn 10000 36 (.agg (pcells (x.toNat : Int) lab f).toArray) (.agg (pcells 0 0 zeros).toArray)).run Tryz.prog wx = .ok bp wx) := hid (fun wx => by rw [eq_patch 9996 _ _ _ _ f zeros hf zeros_len wx, kbp])
  have HPL := hid (pcells_len (x.toNat : Int) lab hf)
  obtain ⟨zg, kzg⟩ : ∃ b, (gr != 0) = b := ⟨_, rfl⟩
  obtain ⟨zi, kzi⟩ : ∃ b, (id != 0) = b := ⟨_, rfl⟩
  obtain ⟨d1, kd1⟩ : ∃ b, decide (gr < 0) = b := ⟨_, rfl⟩
  obtain ⟨d2, kd2⟩ : ∃ b, decide (16 ≤ gr) = b := ⟨_, rfl⟩
  obtain ⟨e1, ke1⟩ : ∃ b, decide (id < 1) = b := ⟨_, rfl⟩
  obtain ⟨e2, ke2⟩ : ∃ b, decide (1073741824 ≤ id) = b := ⟨_, rfl⟩
  have HR := hid (HR0.out zg zi bp d1 d2 e1 e2 kzg kzi kbp kd1 kd2 ke1 ke2)
  rw [hg] at HG
  rw [hi] at HI
  rw [hp] at HP
  have hup := Tryz.underlying36
  obtain ⟨pc, hpc⟩ : ∃ pc, pc = pcells (x.toNat : Int) lab f := ⟨_, rfl⟩
  rw [← hpc] at RP HEQ HPL HPC
  obtain ⟨ec, hec⟩ : ∃ ec, ec = ecells k id gr (x.toNat : Int) lab f := ⟨_, rfl⟩
  rw [← hec] at q0 q1 q2 RP hb B0 ⊢
  have HIN := hid (show inr k = true by unfold inr; exact decide_eq_true ⟨hk1, hk2⟩)
  have HIN := hid (show inr k = true by unfold inr; exact decide_eq_true ⟨hk1, hk2⟩)
  have HIN := hid (show inr k = true by unfold inr; exact decide_eq_true ⟨hk1, hk2⟩)
  clear HR0 hpc hec hR hP hg hi hp hk1 hk2 kbp hf
  have H7 := hid (fun wx : World => has_inr k wx)
  rw [show inr k = true from HIN.out] at H7
  clear B0
  go_enter Tryz.func42, Tryz.ntmps42
  go_wp2_with fail
  refine (H7.out _).mono ?_
  rintro e' w' ⟨rfl, rfl⟩
  go_wp2_with fail
  refine (HG.out _).mono ?_
  rintro e' w' ⟨rfl, rfl⟩
  cases zg
  · go_wp2_with fail
    refine (HI.out _).mono ?_
    rintro e' w' ⟨rfl, rfl⟩
    go_wp2_with fail
    refine (HP.out _).mono ?_
    rintro e' w' ⟨rfl, rfl⟩
    cases bp
    · go_wp2_with (first
        | (refine wpList_load_g (by rfl) 36 (.tmp 32) rfl w.heap.size 3 rfl pc _ RP hup rfl (by rw [HPL.out]; exact info_patch) ?_)
        | (refine wpList_exec (by rfl) (.bool (!false)) (exec_neq 36 _ (.tmp 33) (.tmp 34) rfl pc.toArray (pcells 0 0 zeros).toArray (by rfl) (by rfl) guard_patchE false (HEQ.out _)) ?_)
        | fail)
      go_ret
      exact ⟨by rw [HR.out]; rfl, hb⟩
    · cases d1
      · cases d2
        · go_wp2_with (first
            | (refine wpList_load_g (by rfl) 36 (.tmp 32) rfl w.heap.size 3 rfl pc _ RP hup rfl (by rw [HPL.out]; exact info_patch) ?_)
            | (refine wpList_exec (by rfl) (.bool (!true)) (exec_neq 36 _ (.tmp 33) (.tmp 34) rfl pc.toArray (pcells 0 0 zeros).toArray (by rfl) (by rfl) guard_patchE true (HEQ.out _)) ?_)
            | fail)
          refine (HI.out _).mono ?_
          rintro e' w' ⟨rfl, rfl⟩
          cases e1
          · cases e2
            · go_wp2_with fail
              refine (HP.out _).mono ?_
              rintro e' w' ⟨rfl, rfl⟩
              go_wp2_with fail
              go_ret
              exact ⟨by rw [HR.out]; rfl, hb⟩
            · go_wp2_with fail
              go_ret
              exact ⟨by rw [HR.out]; rfl, hb⟩
          · go_wp2_with fail
            go_ret
            exact ⟨by rw [HR.out]; rfl, hb⟩
        · go_wp2_with (first
            | (refine wpList_load_g (by rfl) 36 (.tmp 32) rfl w.heap.size 3 rfl pc _ RP hup rfl (by rw [HPL.out]; exact info_patch) ?_)
            | (refine wpList_exec (by rfl) (.bool (!true)) (exec_neq 36 _ (.tmp 33) (.tmp 34) rfl pc.toArray (pcells 0 0 zeros).toArray (by rfl) (by rfl) guard_patchE true (HEQ.out _)) ?_)
            | fail)
          go_ret
          exact ⟨by rw [HR.out]; rfl, hb⟩
      · go_wp2_with (first
          | (refine wpList_load_g (by rfl) 36 (.tmp 32) rfl w.heap.size 3 rfl pc _ RP hup rfl (by rw [HPL.out]; exact info_patch) ?_)
          | (refine wpList_exec (by rfl) (.bool (!true)) (exec_neq 36 _ (.tmp 33) (.tmp 34) rfl pc.toArray (pcells 0 0 zeros).toArray (by rfl) (by rfl) guard_patchE true (HEQ.out _)) ?_)
          | fail)
        go_ret
        exact ⟨by rw [HR.out]; rfl, hb⟩
  · go_wp2_with fail
    go_ret
    exact ⟨by rw [HR.out]; rfl, hb⟩
theorem echeck_100 (k id gr lab : Int) (x : BitVec 32) (f : List V3) (w : World) (hf : f.length = 8) (hk1 : 1 ≤ k) (hk2 : k ≤ 7) (hg : grp k = true) (hi : idk k = false) (hp : ptk k = false) :
    Calls Tryz.prog 42 #[.agg (ecells k id gr (x.toNat : Int) lab f).toArray] w fun e w' => e = .returned (.int .i64 (echk k id gr x lab f)) ∧ Below w.heap.size w w' := by
  have HPC := hid (fun wx : World => pcheck_any x lab f wx hf)
  have HG := hid (fun wx : World => has_grp k wx)
  have HI := hid (fun wx : World => has_idk k wx)
  have HP := hid (fun wx : World => has_ptk k wx)
  have HR0 := hid (fun (zg zi bp d1 d2 e1 e2 : Bool) h1 h2 h3 h4 h5 h6 h7 => echk_bool (k := k) (id := id) (gr := gr) (x := x) (lab := lab) (f := f) (zg := zg) (zi := zi) (bp := bp) (d1 := d1) (d2 := d2) (e1 := e1) (e2 := e2) hk1 hk2 hg hi hp h1 h2 h3 h4 h5 h6 h7)
  have B0 := Blk.new w (ecells k id gr (x.toNat : Int) lab f) 38
  obtain ⟨q0, q1, q2⟩ := B0.edit
  have RP := B0.patchE
  have hb := (Below.refl w.heap.size w).alloc (Nat.le_refl _) (.cells (ecells k id gr (x.toNat : Int) lab f).toArray 38)
  obtain ⟨R, hR⟩ : ∃ R, R = echk k id gr x lab f := ⟨_, rfl⟩
  rw [← hR] at HR0 ⊢
  obtain ⟨P, hP⟩ : ∃ P, P = pchk x lab f := ⟨_, rfl⟩
  rw [← hP] at HR0 HPC
  obtain ⟨bp, kbp⟩ : ∃ b, decide ((x.toNat : Int) = 0 ∧ lab = 0 ∧ f = zeros) = b := ⟨_, rfl⟩
  have HEQ : Hid (∀ wx : World, (Op.equalIn 10000 36 (.agg (pcells (x.toNat : Int) lab f).toArray) (.agg (pcells 0 0 zeros).toArray)).run Tryz.prog wx = .ok bp wx) := hid (fun wx => by rw [eq_patch 9996 _ _ _ _ f zeros hf zeros_len wx, kbp])
  have HPL := hid (pcells_len (x.toNat : Int) lab hf)
  obtain ⟨zg, kzg⟩ : ∃ b, (gr != 0) = b := ⟨_, rfl⟩
  obtain ⟨zi, kzi⟩ : ∃ b, (id != 0) = b := ⟨_, rfl⟩
  obtain ⟨d1, kd1⟩ : ∃ b, decide (gr < 0) = b := ⟨_, rfl⟩
  obtain ⟨d2, kd2⟩ : ∃ b, decide (16 ≤ gr) = b := ⟨_, rfl⟩
  obtain ⟨e1, ke1⟩ : ∃ b, decide (id < 1) = b := ⟨_, rfl⟩
  obtain ⟨e2, ke2⟩ : ∃ b, decide (1073741824 ≤ id) = b := ⟨_, rfl⟩
  have HR := hid (HR0.out zg zi bp d1 d2 e1 e2 kzg kzi kbp kd1 kd2 ke1 ke2)
  rw [hg] at HG
  rw [hi] at HI
  rw [hp] at HP
  have hup := Tryz.underlying36
  obtain ⟨pc, hpc⟩ : ∃ pc, pc = pcells (x.toNat : Int) lab f := ⟨_, rfl⟩
  rw [← hpc] at RP HEQ HPL HPC
  obtain ⟨ec, hec⟩ : ∃ ec, ec = ecells k id gr (x.toNat : Int) lab f := ⟨_, rfl⟩
  rw [← hec] at q0 q1 q2 RP hb B0 ⊢
  have HIN := hid (show inr k = true by unfold inr; exact decide_eq_true ⟨hk1, hk2⟩)
  have HIN := hid (show inr k = true by unfold inr; exact decide_eq_true ⟨hk1, hk2⟩)
  clear HR0 hpc hec hR hP hg hi hp hk1 hk2 kbp hf
  have H7 := hid (fun wx : World => has_inr k wx)
  rw [show inr k = true from HIN.out] at H7
  clear B0
  go_enter Tryz.func42, Tryz.ntmps42
  go_wp2_with fail
  refine (H7.out _).mono ?_
  rintro e' w' ⟨rfl, rfl⟩
  go_wp2_with fail
  refine (HG.out _).mono ?_
  rintro e' w' ⟨rfl, rfl⟩
  go_wp2_with fail
  refine (HI.out _).mono ?_
  rintro e' w' ⟨rfl, rfl⟩
  cases zi
  · go_wp2_with fail
    refine (HP.out _).mono ?_
    rintro e' w' ⟨rfl, rfl⟩
    cases bp
    · go_wp2_with (first
        | (refine wpList_load_g (by rfl) 36 (.tmp 32) rfl w.heap.size 3 rfl pc _ RP hup rfl (by rw [HPL.out]; exact info_patch) ?_)
        | (refine wpList_exec (by rfl) (.bool (!false)) (exec_neq 36 _ (.tmp 33) (.tmp 34) rfl pc.toArray (pcells 0 0 zeros).toArray (by rfl) (by rfl) guard_patchE false (HEQ.out _)) ?_)
        | fail)
      go_ret
      exact ⟨by rw [HR.out]; rfl, hb⟩
    · cases d1
      · cases d2
        · go_wp2_with (first
            | (refine wpList_load_g (by rfl) 36 (.tmp 32) rfl w.heap.size 3 rfl pc _ RP hup rfl (by rw [HPL.out]; exact info_patch) ?_)
            | (refine wpList_exec (by rfl) (.bool (!true)) (exec_neq 36 _ (.tmp 33) (.tmp 34) rfl pc.toArray (pcells 0 0 zeros).toArray (by rfl) (by rfl) guard_patchE true (HEQ.out _)) ?_)
            | fail)
          refine (HI.out _).mono ?_
          rintro e' w' ⟨rfl, rfl⟩
          go_wp2_with fail
          refine (HP.out _).mono ?_
          rintro e' w' ⟨rfl, rfl⟩
          go_wp2_with fail
          go_ret
          exact ⟨by rw [HR.out]; rfl, hb⟩
        · go_wp2_with (first
            | (refine wpList_load_g (by rfl) 36 (.tmp 32) rfl w.heap.size 3 rfl pc _ RP hup rfl (by rw [HPL.out]; exact info_patch) ?_)
            | (refine wpList_exec (by rfl) (.bool (!true)) (exec_neq 36 _ (.tmp 33) (.tmp 34) rfl pc.toArray (pcells 0 0 zeros).toArray (by rfl) (by rfl) guard_patchE true (HEQ.out _)) ?_)
            | fail)
          go_ret
          exact ⟨by rw [HR.out]; rfl, hb⟩
      · go_wp2_with (first
          | (refine wpList_load_g (by rfl) 36 (.tmp 32) rfl w.heap.size 3 rfl pc _ RP hup rfl (by rw [HPL.out]; exact info_patch) ?_)
          | (refine wpList_exec (by rfl) (.bool (!true)) (exec_neq 36 _ (.tmp 33) (.tmp 34) rfl pc.toArray (pcells 0 0 zeros).toArray (by rfl) (by rfl) guard_patchE true (HEQ.out _)) ?_)
          | fail)
        go_ret
        exact ⟨by rw [HR.out]; rfl, hb⟩
  · go_wp2_with fail
    go_ret
    exact ⟨by rw [HR.out]; rfl, hb⟩
theorem echeck_110 (k id gr lab : Int) (x : BitVec 32) (f : List V3) (w : World) (hf : f.length = 8) (hk1 : 1 ≤ k) (hk2 : k ≤ 7) (hg : grp k = true) (hi : idk k = true) (hp : ptk k = false) :
    Calls Tryz.prog 42 #[.agg (ecells k id gr (x.toNat : Int) lab f).toArray] w fun e w' => e = .returned (.int .i64 (echk k id gr x lab f)) ∧ Below w.heap.size w w' := by
  have HPC := hid (fun wx : World => pcheck_any x lab f wx hf)
  have HG := hid (fun wx : World => has_grp k wx)
  have HI := hid (fun wx : World => has_idk k wx)
  have HP := hid (fun wx : World => has_ptk k wx)
  have HR0 := hid (fun (zg zi bp d1 d2 e1 e2 : Bool) h1 h2 h3 h4 h5 h6 h7 => echk_bool (k := k) (id := id) (gr := gr) (x := x) (lab := lab) (f := f) (zg := zg) (zi := zi) (bp := bp) (d1 := d1) (d2 := d2) (e1 := e1) (e2 := e2) hk1 hk2 hg hi hp h1 h2 h3 h4 h5 h6 h7)
  have B0 := Blk.new w (ecells k id gr (x.toNat : Int) lab f) 38
  obtain ⟨q0, q1, q2⟩ := B0.edit
  have RP := B0.patchE
  have hb := (Below.refl w.heap.size w).alloc (Nat.le_refl _) (.cells (ecells k id gr (x.toNat : Int) lab f).toArray 38)
  obtain ⟨R, hR⟩ : ∃ R, R = echk k id gr x lab f := ⟨_, rfl⟩
  rw [← hR] at HR0 ⊢
  obtain ⟨P, hP⟩ : ∃ P, P = pchk x lab f := ⟨_, rfl⟩
  rw [← hP] at HR0 HPC
  obtain ⟨bp, kbp⟩ : ∃ b, decide ((x.toNat : Int) = 0 ∧ lab = 0 ∧ f = zeros) = b := ⟨_, rfl⟩
  have HEQ : Hid (∀ wx : World, (Op.equalIn 10000 36 (.agg (pcells (x.toNat : Int) lab f).toArray) (.agg (pcells 0 0 zeros).toArray)).run Tryz.prog wx = .ok bp wx) := hid (fun wx => by rw [eq_patch 9996 _ _ _ _ f zeros hf zeros_len wx, kbp])
  have HPL := hid (pcells_len (x.toNat : Int) lab hf)
  obtain ⟨zg, kzg⟩ : ∃ b, (gr != 0) = b := ⟨_, rfl⟩
  obtain ⟨zi, kzi⟩ : ∃ b, (id != 0) = b := ⟨_, rfl⟩
  obtain ⟨d1, kd1⟩ : ∃ b, decide (gr < 0) = b := ⟨_, rfl⟩
  obtain ⟨d2, kd2⟩ : ∃ b, decide (16 ≤ gr) = b := ⟨_, rfl⟩
  obtain ⟨e1, ke1⟩ : ∃ b, decide (id < 1) = b := ⟨_, rfl⟩
  obtain ⟨e2, ke2⟩ : ∃ b, decide (1073741824 ≤ id) = b := ⟨_, rfl⟩
  have HR := hid (HR0.out zg zi bp d1 d2 e1 e2 kzg kzi kbp kd1 kd2 ke1 ke2)
  rw [hg] at HG
  rw [hi] at HI
  rw [hp] at HP
  have hup := Tryz.underlying36
  obtain ⟨pc, hpc⟩ : ∃ pc, pc = pcells (x.toNat : Int) lab f := ⟨_, rfl⟩
  rw [← hpc] at RP HEQ HPL HPC
  obtain ⟨ec, hec⟩ : ∃ ec, ec = ecells k id gr (x.toNat : Int) lab f := ⟨_, rfl⟩
  rw [← hec] at q0 q1 q2 RP hb B0 ⊢
  have HIN := hid (show inr k = true by unfold inr; exact decide_eq_true ⟨hk1, hk2⟩)
  clear HR0 hpc hec hR hP hg hi hp hk1 hk2 kbp hf
  have H7 := hid (fun wx : World => has_inr k wx)
  rw [show inr k = true from HIN.out] at H7
  clear B0
  go_enter Tryz.func42, Tryz.ntmps42
  go_wp2_with fail
  refine (H7.out _).mono ?_
  rintro e' w' ⟨rfl, rfl⟩
  go_wp2_with fail
  refine (HG.out _).mono ?_
  rintro e' w' ⟨rfl, rfl⟩
  go_wp2_with fail
  refine (HI.out _).mono ?_
  rintro e' w' ⟨rfl, rfl⟩
  go_wp2_with fail
  refine (HP.out _).mono ?_
  rintro e' w' ⟨rfl, rfl⟩
  cases bp
  · go_wp2_with (first
      | (refine wpList_load_g (by rfl) 36 (.tmp 32) rfl w.heap.size 3 rfl pc _ RP hup rfl (by rw [HPL.out]; exact info_patch) ?_)
      | (refine wpList_exec (by rfl) (.bool (!false)) (exec_neq 36 _ (.tmp 33) (.tmp 34) rfl pc.toArray (pcells 0 0 zeros).toArray (by rfl) (by rfl) guard_patchE false (HEQ.out _)) ?_)
      | fail)
    go_ret
    exact ⟨by rw [HR.out]; rfl, hb⟩
  · cases d1
    · cases d2
      · go_wp2_with (first
          | (refine wpList_load_g (by rfl) 36 (.tmp 32) rfl w.heap.size 3 rfl pc _ RP hup rfl (by rw [HPL.out]; exact info_patch) ?_)
          | (refine wpList_exec (by rfl) (.bool (!true)) (exec_neq 36 _ (.tmp 33) (.tmp 34) rfl pc.toArray (pcells 0 0 zeros).toArray (by rfl) (by rfl) guard_patchE true (HEQ.out _)) ?_)
          | fail)
        refine (HI.out _).mono ?_
        rintro e' w' ⟨rfl, rfl⟩
        cases e1
        · cases e2
          · go_wp2_with fail
            refine (HP.out _).mono ?_
            rintro e' w' ⟨rfl, rfl⟩
            go_wp2_with fail
            go_ret
            exact ⟨by rw [HR.out]; rfl, hb⟩
          · go_wp2_with fail
            go_ret
            exact ⟨by rw [HR.out]; rfl, hb⟩
        · go_wp2_with fail
          go_ret
          exact ⟨by rw [HR.out]; rfl, hb⟩
      · go_wp2_with (first
          | (refine wpList_load_g (by rfl) 36 (.tmp 32) rfl w.heap.size 3 rfl pc _ RP hup rfl (by rw [HPL.out]; exact info_patch) ?_)
          | (refine wpList_exec (by rfl) (.bool (!true)) (exec_neq 36 _ (.tmp 33) (.tmp 34) rfl pc.toArray (pcells 0 0 zeros).toArray (by rfl) (by rfl) guard_patchE true (HEQ.out _)) ?_)
          | fail)
        go_ret
        exact ⟨by rw [HR.out]; rfl, hb⟩
    · go_wp2_with (first
        | (refine wpList_load_g (by rfl) 36 (.tmp 32) rfl w.heap.size 3 rfl pc _ RP hup rfl (by rw [HPL.out]; exact info_patch) ?_)
        | (refine wpList_exec (by rfl) (.bool (!true)) (exec_neq 36 _ (.tmp 33) (.tmp 34) rfl pc.toArray (pcells 0 0 zeros).toArray (by rfl) (by rfl) guard_patchE true (HEQ.out _)) ?_)
        | fail)
      go_ret
      exact ⟨by rw [HR.out]; rfl, hb⟩
theorem echeck_any (k id gr lab : Int) (x : BitVec 32) (f : List V3) (w : World) (hf : f.length = 8) :
    Calls Tryz.prog 42 #[.agg (ecells k id gr (x.toNat : Int) lab f).toArray] w fun e w' => e = .returned (.int .i64 (echk k id gr x lab f)) ∧ Below w.heap.size w w' := by
  by_cases hk : 1 ≤ k ∧ k ≤ 7
  · have hc : k = 1 ∨ k = 2 ∨ k = 3 ∨ k = 4 ∨ k = 5 ∨ k = 6 ∨ k = 7 := by omega
    rcases hc with rfl | rfl | rfl | rfl | rfl | rfl | rfl
    · exact echeck_001 _ id gr lab x f w hf (by omega) (by omega) rfl rfl rfl
    · exact echeck_011 _ id gr lab x f w hf (by omega) (by omega) rfl rfl rfl
    · exact echeck_010 _ id gr lab x f w hf (by omega) (by omega) rfl rfl rfl
    · exact echeck_100 _ id gr lab x f w hf (by omega) (by omega) rfl rfl rfl
    · exact echeck_100 _ id gr lab x f w hf (by omega) (by omega) rfl rfl rfl
    · exact echeck_110 _ id gr lab x f w hf (by omega) (by omega) rfl rfl rfl
    · exact echeck_110 _ id gr lab x f w hf (by omega) (by omega) rfl rfl rfl
  · have hR : echk k id gr x lab f = 1 := by unfold echk; rw [if_pos (by omega)]
    rw [hR]
    have B0 := Blk.new w (ecells k id gr (x.toNat : Int) lab f) 38
    obtain ⟨q0, q1, q2⟩ := B0.edit
    have hb := (Below.refl w.heap.size w).alloc (Nat.le_refl _) (.cells (ecells k id gr (x.toNat : Int) lab f).toArray 38)
    obtain ⟨ec, hec⟩ : ∃ ec, ec = ecells k id gr (x.toNat : Int) lab f := ⟨_, rfl⟩
    rw [← hec] at q0 q1 q2 hb ⊢
    clear hec B0 hR
    have H7 := hid (fun wx : World => has_inr k wx)
    rw [show inr k = false by unfold inr; exact decide_eq_false hk] at H7
    clear hk
    go_enter Tryz.func42, Tryz.ntmps42
    go_wp2_with fail
    refine (H7.out _).mono ?_
    rintro e' w' ⟨rfl, rfl⟩
    go_wp2_with fail
    go_ret
    exact ⟨rfl, hb⟩
theorem info_edit : (Tryz.prog.info? 38).map (·.size) = some 29 := by kernel_rfl
end Go.Proofs.YtnhcjadkbogioaaGreat
namespace Go.Proofs.YtnhcjadkbogioaaGreat
open Go Go.RowKit OctM
theorem pcells_pre (pre cs : List Value) (n m : Nat) (hp : pre.length = n) (hc : cs.length = m) : (pre ++ cs).toArray.extract n (n + m) = cs.toArray := by
  subst hp hc
  apply Array.toList_inj.1
  simp [List.extract_eq_take_drop]
theorem fieldsE : Tryz.prog.underlying 38 = some (.struct (Tryz.prog.fieldsOf 38)) := by kernel_rfl
theorem eq_editC (d : Nat) (k id gr m lab k' id' gr' m' lab' : Int) (f g : List V3) (hf : f.length = 8) (hg : g.length = 8) (w : World) :
    (Op.equalIn (d + 5) 38 (.agg (ecells k id gr m lab f).toArray) (.agg (ecells k' id' gr' m' lab' g).toArray)).run Tryz.prog w = .ok (decide (k = k' ∧ id = id' ∧ gr = gr' ∧ (m = m' ∧ lab = lab' ∧ f = g))) w := by
  have hsz : ∀ w, (sizeOf 36).run Tryz.prog w = .ok 26 w := fun w => by kernel_rfl
  have hag : ∀ w, (isAgg 36).run Tryz.prog w = .ok true w := fun w => by kernel_rfl
  rw [run_equalIn_agg w (d + 4) 38 _ _ fieldsE (by kernel_rfl)]
  have e : (Tryz.prog.fieldsOf 38).toList = [⟨"Kind", 3, 0, false, "", "", 0⟩, ⟨"ID", 3, 1, false, "", "", 8⟩, ⟨"Group", 3, 2, false, "", "", 16⟩, ⟨"Patch", 36, 3, false, "", "", 24⟩] := by kernel_rfl
  rw [e]
  have px : ∀ (a b c x y : Int) (h : List V3), h.length = 8 → (part 36 (ecells a b c x y h).toArray 3).run Tryz.prog w = .ok (.agg (pcells x y h).toArray) w := fun a b c x y h hh => by
    simp only [part, Sem.run_bind, hag, Result.andThen_ok, hsz, if_true, Sem.run_pure]
    unfold ecells
    rw [pcells_pre _ _ 3 26 rfl (pcells_len x y hh)]
  have p0 : ∀ (a b c x y : Int) (h : List V3), (part 3 (ecells a b c x y h).toArray 0).run Tryz.prog w = .ok (.int .i64 a) w := fun a b c x y h => by simp [go_sem, part, isAgg, ecells]
  have p1 : ∀ (a b c x y : Int) (h : List V3), (part 3 (ecells a b c x y h).toArray 1).run Tryz.prog w = .ok (.int .i64 b) w := fun a b c x y h => by simp [go_sem, part, isAgg, ecells]
  have p2 : ∀ (a b c x y : Int) (h : List V3), (part 3 (ecells a b c x y h).toArray 2).run Tryz.prog w = .ok (.int .i64 c) w := fun a b c x y h => by simp [go_sem, part, isAgg, ecells]
  have ef := eq_patch d m lab m' lab' f g hf hg w
  have q0 : ∀ a b : Int, (Op.equalIn (d + 4) 3 (.int .i64 a) (.int .i64 b)).run Tryz.prog w = .ok (a == b) w := fun a b => run_equalIn_int w (d + 3) 3 .i64 .i64 a b Tryz.underlying3
  simp only [Op.eqFields, if_pos (show ("Kind" : String) ≠ "_" by decide), if_pos (show ("ID" : String) ≠ "_" by decide), if_pos (show ("Group" : String) ≠ "_" by decide), if_pos (show ("Patch" : String) ≠ "_" by decide)]
  simp only [Sem.run_bind, Sem.run_ite, Sem.run_pure, px _ _ _ _ _ f hf, px _ _ _ _ _ g hg, p0, p1, p2, q0, ef, Result.andThen_ok]
  by_cases h1 : k = k' <;> by_cases h2 : id = id' <;> by_cases h3 : gr = gr' <;> by_cases h4 : m = m' ∧ lab = lab' ∧ f = g <;> simp [h1, h2, h3, h4]
def cz (x : Cm) : Prop := x.f.length = 0 ∧ ez x ∧ pz x ∧ x.ms.toNat = 0 ∧ x.dv = 0 ∧ x.rq = 0 ∧ x.id = 0 ∧ x.bs = 0 ∧ x.kp = 0
instance (x : Cm) : Decidable (cz x) := by unfold cz; infer_instance
theorem cmE_len {x : Cm} (h : x.ef.length = 8) : (cmE x).length = 29 := ecells_len _ _ _ _ _ h
theorem cmP_len {x : Cm} (h : x.pf.length = 8) : (cmP x).length = 26 := pcells_len _ _ h
theorem info_cm : (Tryz.prog.info? 41).map (·.size) = some 63 := by kernel_rfl
theorem below_a1C (w : World) (o : Obj) : Below w.heap.size w (w.alloc o) := (Below.refl _ _).alloc (Nat.le_refl _) _
theorem czero_any (x : Cm) (w : World) (h : okCm w x) :
    Calls Tryz.prog 47 #[.agg (cmc x).toArray] w fun e w' => e = .returned (.bool (decide (cz x))) ∧ Below w.heap.size w w' := by
  have hue := Tryz.underlying38
  have hup := Tryz.underlying36
  have HEQE : Hid (∀ wx : World, (Op.equalIn 10000 38 (.agg (cmE x).toArray) (.agg (ecells 0 0 0 0 0 zeros).toArray)).run Tryz.prog wx = .ok (decide (ez x)) wx) := hid (fun wx => eq_editC 9995 _ _ _ _ _ 0 0 0 0 0 _ zeros h.e8 zeros_len wx)
  have HEQP : Hid (∀ wx : World, (Op.equalIn 10000 36 (.agg (cmP x).toArray) (.agg (pcells 0 0 zeros).toArray)).run Tryz.prog wx = .ok (decide (pz x)) wx) := hid (fun wx => eq_patch 9996 _ _ 0 0 _ zeros h.p8 zeros_len wx)
  have HEL := hid (cmE_len h.e8)
  have HPL := hid (cmP_len h.p8)
  have B0 := Blk.new w (cmc x) 41
  have HB := hid (below_a1C w (.cells (cmc x).toArray 41))
  have RE := B0.range 1 (cmE x) (cm_edit h.e8 h.p8)
  have RP := B0.range 35 (cmP x) (cm_patch h.e8 h.p8)
  obtain ⟨a0, a30, a31, a32, a33, a34, a61, a62⟩ := cm_at h.e8 h.p8
  have q30 := B0.cell a30
  have q31 := B0.cell a31
  have q32 := B0.cell a32
  have q33 := B0.cell a33
  have q34 := B0.cell a34
  have q61 := B0.cell a61
  have q62 := B0.cell a62
  have HLN := hid h.len
  obtain ⟨R, hR⟩ : ∃ R, R = decide (cz x) := ⟨_, rfl⟩
  rw [← hR]
  have HR := hid hR
  obtain ⟨pe, hpe⟩ : ∃ p : Bool, p = decide (ez x) := ⟨_, rfl⟩
  obtain ⟨pp, hpp⟩ : ∃ p : Bool, p = decide (pz x) := ⟨_, rfl⟩
  rw [← hpe] at HEQE
  rw [← hpp] at HEQP
  have HPE : Hid (pe = true ↔ ez x) := hid (by rw [hpe]; exact decide_eq_true_iff)
  have HPP : Hid (pp = true ↔ pz x) := hid (by rw [hpp]; exact decide_eq_true_iff)
  obtain ⟨xc, hxc⟩ : ∃ c, c = cmc x := ⟨_, rfl⟩
  obtain ⟨xe, hxe⟩ : ∃ c, c = cmE x := ⟨_, rfl⟩
  obtain ⟨xp, hxp⟩ : ∃ c, c = cmP x := ⟨_, rfl⟩
  rw [← hxc] at B0 HB RE RP q30 q31 q32 q33 q34 q61 q62 ⊢
  rw [← hxe] at HEQE HEL RE
  rw [← hxp] at HEQP HPL RP
  clear hxc hxe hxp hpe hpp hR a0 a30 a31 a32 a33 a34 a61 a62 B0 h
  by_cases c_f : x.n = 0
  · by_cases c_E : ez x
    · by_cases c_P : pz x
      · by_cases c_ms : x.ms.toNat = 0
        · by_cases c_dv : x.dv = 0
          · by_cases c_rq : x.rq = 0
            · by_cases c_id : x.id = 0
              · by_cases c_bs : x.bs = 0
                · by_cases c_kp : x.kp = 0
                  · have HT : R = true := by rw [HR.out]; exact decide_eq_true ⟨HLN.out.trans c_f, c_E, c_P, c_ms, c_dv, c_rq, c_id, c_bs, c_kp⟩
                    have HT := hid HT
                    have t_f : ((x.n : Int) == 0) = true := by simp [c_f]
                    have t_ms : ((x.ms.toNat : Int) == 0) = true := by simp [c_ms]
                    have t_dv : (x.dv == 0) = true := by simp [c_dv]
                    have t_rq : (x.rq == 0) = true := by simp [c_rq]
                    have t_id : (x.id == 0) = true := by simp [c_id]
                    have t_bs : (x.bs == 0) = true := by simp [c_bs]
                    have t_kp : (x.kp == 0) = true := by simp [c_kp]
                    have hpe : pe = true := HPE.out.2 c_E
                    have hpp : pp = true := HPP.out.2 c_P
                    subst hpe hpp
                    clear c_f c_E c_P c_ms c_dv c_rq c_id c_bs c_kp
                    go_enter Tryz.func47, Tryz.ntmps47
                    go_wp2_with (first
                      | (refine wpList_load_g (by rfl) 38 (.tmp 8) rfl w.heap.size 1 rfl xe _ RE hue rfl (by rw [HEL.out]; exact info_edit) ?_
                         simp only [pq4])
                      | (refine wpList_load_g (by rfl) 36 (.tmp 14) rfl w.heap.size 35 rfl xp _ RP hup rfl (by rw [HPL.out]; exact info_patch) ?_
                         simp only [pq4])
                      | (refine wpList_exec (by rfl) (.bool true) (exec_eql 38 38 (.tmp 9) (.tmp 10) rfl xe.toArray (ecells 0 0 0 0 0 zeros).toArray rfl rfl (by kernel_rfl) true (HEQE.out _)) ?_
                         simp only [pq4])
                      | (refine wpList_exec (by rfl) (.bool true) (exec_eql 36 36 (.tmp 15) (.tmp 16) rfl xp.toArray (pcells 0 0 zeros).toArray rfl rfl (by kernel_rfl) true (HEQP.out _)) ?_
                         simp only [pq4])
                      | fail)
                    go_ret
                    exact ⟨by first | rfl | (rw [HT.out]; rfl), HB.out⟩
                  · have HT : R = false := by rw [HR.out]; exact decide_eq_false (fun e => c_kp (e.2.2.2.2.2.2.2.2))
                    have HT := hid HT
                    have t_f : ((x.n : Int) == 0) = true := by simp [c_f]
                    have t_ms : ((x.ms.toNat : Int) == 0) = true := by simp [c_ms]
                    have t_dv : (x.dv == 0) = true := by simp [c_dv]
                    have t_rq : (x.rq == 0) = true := by simp [c_rq]
                    have t_id : (x.id == 0) = true := by simp [c_id]
                    have t_bs : (x.bs == 0) = true := by simp [c_bs]
                    have t_kp : (x.kp == 0) = false := by simp [c_kp]
                    have hpe : pe = true := HPE.out.2 c_E
                    subst hpe
                    have hpp : pp = true := HPP.out.2 c_P
                    subst hpp
                    clear c_f c_E c_P c_ms c_dv c_rq c_id c_bs c_kp
                    go_enter Tryz.func47, Tryz.ntmps47
                    go_wp2_with (first
                      | (refine wpList_load_g (by rfl) 38 (.tmp 8) rfl w.heap.size 1 rfl xe _ RE hue rfl (by rw [HEL.out]; exact info_edit) ?_
                         simp only [pq4])
                      | (refine wpList_load_g (by rfl) 36 (.tmp 14) rfl w.heap.size 35 rfl xp _ RP hup rfl (by rw [HPL.out]; exact info_patch) ?_
                         simp only [pq4])
                      | (refine wpList_exec (by rfl) (.bool true) (exec_eql 38 38 (.tmp 9) (.tmp 10) rfl xe.toArray (ecells 0 0 0 0 0 zeros).toArray rfl rfl (by kernel_rfl) true (HEQE.out _)) ?_
                         simp only [pq4])
                      | (refine wpList_exec (by rfl) (.bool true) (exec_eql 36 36 (.tmp 15) (.tmp 16) rfl xp.toArray (pcells 0 0 zeros).toArray rfl rfl (by kernel_rfl) true (HEQP.out _)) ?_
                         simp only [pq4])
                      | fail)
                    go_ret
                    exact ⟨by first | rfl | (rw [HT.out]; rfl), HB.out⟩
                · have HT : R = false := by rw [HR.out]; exact decide_eq_false (fun e => c_bs (e.2.2.2.2.2.2.2.1))
                  have HT := hid HT
                  have t_f : ((x.n : Int) == 0) = true := by simp [c_f]
                  have t_ms : ((x.ms.toNat : Int) == 0) = true := by simp [c_ms]
                  have t_dv : (x.dv == 0) = true := by simp [c_dv]
                  have t_rq : (x.rq == 0) = true := by simp [c_rq]
                  have t_id : (x.id == 0) = true := by simp [c_id]
                  have t_bs : (x.bs == 0) = false := by simp [c_bs]
                  have hpe : pe = true := HPE.out.2 c_E
                  subst hpe
                  have hpp : pp = true := HPP.out.2 c_P
                  subst hpp
                  clear c_f c_E c_P c_ms c_dv c_rq c_id c_bs
                  go_enter Tryz.func47, Tryz.ntmps47
                  go_wp2_with (first
                    | (refine wpList_load_g (by rfl) 38 (.tmp 8) rfl w.heap.size 1 rfl xe _ RE hue rfl (by rw [HEL.out]; exact info_edit) ?_
                       simp only [pq4])
                    | (refine wpList_load_g (by rfl) 36 (.tmp 14) rfl w.heap.size 35 rfl xp _ RP hup rfl (by rw [HPL.out]; exact info_patch) ?_
                       simp only [pq4])
                    | (refine wpList_exec (by rfl) (.bool true) (exec_eql 38 38 (.tmp 9) (.tmp 10) rfl xe.toArray (ecells 0 0 0 0 0 zeros).toArray rfl rfl (by kernel_rfl) true (HEQE.out _)) ?_
                       simp only [pq4])
                    | (refine wpList_exec (by rfl) (.bool true) (exec_eql 36 36 (.tmp 15) (.tmp 16) rfl xp.toArray (pcells 0 0 zeros).toArray rfl rfl (by kernel_rfl) true (HEQP.out _)) ?_
                       simp only [pq4])
                    | fail)
                  go_ret
                  exact ⟨by first | rfl | (rw [HT.out]; rfl), HB.out⟩
              · have HT : R = false := by rw [HR.out]; exact decide_eq_false (fun e => c_id (e.2.2.2.2.2.2.1))
                have HT := hid HT
                have t_f : ((x.n : Int) == 0) = true := by simp [c_f]
                have t_ms : ((x.ms.toNat : Int) == 0) = true := by simp [c_ms]
                have t_dv : (x.dv == 0) = true := by simp [c_dv]
                have t_rq : (x.rq == 0) = true := by simp [c_rq]
                have t_id : (x.id == 0) = false := by simp [c_id]
                have hpe : pe = true := HPE.out.2 c_E
                subst hpe
                have hpp : pp = true := HPP.out.2 c_P
                subst hpp
                clear c_f c_E c_P c_ms c_dv c_rq c_id
                go_enter Tryz.func47, Tryz.ntmps47
                go_wp2_with (first
                  | (refine wpList_load_g (by rfl) 38 (.tmp 8) rfl w.heap.size 1 rfl xe _ RE hue rfl (by rw [HEL.out]; exact info_edit) ?_
                     simp only [pq4])
                  | (refine wpList_load_g (by rfl) 36 (.tmp 14) rfl w.heap.size 35 rfl xp _ RP hup rfl (by rw [HPL.out]; exact info_patch) ?_
                     simp only [pq4])
                  | (refine wpList_exec (by rfl) (.bool true) (exec_eql 38 38 (.tmp 9) (.tmp 10) rfl xe.toArray (ecells 0 0 0 0 0 zeros).toArray rfl rfl (by kernel_rfl) true (HEQE.out _)) ?_
                     simp only [pq4])
                  | (refine wpList_exec (by rfl) (.bool true) (exec_eql 36 36 (.tmp 15) (.tmp 16) rfl xp.toArray (pcells 0 0 zeros).toArray rfl rfl (by kernel_rfl) true (HEQP.out _)) ?_
                     simp only [pq4])
                  | fail)
                go_ret
                exact ⟨by first | rfl | (rw [HT.out]; rfl), HB.out⟩
            · have HT : R = false := by rw [HR.out]; exact decide_eq_false (fun e => c_rq (e.2.2.2.2.2.1))
              have HT := hid HT
              have t_f : ((x.n : Int) == 0) = true := by simp [c_f]
              have t_ms : ((x.ms.toNat : Int) == 0) = true := by simp [c_ms]
              have t_dv : (x.dv == 0) = true := by simp [c_dv]
              have t_rq : (x.rq == 0) = false := by simp [c_rq]
              have hpe : pe = true := HPE.out.2 c_E
              subst hpe
              have hpp : pp = true := HPP.out.2 c_P
              subst hpp
              clear c_f c_E c_P c_ms c_dv c_rq
              go_enter Tryz.func47, Tryz.ntmps47
              go_wp2_with (first
                | (refine wpList_load_g (by rfl) 38 (.tmp 8) rfl w.heap.size 1 rfl xe _ RE hue rfl (by rw [HEL.out]; exact info_edit) ?_
                   simp only [pq4])
                | (refine wpList_load_g (by rfl) 36 (.tmp 14) rfl w.heap.size 35 rfl xp _ RP hup rfl (by rw [HPL.out]; exact info_patch) ?_
                   simp only [pq4])
                | (refine wpList_exec (by rfl) (.bool true) (exec_eql 38 38 (.tmp 9) (.tmp 10) rfl xe.toArray (ecells 0 0 0 0 0 zeros).toArray rfl rfl (by kernel_rfl) true (HEQE.out _)) ?_
                   simp only [pq4])
                | (refine wpList_exec (by rfl) (.bool true) (exec_eql 36 36 (.tmp 15) (.tmp 16) rfl xp.toArray (pcells 0 0 zeros).toArray rfl rfl (by kernel_rfl) true (HEQP.out _)) ?_
                   simp only [pq4])
                | fail)
              go_ret
              exact ⟨by first | rfl | (rw [HT.out]; rfl), HB.out⟩
          · have HT : R = false := by rw [HR.out]; exact decide_eq_false (fun e => c_dv (e.2.2.2.2.1))
            have HT := hid HT
            have t_f : ((x.n : Int) == 0) = true := by simp [c_f]
            have t_ms : ((x.ms.toNat : Int) == 0) = true := by simp [c_ms]
            have t_dv : (x.dv == 0) = false := by simp [c_dv]
            have hpe : pe = true := HPE.out.2 c_E
            subst hpe
            have hpp : pp = true := HPP.out.2 c_P
            subst hpp
            clear c_f c_E c_P c_ms c_dv
            go_enter Tryz.func47, Tryz.ntmps47
            go_wp2_with (first
              | (refine wpList_load_g (by rfl) 38 (.tmp 8) rfl w.heap.size 1 rfl xe _ RE hue rfl (by rw [HEL.out]; exact info_edit) ?_
                 simp only [pq4])
              | (refine wpList_load_g (by rfl) 36 (.tmp 14) rfl w.heap.size 35 rfl xp _ RP hup rfl (by rw [HPL.out]; exact info_patch) ?_
                 simp only [pq4])
              | (refine wpList_exec (by rfl) (.bool true) (exec_eql 38 38 (.tmp 9) (.tmp 10) rfl xe.toArray (ecells 0 0 0 0 0 zeros).toArray rfl rfl (by kernel_rfl) true (HEQE.out _)) ?_
                 simp only [pq4])
              | (refine wpList_exec (by rfl) (.bool true) (exec_eql 36 36 (.tmp 15) (.tmp 16) rfl xp.toArray (pcells 0 0 zeros).toArray rfl rfl (by kernel_rfl) true (HEQP.out _)) ?_
                 simp only [pq4])
              | fail)
            go_ret
            exact ⟨by first | rfl | (rw [HT.out]; rfl), HB.out⟩
        · have HT : R = false := by rw [HR.out]; exact decide_eq_false (fun e => c_ms (e.2.2.2.1))
          have HT := hid HT
          have t_f : ((x.n : Int) == 0) = true := by simp [c_f]
          have t_ms : ((x.ms.toNat : Int) == 0) = false := by simp [c_ms]
          have hpe : pe = true := HPE.out.2 c_E
          subst hpe
          have hpp : pp = true := HPP.out.2 c_P
          subst hpp
          clear c_f c_E c_P c_ms
          go_enter Tryz.func47, Tryz.ntmps47
          go_wp2_with (first
            | (refine wpList_load_g (by rfl) 38 (.tmp 8) rfl w.heap.size 1 rfl xe _ RE hue rfl (by rw [HEL.out]; exact info_edit) ?_
               simp only [pq4])
            | (refine wpList_load_g (by rfl) 36 (.tmp 14) rfl w.heap.size 35 rfl xp _ RP hup rfl (by rw [HPL.out]; exact info_patch) ?_
               simp only [pq4])
            | (refine wpList_exec (by rfl) (.bool true) (exec_eql 38 38 (.tmp 9) (.tmp 10) rfl xe.toArray (ecells 0 0 0 0 0 zeros).toArray rfl rfl (by kernel_rfl) true (HEQE.out _)) ?_
               simp only [pq4])
            | (refine wpList_exec (by rfl) (.bool true) (exec_eql 36 36 (.tmp 15) (.tmp 16) rfl xp.toArray (pcells 0 0 zeros).toArray rfl rfl (by kernel_rfl) true (HEQP.out _)) ?_
               simp only [pq4])
            | fail)
          go_ret
          exact ⟨by first | rfl | (rw [HT.out]; rfl), HB.out⟩
      · have HT : R = false := by rw [HR.out]; exact decide_eq_false (fun e => c_P (e.2.2.1))
        have HT := hid HT
        have t_f : ((x.n : Int) == 0) = true := by simp [c_f]
        have hpe : pe = true := HPE.out.2 c_E
        subst hpe
        have hpp : pp = false := by cases pp with | false => rfl | true => exact absurd (HPP.out.1 rfl) c_P
        subst hpp
        clear c_f c_E c_P
        go_enter Tryz.func47, Tryz.ntmps47
        go_wp2_with (first
          | (refine wpList_load_g (by rfl) 38 (.tmp 8) rfl w.heap.size 1 rfl xe _ RE hue rfl (by rw [HEL.out]; exact info_edit) ?_
             simp only [pq4])
          | (refine wpList_load_g (by rfl) 36 (.tmp 14) rfl w.heap.size 35 rfl xp _ RP hup rfl (by rw [HPL.out]; exact info_patch) ?_
             simp only [pq4])
          | (refine wpList_exec (by rfl) (.bool true) (exec_eql 38 38 (.tmp 9) (.tmp 10) rfl xe.toArray (ecells 0 0 0 0 0 zeros).toArray rfl rfl (by kernel_rfl) true (HEQE.out _)) ?_
             simp only [pq4])
          | (refine wpList_exec (by rfl) (.bool false) (exec_eql 36 36 (.tmp 15) (.tmp 16) rfl xp.toArray (pcells 0 0 zeros).toArray rfl rfl (by kernel_rfl) false (HEQP.out _)) ?_
             simp only [pq4])
          | fail)
        go_ret
        exact ⟨by first | rfl | (rw [HT.out]; rfl), HB.out⟩
    · have HT : R = false := by rw [HR.out]; exact decide_eq_false (fun e => c_E (e.2.1))
      have HT := hid HT
      have t_f : ((x.n : Int) == 0) = true := by simp [c_f]
      have hpe : pe = false := by cases pe with | false => rfl | true => exact absurd (HPE.out.1 rfl) c_E
      subst hpe
      clear c_f c_E
      go_enter Tryz.func47, Tryz.ntmps47
      go_wp2_with (first
        | (refine wpList_load_g (by rfl) 38 (.tmp 8) rfl w.heap.size 1 rfl xe _ RE hue rfl (by rw [HEL.out]; exact info_edit) ?_
           simp only [pq4])
        | (refine wpList_exec (by rfl) (.bool false) (exec_eql 38 38 (.tmp 9) (.tmp 10) rfl xe.toArray (ecells 0 0 0 0 0 zeros).toArray rfl rfl (by kernel_rfl) false (HEQE.out _)) ?_
           simp only [pq4])
        | fail)
      go_ret
      exact ⟨by first | rfl | (rw [HT.out]; rfl), HB.out⟩
  · have HT : R = false := by rw [HR.out]; exact decide_eq_false (fun e => c_f (HLN.out.symm.trans e.1))
    have HT := hid HT
    have t_f : ((x.n : Int) == 0) = false := by simp [c_f]
    clear c_f
    go_enter Tryz.func47, Tryz.ntmps47
    go_wp2_with fail
    go_ret
    exact ⟨by first | rfl | (rw [HT.out]; rfl), HB.out⟩
end Go.Proofs.YtnhcjadkbogioaaGreat
