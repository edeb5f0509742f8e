/- Ledger: answers as they lie, and which may be: maths. -/
import Derived.Test.YtadmaalhhigbeaaPrdS
import Derived.Test.YtadmaalhhigbeaaPrdI
import Derived.Test.YtadmaalhhigbeaaPrdL
import Derived.Test.YtadmaalhhigbeaaBitN
namespace Go.Proofs.Ytadmaalhhigbeaa
set_option linter.unusedVariables false
set_option linter.unusedSimpArgs false
open Go Go.RowKit ValM

theorem ncmp_zero (a b : Nd) : ncmp a b = 0 ↔ a = b := by
  unfold ncmp
  by_cases h1 : cmpI a.1 b.1 = 0
  · rw [if_neg (fun h => h h1)]
    by_cases h2 : cmpI a.2.1 b.2.1 = 0
    · rw [if_neg (fun h => h h2), vcmp_zero]
      rw [cmpI_zero] at h1 h2
      constructor
      · intro h; exact Prod.ext h1 (Prod.ext h2 h)
      · intro h; rw [h]
    · rw [if_pos h2]
      constructor
      · intro h; exact absurd h h2
      · intro h; rw [h] at h2; exact absurd ((cmpI_zero _ _).2 rfl) h2
  · rw [if_pos h1]
    constructor
    · intro h; exact absurd h h1
    · intro h; rw [h] at h1; exact absurd ((cmpI_zero _ _).2 rfl) h1
theorem lcmp_zero : ∀ (l m : List Nd), lcmp l m = 0 ↔ l = m
  | [], [] => by simp [lcmp]
  | [], _ :: _ => by simp [lcmp]
  | _ :: _, [] => by simp [lcmp]
  | a :: l, b :: m => by
    unfold lcmp
    by_cases h : ncmp a b = 0
    · rw [if_neg (fun x => x h), lcmp_zero l m]
      rw [ncmp_zero] at h
      subst h
      simp
    · rw [if_pos h]
      constructor
      · intro x; exact absurd x h
      · intro x; injection x with x1 _; exact absurd ((ncmp_zero a b).2 x1) h
/-- An answer as it lies. -/
structure Rp where
  kd : Int
  dv : Int
  rq : Int
  cd : Int
  id : Int
  vr : Int
  sq : Int
  ep : Int
  A : Option Addr
  n : Nat
  c : Nat
  f : List Nd
  ms : BitVec 32
def rpc (r : Rp) : List Value := [.int .i64 r.kd, .int .i64 r.dv, .int .i64 r.rq, .int .i64 r.cd, .int .i64 r.id, .int .i64 r.vr, .int .i64 r.sq, .int .i64 r.ep, .slice r.A r.n r.c, .int .u32 (r.ms.toNat : Int)]
theorem rpc_len (r : Rp) : (rpc r).length = 10 := rfl
theorem rpc_one (r : Rp) : ∀ v ∈ rpc r, v.oneCell' = true := by
  intro v hv
  simp only [rpc, List.mem_cons, List.not_mem_nil, or_false] at hv
  rcases hv with rfl | rfl | rfl | rfl | rfl | rfl | rfl | rfl | rfl | rfl <;> rfl
structure okRp (w : World) (r : Rp) : Prop where
  len : r.f.length = r.n
  cap : r.n ≤ r.c
  max : r.c ≤ maxLen
  see : Sees w w.heap.size r.A (ncs r.f)
theorem okRp.later {w w' : World} {r : Rp} (h : okRp w r) (hb : Below w.heap.size w w') : okRp w' r := ⟨h.len, h.cap, h.max, (h.see.below hb).more hb.size⟩
def zrp : Rp := ⟨0, 0, 0, 0, 0, 0, 0, 0, none, 0, 0, [], 0#32⟩
theorem okRp.zero (w : World) : okRp w zrp := ⟨rfl, Nat.le_refl _, by simp [zrp, maxLen], Sees.nil_⟩
/-- An answer, apart from where its filter lies. -/
abbrev Rq := Int × Int × Int × Int × Int × Int × Int × Int × List Nd × BitVec 32
def rab (r : Rp) : Rq := (r.kd, r.dv, r.rq, r.cd, r.id, r.vr, r.sq, r.ep, r.f, r.ms)
noncomputable instance (r r' : Rp) : Decidable (rab r = rab r') := Classical.propDecidable _
def zrq : Rq := (0, 0, 0, 0, 0, 0, 0, 0, [], 0#32)
theorem rab_zero : rab zrp = zrq := rfl
theorem rab_kd {r r' : Rp} (e : rab r = rab r') : r.kd = r'.kd := congrArg (fun q : Rq => q.1) e
theorem rab_dv {r r' : Rp} (e : rab r = rab r') : r.dv = r'.dv := congrArg (fun q : Rq => q.2.1) e
theorem rab_rq {r r' : Rp} (e : rab r = rab r') : r.rq = r'.rq := congrArg (fun q : Rq => q.2.2.1) e
theorem rab_cd {r r' : Rp} (e : rab r = rab r') : r.cd = r'.cd := congrArg (fun q : Rq => q.2.2.2.1) e
theorem rab_id {r r' : Rp} (e : rab r = rab r') : r.id = r'.id := congrArg (fun q : Rq => q.2.2.2.2.1) e
theorem rab_vr {r r' : Rp} (e : rab r = rab r') : r.vr = r'.vr := congrArg (fun q : Rq => q.2.2.2.2.2.1) e
theorem rab_sq {r r' : Rp} (e : rab r = rab r') : r.sq = r'.sq := congrArg (fun q : Rq => q.2.2.2.2.2.2.1) e
theorem rab_ep {r r' : Rp} (e : rab r = rab r') : r.ep = r'.ep := congrArg (fun q : Rq => q.2.2.2.2.2.2.2.1) e
theorem rab_f {r r' : Rp} (e : rab r = rab r') : r.f = r'.f := congrArg (fun q : Rq => q.2.2.2.2.2.2.2.2.1) e
theorem rab_ms {r r' : Rp} (e : rab r = rab r') : r.ms = r'.ms := congrArg (fun q : Rq => q.2.2.2.2.2.2.2.2.2) e
theorem rab_eq {r r' : Rp} (h0 : r.kd = r'.kd) (h1 : r.dv = r'.dv) (h2 : r.rq = r'.rq) (h3 : r.cd = r'.cd) (h4 : r.id = r'.id) (h5 : r.vr = r'.vr) (h6 : r.sq = r'.sq) (h7 : r.ep = r'.ep) (h8 : r.f = r'.f) (h9 : r.ms = r'.ms) : rab r = rab r' := by
  unfold rab
  rw [h0, h1, h2, h3, h4, h5, h6, h7, h8, h9]
theorem rab_iff (r r' : Rp) : rab r = rab r' ↔ r.kd = r'.kd ∧ r.dv = r'.dv ∧ r.rq = r'.rq ∧ r.cd = r'.cd ∧ r.id = r'.id ∧ r.vr = r'.vr ∧ r.sq = r'.sq ∧ r.ep = r'.ep ∧ r.f = r'.f ∧ r.ms.toNat = r'.ms.toNat :=
  ⟨fun e => ⟨rab_kd e, rab_dv e, rab_rq e, rab_cd e, rab_id e, rab_vr e, rab_sq e, rab_ep e, rab_f e, congrArg BitVec.toNat (rab_ms e)⟩, fun ⟨h0, h1, h2, h3, h4, h5, h6, h7, h8, h9⟩ => rab_eq h0 h1 h2 h3 h4 h5 h6 h7 h8 (BitVec.eq_of_toNat_eq h9)⟩
theorem below_a1 (w : World) (o : Obj) : Below w.heap.size w (w.alloc o) := (Below.refl _ _).alloc (Nat.le_refl _) _
theorem below_a2 (w : World) (o o' : Obj) : Below w.heap.size w ((w.alloc o).alloc o') := (below_a1 w o).alloc (below_a1 w o).size _
theorem two_cells {w w3 : World} {cs cs' : List Value} {t t' : TypeId} (hb : Below ((w.alloc (.cells cs.toArray t)).alloc (.cells cs'.toArray t')).heap.size ((w.alloc (.cells cs.toArray t)).alloc (.cells cs'.toArray t')) w3) :
    (∀ j v, cs[j]? = some v → w3.cell? ⟨w.heap.size, j, none⟩ = some v) ∧ (∀ j v, cs'[j]? = some v → w3.cell? ⟨w.heap.size + 1, j, none⟩ = some v) := by
  have h1 := ((Blk.new w cs t).alloc (.cells cs'.toArray t')).later hb
  have h2 := (Blk.new (w.alloc (.cells cs.toArray t)) cs' t').later hb
  rw [show (w.alloc (.cells cs.toArray t)).heap.size = w.heap.size + 1 by simp] at h2
  exact ⟨fun j v hj => h1.cell hj, fun j v hj => h2.cell hj⟩
theorem mk_nat (a b : BitVec 32) (h : a.toNat = b.toNat) : a = b := BitVec.eq_of_toNat_eq h
end Go.Proofs.Ytadmaalhhigbeaa
