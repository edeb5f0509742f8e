/- Filters: the chapter's examples; the walk of PredChecks. -/
import Derived.Test.YtadmaalhhigbeaaW8
import Derived.Test.YtadmaalhhigbeaaW11
import Derived.Test.YtadmaalhhigbeaaW2
import Derived.Test.YtadmaalhhigbeaaW12
import Derived.Test.YtadmaalhhigbeaaW17
import Derived.Test.YtadmaalhhigbeaaW24
import Derived.Test.YtadmaalhhigbeaaW13
import Derived.Test.YtadmaalhhigbeaaW14
import Derived.Test.YtadmaalhhigbeaaW15
import Derived.Test.YtadmaalhhigbeaaW16
namespace Go.Proofs.Ytadmaalhhigbeaa
set_option linter.unusedVariables false
set_option linter.unusedSimpArgs false
open Go Go.RowKit

theorem range_later {w w' : World} {B b o : Nat} {cs : List Value} (h : w.rangeAt b o cs) (hl : Below B w w') (hb : b < B) : w'.rangeAt b o cs := fun j v hj => (hl.cell (p := ⟨b, o + j, none⟩) hb).trans (h j v hj)

def exA : List Nd := [(10, 0, zv), (3, 3, zv)]
def exB : List Nd := [(11, 0, zv), (1, 0, zv)]
theorem exA_ok : lchk exA = 0 ∧ dep exA = 2 := by decide +kernel
theorem exB_ok : lchk exB = 1 := by decide +kernel

end Go.Proofs.Ytadmaalhhigbeaa

/- Patches as bytes, by the document: what its PutPatch returns. -/
namespace Go.Proofs.Ytadmaalhhigbeaa
set_option linter.unusedVariables false
open Go Go.RowKit BitM OctM

theorem fbs_lst_put (x : BitVec 32) (f : List V3) (k : Nat) (h : has x (k : Int) = true) : fbs (lst x (k + 1)) f = fbs (lst x k) f ++ vbs (f.getD k zv) := by
  rw [lst_succ, if_pos h, fbs_snoc]; simp
theorem lst_skip (x : BitVec 32) (k : Nat) (h : has x (k : Int) = false) : lst x (k + 1) = lst x k := by
  rw [lst_succ, if_neg (by rw [h]; simp)]; simp

end Go.Proofs.Ytadmaalhhigbeaa

/- Cards as bytes: whether the layer is awake; a slice of bytes as a string. -/
namespace Go.Proofs.Ytadmaalhhigbeaa
set_option linter.unusedVariables false
open Go Go.RowKit BitM OctM

theorem str_conv (w : World) (B : Nat) (A : Option Addr) (n c : Nat) (l : List UInt8) (s : ByteArray) (hn : l.length = n) (hs : Sees w B A (bvs l)) (h : s = str l) : (convert 27 9 (.slice A n c)).run Try.prog w = .ok (.string s) w := by
  subst h
  exact run_str (P := Try.prog) w B 27 5 9 Try.underlying27 Try.underlying5 Try.underlying9 A n c l hn hs

section
variable {P : Program} {w : World} {a : Act} {op : Oper}
theorem exec_conv (x : Operand) (t u : TypeId) (ho : op.op = .convert t u x) (v : Value) (hx : a.eval x = v) (r : Value) (h : (convert t u v).run P w = .ok r w) : (execOp a.eval op).run P w = .ok (.value r) w := by
  unfold execOp
  simp only [ho, hx, Sem.run_bind, Sem.run_pure, Result.andThen_ok, h]
end

/-- The card that awake writes. -/
def awk : List V3 := zv :: (1, 7, ⟨#[]⟩) :: List.replicate 6 zv
theorem awk_bytes : cbs 1 2 1 awk = [1, 2, 1, 2, 1, 7] := by decide +kernel
theorem awk_cells : (ccells 1 2 1 zeros).take 6 ++ vcells (1, 7, ⟨#[]⟩) ++ (ccells 1 2 1 zeros).drop 9 = ccells 1 2 1 awk := rfl

end Go.Proofs.Ytadmaalhhigbeaa

/- Filters as bytes: the chapter's example; the walk of PredwirePuts. -/
namespace Go.Proofs.Ytadmaalhhigbeaa
set_option linter.unusedVariables false
set_option linter.unusedSimpArgs false
open Go Go.RowKit OctM

theorem exA_bytes : lbs exA = [2, 10, 3, 3] := by decide +kernel
end Go.Proofs.Ytadmaalhhigbeaa

/- A region that draws its order, whose first operations turn memory, and whose others wait for them: the first by all their orders, the others walked once. -/
namespace Go.Proofs.Ytadmaalhhigbeaa
set_option linter.unusedVariables false
open Go Go.RowKit

/-- The values of the first operations, put. -/
def putsAll : List Oper → List Value → Act → Act
  | o :: l, v :: vs, a => putsAll l vs (a.put o.dst v)
  | _, _, a => a
section
variable {P : Program} {ops : Array Oper} {md : Region.Mode} {Q : Exit → Act → World → Prop}
theorem wpAny_step {fuel : Nat} {listed : Array Bool} {a : Act} {w : World} (r : List Nat) (hr : Region.ready md ops listed = r) (hne : r.isEmpty = false)
    (h : ∀ i ∈ r, wpOp P ops Q i (wpAny P md ops Q fuel (listed.setIfInBounds i true)) a w) : wpAny P md ops Q (fuel + 1) listed a w := by
  subst hr
  exact ⟨fun h0 => absurd hne (by rw [h0]; simp), h⟩
theorem wpOp_move {i : Nat} {a : Act} {w : World} {K : Act → World → Prop} (o : Oper) (ho : ops[i]? = some o) (x : Operand) (hx : o.op = .move x) (hw : Region.wanted o (yielded ops a.tmps) = true) (h : K (a.put o.dst (a.eval x)) w) : wpOp P ops Q i K a w := by
  unfold wpOp
  simp only [ho, hw, if_true]
  left
  unfold Oper.wp execOp
  simp only [hx, Sem.run_pure, Oper.upon]
  exact h
theorem wpOp_call {i : Nat} {a : Act} {w : World} {K : Act → World → Prop} (o : Oper) (ho : ops[i]? = some o) (f : FuncId) (args : Array Value) (hx : (execOp a.eval o).run P w = .ok (.enter f args) w) (hw : Region.wanted o (yielded ops a.tmps) = true)
    (h : Calls P f args w fun e w' => ∃ v, e = .returned v ∧ K (a.put o.dst v) w') : wpOp P ops Q i K a w := by
  unfold wpOp
  simp only [ho, hw, if_true]
  left
  unfold Oper.wp
  rw [hx]
  simp only [Oper.upon]
  exact h.mono fun e w' ⟨v, he, hk⟩ => by subst he; exact hk
end
theorem wpAny_rest {P : Program} {Q : Exit → Act → World → Prop} {l : List Oper} {a : Act} {w : World} (k n : Nat) (listed : Array Bool) (hs : Region.noSelect l.toArray = true) (hf : fedB l [] n = true)
    (hB : Region.lexFrom .any l.toArray (l.drop k).length k listed = true) (hn : a.tmps.size = n)
    (h : wpG P l.toArray (openOf []) w (fun a' w' => Q .normal a' w') (l.drop k) a (fun _ => True)) : wpAny P .any l.toArray Q (l.drop k).length listed a w := by
  obtain ⟨hF, hd⟩ := fedB_fed (g := []) (n := n) hf
  have hI : Inv l.toArray (openOf []) w listed a w := ⟨Le.refl w, fun k o d R _ _ _ hG => by simp [openOf] at hG⟩
  refine wpAny_of_G (Qn := fun a' w' => Q .normal a' w') (w0 := w) hF (fun _ _ h => h) _ _ _ _ hI ?_
  exact wpAnyG_lex hF hs n hd (l.drop k) k listed a (fun _ => True) (fun j => by rw [List.getElem?_toArray, List.getElem?_drop]) hB hn ⟨w, hI⟩ (fun _ _ => trivial) h
/-- The first k operations in all their orders (head); the others once (tail). -/
theorem wp_region_head {P : Program} {id : Nat} {Q : Exit → Act → World → Prop} {a : Act} {w : World} {l : List Oper} (k n : Nat) (listed : Array Bool) (vs : List Value) (S : World → Prop) (hm : P.follows .mixedOrders = true)
    (hs : Region.noSelect l.toArray = true) (hf : fedB l [] n = true) (hB : Region.lexFrom .any l.toArray (l.drop k).length k listed = true) (hn : (putsAll l vs a).tmps.size = n)
    (head : (∀ w', S w' → wpAny P .any l.toArray Q (l.drop k).length listed (putsAll l vs a) w') → wpAny P .any l.toArray Q l.length (Array.replicate l.length false) a { w with drawn := w.drawn + 1 })
    (tail : ∀ w', S w' → wpG P l.toArray (openOf []) w' (fun a' w' => Q .normal a' w') (l.drop k) (putsAll l vs a) (fun _ => True)) : (Code.region id l.toArray true).wp P Q a w := by
  refine wp_region_any hm ?_
  simpa using head fun w' hS => wpAny_rest k n listed hs hf hB hn (tail w' hS)
end Go.Proofs.Ytadmaalhhigbeaa

/- PredwireReads: the walk. -/
namespace Go.Proofs.Ytadmaalhhigbeaa
set_option linter.unusedVariables false
set_option linter.unusedSimpArgs false
open Go Go.RowKit OctM

/-- The first k operations in all their orders (head); the others once (tail); what the first ones give is known up to t. -/
theorem wp_region_headx {T : Type} {P : Program} {id : Nat} {Q : Exit → Act → World → Prop} {a : Act} {w : World} {l : List Oper} (k n : Nat) (listed : Array Bool) (vs : T → List Value) (S : T → World → Prop) (hm : P.follows .mixedOrders = true)
    (hs : Region.noSelect l.toArray = true) (hf : fedB l [] n = true) (hB : Region.lexFrom .any l.toArray (l.drop k).length k listed = true) (hn : ∀ t, (putsAll l (vs t) a).tmps.size = n)
    (head : (∀ t w', S t w' → wpAny P .any l.toArray Q (l.drop k).length listed (putsAll l (vs t) a) w') → wpAny P .any l.toArray Q l.length (Array.replicate l.length false) a { w with drawn := w.drawn + 1 })
    (tail : ∀ t w', S t w' → wpG P l.toArray (openOf []) w' (fun a' w' => Q .normal a' w') (l.drop k) (putsAll l (vs t) a) (fun _ => True)) : (Code.region id l.toArray true).wp P Q a w := by
  refine wp_region_any hm ?_
  simpa using head fun t w' hS => wpAny_rest k n listed hs hf hB (hn t) (tail t w' hS)

set_option maxRecDepth 100000 in
set_option maxHeartbeats 3200000 in
theorem nil_filter (w : World) : Calls Try.prog 52 #[.pointer none] w fun x w' => x = .returned (.slice none 0 0) ∧ Below w.heap.size w w' := by
  have HC := Lib.hid (fun wx : World => lcheck_any none 0 0 [] wx rfl Sees.nil_)
  rw [show lchk [] = 1 from by decide +kernel] at HC
  go_enter Try.func52, Try.ntmps52
  go_wp2_with fail
  all_goals (try go_step3)
  go_wp2_with fail
  refine (nil_num _ _).mono ?_
  rintro e w1 ⟨rfl, rfl⟩
  go_wp2_with fail
  refine (nil_fail _ _).mono ?_
  rintro e w1 ⟨rfl, rfl⟩
  go_wp2_with fail
  all_goals (try go_step3)
  go_wp2_with fail
  go_loopw [14, 4] (fun i v wr => i = .int .i64 0 ∧ v = .slice none 0 0 ∧ wr = w) (fun _ _ _ => 0)
  case atStart => exact ⟨rfl, rfl, rfl⟩
  case round =>
    obtain ⟨rfl, rfl, rfl⟩ := hrel
    go_wp2_with fail
    refine (HC.out _).mono ?_
    rintro e w3 ⟨rfl, hb3⟩
    go_wp2_with fail
    refine (nil_fail _ _).mono ?_
    rintro e w1 ⟨rfl, rfl⟩
    go_wp2_with fail
    refine (nil_err _).mono ?_
    rintro e w1 ⟨rfl, rfl⟩
    go_wp2_with fail
    try rw [Exit.noGoto_ret]
    go_ret
    exact ⟨rfl, hb3⟩

theorem filt_len (l : List UInt8) (a : Nat) (e : Int) : (filtOut l a e).1.length ≤ 31 := by
  have h1 := nodes_len (l := l) (a := (mny l a e).2.1) (mny l a e).1
  have h2 := mny_le l a e
  unfold filtOut
  split
  · simp
  · split
    · simp
    · split
      · omega
      · simp
/-- What lies there behind both reads. -/
def Both2 (w : World) (gr gm : Nat) (l : List UInt8) (a : Nat) (e : Int) (ns : List Nd) (m : Nat) (t : Option Addr × Nat × Option Addr × Nat) (w' : World) : Prop :=
  Two w w' gr gm l a e (l.drop a) e ∧ Sees w' w'.heap.size t.1 (ncs ns) ∧ Sees w' w'.heap.size t.2.2.1 (ncs ns)

end Go.Proofs.Ytadmaalhhigbeaa

/- Cards as they are read of bytes: the program's: the walk. -/
namespace Go.Proofs.Ytadmaalhhigbeaa
set_option linter.unusedVariables false
open Go Go.RowKit OctM BitM

theorem fld_nat {x : BitVec 32} {k : Nat} {L : List Int} (hL : L = flds x) (hk : k < L.length) : ∃ j : Nat, L[k] = (j : Int) ∧ j < 8 := by
  obtain ⟨h0, h8, _⟩ := (mem_flds x L[k]).1 (by rw [← hL]; exact List.getElem_mem hk)
  obtain ⟨j, hj⟩ := Int.eq_ofNat_of_zero_le h0
  exact ⟨j, hj, by omega⟩

end Go.Proofs.Ytadmaalhhigbeaa

/- Values, cards and patches as they are read of no reader. -/
namespace Go.Proofs.Ytadmaalhhigbeaa
set_option linter.unusedVariables false
open Go Go.RowKit OctM BitM

def relB (B : Nat) (cs : List Value) : Rel where
  rel x w := ∃ g, x = .pointer (some ⟨g, 0, none⟩) ∧ B ≤ g ∧ Blk w g cs
  mono := fun x w w' h ⟨g, e, hg, hr⟩ => ⟨g, e, hg, hr.later h⟩
  real := fun w ⟨g, e, _⟩ => by cases e
set_option maxRecDepth 100000 in
set_option maxHeartbeats 1600000 in
theorem nil_value (w : World) : Calls Try.prog 99 #[.pointer none] w fun x w' => x = .returned (.agg (vcells zv).toArray) ∧ Below w.heap.size w w' := by
  have hu := Try.underlying69
  have B2 := Blk.new w (vcells zv) 69
  have hb := (Below.refl w.heap.size w).alloc (Nat.le_refl _) (.cells (vcells zv).toArray 69)
  go_enter Try.func99, Try.ntmps99
  go_wp2_with fail
  refine (nil_num _ _).mono ?_
  rintro x w1 ⟨rfl, h1⟩
  generalize hw0 : w.alloc (.cells #[Value.int .i64 0, .int .i64 0, .string { data := #[] }] 69) = w0 at h1
  have B2' : Blk w0 w.heap.size (vcells zv) := hw0 ▸ B2
  have hb0 : Below w.heap.size w w0 := hw0 ▸ hb
  clear B2 hb hw0
  subst h1
  have B3 := Blk.new w0 (vcells zv) 69
  have T3 := B3.there 0 3 (Nat.le_refl _)
  have S3 := B3.wholeT (ds := vcells zv) rfl
  have LE3 : Le w0 (World.setCells (w0.alloc (.cells (vcells zv).toArray 69)) w0.heap.size 0 (vcells zv)) := below_sets (Nat.le_refl _) _ 0 ((Below.refl w0.heap.size w0).alloc (Nat.le_refl _) _)
  have O3 : (vcells zv).toArray.all (·.oneCell') = true := vcells_all _
  have hsz := hb0.size
  have hb2 := B2'.lt
  obtain ⟨g3, hg3⟩ : ∃ z, z = w0.heap.size := ⟨_, rfl⟩
  rw [← hg3] at T3 S3 LE3 hsz hb2
  have HG3 := Lib.hid hg3
  clear hg3 B3
  go_wp2_with (first
    | (rw [← HG3.out]
       refine wpList_store_mid rfl 69 (.tmp 3) (.tmp 6) rfl g3 0 (vcells zv).toArray rfl rfl T3 info_val O3 ?_
       simp only [Act.put]
       generalize hw3 : World.setCells _ g3 0 (vcells zv).toArray.toList = w3
       have S4 : Blk w3 g3 (vcells zv) := hw3 ▸ S3
       have LE3' : Le w0 w3 := hw3 ▸ LE3
       have q1 : w3.cell? ⟨g3, 0, none⟩ = some (.int .i64 0) := S4.cell rfl
       clear hw3 T3 S3 LE3)
    | fail)
  refine (nil_err _).mono ?_
  rintro x w4 ⟨rfl, rfl⟩
  replace B2' := B2'.later LE3'
  replace hb0 := hb0.trans (LE3'.mono hb0.size)
  have T8 := B2'.there 0 3 (Nat.le_refl _)
  have FIN := B2'.wholeT (ds := vcells zv) rfl
  have H9 := below_sets (Nat.le_refl w.heap.size) (vcells zv) 0 hb0
  clear q1 S4
  go_wp2_with (first
    | (refine wpList_store_mid rfl 69 (.tmp 2) (.tmp 22) rfl w.heap.size 0 (vcells zv).toArray rfl rfl T8 info_val O3 ?_)
    | fail)
  exact bodyPost_ret (v := .agg (vcells zv).toArray) (tok_results (q := 2) rfl _ _ w.heap.size _ _ rfl FIN hu rfl info_val) rfl ⟨rfl, H9⟩
end Go.Proofs.Ytadmaalhhigbeaa

/- CardwireReads: the walk. -/
namespace Go.Proofs.Ytadmaalhhigbeaa
set_option linter.unusedVariables false
set_option linter.unusedSimpArgs false
open Go Go.RowKit OctM

theorem same_v (v : V3) (w : World) : (Op.equalIn 10000 69 (.agg (vcells v).toArray) (.agg (vcells v).toArray)).run Try.prog w = .ok true w := by
  rw [eq_val 9998 v v w, decide_eq_true rfl]
end Go.Proofs.Ytadmaalhhigbeaa

/- CardwirePuts: the walk. -/
namespace Go.Proofs.Ytadmaalhhigbeaa
set_option linter.unusedVariables false
open Go Go.RowKit BitM OctM

theorem pbs_len (x : BitVec 32) (lab : Int) (f : List V3) : (pbs x lab f).length ≤ 400 := by
  unfold pbs
  split
  · simp
  · simp only [List.length_append]
    have h1 := held_len (x.toNat : Int)
    have h2 := held_len lab
    have h5 := fbs_len (lst x 8) f
    have h6 := lst_len x 8
    rw [flds_lst]
    split <;> first | omega | (simp only [List.length_nil]; omega)

end Go.Proofs.Ytadmaalhhigbeaa

/- CardwireBack: the walk. -/
namespace Go.Proofs.Ytadmaalhhigbeaa
set_option linter.unusedVariables false
set_option linter.unusedSimpArgs false
open Go Go.RowKit OctM

theorem below_row {a b c : World} {m : Nat} (h : Below a.heap.size a b) (k : b.grownBy c (some m)) (hm : a.heap.size ≤ m) : Below a.heap.size a c :=
  ⟨k.os.trans h.os, k.tape.trans h.tape, k.output.trans h.output, Nat.le_trans h.size k.size, fun i hi => (k.block i (Nat.lt_of_lt_of_le hi h.size) (by simp; omega)).trans (h.block i hi)⟩
theorem Rd.to {w : World} {base g : Nat} {l : List UInt8} {a a' : Nat} {e e' : Int} (h : Rd w base g l a e) (ha : a = a') (he : e = e') : Rd w base g l a' e' := by subst ha he; exact h
end Go.Proofs.Ytadmaalhhigbeaa

/- CardwireOnly: the walk. -/
namespace Go.Proofs.Ytadmaalhhigbeaa
set_option linter.unusedVariables false
set_option linter.unusedSimpArgs false
open Go Go.RowKit OctM

theorem Sees.join {w w' : World} {B B' : Nat} {A : Option Addr} {xs : List Value} (h : Sees w B A xs) (h' : Sees w' B' A xs) : Sees w' B A xs := by
  intro hp
  obtain ⟨b, o, e, hb, _⟩ := h hp
  obtain ⟨b', o', e', _, hc⟩ := h' hp
  rw [e] at e'
  injection e' with e'
  injection e' with e1 e2
  subst e1 e2
  exact ⟨b, o, e, hb, hc⟩
/-- A reader whose bytes are known to be new memory, too. -/
def RdB (w : World) (base g : Nat) (l : List UInt8) (at_ : Nat) (err : Int) : Prop :=
  ∃ A c, l.length ≤ c ∧ c ≤ maxLen ∧ Own w base 86 (.slice (some ⟨g, 0, none⟩) 3 3) [.slice A l.length c, .int .i64 at_, .int .i64 err] ∧ Own w base 5 (.slice A l.length c) (bvs l) ∧ Sees w g A (bvs l)
theorem RdB.rd {w : World} {base g : Nat} {l : List UInt8} {a : Nat} {e : Int} (h : RdB w base g l a e) : Rd w base g l a e := by
  obtain ⟨A, c, h1, h2, h3, h4, h5⟩ := h
  exact ⟨A, c, h1, h2, h3, h5⟩
theorem RdB.off {w w' : World} {base g m : Nat} {l : List UInt8} {a : Nat} {e : Int} (h : RdB w base g l a e) (hg : w.grownBy w' (some m)) (hm : m < base) : RdB w' base g l a e := by
  obtain ⟨A, c, h1, h2, h3, h4, h5⟩ := h
  have h6 := h4.other hg hm
  exact ⟨A, c, h1, h2, h3.other hg hm, h6, h5.join h6.sees⟩
theorem rd_newB (A : Option Addr) (n c : Nat) (l : List UInt8) (w : World) (hn : l.length = n) (hs : Sees w w.heap.size A (bvs l)) (hm : n ≤ 1048576) :
    Calls Try.prog 15 #[.slice A n c] w fun e w' => ∃ g, e = .returned (.pointer (some ⟨g, 0, none⟩)) ∧ RdB w' w.heap.size g l 0 0 ∧ Below w.heap.size w w' := by
  have HF := Lib.hid (oct_fresh A n c l 0 w hn hs hm (by omega))
  have HN := Lib.hid hn
  clear hn hs
  go_enter Try.func15, Try.ntmps15
  go_wp2_with fail
  refine HF.out.mono ?_
  rintro e w1 ⟨A1, c1, rfl, o1, b1⟩
  have s1 := o1.sees
  have k1 := o1.cap
  go_wp2_with fail
  go_ret
  refine ⟨w1.heap.size, rfl, ⟨A1, c1, by rw [HN.out]; exact k1.1, k1.2, ?_, ?_, s1.alloc (Nat.le_refl _) _⟩, b1.alloc b1.size _⟩
  · have h := own_lit w1 w.heap.size 86 #[.slice A1 n c1, .int .i64 0, .int .i64 0] b1.size (by simp [maxLen])
    rw [HN.out]
    exact h
  · rw [HN.out]; exact o1.alloc _
theorem cutto_fact {P : Program} (t e : TypeId) (i : TypeInfo) (ht : P.underlying t = some (.slice e)) (hi : P.info? e = some i) (hsz : i.size = 1) {w : World} {B : Nat} {A : Option Addr} {xs : List Value} (h : Sees w B A xs)
    (n m c : Nat) (H : Int) (kh : IntKind) (hn : xs.length = n) (hm : m ≤ n) (hH : H = (m : Int)) (hc : n ≤ c) :
    ∃ A2, (∀ wx, (Instr.slice t (.slice A n c) none (some (.int kh H)) none).run P wx = .ok (.slice A2 m c) wx) ∧ Sees w B A2 (xs.take m) := by
  refine ⟨if c = 0 then A else A.map (·.add 0), fun wx => ?_, ?_⟩
  · have he : P.elem t = e := by simp [Program.elem, ht]
    have ht' : P.underlying t = some (.slice (P.elem t)) := by rw [he]; exact ht
    rw [run_slice_h wx t A n c ht' kh H (by omega) (by omega), he]
    simp [sizeOf, typeInfo, hi, hsz, sliced, hH]
  · have := (h.cut (k := 0) (cap := c) (by omega)).take m
    simpa using this

theorem sees_take {w : World} {B : Nat} {A : Option Addr} {l b : List UInt8} {m : Nat} (h : Sees w B A ((bvs l).take m)) (hb : l.take m = b) : Sees w B A (bvs b) := by
  subst hb
  unfold bvs at *
  rw [List.map_take]
  exact h
end Go.Proofs.Ytadmaalhhigbeaa
