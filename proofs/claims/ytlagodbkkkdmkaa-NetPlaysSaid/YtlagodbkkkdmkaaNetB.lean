/- Nets: look, Look. -/
import Derived.Test.YtlagodbkkkdmkaaNetA
namespace Go.Proofs.Ytlagodbkkkdmkaa
set_option linter.unusedVariables false
set_option linter.unusedSimpArgs false
open Go Go.RowKit Go.MuLone

theorem sees_pk {w : World} {B : Nat} {A : Option Addr} {l : List V3} (hs : Sees w B A (fcells l)) (k : Nat) (hk : k < l.length) : ∃ b o, A = some ⟨b, o, none⟩ ∧ b < B ∧ w.rangeAt b (o + k * 3) (vcells l[k]) := by
  obtain ⟨b, o, e, hb, hc⟩ := hs (by rw [fcells_len]; omega)
  refine ⟨b, o, e, hb, fun j v hj => ?_⟩
  have hj3 : j < 3 := by have := (List.getElem?_eq_some_iff.1 hj).1; simpa [vcells] using this
  rw [← fcells_drop l k hk, List.getElem?_take, if_pos hj3, List.getElem?_drop] at hj
  obtain ⟨h2, h3⟩ := List.getElem?_eq_some_iff.1 hj
  have := hc (3 * k + j) h2
  rw [h3] at this
  rw [show o + k * 3 + j = o + (3 * k + j) by omega]
  exact this
theorem results_cellb {P : Program} {fn : Func} {p q : Tmp} {ty : TypeId} (h : fn.results = #[.cell q ty, .tmp p]) (tmps : Array Value) (w : World) (g : Nat) (cs : List Value) (d : TypeDesc) (v : Value) (hp : tmps.getD p undef = v)
    (hq : tmps.getD q undef = .pointer (some ⟨g, 0, none⟩)) (hB : Blk w g cs)
    (hu : P.underlying ty = some d) (hd : (match d with | .struct _ | .array _ _ => true | _ => false) = true) (hi : (P.info? ty).map (·.size) = some cs.length) :
    (results fn tmps).run P w = .ok (.tuple #[.agg cs.toArray, v]) w := by
  obtain ⟨t, hB⟩ := hB
  subst hp
  have hq' : tmps[q]?.getD undef = .pointer (some ⟨g, 0, none⟩) := by simpa using hq
  simp [results, h, hq', asAddr, run_loadVar_row w g t ty cs.toArray (0, 0) d hB hu hd (by simpa using hi)]
theorem info_pk : (Try.prog.info? 59).map (·.size) = some 3 := by kernel_rfl

/-- The packet at a place. -/
def pkAt (l : List V3) (k : Int) : V3 := if k < 0 then zv else (l[k.toNat]?).getD zv
def pkIs (l : List V3) (k : Int) : Bool := decide (0 ≤ k ∧ k < l.length)
theorem pkAt_no {l : List V3} {k : Int} (h : k < 0 ∨ (l.length : Int) ≤ k) : pkAt l k = zv ∧ pkIs l k = false := by
  constructor
  · unfold pkAt
    by_cases h0 : k < 0
    · rw [if_pos h0]
    · rw [if_neg h0, List.getElem?_eq_none (by omega)]; rfl
  · exact decide_eq_false (by omega)
theorem pkAt_nat {l : List V3} {k : Nat} (h : k < l.length) : pkAt l k = l[k] ∧ pkIs l k = true := by
  constructor
  · unfold pkAt
    rw [if_neg (by omega)]
    simp [h]
  · exact decide_eq_true (by omega)
theorem pk_there (w : World) (n : Nat) (hn : n = 3) : (w.alloc (.cells #[.int .i64 0, .int .i64 0, .string ⟨#[]⟩] 59)).there w.heap.size 0 n := by
  subst hn
  exact (Blk.new w (vcells zv) 59).there 0 3 (by decide)
theorem pk_put (w W : World) (v : V3) (vc : List Value) (hvc : vc = vcells v) (hW : W = (w.alloc (.cells #[.int .i64 0, .int .i64 0, .string ⟨#[]⟩] 59)).setCells w.heap.size 0 vc) : Blk W w.heap.size vc ∧ Below w.heap.size w W ∧ W.heap.size = w.heap.size + 1 := by
  subst hvc hW
  have FIN := (Blk.new w (vcells zv) 59).sets (vcells v) 0 (by simp [vcells])
  have e1 : (vcells zv).take 0 ++ vcells v ++ (vcells zv).drop (0 + (vcells v).length) = vcells v := by simp [vcells]
  rw [e1] at FIN
  exact ⟨FIN, below_sets (Nat.le_refl w.heap.size) (vcells v) 0 ((Below.refl w.heap.size w).alloc (Nat.le_refl _) (.cells (vcells zv).toArray 59)), by rw [size_sets]; simp⟩
theorem vcells_one (v : V3) : ∀ u ∈ vcells v, u.oneCell' = true := by
  intro u hu
  simp [vcells] at hu
  rcases hu with rfl | rfl | rfl <;> rfl

set_option maxRecDepth 100000 in
set_option maxHeartbeats 1600000 in
theorem net_look (w : World) (g : Nat) (st : Int) (r : Option Nat) (l : List V3) (k : Int) (h : NetAt w g st r l) :
    Calls Try.prog 47 #[.pointer (some ⟨g, 0, none⟩), .int .i64 k] w fun e w' => e = .returned (.tuple #[.agg (vcells (pkAt l k)).toArray, .bool (pkIs l k)]) ∧ Below w.heap.size w w' := by
  obtain ⟨A, c, B, hr, _⟩ := h
  have hu := Try.underlying59
  by_cases hk : k < 0 ∨ (l.length : Int) ≤ k
  · obtain ⟨e1, e2⟩ := pkAt_no hk
    rw [e1, e2]
    obtain ⟨W, hW⟩ : ∃ W, W = (w.alloc (.cells #[.int .i64 0, .int .i64 0, .string ⟨#[]⟩] 59)).setCells w.heap.size 0 (vcells zv) := ⟨_, rfl⟩
    obtain ⟨F, HB, _⟩ := pk_put w W zv _ rfl hW
    have TH := pk_there w 3 rfl
    have HW := Lib.hid hW
    have h2 := (B.alloc (.cells #[.int .i64 0, .int .i64 0, .string ⟨#[]⟩] 59)).cell (j := 2) rfl
    obtain ⟨n, hn⟩ : ∃ n, n = l.length := ⟨_, rfl⟩
    rw [← hn] at h2 hk
    clear hW hn e1 e2 B hr
    by_cases h0 : k < 0
    · have d0 : decide (k < 0) = true := decide_eq_true h0
      clear hk h2
      go_enter Try.func47, Try.ntmps47
      go_wp2_with (first
        | (refine wpList_store_mid rfl 59 (.tmp 4) (.tmp 17) rfl w.heap.size 0 (vcells zv).toArray rfl rfl TH info_pk (all_oneCell_toArray (vcells_one zv)) ?_
           rw [show (w.alloc (.cells #[.int .i64 0, .int .i64 0, .string ⟨#[]⟩] 59)).setCells w.heap.size 0 (vcells zv).toArray.toList = W from HW.out.symm])
        | fail)
      exact bodyPost_ret (v := .tuple #[.agg (vcells zv).toArray, .bool false]) (results_cellb (p := 5) (q := 4) rfl _ _ w.heap.size (vcells zv) _ _ rfl rfl F hu rfl info_pk) rfl ⟨rfl, HB⟩
    · have d0 : decide (k < 0) = false := decide_eq_false h0
      have d1 : decide ((n : Int) ≤ k) = true := decide_eq_true (by omega)
      clear hk
      go_enter Try.func47, Try.ntmps47
      go_wp2_with (first
        | (refine wpList_store_mid rfl 59 (.tmp 4) (.tmp 17) rfl w.heap.size 0 (vcells zv).toArray rfl rfl TH info_pk (all_oneCell_toArray (vcells_one zv)) ?_
           rw [show (w.alloc (.cells #[.int .i64 0, .int .i64 0, .string ⟨#[]⟩] 59)).setCells w.heap.size 0 (vcells zv).toArray.toList = W from HW.out.symm])
        | fail)
      exact bodyPost_ret (v := .tuple #[.agg (vcells zv).toArray, .bool false]) (results_cellb (p := 5) (q := 4) rfl _ _ w.heap.size (vcells zv) _ _ rfl rfl F hu rfl info_pk) rfl ⟨rfl, HB⟩
  · obtain ⟨i, rfl⟩ : ∃ i : Nat, k = (i : Int) := ⟨k.toNat, by omega⟩
    have hi : i < l.length := by omega
    obtain ⟨e1, e2⟩ := pkAt_nat hi
    rw [e1, e2]
    obtain ⟨vc, hvc⟩ : ∃ vc, vc = vcells l[i] := ⟨_, rfl⟩
    obtain ⟨b, o, rfl, hb, hrg⟩ := sees_pk ((row_sees hr).below ((Below.refl w.heap.size w).alloc (Nat.le_refl _) (.cells #[.int .i64 0, .int .i64 0, .string ⟨#[]⟩] 59))) i hi
    obtain ⟨W, hW⟩ : ∃ W, W = (w.alloc (.cells #[.int .i64 0, .int .i64 0, .string ⟨#[]⟩] 59)).setCells w.heap.size 0 vc := ⟨_, rfl⟩
    obtain ⟨F, HB, _⟩ := pk_put w W l[i] _ hvc hW
    have TH := pk_there w vc.length (by rw [hvc]; rfl)
    have HW := Lib.hid hW
    have HI : Hid ((Try.prog.info? 59).map (·.size) = some vc.length) := Lib.hid (by rw [hvc]; exact info_pk)
    have HONE := Lib.hid (hvc ▸ vcells_one l[i])
    have h2 := (B.alloc (.cells #[.int .i64 0, .int .i64 0, .string ⟨#[]⟩] 59)).cell (j := 2) rfl
    rw [← hvc] at hrg ⊢
    obtain ⟨n, hn⟩ : ∃ n, n = l.length := ⟨_, rfl⟩
    rw [← hn] at h2 hi
    have d0 : decide ((n : Int) ≤ (i : Int)) = false := decide_eq_false (by omega)
    have d1 : decide (n ≤ i) = false := decide_eq_false (by omega)
    clear hk hW hvc hn e1 e2 B hr
    go_enter Try.func47, Try.ntmps47
    go_wp2_with (first
      | (refine wpList_load_mid rfl 59 (.tmp 23) rfl b (o + i * 3) rfl vc _ hrg hu rfl HI.out ?_)
      | (refine wpList_store_mid rfl 59 (.tmp 4) (.tmp 24) rfl w.heap.size 0 vc.toArray rfl rfl TH (by simpa using HI.out) (all_oneCell_toArray HONE.out) ?_
         rw [show (w.alloc (.cells #[.int .i64 0, .int .i64 0, .string ⟨#[]⟩] 59)).setCells w.heap.size 0 vc.toArray.toList = W from HW.out.symm])
      | fail)
    exact bodyPost_ret (v := .tuple #[.agg vc.toArray, .bool true]) (results_cellb (p := 5) (q := 4) rfl _ _ w.heap.size vc _ _ rfl rfl F hu rfl HI.out) rfl ⟨rfl, HB⟩
end Go.Proofs.Ytlagodbkkkdmkaa
