/- Shelves: the program's Cards, Dead. -/
import Derived.Test.YtgkpbkedaddekaaO7
import Derived.Test.YtgkpbkedaddekaaO6
import Derived.Test.YtgkpbkedaddekaaO8
import Derived.Test.YtgkpbkedaddekaaO4
import Derived.Test.YtgkpbkedaddekaaO5
import Derived.Deep.Slices
import Derived.Test.YtgkpbkedaddekaaO1
namespace Go.Proofs.Ytgkpbkedaddekaa
set_option linter.unusedVariables false
set_option linter.unusedSimpArgs false
open Go Go.RowKit BitM

theorem info_crdS : ∃ i0, Try.prog.info? 44 = some i0 ∧ i0.zero = some (.agg (ccl zcd).toArray) ∧ i0.size = 27 ∧ i0.bytes = 280 := by
  cases hi : Try.prog.info? 44 with
  | none => exact absurd (show (Try.prog.info? 44).isSome = true by kernel_rfl) (by rw [hi]; simp)
  | some i0 =>
    have e1 : (Try.prog.info? 44).map (·.zero) = some (some (.agg (ccl zcd).toArray)) := by kernel_rfl
    have e2 : (Try.prog.info? 44).map (·.size) = some 27 := by kernel_rfl
    have e3 : (Try.prog.info? 44).map (·.bytes) = some 280 := by kernel_rfl
    rw [hi] at e1 e2 e3
    exact ⟨i0, rfl, by simpa using e1, by simpa using e2, by simpa using e3⟩
theorem run_csS (c : Cd) (hc : okCd c) (w : World) : (Instr.buildSlice 26 1 #[(0, .agg (ccl c).toArray)]).run Try.prog w = .ok (.slice (some ⟨w.heap.size, 0, none⟩) 1 1) (w.alloc (.cells (ccl c).toArray 44)) := by
  obtain ⟨i, v, lb, f⟩ := c
  obtain ⟨⟨_, _, _⟩, ⟨_, _, _⟩, ⟨_, _, _⟩, ⟨_, _, _⟩, ⟨_, _, _⟩, ⟨_, _, _⟩, ⟨_, _, _⟩, ⟨_, _, _⟩, e⟩ := tr_eight (show f.length = 8 from hc)
  subst e
  kernel_rfl
theorem exec_csS {a : Act} {op : Oper} (y : Operand) (ho : op.op = .buildSlice 26 1 #[(0, y)]) (c : Cd) (hc : okCd c) (hy : a.eval y = .agg (ccl c).toArray) (w : World) :
    (execOp a.eval op).run Try.prog w = .ok (.value (.slice (some ⟨w.heap.size, 0, none⟩) 1 1)) (w.alloc (.cells (ccl c).toArray 44)) := by
  unfold execOp
  simp only [ho, List.map_toArray, List.map_cons, List.map_nil, hy, Sem.run_bind, run_csS c hc, Result.andThen_ok, Sem.run_pure]
theorem kget_here {cs : List Cd} (hr : CRise cs) {i : Nat} (hi : i < cs.length) : (kget (toKV cs) cs[i].1).getD zcd = cs[i] := by rw [get_at hr hi]; rfl
/-- Cards, or the dead, in a slice of their own. -/
def GivesN {α : Type} (f : α → List Value) (w : World) (l : List α) (e : Ending) (w' : World) : Prop :=
  ∃ A c, e = .returned (.slice A l.length c) ∧ SeesR f w' A l.length c l ∧ (∀ k, bof A = some k → w.heap.size ≤ k) ∧ Below w.heap.size w w'
theorem row_bof {w : World} {base n c size : Nat} {e : TypeId} {A : Option Addr} {xs : List Value} (h : w.ownsRow base e size (.slice A n c) n xs) : ∀ k, bof A = some k → base ≤ k := fun k hk => by
  rcases h.2 with ⟨e, _⟩ | ⟨g, cap, cur, e, h2, _⟩
  · injection e with ea
    subst ea
    cases hk
  · injection e with ea
    subst ea
    cases hk
    exact h2
set_option maxRecDepth 100000 in
set_option maxHeartbeats 6400000 in
theorem cards_any (L g b : Nat) (r : Option Nat) (N : Nat) (s : Sh) (w : World) (h : SfAt w L g b r N s) (hok : ShOk s) : Calls Try.prog 17 #[.pointer (some ⟨g, 0, none⟩)] w (GivesN ccl w s.cs) := by
  obtain ⟨i1, ji, jz0, jz1, jz2⟩ := info_crdS
  obtain ⟨A, c, c0, c1, c2, kx⟩ := h.cells
  clear kx
  have HNO := Lib.hid (none_any L g b r N s w h)
  have hfew := hok.few
  obtain ⟨K, hK⟩ : ∃ K, K = (toKV s.cs).map (·.1) := ⟨_, rfl⟩
  have HSO := Lib.hid (sortedC_any cdv b N (toKV s.cs) w (toKV_rise hok.rise) h.map (by simp [toKV]; omega))
  rw [← hK] at HSO
  obtain ⟨n, hn⟩ : ∃ n, n = s.cs.length := ⟨_, rfl⟩
  have HKL : Hid (K.length = n) := Lib.hid (by rw [hK, hn]; simp [toKV])
  have HKX : Hid (∀ i (hi : i < K.length) (hi2 : i < s.cs.length), K[i] = (s.cs[i]).1) := Lib.hid (fun i hi hi2 => by subst hK; simp [toKV])
  have HB2 : Hid (Below w.heap.size w (w.alloc (.cells #[.map (some b)] 61))) := Lib.hid ((Below.refl w.heap.size w).alloc (Nat.le_refl _) _)
  have HS0 := Lib.hid (fun W (hW : Below w.heap.size w W) => h.later hW)
  have HLK1 := Lib.hid (fun W (hW : Below w.heap.size w W) i (hi : i < s.cs.length) => look_card1 (h.later hW).map (x := (s.cs[i]).1) (wf_small (by have := ckc_lo (hok.may _ (List.getElem_mem hi)); omega)))
  have HAT := Lib.hid (fun i (hi : i < s.cs.length) => kget_here hok.rise hi)
  have HOK := Lib.hid (fun i (hi : i < s.cs.length) => show okCd s.cs[i] from hok.len _ (List.getElem_mem hi))
  have hn48 : n ≤ 48 := by omega
  have HNN := Lib.hid hn
  clear h hok hfew hK hn
  go_enter Try.func17, Try.ntmps17
  go_wp2_with fail
  refine HNO.out.mono ?_
  rintro e w1 ⟨rfl, rfl⟩
  go_wp2_with fail
  refine (keysC_any _ _).mono ?_
  rintro e w2 ⟨rfl, rfl⟩
  go_wp2_with fail
  refine HSO.out.mono ?_
  rintro e w3 ⟨A3, c3, rfl, hs3, hc3, hb3⟩
  have HS3 := Lib.hid hs3
  have HB3 := Lib.hid (HB2.out.trans (hb3.mono HB2.out.size))
  have HRN := Lib.hid (World.ownsRow_nil w3 w3.heap.size 44 27)
  rw [HKL.out] at hc3
  rw [HKL.out]
  clear hs3 hb3 HB2 HSO c0 c1 c2 HNO
  go_wp2_with fail
  go_loopw [3, 15] (fun v i wr => ∃ (t cc : Nat) (AA : Option Addr), t ≤ n ∧ v = .slice AA t cc ∧ i = .int .i64 (t : Int) ∧ Hid (wr.ownsRow w3.heap.size 44 27 (.slice AA t cc) t (rws ccl (s.cs.take t))) ∧ Hid (Below w3.heap.size w3 wr)) (fun _ i _ => n - (iOf i).toNat)
  case atStart => exact ⟨0, 0, none, by omega, rfl, rfl, HRN, Lib.hid (Below.refl _ _)⟩
  case round =>
    clear HRN
    obtain ⟨t, cc, AA, ht, rfl, rfl, HRW, HBJ⟩ := hrel
    by_cases hlt : t < n
    · have d0 : decide ((t : Int) < (n : Int)) = true := decide_eq_true (by omega)
      have htk : t < K.length := by rw [HKL.out]; exact hlt
      have htw : t < s.cs.length := by rw [← HNN.out]; exact hlt
      obtain ⟨b2, o2, rfl, hb2, hci⟩ := ((HS3.out.below HBJ.out).more HBJ.out.size) (by rw [List.length_map]; omega)
      have hkc : wr.cell? ⟨b2, o2 + t, none⟩ = some (.int .i64 K[t]) := by
        have := hci t (by simpa using htk)
        simpa using this
      have hbw := HB3.out.trans (HBJ.out.mono HB3.out.size)
      obtain ⟨_, _, _, k1, kx⟩ := (HS0.out wr hbw).cells
      clear kx
      have HLK : Hid ((Instr.lookup 61 (.map (some b)) (.int .i64 K[t]) false).run Try.prog wr = .ok (.agg (ccl s.cs[t]).toArray) wr) := Lib.hid (by
        have := HLK1.out wr hbw t htw
        rw [HAT.out t htw] at this
        rw [HKX.out t htk htw]
        exact this)
      have hokt := HOK.out t htw
      have HEX := Lib.hid (fun (a : Act) (op : Oper) (y : Operand) (ho : op.op = .buildSlice 26 1 #[(0, y)]) (hy : a.eval y = .agg (ccl s.cs[t]).toArray) => exec_csS (a := a) (op := op) y ho s.cs[t] hokt hy wr)
      have HXL := Lib.hid (ccl_len hokt)
      have HX1 := Lib.hid (ccl_one s.cs[t])
      have HNX : Hid (rws ccl (s.cs.take t) ++ ccl s.cs[t] = rws ccl (s.cs.take (t + 1))) := Lib.hid (by
        rw [List.take_succ_eq_append_getElem htw, rws_append, rws_one])
      generalize K[t] = x at hkc HLK
      obtain ⟨X, hX⟩ : ∃ X, X = ccl s.cs[t] := ⟨_, rfl⟩
      rw [← hX] at HLK HEX HXL HX1 HNX
      have B7 := Blk.new wr X 44
      have hb8 := (Below.refl wr.heap.size wr).alloc (Nat.le_refl _) (.cells X.toArray 44)
      obtain ⟨W7, hW7⟩ : ∃ W7, W7 = wr.alloc (.cells X.toArray 44) := ⟨_, rfl⟩
      rw [← hW7] at B7 hb8 HEX
      have HRW3 := Lib.hid (row_later HRW.out hb8)
      have HBJ3 := Lib.hid (HBJ.out.trans (hb8.mono HBJ.out.size))
      have HS7 : Hid (Sees W7 W7.heap.size (some ⟨wr.heap.size, 0, none⟩) X) := Lib.hid (fun _ => ⟨wr.heap.size, 0, rfl, B7.lt, fun j hj => by rw [Nat.zero_add]; exact B7.cell (List.getElem?_eq_getElem hj)⟩)
      have HZ7 := Lib.hid HBJ3.out.size
      clear hX B7 hb8 hW7 hokt HKX HLK1 HAT HOK HS0 HBJ HRW hci hbw
      go_wp2_with (first
        | (refine wpList_exec (by rfl) (.agg X.toArray) (exec_lookM1 (.tmp 23) (.tmp 24) rfl x rfl rfl HLK.out) ?_
           simp only [Act.put, List.setIfInBounds_toArray, List.set_cons_zero, List.set_cons_succ])
        | (refine wpList_execx (by rfl) (.slice (some ⟨wr.heap.size, 0, none⟩) 1 1) (HEX.out _ _ (.tmp 25) rfl rfl) ?_
           simp only [Act.put, List.setIfInBounds_toArray, List.set_cons_zero, List.set_cons_succ])
        | (at_builtin
           refine wpList_appk _ rfl (.tmp 19) (.tmp 26) 26 rfl w3.heap.size 44 i1 _ 27 280 Try.underlying26 ji jz0 jz1 jz2 rfl (by decide) (.slice AA t cc) t (rws ccl (s.cs.take t)) rfl HRW3.out _ (some ⟨wr.heap.size, 0, none⟩) 1 X 1 rfl (by rw [HXL.out]) HS7.out HX1.out (by unfold maxLen; omega) (by omega) HZ7.out ?_
           intro A9 c9 w9 hr9 hb9 hg9 hat9
           rw [HNX.out] at hr9
           have HR9 := Lib.hid hr9
           have HB9 := Lib.hid (HBJ3.out.trans hb9)
           clear hr9 hg9 hat9 hb9)
        | fail)
      go_roundw
      case rel => exact ⟨t + 1, c9, A9, by omega, rfl, by go_num, HR9, HB9⟩
      case measure => simp [iOf]; omega
    · obtain rfl : t = n := by omega
      have HF : Hid (GivesN ccl w s.cs (.returned (.slice AA t cc)) wr) := Lib.hid (by
        have h1 := HRW.out
        rw [List.take_of_length_le (by rw [← HNN.out]; exact Nat.le_refl _)] at h1
        have h2 := HB3.out.size
        refine ⟨AA, cc, by rw [← HNN.out], by rw [← HNN.out]; exact SeesR.of_row h1 HNN.out.symm (row_capS h1), fun k hk => Nat.le_trans h2 (row_bof h1 k hk), HB3.out.trans (HBJ.out.mono HB3.out.size)⟩)
      clear HRW HKL HBJ HLK1 HAT HOK HKX HS3 HS0
      go_wp2_with fail
      go_ret
      exact HF.out
end Go.Proofs.Ytgkpbkedaddekaa

/- Shelves: New, the law's example, acts. -/
namespace Go.Proofs.Ytgkpbkedaddekaa
set_option linter.unusedVariables false
set_option linter.unusedSimpArgs false
open Go Go.RowKit BitM

set_option maxRecDepth 100000 in
set_option maxHeartbeats 3200000 in
theorem new_any (w : World) : Calls Try.prog 6 #[] w fun e w' => ∃ g b, e = .returned (.pointer (some ⟨g, 0, none⟩)) ∧ SfAt w' w.heap.size g b none 0 shnew ∧ Below w.heap.size w w' := by
  go_enter Try.func6, Try.ntmps6
  go_wp2_with (first
    | (refine wpList_mkM (k := 3) rfl rfl ?_
       intro w1 hI1 hb1
       have HI1 := Lib.hid hI1
       have HB1 := Lib.hid hb1
       clear hI1 hb1
       simp only [Act.put, List.setIfInBounds_toArray, List.set_cons_zero, List.set_cons_succ])
    | fail)
  go_ret
  have hb2 := HB1.out.alloc HB1.out.size (.cells #[.int .i64 1, .map (some w.heap.size), .slice none 0 0] 63)
  have hlt := HI1.out.lt
  refine ⟨w1.heap.size, w.heap.size, rfl, ⟨⟨none, 0, Blk.new w1 [.int .i64 1, .map (some w.heap.size), .slice none 0 0] _, World.ownsRow_nil _ _ _ _, rfl⟩, HI1.out.later ((Below.refl w1.heap.size w1).alloc (Nat.le_refl _) _), by omega, by simp, by simp, HB1.out.size, Nat.le_refl _⟩, hb2⟩
def pzz : Pa := ⟨1#32, 0, zeros⟩
end Go.Proofs.Ytgkpbkedaddekaa

/- Shelves: the law's example. -/
namespace Go.Proofs.Ytgkpbkedaddekaa
set_option linter.unusedVariables false
set_option linter.unusedSimpArgs false
open Go Go.RowKit BitM

theorem run_pt1 (w : World) : (Instr.build 36 #[(0, .int .u32 1)]).run Try.prog w = .ok (.agg (pcells 1 0 zeros).toArray) w := by kernel_rfl
theorem exec_pt1 {a : Act} {op : Oper} (x : Operand) (ho : op.op = .build 36 #[(0, x)]) (hx : a.eval x = .int .u32 1) (w : World) : (execOp a.eval op).run Try.prog w = .ok (.value (.agg (pcells 1 0 zeros).toArray)) w := by
  unfold execOp
  simp only [ho, List.map_toArray, List.map_cons, List.map_nil, hx, Sem.run_bind, run_pt1, Result.andThen_ok, Sem.run_pure]
theorem zp26S : (pcells 0 0 zeros).toArray = #[Value.int .u32 0, .int .u32 0, .int .i64 0, .int .i64 0, .string { data := #[] }, .int .i64 0, .int .i64 0, .string { data := #[] }, .int .i64 0, .int .i64 0, .string { data := #[] }, .int .i64 0, .int .i64 0, .string { data := #[] }, .int .i64 0, .int .i64 0, .string { data := #[] }, .int .i64 0, .int .i64 0, .string { data := #[] }, .int .i64 0, .int .i64 0, .string { data := #[] }, .int .i64 0, .int .i64 0, .string { data := #[] }] := rfl
def es1 : Sh := (sadd shnew pzz).1
def es2 : Sh := (sadd es1 pzz).1
def es3 : Sh := (sdrop es2 1 7).1
def es4 : Sh := strim es3 7
theorem aw2 : (sdrop es2 1 7).2 = 0 ∧ (sget es3 1).2 = 9 ∧ es3.nx = 3 ∧ (sget es4 1).2 = 6 := by decide +kernel
theorem es1_ok : ShOk es1 := sadd_ok shnew_ok pzz
theorem es2_ok : ShOk es2 := sadd_ok es1_ok pzz
theorem es3_ok : ShOk es3 := sdrop_ok es2_ok 1 7
theorem es4_ok : ShOk es4 := strim_ok es3_ok 7
theorem sget_ok {s : Sh} (h : ShOk s) (x : Int) : okCd (sget s x).1 := by
  unfold sget
  cases hk : kget (toKV s.cs) x with
  | none => rfl
  | some y => exact h.len y (get_own hk).2
set_option maxRecDepth 100000 in
set_option maxHeartbeats 6400000 in
theorem sh_awake (w : World) : Calls Try.prog 8 #[] w fun e w' => e = .returned (.bool true) ∧ Below w.heap.size w w' := by
  have huc := Try.underlying44
  obtain ⟨Z, hZ⟩ : ∃ Z, Z = ccl zcd := ⟨_, rfl⟩
  have HZL := Lib.hid (show Z.length = 27 by rw [hZ]; rfl)
  have HZ1 := Lib.hid (show ∀ v ∈ Z, v.oneCell' = true by rw [hZ]; exact ccl_one _)
  have HZZ : Hid (Z.toArray = #[Value.int .i64 0, .int .i64 0, .int .u32 0, .int .i64 0, .int .i64 0, .string { data := #[] }, .int .i64 0, .int .i64 0, .string { data := #[] }, .int .i64 0, .int .i64 0, .string { data := #[] }, .int .i64 0, .int .i64 0, .string { data := #[] }, .int .i64 0, .int .i64 0, .string { data := #[] }, .int .i64 0, .int .i64 0, .string { data := #[] }, .int .i64 0, .int .i64 0, .string { data := #[] }, .int .i64 0, .int .i64 0, .string { data := #[] }]) := Lib.hid (by rw [hZ]; exact zc27s)
  have HZB : Hid (∀ w, (Instr.build 44 #[]).run Try.prog w = .ok (.agg Z.toArray) w) := Lib.hid (fun w => by rw [hZ]; kernel_rfl)
  have hup := Try.underlying36
  obtain ⟨ZQ, hZQ⟩ : ∃ ZQ, ZQ = pcells 0 0 zeros := ⟨_, rfl⟩
  have HQL := Lib.hid (show ZQ.length = 26 by rw [hZQ]; rfl)
  have HQQ : Hid (ZQ.toArray = #[Value.int .u32 0, .int .u32 0, .int .i64 0, .int .i64 0, .string { data := #[] }, .int .i64 0, .int .i64 0, .string { data := #[] }, .int .i64 0, .int .i64 0, .string { data := #[] }, .int .i64 0, .int .i64 0, .string { data := #[] }, .int .i64 0, .int .i64 0, .string { data := #[] }, .int .i64 0, .int .i64 0, .string { data := #[] }, .int .i64 0, .int .i64 0, .string { data := #[] }, .int .i64 0, .int .i64 0, .string { data := #[] }]) := Lib.hid (by rw [hZQ]; exact zp26S)
  obtain ⟨PC, hPC⟩ : ∃ PC, PC = pcells (pzz.ms.toNat : Int) pzz.lb pzz.fs := ⟨_, rfl⟩
  have HPL := Lib.hid (show PC.length = 26 by rw [hPC]; rfl)
  have HP1 := Lib.hid (show ∀ v ∈ PC, v.oneCell' = true by
    rw [hPC]
    intro v hv
    unfold pcells at hv
    rcases List.mem_append.1 hv with h | h
    · simp at h; rcases h with rfl | rfl <;> rfl
    · exact fcells_one _ v h)
  have HEP : Hid (∀ (a : Act) (op : Oper) (x : Operand), op.op = .build 36 #[(0, x)] → a.eval x = .int .u32 1 → ∀ w, (execOp a.eval op).run Try.prog w = .ok (.value (.agg PC.toArray)) w) := Lib.hid (fun a op x ho hx w => by rw [hPC]; exact exec_pt1 x ho hx w)
  have HAD := Lib.hid (fun (L g b : Nat) (r : Option Nat) (N : Nat) (s : Sh) (w : World) (h : SfAt w L g b r N s) (hok : ShOk s) (hN : N < 1099511627776) => show Calls Try.prog 12 #[.pointer (some ⟨g, 0, none⟩), .agg PC.toArray] w fun e w' => e = .returned (.tuple #[.agg (ccl (sadd s pzz).2.1).toArray, .int .i64 (sadd s pzz).2.2]) ∧ ∃ N', SfAt w' L g b r N' (sadd s pzz).1 ∧ N' ≤ N + 1 ∧ TurnS w w' g b r from by rw [hPC]; exact sadd_any L g b r N s w h pzz rfl hok hN)
  obtain ⟨V1, hV1⟩ : ∃ V, V = ccl (sget es3 1).1 := ⟨_, rfl⟩
  have HV1L := Lib.hid (show V1.length = 27 by rw [hV1]; exact ccl_len (sget_ok es3_ok 1))
  have HV11 := Lib.hid (show ∀ v ∈ V1, v.oneCell' = true by rw [hV1]; exact ccl_one _)
  obtain ⟨V2, hV2⟩ : ∃ V, V = ccl (sget es4 1).1 := ⟨_, rfl⟩
  have HV2L := Lib.hid (show V2.length = 27 by rw [hV2]; exact ccl_len (sget_ok es4_ok 1))
  have HV21 := Lib.hid (show ∀ v ∈ V2, v.oneCell' = true by rw [hV2]; exact ccl_one _)
  have HGT1 := Lib.hid (fun (L g b : Nat) (r : Option Nat) (N : Nat) (w : World) (h : SfAt w L g b r N es3) => show Calls Try.prog 14 #[.pointer (some ⟨g, 0, none⟩), .int .i64 1] w fun e w' => e = .returned (.tuple #[.agg V1.toArray, .int .i64 9]) ∧ Below w.heap.size w w' from by
    have := get_any L g b r N es3 w h 1 (by decide) es3_ok.len (by have := es3_ok.dead; omega)
    rw [aw2.2.1, ← hV1] at this
    exact this)
  have HGT2 := Lib.hid (fun (L g b : Nat) (r : Option Nat) (N : Nat) (w : World) (h : SfAt w L g b r N es4) => show Calls Try.prog 14 #[.pointer (some ⟨g, 0, none⟩), .int .i64 1] w fun e w' => e = .returned (.tuple #[.agg V2.toArray, .int .i64 6]) ∧ Below w.heap.size w w' from by
    have := get_any L g b r N es4 w h 1 (by decide) es4_ok.len (by have := es4_ok.dead; omega)
    rw [aw2.2.2.2, ← hV2] at this
    exact this)
  have HDR := Lib.hid (fun (L g b : Nat) (r : Option Nat) (N : Nat) (w : World) (h : SfAt w L g b r N es2) (hL : L ≤ w.heap.size) => show Calls Try.prog 15 #[.pointer (some ⟨g, 0, none⟩), .int .i64 1, .int .i64 7] w fun e w' => e = .returned (.int .i64 0) ∧ ∃ r', SfAt w' L g b r' N es3 ∧ TurnS w w' g b r ∧ RowS w r r' from by
    have := sdrop_any L g b r N es2 w h 1 7 (by decide) es2_ok hL
    rw [aw2.1] at this
    exact this)
  have HNX := Lib.hid (fun (L g b : Nat) (r : Option Nat) (N : Nat) (w : World) (h : SfAt w L g b r N es3) => show Calls Try.prog 16 #[.pointer (some ⟨g, 0, none⟩)] w fun e w' => e = .returned (.int .i64 3) ∧ w = w' from by
    have := next_any L g b r N es3 w h
    rw [aw2.2.2.1] at this
    exact this)
  have HTR := Lib.hid (fun (L g b : Nat) (r : Option Nat) (N : Nat) (w : World) (h : SfAt w L g b r N es3) => strim_any L g b r N es3 w h 7 (by have := es3_ok.dead; omega))
  clear hZ hZQ hPC hV1 hV2
  go_enter Try.func8, Try.ntmps8
  go_wp2_with fail
  refine (new_any w).mono ?_
  rintro e w1 ⟨g, b, rfl, hs1, hb1⟩
  have HS1 := Lib.hid hs1
  have HB1 := Lib.hid hb1
  have hbq := Blk.new w1 ZQ 36
  have TH1 := hbq.there 0 26 (by rw [HQL.out]; omega)
  obtain ⟨W2, hW2⟩ : ∃ W2, W2 = (w1.alloc (.cells ZQ.toArray 36)).setCells w1.heap.size 0 PC := ⟨_, rfl⟩
  have HBP := Lib.hid (show Blk W2 w1.heap.size PC by rw [hW2]; exact hbq.whole (by rw [HQL.out, HPL.out]))
  have hb2 : Below w1.heap.size w1 W2 := by rw [hW2]; exact below_sets (Nat.le_refl _) _ _ ((Below.refl w1.heap.size w1).alloc (Nat.le_refl _) _)
  have HS2 := Lib.hid (hs1.later hb2)
  have HB2 := Lib.hid (hb1.trans (hb2.mono hb1.size))
  have HGP := Lib.hid (show w1.heap.size ≠ g ∧ w1.heap.size ≠ b from by have := hs1.lt; omega)
  have HLG := Lib.hid (show w.heap.size ≤ g ∧ w.heap.size ≤ b from ⟨hs1.Lg, hs1.Lb⟩)
  have HW2 := Lib.hid hW2
  rw [HQQ.out] at TH1
  have RGP2 := HBP.out.wholeC
  clear hs1 hb1 hbq hW2 hb2
  go_wp2_with (first
    | (refine wpList_exec (by rfl) (.agg PC.toArray) (HEP.out _ _ (.const (.int .u32 1)) rfl rfl _) ?_
       simp only [Act.put, List.setIfInBounds_toArray, List.set_cons_zero, List.set_cons_succ])
    | (refine wpList_store_mid rfl 36 (.tmp 2) (.tmp 10) rfl w1.heap.size 0 PC.toArray rfl rfl (by simpa [HPL.out] using TH1) (by simpa [HPL.out] using info_patch) (all_oneCell_toArray HP1.out) ?_
       rw [← HQQ.out, ← HW2.out]
       clear TH1)
    | (refine wpList_load_mid rfl 36 (.tmp 2) rfl w1.heap.size 0 rfl PC _ RGP2 hup rfl (by rw [HPL.out]; exact info_patch) ?_
       simp only [Act.put, List.setIfInBounds_toArray, List.set_cons_zero, List.set_cons_succ])
    | fail)
  refine (HAD.out _ g b none 0 shnew W2 HS2.out shnew_ok (by omega)).mono ?_
  rintro e w3 ⟨rfl, N3, hs3, hn3, ht3⟩
  have HS3 : Hid (SfAt w3 w.heap.size g b none N3 es1) := Lib.hid hs3
  have hbp3 := ht3.blk HBP.out HGP.out.1 HGP.out.2 (by simp)
  have RGP3 := hbp3.wholeC
  have HB3 := Lib.hid (HB2.out.trans (ht3.below HLG.out.1 HLG.out.2 (fun k hk => by cases hk) HB2.out.size))
  clear hs3 ht3 hbp3 HS2 HS1 RGP2
  go_wp2_with (first
    | (refine wpList_load_mid rfl 36 (.tmp 2) rfl w1.heap.size 0 rfl PC _ RGP3 hup rfl (by rw [HPL.out]; exact info_patch) ?_
       simp only [Act.put, List.setIfInBounds_toArray, List.set_cons_zero, List.set_cons_succ])
    | fail)
  refine (HAD.out _ g b none N3 es1 w3 HS3.out es1_ok (by omega)).mono ?_
  rintro e w4 ⟨rfl, N4, hs4, hn4, ht4⟩
  have HS4 : Hid (SfAt w4 w.heap.size g b none N4 es2) := Lib.hid hs4
  have HB4 := Lib.hid (HB3.out.trans (ht4.below HLG.out.1 HLG.out.2 (fun k hk => by cases hk) HB3.out.size))
  clear hs4 ht4 HS3 RGP3 HAD
  go_wp2_with fail
  refine (HDR.out _ g b none N4 w4 HS4.out HB4.out.size).mono ?_
  rintro e w5 ⟨rfl, r5, hs5, ht5, hr5⟩
  have HS5 := Lib.hid hs5
  have HB5 := Lib.hid (HB4.out.trans (ht5.below HLG.out.1 HLG.out.2 (fun k hk => by cases hk) HB4.out.size))
  clear hs5 ht5 hr5 HS4 HDR
  go_wp2_with fail
  refine (HGT1.out _ g b r5 N4 w5 HS5.out).mono ?_
  rintro e w6 ⟨rfl, hb6⟩
  have HS6 := Lib.hid (HS5.out.later hb6)
  have HB6 := Lib.hid (HB5.out.trans (hb6.mono HB5.out.size))
  clear hb6 HS5 HGT1
  have hbz := Blk.new w6 Z 44
  have TH7 := hbz.there 0 27 (by rw [HZL.out]; omega)
  obtain ⟨W7, hw7⟩ : ∃ W, W = (w6.alloc (.cells Z.toArray 44)).setCells w6.heap.size 0 V1 := ⟨_, rfl⟩
  have HK7 := Lib.hid (show Blk W7 w6.heap.size V1 by rw [hw7]; exact hbz.whole (by rw [HZL.out, HV1L.out]))
  have HL7 := Lib.hid (show Below w6.heap.size w6 W7 by rw [hw7]; exact below_sets (Nat.le_refl _) _ _ ((Below.refl w6.heap.size w6).alloc (Nat.le_refl _) _))
  have HW7 := Lib.hid hw7
  rw [HZZ.out] at TH7
  clear hw7 hbz
  have HS7 := Lib.hid (HS6.out.later HL7.out)
  have HB7 := Lib.hid (HB6.out.trans (HL7.out.mono HB6.out.size))
  go_wp2_with (first
    | (refine wpList_store_mid rfl 44 (.tmp 4) (.tmp 22) rfl w6.heap.size 0 V1.toArray rfl rfl (by simpa [HV1L.out] using TH7) (by simpa [HV1L.out] using info_card) (all_oneCell_toArray HV11.out) ?_
       rw [← HZZ.out, ← HW7.out]
       clear TH7)
    | fail)
  refine (HNX.out _ g b r5 N4 W7 HS7.out).mono ?_
  rintro e w8 ⟨rfl, rfl⟩
  go_wp2_with fail
  refine (HTR.out _ g b r5 N4 W7 HS7.out).mono ?_
  rintro e w8 ⟨rfl, r8, hs8, ht8, hr8⟩
  have HS8 : Hid (SfAt w8 w.heap.size g b r8 N4 es4) := Lib.hid hs8
  have HB8 := Lib.hid (HB7.out.trans (ht8.below HLG.out.1 HLG.out.2 (fun k hk => (HS7.out.row k hk).1) HB7.out.size))
  clear hs8 ht8 hr8 HS7 HTR
  go_wp2_with fail
  refine (HGT2.out _ g b r8 N4 w8 HS8.out).mono ?_
  rintro e w9 ⟨rfl, hb9⟩
  have HB9 := Lib.hid (HB8.out.trans (hb9.mono HB8.out.size))
  clear hb9 HS8 HGT2
  have hbz := Blk.new w9 Z 44
  have TH10 := hbz.there 0 27 (by rw [HZL.out]; omega)
  obtain ⟨W10, hw10⟩ : ∃ W, W = (w9.alloc (.cells Z.toArray 44)).setCells w9.heap.size 0 V2 := ⟨_, rfl⟩
  have HK10 := Lib.hid (show Blk W10 w9.heap.size V2 by rw [hw10]; exact hbz.whole (by rw [HZL.out, HV2L.out]))
  have HL10 := Lib.hid (show Below w9.heap.size w9 W10 by rw [hw10]; exact below_sets (Nat.le_refl _) _ _ ((Below.refl w9.heap.size w9).alloc (Nat.le_refl _) _))
  have HW10 := Lib.hid hw10
  rw [HZZ.out] at TH10
  clear hw10 hbz
  have HB10 := Lib.hid (HB9.out.trans (HL10.out.mono HB9.out.size))
  go_wp2_with (first
    | (refine wpList_store_mid rfl 44 (.tmp 7) (.tmp 31) rfl w9.heap.size 0 V2.toArray rfl rfl (by simpa [HV2L.out] using TH10) (by simpa [HV2L.out] using info_card) (all_oneCell_toArray HV21.out) ?_
       rw [← HZZ.out, ← HW10.out]
       clear TH10)
    | fail)
  go_ret
  exact ⟨rfl, HB10.out⟩
end Go.Proofs.Ytgkpbkedaddekaa

/- Shelves: what the frame gives of acts. -/
namespace Go.Proofs.Ytgkpbkedaddekaa
set_option linter.unusedVariables false
open Go Go.RowKit Go.Deep Go.ChangeShapes Go.WideShapes Go.ChangeAt BitM
/-- An act. -/
structure Al where
  kd : Int
  id : Int
  sq : Int
  p : Pa
def pal (p : Pa) : List Value := pcells (p.ms.toNat : Int) p.lb p.fs
def axl (x : Al) : List Value := [.int .i64 x.kd, .int .i64 x.id, .int .i64 x.sq] ++ pal x.p
def InL (z : Int) : Prop := -9223372036854775808 ≤ z ∧ z ≤ 9223372036854775807
def okAl (x : Al) : Prop := x.p.fs.length = 8 ∧ InL x.kd ∧ InL x.id ∧ InL x.sq
theorem axl_len {x : Al} (h : okAl x) : (axl x).length = 29 := by unfold axl pal; rw [List.length_append, pcells_len _ _ h.1]; rfl
abbrev axs (l : List Al) : List Value := rws axl l
def WholeL (l : List Al) : Prop := ∀ x ∈ l, okAl x
instance : Inhabited Al := ⟨⟨0, 0, 0, ⟨0, 0, []⟩⟩⟩
theorem alist4 {α : Type} {l : List α} {a b c : α} (hl : l.length = 3) (h0 : (l.drop 0).take 1 = [a]) (h1 : (l.drop 1).take 1 = [b]) (h2 : (l.drop 2).take 1 = [c]) : l = [a, b, c] := by
  match l, hl with
  | [x, y, z], _ => simp at h0 h1 h2; rw [h0, h1, h2]
section
variable {H : Type} {enc : TypeId × Value → H} {W : World}
set_option maxRecDepth 100000 in
theorem trod_patch {sp : Nat → Bool} {held : Bool} {n : Nat} {cs : List Value} {x : DataW H × List MemPlace} (h : DataW.trod enc Try.prog W 0 sp held n 36 cs = some x) :
    ∃ (m lab : BitVec 32) (f : List V3), cs = pcells (m.toNat : Int) (lab.toNat : Int) f ∧ f.length = 8 := by
  obtain ⟨y0, y1, y2, m, _, hl, h0, h1, h2⟩ := Go.Deep.trod_struct3 Try.underlying36 h
  have c2 : Try.prog.cellsOf 31 = 1 := by kernel_rfl
  have c8 : Try.prog.cellsOf 34 = 24 := by kernel_rfl
  have c26 : Try.prog.cellsOf 36 = 26 := by kernel_rfl
  rw [c26] at hl
  simp only [c2] at h0 h1
  simp only [c8] at h2
  obtain ⟨a, e0, _, w0⟩ := DataW.trod_int Try.underlying31 h0
  obtain ⟨b, e1, _, w1⟩ := DataW.trod_int Try.underlying31 h1
  obtain ⟨f, e3, hf8, hok⟩ := trod_fields h2
  obtain ⟨x, rfl⟩ := u32_wf w0
  obtain ⟨y, rfl⟩ := u32_wf w1
  refine ⟨x, y, f, ?_, hf8⟩
  have e4 : cs.take 2 = [.int .u32 (x.toNat : Int), .int .u32 (y.toNat : Int)] := list2 (by rw [List.length_take, hl]; rfl) (by simpa [List.take_take, List.drop_take] using e0) (by simpa [List.take_take, List.drop_take] using e1)
  rw [← List.take_append_drop 2 cs, e4]
  unfold pcells
  rw [← e3, List.take_of_length_le (by rw [List.length_drop, hl]; omega)]
set_option maxRecDepth 100000 in
theorem trod_act {sp : Nat → Bool} {held : Bool} {n : Nat} {cs : List Value} {x : DataW H × List MemPlace} (h : DataW.trod enc Try.prog W 0 sp held n 38 cs = some x) : ∃ v : Al, cs = axl v ∧ okAl v := by
  obtain ⟨y0, y1, y2, y3, m, _, hl, h0, h1, h2, h3⟩ := Go.Joins.trod_struct4 Try.underlying38 h
  have c1 : Try.prog.cellsOf 3 = 1 := by kernel_rfl
  have c26 : Try.prog.cellsOf 36 = 26 := by kernel_rfl
  have c29 : Try.prog.cellsOf 38 = 29 := by kernel_rfl
  rw [c29] at hl
  simp only [c1] at h0 h1 h2
  simp only [c26] at h3
  obtain ⟨a, e0, _, w0⟩ := DataW.trod_int Try.underlying3 h0
  obtain ⟨b, e1, _, w1⟩ := DataW.trod_int Try.underlying3 h1
  obtain ⟨c, e2, _, w2⟩ := DataW.trod_int Try.underlying3 h2
  obtain ⟨pm, pl, f, e3, hp8⟩ := trod_patch h3
  refine ⟨⟨a, b, c, ⟨pm, (pl.toNat : Int), f⟩⟩, ?_, hp8, i64_wf w0, i64_wf w1, i64_wf w2⟩
  have e4 : cs.take 3 = [.int .i64 a, .int .i64 b, .int .i64 c] := alist4 (by rw [List.length_take, hl]; rfl) (by simpa [List.take_take, List.drop_take] using e0) (by simpa [List.take_take, List.drop_take] using e1) (by simpa [List.take_take, List.drop_take] using e2)
  rw [← List.take_append_drop 3 cs, e4]
  unfold axl pal
  rw [← e3, List.take_of_length_le (by rw [List.length_drop, hl]; omega)]
set_option maxRecDepth 100000 in
theorem open_als {r : Reach} {base : Nat} {v : Value} {d : DataW H} {ps : List MemPlace}
    (hv : Value.okWide Try.prog W r base 22 v) (h : DataW.Trod enc Try.prog W 0 (fun _ => true) true 22 v d ps) :
    ∃ A n c, ∃ l : List Al, v = .slice A n c ∧ n ≤ c ∧ c ≤ maxLen ∧ l.length = n ∧ WholeL l ∧ Sees W W.heap.size A (axs l) := by
  obtain ⟨A, n, c, l, e, hnc, hcm, hln, hok, hs⟩ := open_rows (f := axl) (sz := 29) (ok := okAl) Try.underlying22 (by kernel_rfl) (by decide) (fun t ht => axl_len ht) (fun n cs x h => trod_act h) hv h
  exact ⟨A, n, c, l, e, hnc, hcm, hln, hok, hs⟩
end
end Go.Proofs.Ytgkpbkedaddekaa

/- Turns, items: are they more, or longer, than are looked at. -/
namespace Go.Proofs.Ytgkpbkedaddekaa
set_option linter.unusedVariables false
set_option linter.unusedSimpArgs false
open Go Go.RowKit BitM

end Go.Proofs.Ytgkpbkedaddekaa

/- Items held against each other: the program's Same, the document's Same. -/
namespace Go.Proofs.Ytgkpbkedaddekaa
set_option linter.unusedVariables false
set_option linter.unusedSimpArgs false
open Go Go.RowKit BitM

instance : DecidableEq Im := fun x y => decidable_of_iff (x.kd = y.kd ∧ x.cd = y.cd) (by cases x; cases y; simp)
instance : DecidableEq Tn := fun x y => decidable_of_iff (x.sq = y.sq ∧ x.id = y.id ∧ x.old = y.old ∧ x.nw = y.nw ∧ x.cd = y.cd) (by cases x; cases y; simp)
end Go.Proofs.Ytgkpbkedaddekaa

/- Items: are they more, or longer, than are looked at; two lists of cards held against each other by the document. -/
namespace Go.Proofs.Ytgkpbkedaddekaa
set_option linter.unusedVariables false
set_option linter.unusedSimpArgs false
open Go Go.RowKit BitM

instance : DecidableEq Cd := fun c d => inferInstanceAs (Decidable (c = d))
end Go.Proofs.Ytgkpbkedaddekaa

/- Shelves: the document's place, Get, Dead. -/
namespace Go.Proofs.Ytgkpbkedaddekaa
set_option linter.unusedVariables false
set_option linter.unusedSimpArgs false
open Go Go.RowKit BitM

theorem card_cell0 {w : World} {A : Option Addr} {n c : Nat} {l : List Cd} (h : SeesR ccl w A n c l) (hok : ∀ x ∈ l, okCd x) (hl : 0 < l.length) :
    ∃ b o, A = some ⟨b, o, none⟩ ∧ ∀ W, Below w.heap.size w W → ∀ k (hk : k < l.length), W.cell? ⟨b, o + k * 27, none⟩ = some (.int .i64 (l[k]).1) ∧ W.rangeAt b (o + k * 27) (ccl l[k]) := by
  obtain ⟨b, o, e, _, hr⟩ := h.gets (sz := 27) (fun x hx => ccl_len (hok x hx)) (by omega) hl
  exact ⟨b, o, e, fun W hW k hk => ⟨hr W hW k hk 0 _ rfl, hr W hW k hk⟩⟩
end Go.Proofs.Ytgkpbkedaddekaa

/- Shelves: the document's Get and Dead. -/
namespace Go.Proofs.Ytgkpbkedaddekaa
set_option linter.unusedVariables false
set_option linter.unusedSimpArgs false
open Go Go.RowKit BitM

instance : DecidableEq Dd := fun x y => decidable_of_iff (x.id = y.id ∧ x.vr = y.vr ∧ x.sq = y.sq) (by cases x; cases y; simp)
end Go.Proofs.Ytgkpbkedaddekaa
