/- Shelves: the program's Get. -/
import Derived.Test.YtgkpbkedaddekaaO6
import Derived.Test.YtgkpbkedaddekaaO2
import Derived.Test.YtgkpbkedaddekaaO3
import Derived.Test.YtgkpbkedaddekaaO4
import Derived.Test.YtgkpbkedaddekaaO5
namespace Go.Proofs.Ytgkpbkedaddekaa
set_option linter.unusedVariables false
set_option linter.unusedSimpArgs false
open Go Go.RowKit BitM

theorem zc27s : (ccl zcd).toArray = #[Value.int .i64 0, .int .i64 0, .int .u32 0, .int .i64 0, .int .i64 0, .string { data := #[] }, .int .i64 0, .int .i64 0, .string { data := #[] }, .int .i64 0, .int .i64 0, .string { data := #[] }, .int .i64 0, .int .i64 0, .string { data := #[] }, .int .i64 0, .int .i64 0, .string { data := #[] }, .int .i64 0, .int .i64 0, .string { data := #[] }, .int .i64 0, .int .i64 0, .string { data := #[] }, .int .i64 0, .int .i64 0, .string { data := #[] }] := rfl
theorem results_blkS {P : Program} {fn : Func} {p q : Tmp} {ty : TypeId} (h : fn.results = #[.cell q ty, .tmp p]) (tmps : Array Value) (w : World) (g : Nat) (cs : List Value) (d : TypeDesc) (v : Value) (hp : tmps.getD p undef = v)
    (hq : tmps.getD q undef = .pointer (some ⟨g, 0, none⟩)) (hB : Blk w g cs)
    (hu : P.underlying ty = some d) (hd : (match d with | .struct _ | .array _ _ => true | _ => false) = true) (hi : (P.info? ty).map (·.size) = some cs.length) :
    (results fn tmps).run P w = .ok (.tuple #[.agg cs.toArray, v]) w := by
  obtain ⟨t, hB⟩ := hB
  subst hp
  have hq' : tmps[q]?.getD undef = .pointer (some ⟨g, 0, none⟩) := by simpa using hq
  simp [results, h, hq', asAddr, run_loadVar_row w g t ty cs.toArray (0, 0) d hB hu hd (by simpa using hi)]
/-- What Decode gives. -/
theorem exec_z0 {a : Act} {op : Oper} {Z : List Value} (ho : op.op = .build 44 #[]) (hz : ∀ w, (Instr.build 44 #[]).run Try.prog w = .ok (.agg Z.toArray) w) (w : World) : (execOp a.eval op).run Try.prog w = .ok (.value (.agg Z.toArray)) w := by
  unfold execOp
  simp only [ho, List.map_toArray, List.map_nil, Sem.run_bind, hz, Result.andThen_ok, Sem.run_pure]
theorem look_card {w : World} {b N : Nat} {cs : List Cd} (hI : MapI Try.prog 3 w b N (vmap cdv (toKV cs))) {x : Int} (hx : (Lit.int .i64 x).wf = true) :
    (Instr.lookup 61 (.map (some b)) (.int .i64 x) true).run Try.prog w = .ok (.tuple #[.agg (ccl ((kget (toKV cs) x).getD zcd)).toArray, .bool (kget (toKV cs) x).isSome]) w := by
  have := hI.look2 Try.underlying3 Try.underlying61 (z := .agg (ccl zcd).toArray) (by kernel_rfl) hx
  rw [vmap_get] at this
  rw [this, Option.isSome_map]
  cases kget (toKV cs) x <;> rfl
theorem look_card1 {w : World} {b N : Nat} {cs : List Cd} (hI : MapI Try.prog 3 w b N (vmap cdv (toKV cs))) {x : Int} (hx : (Lit.int .i64 x).wf = true) :
    (Instr.lookup 61 (.map (some b)) (.int .i64 x) false).run Try.prog w = .ok (.agg (ccl ((kget (toKV cs) x).getD zcd)).toArray) w := by
  have := hI.look1 Try.underlying3 Try.underlying61 (z := .agg (ccl zcd).toArray) (by kernel_rfl) hx
  rw [vmap_get] at this
  rw [this]
  cases kget (toKV cs) x <;> rfl
set_option maxRecDepth 100000 in
set_option maxHeartbeats 3200000 in
theorem get_any (L g b : Nat) (r : Option Nat) (N : Nat) (s : Sh) (w : World) (h : SfAt w L g b r N s) (x : Int) (hx : (Lit.int .i64 x).wf = true) (hlen : ∀ c ∈ s.cs, okCd c) (hz : s.dd.length ≤ 65536) :
    Calls Try.prog 14 #[.pointer (some ⟨g, 0, none⟩), .int .i64 x] w fun e w' => e = .returned (.tuple #[.agg (ccl (sget s x).1).toArray, .int .i64 (sget s x).2]) ∧ Below w.heap.size w w' := by
  have huc := Try.underlying44
  obtain ⟨Z, hZ⟩ : ∃ Z, Z = ccl zcd := ⟨_, rfl⟩
  have HZL := Lib.hid (show Z.length = 27 by rw [hZ]; rfl)
  have HZ1 := Lib.hid (show ∀ v ∈ Z, v.oneCell' = true by rw [hZ]; exact ccl_one _)
  have HZZ : Hid (Z.toArray = #[Value.int .i64 0, .int .i64 0, .int .u32 0, .int .i64 0, .int .i64 0, .string { data := #[] }, .int .i64 0, .int .i64 0, .string { data := #[] }, .int .i64 0, .int .i64 0, .string { data := #[] }, .int .i64 0, .int .i64 0, .string { data := #[] }, .int .i64 0, .int .i64 0, .string { data := #[] }, .int .i64 0, .int .i64 0, .string { data := #[] }, .int .i64 0, .int .i64 0, .string { data := #[] }, .int .i64 0, .int .i64 0, .string { data := #[] }]) := Lib.hid (by rw [hZ]; exact zc27s)
  have HZB : Hid (∀ w, (Instr.build 44 #[]).run Try.prog w = .ok (.agg Z.toArray) w) := Lib.hid (fun w => by rw [hZ]; kernel_rfl)
  have HEZ : Hid (∀ (a : Act) (op : Oper), op.op = .build 44 #[] → ∀ w, (execOp a.eval op).run Try.prog w = .ok (.value (.agg Z.toArray)) w) := Lib.hid (fun a op ho w => exec_z0 ho HZB.out w)
  obtain ⟨W1, hW1⟩ : ∃ W1, W1 = w.alloc (.cells Z.toArray 44) := ⟨_, rfl⟩
  have hb1 : Below w.heap.size w W1 := by rw [hW1]; exact (Below.refl w.heap.size w).alloc (Nat.le_refl _) _
  have B1 : Blk W1 w.heap.size Z := by rw [hW1]; exact Blk.new w Z _
  have h1 := h.later hb1
  obtain ⟨A, c, c0, c1, c2, _⟩ := h1.cells
  have HNO := Lib.hid (none_any L g b r N s W1 h1)
  have HLK := Lib.hid (look_card h1.map hx)
  obtain ⟨V, hV⟩ : ∃ V, V = ccl ((kget (toKV s.cs) x).getD zcd) := ⟨_, rfl⟩
  have hVl : okCd ((kget (toKV s.cs) x).getD zcd) := by
    cases hk : kget (toKV s.cs) x with
    | none => rfl
    | some y => exact hlen y (get_own hk).2
  have HVL := Lib.hid (show V.length = 27 by rw [hV]; exact ccl_len hVl)
  have HV1 := Lib.hid (show ∀ v ∈ V, v.oneCell' = true by rw [hV]; exact ccl_one _)
  rw [← hV] at HLK
  obtain ⟨W3, hW3⟩ : ∃ W3, W3 = (W1.alloc (.cells Z.toArray 44)).setCells W1.heap.size 0 V := ⟨_, rfl⟩
  have BX := Blk.new W1 Z 44
  have TH2 := BX.there 0 27 (by rw [HZL.out]; omega)
  have B3 : Blk W3 W1.heap.size V := by rw [hW3]; exact BX.whole (by rw [HZL.out, HVL.out])
  have hg1 : w.heap.size < W1.heap.size := B1.lt
  have B31 : Blk W3 w.heap.size Z := by rw [hW3]; exact (B1.alloc _).setsOther (by omega) _ _
  have hb3 : Below W1.heap.size W1 W3 := by rw [hW3]; exact below_sets (Nat.le_refl _) _ _ ((Below.refl W1.heap.size W1).alloc (Nat.le_refl _) _)
  have hb3w : Below w.heap.size w W3 := hb1.trans (hb3.mono hb1.size)
  have HKN := Lib.hid (known_any L g b r N s W3 (h1.later hb3) x hz)
  have RG3 := B3.wholeC
  have TH4 := B31.there 0 27 (by rw [HZL.out]; omega)
  have HB31 := Lib.hid B31
  have HB3W := Lib.hid hb3w
  have HW1 := Lib.hid hW1
  have HW3 := Lib.hid hW3
  rw [HZZ.out] at TH2
  have HG1 := Lib.hid hg1
  cases hk : kget (toKV s.cs) x with
  | some y =>
    have HR : Hid (sget s x = (y, 0)) := Lib.hid (by unfold sget; rw [hk])
    have HVY : Hid (V = ccl y) := Lib.hid (by rw [hV, hk]; rfl)
    rw [hk] at HLK
    obtain ⟨W4, hW4⟩ : ∃ W4, W4 = W3.setCells w.heap.size 0 V := ⟨_, rfl⟩
    have HB4 := Lib.hid (show Blk W4 w.heap.size V by rw [hW4]; exact B31.whole (by rw [HZL.out, HVL.out]))
    have HB4W := Lib.hid (show Below w.heap.size w W4 by rw [hW4]; exact below_sets (Nat.le_refl _) _ _ hb3w)
    have HW4 := Lib.hid hW4
    clear h h1 hlen hb1 hb3 hb3w hW1 hW3 hW4 B1 BX B3 B31 hV hVl hZ hk hg1 HKN
    go_enter Try.func14, Try.ntmps14
    go_wp2_with fail
    rw [← HZZ.out, ← HW1.out]
    refine HNO.out.mono ?_
    rintro e w1 ⟨rfl, rfl⟩
    go_wp2_with (first
      | (refine wpList_exec (by rfl) (.tuple #[.agg V.toArray, .bool true]) (exec_lookM2 (.tmp 15) (.tmp 16) rfl x rfl rfl HLK.out) ?_
         simp only [Act.put, List.setIfInBounds_toArray, List.set_cons_zero, List.set_cons_succ])
      | (refine wpList_store_mid rfl 44 (.tmp 6) (.tmp 18) rfl W1.heap.size 0 V.toArray rfl rfl (by simpa [HVL.out] using TH2) (by simpa [HVL.out] using info_card) (all_oneCell_toArray HV1.out) ?_
         rw [← HZZ.out, ← HW3.out]
         clear TH2)
      | (refine wpList_load_mid rfl 44 (.tmp 6) rfl W1.heap.size 0 rfl V _ RG3 huc rfl (by rw [HVL.out]; exact info_card) ?_
         simp only [Act.put, List.setIfInBounds_toArray, List.set_cons_zero, List.set_cons_succ])
      | (refine wpList_store_mid rfl 44 (.tmp 4) (.tmp 21) rfl w.heap.size 0 V.toArray rfl rfl (by simpa [HVL.out] using TH4) (by simpa [HVL.out] using info_card) (all_oneCell_toArray HV1.out) ?_
         rw [← HW4.out]
         clear TH4)
      | fail)
    exact bodyPost_ret (v := .tuple #[.agg V.toArray, .int .i64 0]) (results_blkS rfl _ _ w.heap.size V _ (.int .i64 0) rfl rfl HB4.out huc rfl (by rw [HVL.out]; exact info_card)) rfl ⟨by rw [HR.out, ← HVY.out], HB4W.out⟩
  | none =>
    have HR : Hid (sget s x = (zcd, sgone s x)) := Lib.hid (by unfold sget; rw [hk])
    have HVY : Hid (Z = ccl zcd) := Lib.hid hZ
    have HSG : Hid (sgone s x = if sknown s x = true then 9 else 6) := Lib.hid rfl
    rw [hk] at HLK
    generalize sgone s x = sg at HR HSG
    generalize sknown s x = kn at HKN HSG
    clear h h1 hlen hb1 hb3 hb3w hW1 hW3 B1 BX B3 B31 hV hVl hZ hk hg1 TH4
    go_enter Try.func14, Try.ntmps14
    go_wp2_with fail
    rw [← HZZ.out, ← HW1.out]
    refine HNO.out.mono ?_
    rintro e w1 ⟨rfl, rfl⟩
    go_wp2_with (first
      | (refine wpList_exec (by rfl) (.tuple #[.agg V.toArray, .bool false]) (exec_lookM2 (.tmp 15) (.tmp 16) rfl x rfl rfl HLK.out) ?_
         simp only [Act.put, List.setIfInBounds_toArray, List.set_cons_zero, List.set_cons_succ])
      | (refine wpList_store_mid rfl 44 (.tmp 6) (.tmp 18) rfl W1.heap.size 0 V.toArray rfl rfl (by simpa [HVL.out] using TH2) (by simpa [HVL.out] using info_card) (all_oneCell_toArray HV1.out) ?_
         rw [← HZZ.out, ← HW3.out]
         clear TH2)
      | fail)
    refine HKN.out.mono ?_
    rintro e w5 ⟨rfl, hb5⟩
    have B51 := HB31.out.later hb5
    have hb5w := HB3W.out.trans (hb5.mono HB3W.out.size)
    have TH5 := B51.there 0 27 (by rw [HZL.out]; omega)
    obtain ⟨W6, hW6⟩ : ∃ W6, W6 = w5.setCells w.heap.size 0 Z := ⟨_, rfl⟩
    have HB6 := Lib.hid (show Blk W6 w.heap.size Z by rw [hW6]; exact B51.whole rfl)
    have HB6W := Lib.hid (show Below w.heap.size w W6 by rw [hW6]; exact below_sets (Nat.le_refl _) _ _ hb5w)
    have HW6 := Lib.hid hW6
    clear hW6 B51 hb5 hb5w HKN RG3
    cases kn with
    | true =>
      have HSG2 : Hid (sg = 9) := Lib.hid HSG.out
      clear HSG
      go_wp2_with (first
        | (refine wpList_exec (by rfl) (.agg Z.toArray) (HEZ.out _ _ rfl _) ?_
           simp only [Act.put, List.setIfInBounds_toArray, List.set_cons_zero, List.set_cons_succ])
        | (refine wpList_store_mid rfl 44 (.tmp 4) (.tmp 25) rfl w.heap.size 0 Z.toArray rfl rfl (by simpa [HZL.out] using TH5) (by simpa [HZL.out] using info_card) (all_oneCell_toArray HZ1.out) ?_
           rw [← HW6.out]
           clear TH5)
        | fail)
      exact bodyPost_ret (v := .tuple #[.agg Z.toArray, .int .i64 9]) (results_blkS rfl _ _ w.heap.size Z _ (.int .i64 9) rfl rfl HB6.out huc rfl (by rw [HZL.out]; exact info_card)) rfl ⟨by rw [HR.out, HSG2.out, HVY.out], HB6W.out⟩
    | false =>
      have HSG2 : Hid (sg = 6) := Lib.hid HSG.out
      clear HSG
      go_wp2_with (first
        | (refine wpList_exec (by rfl) (.agg Z.toArray) (HEZ.out _ _ rfl _) ?_
           simp only [Act.put, List.setIfInBounds_toArray, List.set_cons_zero, List.set_cons_succ])
        | (refine wpList_store_mid rfl 44 (.tmp 4) (.tmp 26) rfl w.heap.size 0 Z.toArray rfl rfl (by simpa [HZL.out] using TH5) (by simpa [HZL.out] using info_card) (all_oneCell_toArray HZ1.out) ?_
           rw [← HW6.out]
           clear TH5)
        | fail)
      exact bodyPost_ret (v := .tuple #[.agg Z.toArray, .int .i64 6]) (results_blkS rfl _ _ w.heap.size Z _ (.int .i64 6) rfl rfl HB6.out huc rfl (by rw [HZL.out]; exact info_card)) rfl ⟨by rw [HR.out, HSG2.out, HVY.out], HB6W.out⟩
end Go.Proofs.Ytgkpbkedaddekaa

/- Shelves: the program's Add. -/
namespace Go.Proofs.Ytgkpbkedaddekaa
set_option linter.unusedVariables false
set_option linter.unusedSimpArgs false
open Go Go.RowKit BitM

def relZ (B : Nat) (cs : List Value) : Rel where
  rel x w := ∃ g, x = .pointer (some ⟨g, 0, none⟩) ∧ B ≤ g ∧ Blk w g cs
  mono := fun x w w' h ⟨g, e, hg, hr⟩ => ⟨g, e, hg, hr.later h⟩
  real := fun w ⟨g, e, _⟩ => by cases e
theorem newZ_gives {a : Act} {op : Oper} (ho : op.op = .alloc 44) (B : Nat) (Z : List Value) (hZ : Z = ccl zcd) (w : World) (hB : B ≤ w.heap.size) : gives Try.prog op a (relZ B Z).rel w := by
  have hrun : (Instr.alloc 44 true (.tuple #[])).run Try.prog w = .ok (.pointer (some ⟨w.heap.size, 0, none⟩)) (w.alloc (.cells Z.toArray 44)) := by rw [hZ]; kernel_rfl
  unfold gives execOp
  simp only [ho, Sem.run_bind, hrun, Result.andThen_ok, Sem.run_pure]
  exact ⟨(Below.refl _ _).alloc (Nat.le_refl _) _, _, rfl, hB, Blk.new w _ _⟩
theorem exec_lenM {a : Act} {op : Oper} {w : World} (m : Operand) (b n : Nat) (ho : op.op = .call { callee := .builtin .len, args := #[m], argTypes := #[61] }) (hm : a.eval m = .map (some b)) (hr : ∀ ty, (Builtin.len_ #[61] ty #[.map (some b)]).run Try.prog w = .ok (.int .i64 (n : Int)) w) :
    (execOp a.eval op).run Try.prog w = .ok (.value (.int .i64 (n : Int))) w := by
  unfold execOp
  simp only [ho, resolve, invoke, builtin, Sem.run_bind, Sem.run_pure, Result.andThen_ok, List.map_toArray, List.map_cons, List.map_nil, hm, hr]
theorem TurnS.fresh {w w' : World} {g b k : Nat} {r : Option Nat} (T : TurnS w w' g b r) (hk : w.heap.size ≤ k) (V : List Value) (o : Nat) : TurnS w (w'.setCells k o V) g b r := by
  have hb := below_sets (B := k) (b := k) (Nat.le_refl k) V o (Below.refl k w')
  exact ⟨hb.os.trans T.os, hb.tape.trans T.tape, hb.output.trans T.output, Nat.le_trans T.size hb.size, fun j hj h1 h2 h3 => (heap_setsS k j (by omega) V o w').trans (T.block j hj h1 h2 h3)⟩
theorem SfAt.lenM {w : World} {L g b N : Nat} {r : Option Nat} {s : Sh} (h : SfAt w L g b r N s) (ty : TypeId) : (Builtin.len_ #[61] ty #[.map (some b)]).run Try.prog w = .ok (.int .i64 (s.cs.length : Int)) w := by
  have := h.map.len (t := 61) (e := 44) Try.underlying61 ty
  rwa [show (vmap cdv (toKV s.cs)).length = s.cs.length by simp [vmap, toKV]] at this
set_option maxRecDepth 100000 in
set_option maxHeartbeats 3200000 in
theorem sadd_any (L g b : Nat) (r : Option Nat) (N : Nat) (s : Sh) (w : World) (h : SfAt w L g b r N s) (p : Pa) (hp8 : p.fs.length = 8) (hok : ShOk s) (hN : N < 1099511627776) :
    Calls Try.prog 12 #[.pointer (some ⟨g, 0, none⟩), .agg (pcells (p.ms.toNat : Int) p.lb p.fs).toArray] w fun e w' => e = .returned (.tuple #[.agg (ccl (sadd s p).2.1).toArray, .int .i64 (sadd s p).2.2]) ∧ ∃ N', SfAt w' L g b r N' (sadd s p).1 ∧ N' ≤ N + 1 ∧ TurnS w w' g b r := by
  have huc := Try.underlying44
  obtain ⟨Z, hZ⟩ : ∃ Z, Z = ccl zcd := ⟨_, rfl⟩
  have HZL := Lib.hid (show Z.length = 27 by rw [hZ]; rfl)
  have HZ1 := Lib.hid (show ∀ v ∈ Z, v.oneCell' = true by rw [hZ]; exact ccl_one _)
  have HZZ : Hid (Z.toArray = #[Value.int .i64 0, .int .i64 0, .int .u32 0, .int .i64 0, .int .i64 0, .string { data := #[] }, .int .i64 0, .int .i64 0, .string { data := #[] }, .int .i64 0, .int .i64 0, .string { data := #[] }, .int .i64 0, .int .i64 0, .string { data := #[] }, .int .i64 0, .int .i64 0, .string { data := #[] }, .int .i64 0, .int .i64 0, .string { data := #[] }, .int .i64 0, .int .i64 0, .string { data := #[] }, .int .i64 0, .int .i64 0, .string { data := #[] }]) := Lib.hid (by rw [hZ]; exact zc27s)
  have HZB : Hid (∀ w, (Instr.build 44 #[]).run Try.prog w = .ok (.agg Z.toArray) w) := Lib.hid (fun w => by rw [hZ]; kernel_rfl)
  have HEZ : Hid (∀ (a : Act) (op : Oper), op.op = .build 44 #[] → ∀ w, (execOp a.eval op).run Try.prog w = .ok (.value (.agg Z.toArray)) w) := Lib.hid (fun a op ho w => exec_z0 ho HZB.out w)
  obtain ⟨PC, hPC⟩ : ∃ PC, PC = pcells (p.ms.toNat : Int) p.lb p.fs := ⟨_, rfl⟩
  have HPL := Lib.hid (show PC.length = 26 by rw [hPC]; exact pcells_len _ _ hp8)
  obtain ⟨W0, hW0⟩ : ∃ W0, W0 = w.alloc (.cells PC.toArray 36) := ⟨_, rfl⟩
  obtain ⟨W1, hW1⟩ : ∃ W1, W1 = W0.alloc (.cells Z.toArray 44) := ⟨_, rfl⟩
  have hz0 : W0.heap.size = w.heap.size + 1 := by rw [hW0]; simp
  have hb0 : Below w.heap.size w W0 := by rw [hW0]; exact (Below.refl w.heap.size w).alloc (Nat.le_refl _) _
  have hb1 : Below w.heap.size w W1 := by rw [hW1]; exact hb0.alloc hb0.size _
  have BP : Blk W1 w.heap.size PC := by rw [hW1]; exact (show Blk W0 w.heap.size PC by rw [hW0]; exact Blk.new w PC _).alloc _
  have B1 : Blk W1 (w.heap.size + 1) Z := by rw [hW1, ← hz0]; exact Blk.new W0 Z _
  have h1 := h.later hb1
  obtain ⟨A, c, c0, c1, c2, kx0⟩ := h1.cells
  clear kx0
  have HNO := Lib.hid (none_any L g b r N s W1 h1)
  have HPK := Lib.hid (pcheck_any p.ms p.lb p.fs W1 hp8)
  rw [← hPC] at HPK
  have HPB : Hid (pchk p.ms p.lb p.fs = pbad p) := Lib.hid rfl
  rw [HPB.out] at HPK
  have RGP := BP.wholeC
  have HW0 := Lib.hid hW0
  have HW1 := Lib.hid hW1
  have TH1 := B1.there 0 27 (by rw [HZL.out]; omega)
  rw [← hPC]
  have HB1 := Lib.hid B1
  have HBP := Lib.hid BP
  have HH1 := Lib.hid h1
  have HH := Lib.hid h
  have HGNE : Hid (g ≠ (w.heap.size + 1) ∧ b ≠ (w.heap.size + 1) ∧ r ≠ some (w.heap.size + 1)) := Lib.hid (by
    have h2 := h.lt
    have h3 := h.row
    exact ⟨by omega, by omega, fun e => by have := (h3 _ e).2; omega⟩)
  have HB1W := Lib.hid hb1
  have HG3 := Lib.hid (show w.heap.size < (w.heap.size + 1) by omega)
  by_cases hbad : pbad p ≠ 0
  · have HR : Hid (sadd s p = (s, zcd, pbad p)) := Lib.hid (by unfold sadd; rw [if_pos hbad])
    have HVY : Hid (Z = ccl zcd) := Lib.hid hZ
    have hne : (pbad p == 0) = false := beq_eq_false_iff_ne.2 hbad
    have hne2 : (pbad p != 0) = true := by rw [bne, hne]; rfl
    generalize pbad p = pb at HPK HR hne hne2
    clear h h1 hb0 hb1 B1 BP hPC hW0 hW1 hZ hbad hz0 TH1 HPB
    go_enter Try.func12, Try.ntmps12
    go_wp2_with fail
    rw [← HW0.out, ← HZZ.out, ← HW1.out]
    refine HNO.out.mono ?_
    rintro e w1 ⟨rfl, rfl⟩
    go_wp2_with (first
      | (refine wpList_load_mid rfl 36 (.tmp 3) rfl w.heap.size 0 rfl PC _ RGP Try.underlying36 rfl (by rw [HPL.out]; exact info_patch) ?_
         simp only [Act.put, List.setIfInBounds_toArray, List.set_cons_zero, List.set_cons_succ])
      | fail)
    refine HPK.out.mono ?_
    rintro e w2 ⟨rfl, hb2⟩
    have B2 := HB1.out.later hb2
    have hb2w := HB1W.out.trans (hb2.mono HB1W.out.size)
    have TH2 := B2.there 0 27 (by rw [HZL.out]; omega)
    obtain ⟨W3, hW3⟩ : ∃ W3, W3 = w2.setCells (w.heap.size + 1) 0 Z := ⟨_, rfl⟩
    have HB3 := Lib.hid (show Blk W3 (w.heap.size + 1) Z by rw [hW3]; exact B2.whole rfl)
    have HB3W := Lib.hid (show Below w.heap.size w W3 by rw [hW3]; exact below_sets (by have := HG3.out; omega) _ _ hb2w)
    have HS3 := Lib.hid (HH.out.later HB3W.out)
    have HW3 := Lib.hid hW3
    clear hW3 B2 hb2 hb2w HPK RGP
    go_wp2_with (first
      | (refine wpList_exec (by rfl) (.agg Z.toArray) (HEZ.out _ _ rfl _) ?_
         simp only [Act.put, List.setIfInBounds_toArray, List.set_cons_zero, List.set_cons_succ])
      | (refine wpList_store_mid rfl 44 (.tmp 4) (.tmp 15) rfl (w.heap.size + 1) 0 Z.toArray rfl rfl (by simpa [HZL.out] using TH2) (by simpa [HZL.out] using info_card) (all_oneCell_toArray HZ1.out) ?_
         rw [← HW3.out]
         clear TH2)
      | fail)
    exact bodyPost_ret (v := .tuple #[.agg Z.toArray, .int .i64 pb]) (results_blkS rfl _ _ (w.heap.size + 1) Z _ (.int .i64 pb) rfl rfl HB3.out huc rfl (by rw [HZL.out]; exact info_card)) rfl ⟨by rw [HR.out, HVY.out], N, by rw [HR.out]; exact HS3.out, by omega, TurnS.of_below HB3W.out _ _ _⟩
  · have hb0' : pbad p = 0 := by omega
    rw [hb0'] at HPK
    by_cases hfull : 48 ≤ s.cs.length ∨ 1073741824 ≤ s.nx
    · have HR : Hid (sadd s p = (s, zcd, 8)) := Lib.hid (by unfold sadd; rw [if_neg hbad, if_pos hfull])
      have HVY : Hid (Z = ccl zcd) := Lib.hid hZ
      have hfd : (decide (48 ≤ (s.cs.length : Int)) = true) ∨ (decide (48 ≤ (s.cs.length : Int)) = false ∧ decide (1073741824 ≤ s.nx) = true) := by
        rcases Nat.lt_or_ge s.cs.length 48 with h4 | h4
        · exact .inr ⟨decide_eq_false (by omega), decide_eq_true (by omega)⟩
        · exact .inl (decide_eq_true (by omega))
      clear h h1 hb0 hb1 B1 BP hPC hW0 hW1 hZ hbad hz0 TH1 HPB hfull hb0'
      go_enter Try.func12, Try.ntmps12
      go_wp2_with fail
      rw [← HW0.out, ← HZZ.out, ← HW1.out]
      refine HNO.out.mono ?_
      rintro e w1 ⟨rfl, rfl⟩
      go_wp2_with (first
        | (refine wpList_load_mid rfl 36 (.tmp 3) rfl w.heap.size 0 rfl PC _ RGP Try.underlying36 rfl (by rw [HPL.out]; exact info_patch) ?_
           simp only [Act.put, List.setIfInBounds_toArray, List.set_cons_zero, List.set_cons_succ])
        | fail)
      refine HPK.out.mono ?_
      rintro e w2 ⟨rfl, hb2⟩
      have B2 := HB1.out.later hb2
      have hb2w := HB1W.out.trans (hb2.mono HB1W.out.size)
      have TH2 := B2.there 0 27 (by rw [HZL.out]; omega)
      have hs2 := HH1.out.later hb2
      obtain ⟨_, _, k0, k1, kx1⟩ := hs2.cells
      clear kx1
      have HLEN := Lib.hid (fun ty => hs2.lenM ty)
      obtain ⟨W3, hW3⟩ : ∃ W3, W3 = w2.setCells (w.heap.size + 1) 0 Z := ⟨_, rfl⟩
      have HB3 := Lib.hid (show Blk W3 (w.heap.size + 1) Z by rw [hW3]; exact B2.whole rfl)
      have HB3W := Lib.hid (show Below w.heap.size w W3 by rw [hW3]; exact below_sets (by have := HG3.out; omega) _ _ hb2w)
      have HS3 := Lib.hid (HH.out.later HB3W.out)
      have HW3 := Lib.hid hW3
      clear hW3 B2 hb2 hb2w HPK RGP hs2
      rcases hfd with hd | ⟨hd, hd2⟩
      · go_wp2_with (first
          | (refine wpList_exec (by rfl) (.int .i64 (s.cs.length : Int)) (exec_lenM (.tmp 20) b s.cs.length rfl rfl HLEN.out) ?_
             simp only [Act.put, List.setIfInBounds_toArray, List.set_cons_zero, List.set_cons_succ])
          | (refine wpList_exec (by rfl) (.agg Z.toArray) (HEZ.out _ _ rfl _) ?_
             simp only [Act.put, List.setIfInBounds_toArray, List.set_cons_zero, List.set_cons_succ])
          | (refine wpList_store_mid rfl 44 (.tmp 4) (.tmp 30) rfl (w.heap.size + 1) 0 Z.toArray rfl rfl (by simpa [HZL.out] using TH2) (by simpa [HZL.out] using info_card) (all_oneCell_toArray HZ1.out) ?_
             rw [← HW3.out]
             clear TH2)
          | fail)
        exact bodyPost_ret (v := .tuple #[.agg Z.toArray, .int .i64 8]) (results_blkS rfl _ _ (w.heap.size + 1) Z _ (.int .i64 8) rfl rfl HB3.out huc rfl (by rw [HZL.out]; exact info_card)) rfl ⟨by rw [HR.out, HVY.out], N, by rw [HR.out]; exact HS3.out, by omega, TurnS.of_below HB3W.out _ _ _⟩
      · go_wp2_with (first
          | (refine wpList_exec (by rfl) (.int .i64 (s.cs.length : Int)) (exec_lenM (.tmp 20) b s.cs.length rfl rfl HLEN.out) ?_
             simp only [Act.put, List.setIfInBounds_toArray, List.set_cons_zero, List.set_cons_succ])
          | (refine wpList_exec (by rfl) (.agg Z.toArray) (HEZ.out _ _ rfl _) ?_
             simp only [Act.put, List.setIfInBounds_toArray, List.set_cons_zero, List.set_cons_succ])
          | (refine wpList_store_mid rfl 44 (.tmp 4) (.tmp 30) rfl (w.heap.size + 1) 0 Z.toArray rfl rfl (by simpa [HZL.out] using TH2) (by simpa [HZL.out] using info_card) (all_oneCell_toArray HZ1.out) ?_
             rw [← HW3.out]
             clear TH2)
          | fail)
        exact bodyPost_ret (v := .tuple #[.agg Z.toArray, .int .i64 8]) (results_blkS rfl _ _ (w.heap.size + 1) Z _ (.int .i64 8) rfl rfl HB3.out huc rfl (by rw [HZL.out]; exact info_card)) rfl ⟨by rw [HR.out, HVY.out], N, by rw [HR.out]; exact HS3.out, by omega, TurnS.of_below HB3W.out _ _ _⟩
    · have hfu : s.cs.length < 48 ∧ s.nx < 1073741824 := by omega
      obtain ⟨V, hV⟩ : ∃ V, V = ccl (frs s.nx p) := ⟨_, rfl⟩
      have HVL := Lib.hid (show V.length = 27 by rw [hV]; exact ccl_len (show okCd (frs s.nx p) from mix_len _ _ _))
      have HV1 := Lib.hid (show ∀ v ∈ V, v.oneCell' = true by rw [hV]; exact ccl_one _)
      have HR : Hid (sadd s p = (⟨s.nx + 1, s.cs ++ [frs s.nx p], s.dd⟩, frs s.nx p, 0)) := Lib.hid (by unfold sadd; rw [if_neg hbad, if_neg hfull])
      have HVE := Lib.hid hV
      have hFR : ∀ wx, Calls Try.prog 33 #[.int .i64 s.nx, .agg PC.toArray] wx fun e w' => e = .returned (.agg V.toArray) ∧ Below wx.heap.size wx w' := fun wx => by
        have := fresh_any s.nx p.lb p.ms p.fs wx hp8
        rw [hPC, hV]
        exact this
      have HFR := Lib.hid hFR
      have HPUT : Hid (mput (vmap cdv (toKV s.cs)) s.nx (.agg V.toArray) = vmap cdv (toKV (s.cs ++ [frs s.nx p]))) := Lib.hid (by rw [add_put hok, hV]; exact vmap_put cdv _ _ _)
      have hlo := hok.lo
      have hwf : (Lit.int .i64 s.nx).wf = true := wf_small (by omega)
      have HWF := Lib.hid hwf
      have HCI : Hid (∀ W gg, Blk W gg V → W.cell? ⟨gg, 0, none⟩ = some (.int .i64 s.nx)) := Lib.hid (fun W gg hB => hB.cell (j := 0) (by rw [hV]; rfl))
      have hd : decide (48 ≤ (s.cs.length : Int)) = false := decide_eq_false (by omega)
      have hd2 : decide (1073741824 ≤ s.nx) = false := decide_eq_false (by omega)
      have hhi := hfu.2
      have HZ := Lib.hid hZ
      clear h h1 hb0 hb1 B1 BP hPC hW0 hW1 hZ hbad hz0 TH1 HPB hfull hb0' hFR hV hwf hok hfu
      go_enter Try.func12, Try.ntmps12
      go_wp2_with fail
      rw [← HW0.out, ← HZZ.out, ← HW1.out]
      refine HNO.out.mono ?_
      rintro e w1 ⟨rfl, rfl⟩
      go_wp2_with (first
        | (refine wpList_load_mid rfl 36 (.tmp 3) rfl w.heap.size 0 rfl PC _ RGP Try.underlying36 rfl (by rw [HPL.out]; exact info_patch) ?_
           simp only [Act.put, List.setIfInBounds_toArray, List.set_cons_zero, List.set_cons_succ])
        | fail)
      refine HPK.out.mono ?_
      rintro e w2 ⟨rfl, hb2⟩
      have HB2 := Lib.hid (HB1.out.later hb2)
      have HP2 := Lib.hid (HBP.out.later hb2)
      have HB2W := Lib.hid (HB1W.out.trans (hb2.mono HB1W.out.size))
      have HS2 := Lib.hid (HH1.out.later hb2)
      obtain ⟨_, _, k0, k1, kx1⟩ := HS2.out.cells
      clear kx1
      have HLEN := Lib.hid (fun ty => HS2.out.lenM ty)
      clear hb2 HPK RGP c0 c1 c2
      go_wp2_with (first
        | (refine wpList_exec (by rfl) (.int .i64 (s.cs.length : Int)) (exec_lenM (.tmp 20) b s.cs.length rfl rfl HLEN.out) ?_
           simp only [Act.put, List.setIfInBounds_toArray, List.set_cons_zero, List.set_cons_succ])
        | fail)
      have cx0 : ∀ kk : LW w2, kk.val.cell? ⟨g, 0, none⟩ = some (.int .i64 s.nx) := fun kk => by obtain ⟨_, _, k0, _⟩ := (HS2.out.later kk.le).cells; exact k0
      clear k0 k1 HLEN
      refine wp_region_tail [(7, relZ w2.heap.size Z)] 52 7 (by kernel_rfl) (by kernel_rfl) (by kernel_rfl) (by rfl) ?_
      simp only [List.take_succ_cons, List.take_zero, List.drop_succ_cons, List.drop_zero]
      iterate 4 (refine wpG_quiet (by rfl) (by rfl) (by rfl) (fun K hK => ?_); go_big_quiet_op; refine hK _ ?_; clear hK K)
      refine wpG_run (by rfl) (by rfl) (.agg PC.toArray) (fun wx hl => exec_load 36 (.tmp 3) rfl w.heap.size 0 rfl PC _ ((HP2.out.later hl.1).wholeC) Try.underlying36 rfl (by rw [HPL.out]; exact info_patch)) ?_
      simp only [Act.put, List.setIfInBounds_toArray, List.set_cons_zero, List.set_cons_succ]
      refine wpG_call (by rfl) (by rfl) 33 #[.int .i64 s.nx, .agg PC.toArray] (.agg V.toArray) (by intro _; simp [go_sem]) (by kernel_rfl) (fun wx hl => HFR.out wx) ?_
      simp only [Act.put, List.setIfInBounds_toArray, List.set_cons_zero, List.set_cons_succ]
      refine wpG_open (relZ w2.heap.size Z) (by rfl) (by rfl) (fun wx hl => newZ_gives rfl w2.heap.size Z HZ.out wx hl.1.size) ?_
      rintro _ ⟨_, _, _, ⟨g7, rfl, hg7, _⟩⟩
      simp only [Act.put, List.setIfInBounds_toArray, List.set_cons_zero, List.set_cons_succ]
      refine wpG_nil fun w5 hl hS => ?_
      obtain ⟨_, g', eg, _, C1⟩ := hS
      obtain rfl : g7 = g' := by injection eg with eg; injection eg with eg; injection eg
      clear eg cx0
      have TH7 := C1.there 0 27 (by rw [HZL.out]; omega)
      obtain ⟨W6, hW6⟩ : ∃ W6, W6 = w5.setCells g7 0 V := ⟨_, rfl⟩
      have HB6 := Lib.hid (show Blk W6 g7 V by rw [hW6]; exact C1.whole (by rw [HZL.out, HVL.out]))
      have hb26 : Below w2.heap.size w2 W6 := by rw [hW6]; exact below_sets hg7 _ _ hl
      have HW6 := Lib.hid hW6
      have HS6 := Lib.hid (HS2.out.later hb26)
      have HG7 := Lib.hid (show (w.heap.size + 1) ≠ g7 by have := HB2.out.lt; omega)
      have HGG := Lib.hid (show g ≠ g7 ∧ b ≠ g7 by have := HS2.out.lt; omega)
      have HB46 := Lib.hid (HB2.out.later hb26)
      have HB6W := Lib.hid (HB2W.out.trans (hb26.mono HB2W.out.size))
      refine wpList_store_mid rfl 44 (.tmp 7) (.tmp 36) rfl g7 0 V.toArray rfl rfl (by simpa [HVL.out] using TH7) (by simpa [HVL.out] using info_card) (all_oneCell_toArray HV1.out) ?_
      rw [← HW6.out]
      simp only [Act.put, List.setIfInBounds_toArray, List.set_cons_zero, List.set_cons_succ]
      clear hW6 hb26 TH7 C1 hl hg7 HS2 HP2 HFR
      go_wp2_with fail
      have cx1 : ∀ kk : LW W6, kk.val.cell? ⟨g, 1, none⟩ = some (.map (some b)) := fun kk => by obtain ⟨_, _, _, k1, _⟩ := (HS6.out.later kk.le).cells; exact k1
      have cx7 : ∀ kk : LW W6, kk.val.cell? ⟨g7, 0, none⟩ = some (.int .i64 s.nx) := fun kk => HCI.out _ _ (HB6.out.later kk.le)
      refine wp_region_tail [] 52 7 (by kernel_rfl) (by kernel_rfl) (by kernel_rfl) (by rfl) ?_
      simp only [List.take_succ_cons, List.take_zero, List.drop_succ_cons, List.drop_zero]
      iterate 6 (refine wpG_quiet (by rfl) (by rfl) (by rfl) (fun K hK => ?_); go_big_quiet_op; refine hK _ ?_; clear hK K)
      refine wpG_run (by rfl) (by rfl) (.agg V.toArray) (fun wx hl => exec_load 44 (.tmp 7) rfl g7 0 rfl V _ ((HB6.out.later hl.1).wholeC) huc rfl (by rw [HVL.out]; exact info_card)) ?_
      simp only [Act.put, List.setIfInBounds_toArray, List.set_cons_zero, List.set_cons_succ]
      refine wpG_nil fun w7 hl _ => ?_
      have HS7 := Lib.hid (HS6.out.later hl)
      have HB7 := Lib.hid (HB6.out.later hl)
      have HB47 := Lib.hid (HB46.out.later hl)
      have HB7W := Lib.hid (HB6W.out.trans (hl.mono HB6W.out.size))
      clear cx1 cx7 hl HS6 HB6 HB46 HB6W
      refine wpList_putM rfl (.tmp 40) (.tmp 42) (.tmp 43) s.nx rfl HS7.out.map Try.underlying3 Try.underlying61 (by unfold maxLen; omega) rfl rfl HWF.out (.agg V.toArray) rfl ?_
      intro w8 hI8 hg8
      rw [HPUT.out] at hI8
      have hs8 := HS7.out.putMap hg8 hI8
      have hb78 := HB7.out.kept hg8 (by have := HGG.out.2; simpa using this)
      have hb478 := HB47.out.kept hg8 (by have := HGNE.out.2.1; simpa using this)
      have T8 := (TurnS.of_below HB7W.out g b r).trans (TurnS.of_map hg8 g r) (RowS.refl _ _)
      obtain ⟨W9, hW9⟩ : ∃ W9, W9 = w8.setCell ⟨g, 0, none⟩ (.int .i64 (s.nx + 1)) := ⟨_, rfl⟩
      have hs9 := hs8.setNext (s.nx + 1)
      have hb79 := hb78.setOther 0 (.int .i64 (s.nx + 1)) HGG.out.1
      have hb479 := hb478.setOther 0 (.int .i64 (s.nx + 1)) HGNE.out.1
      have T9 := T8.trans (TurnS.set w8 g b g 0 r (.int .i64 (s.nx + 1)) (.inl rfl)) (RowS.refl _ _)
      rw [← hW9] at hs9 hb79 hb479 T9
      obtain ⟨_, _, k0, k1, _, KB, kx⟩ := hs8.cells
      clear kx
      have kf := KB.frozen 0
      have RG9 := hb79.wholeC
      have TH9 := hb479.there 0 27 (by rw [HZL.out]; omega)
      obtain ⟨W10, hW10⟩ : ∃ W10, W10 = W9.setCells (w.heap.size + 1) 0 V := ⟨_, rfl⟩
      have HB10 := Lib.hid (show Blk W10 (w.heap.size + 1) V by rw [hW10]; exact hb479.whole (by rw [HZL.out, HVL.out]))
      have HS10 := Lib.hid (show SfAt W10 L g b r (N + 1) ⟨s.nx + 1, s.cs ++ [frs s.nx p], s.dd⟩ by rw [hW10]; exact hs9.turn (TurnS.sets _ _ _ _ none V 0 (.inl rfl)) (Ne.symm HGNE.out.1) (Ne.symm HGNE.out.2.1) HGNE.out.2.2)
      have HT10 := Lib.hid (show TurnS w W10 g b r by rw [hW10]; exact T9.fresh (by have := HG3.out; omega) V 0)
      have HW9 := Lib.hid hW9
      have HW10 := Lib.hid hW10
      clear hW9 hW10 hs9 hb79 hb479 T9 KB hs8 hb78 hb478 T8 HS7 HB7 HB47 HB7W hI8 hg8
      go_wp2_with (first
        | (rw [← HW9.out]
           refine wpList_load_mid rfl 44 (.tmp 7) rfl g7 0 rfl V _ RG9 huc rfl (by rw [HVL.out]; exact info_card) ?_
           simp only [Act.put, List.setIfInBounds_toArray, List.set_cons_zero, List.set_cons_succ])
        | (refine wpList_store_mid rfl 44 (.tmp 4) (.tmp 51) rfl (w.heap.size + 1) 0 V.toArray rfl rfl (by simpa [HVL.out] using TH9) (by simpa [HVL.out] using info_card) (all_oneCell_toArray HV1.out) ?_
           rw [← HW10.out]
           clear TH9)
        | fail)
      exact bodyPost_ret (v := .tuple #[.agg V.toArray, .int .i64 0]) (results_blkS rfl _ _ (w.heap.size + 1) V _ (.int .i64 0) rfl rfl HB10.out huc rfl (by rw [HVL.out]; exact info_card)) rfl ⟨by rw [HR.out, HVE.out], N + 1, by rw [HR.out]; exact HS10.out, by omega, HT10.out⟩
end Go.Proofs.Ytgkpbkedaddekaa

/- Shelves: the program's Write. -/
namespace Go.Proofs.Ytgkpbkedaddekaa
set_option linter.unusedVariables false
set_option linter.unusedSimpArgs false
open Go Go.RowKit BitM

set_option maxRecDepth 100000 in
set_option maxHeartbeats 3200000 in
theorem swrite_any (L g b : Nat) (r : Option Nat) (N : Nat) (s : Sh) (w : World) (h : SfAt w L g b r N s) (x : Int) (p : Pa) (hx : (Lit.int .i64 x).wf = true) (hp8 : p.fs.length = 8) (hok : ShOk s) (hN : N < 1099511627776) :
    Calls Try.prog 13 #[.pointer (some ⟨g, 0, none⟩), .int .i64 x, .agg (pcells (p.ms.toNat : Int) p.lb p.fs).toArray] w fun e w' => e = .returned (.tuple #[.agg (ccl (swrite s x p).2.1).toArray, .int .i64 (swrite s x p).2.2]) ∧ ∃ N', SfAt w' L g b r N' (swrite s x p).1 ∧ N' ≤ N + 1 ∧ TurnS w w' g b r := by
  have huc := Try.underlying44
  obtain ⟨Z, hZ⟩ : ∃ Z, Z = ccl zcd := ⟨_, rfl⟩
  have HZL := Lib.hid (show Z.length = 27 by rw [hZ]; rfl)
  have HZ1 := Lib.hid (show ∀ v ∈ Z, v.oneCell' = true by rw [hZ]; exact ccl_one _)
  have HZZ : Hid (Z.toArray = #[Value.int .i64 0, .int .i64 0, .int .u32 0, .int .i64 0, .int .i64 0, .string { data := #[] }, .int .i64 0, .int .i64 0, .string { data := #[] }, .int .i64 0, .int .i64 0, .string { data := #[] }, .int .i64 0, .int .i64 0, .string { data := #[] }, .int .i64 0, .int .i64 0, .string { data := #[] }, .int .i64 0, .int .i64 0, .string { data := #[] }, .int .i64 0, .int .i64 0, .string { data := #[] }, .int .i64 0, .int .i64 0, .string { data := #[] }]) := Lib.hid (by rw [hZ]; exact zc27s)
  have HZB : Hid (∀ w, (Instr.build 44 #[]).run Try.prog w = .ok (.agg Z.toArray) w) := Lib.hid (fun w => by rw [hZ]; kernel_rfl)
  have HEZ : Hid (∀ (a : Act) (op : Oper), op.op = .build 44 #[] → ∀ w, (execOp a.eval op).run Try.prog w = .ok (.value (.agg Z.toArray)) w) := Lib.hid (fun a op ho w => exec_z0 ho HZB.out w)
  obtain ⟨PC, hPC⟩ : ∃ PC, PC = pcells (p.ms.toNat : Int) p.lb p.fs := ⟨_, rfl⟩
  have HPL := Lib.hid (show PC.length = 26 by rw [hPC]; exact pcells_len _ _ hp8)
  obtain ⟨W0, hW0⟩ : ∃ W0, W0 = w.alloc (.cells PC.toArray 36) := ⟨_, rfl⟩
  obtain ⟨W1, hW1⟩ : ∃ W1, W1 = W0.alloc (.cells Z.toArray 44) := ⟨_, rfl⟩
  have hz0 : W0.heap.size = w.heap.size + 1 := by rw [hW0]; simp
  have hb0 : Below w.heap.size w W0 := by rw [hW0]; exact (Below.refl w.heap.size w).alloc (Nat.le_refl _) _
  have hb1 : Below w.heap.size w W1 := by rw [hW1]; exact hb0.alloc hb0.size _
  have BP : Blk W1 w.heap.size PC := by rw [hW1]; exact (show Blk W0 w.heap.size PC by rw [hW0]; exact Blk.new w PC _).alloc _
  have B1 : Blk W1 (w.heap.size + 1) Z := by rw [hW1, ← hz0]; exact Blk.new W0 Z _
  have h1 := h.later hb1
  obtain ⟨A, c, c0, c1, c2, kx0⟩ := h1.cells
  clear kx0
  have HNO := Lib.hid (none_any L g b r N s W1 h1)
  have HPK := Lib.hid (pcheck_any p.ms p.lb p.fs W1 hp8)
  rw [← hPC] at HPK
  have HPB : Hid (pchk p.ms p.lb p.fs = pbad p) := Lib.hid rfl
  rw [HPB.out] at HPK
  have RGP := BP.wholeC
  have HW0 := Lib.hid hW0
  have HW1 := Lib.hid hW1
  have TH1 := B1.there 0 27 (by rw [HZL.out]; omega)
  rw [← hPC]
  have HB1 := Lib.hid B1
  have HBP := Lib.hid BP
  have HH1 := Lib.hid h1
  have HH := Lib.hid h
  have HGNE : Hid (g ≠ (w.heap.size + 1) ∧ b ≠ (w.heap.size + 1) ∧ r ≠ some (w.heap.size + 1)) := Lib.hid (by
    have h2 := h.lt
    have h3 := h.row
    exact ⟨by omega, by omega, fun e => by have := (h3 _ e).2; omega⟩)
  have HB1W := Lib.hid hb1
  have HG3 := Lib.hid (show w.heap.size < w.heap.size + 1 by omega)
  by_cases hbad : pbad p ≠ 0
  · have HR : Hid (swrite s x p = (s, zcd, pbad p)) := Lib.hid (by unfold swrite; rw [if_pos hbad])
    have HVY : Hid (Z = ccl zcd) := Lib.hid hZ
    have hne : (pbad p == 0) = false := beq_eq_false_iff_ne.2 hbad
    have hne2 : (pbad p != 0) = true := by rw [bne, hne]; rfl
    generalize pbad p = pb at HPK HR hne hne2
    clear h h1 hb0 hb1 B1 BP hPC hW0 hW1 hZ hbad hz0 TH1 HPB
    go_enter Try.func13, Try.ntmps13
    go_wp2_with fail
    rw [← HW0.out, ← HZZ.out, ← HW1.out]
    refine HNO.out.mono ?_
    rintro e w1 ⟨rfl, rfl⟩
    go_wp2_with (first
      | (refine wpList_load_mid rfl 36 (.tmp 5) rfl w.heap.size 0 rfl PC _ RGP Try.underlying36 rfl (by rw [HPL.out]; exact info_patch) ?_
         simp only [Act.put, List.setIfInBounds_toArray, List.set_cons_zero, List.set_cons_succ])
      | fail)
    refine HPK.out.mono ?_
    rintro e w2 ⟨rfl, hb2⟩
    have B2 := HB1.out.later hb2
    have hb2w := HB1W.out.trans (hb2.mono HB1W.out.size)
    have TH2 := B2.there 0 27 (by rw [HZL.out]; omega)
    obtain ⟨W3, hW3⟩ : ∃ W3, W3 = w2.setCells (w.heap.size + 1) 0 Z := ⟨_, rfl⟩
    have HB3 := Lib.hid (show Blk W3 (w.heap.size + 1) Z by rw [hW3]; exact B2.whole rfl)
    have HB3W := Lib.hid (show Below w.heap.size w W3 by rw [hW3]; exact below_sets (by have := HG3.out; omega) _ _ hb2w)
    have HS3 := Lib.hid (HH.out.later HB3W.out)
    have HW3 := Lib.hid hW3
    clear hW3 B2 hb2 hb2w HPK RGP
    go_wp2_with (first
      | (refine wpList_exec (by rfl) (.agg Z.toArray) (HEZ.out _ _ rfl _) ?_
         simp only [Act.put, List.setIfInBounds_toArray, List.set_cons_zero, List.set_cons_succ])
      | (refine wpList_store_mid rfl 44 (.tmp 6) (.tmp 18) rfl (w.heap.size + 1) 0 Z.toArray rfl rfl (by simpa [HZL.out] using TH2) (by simpa [HZL.out] using info_card) (all_oneCell_toArray HZ1.out) ?_
         rw [← HW3.out]
         clear TH2)
      | fail)
    exact bodyPost_ret (v := .tuple #[.agg Z.toArray, .int .i64 pb]) (results_blkS rfl _ _ (w.heap.size + 1) Z _ (.int .i64 pb) rfl rfl HB3.out huc rfl (by rw [HZL.out]; exact info_card)) rfl ⟨by rw [HR.out, HVY.out], N, by rw [HR.out]; exact HS3.out, by omega, TurnS.of_below HB3W.out _ _ _⟩
  · have hb0' : pbad p = 0 := by omega
    rw [hb0'] at HPK
    have HGET := Lib.hid (fun W (hW : Below W1.heap.size W1 W) => get_any L g b r N s W (h1.later hW) x hx hok.len (by have := hok.dead; omega))
    have hgok : okCd (sget s x).1 := by
      unfold sget
      cases hk : kget (toKV s.cs) x with
      | none => rfl
      | some y => exact hok.len y (get_own hk).2
    obtain ⟨V, hV⟩ : ∃ V, V = ccl (sget s x).1 := ⟨_, rfl⟩
    have HVL := Lib.hid (show V.length = 27 by rw [hV]; exact ccl_len hgok)
    have HV1 := Lib.hid (show ∀ v ∈ V, v.oneCell' = true by rw [hV]; exact ccl_one _)
    rw [← hV] at HGET
    have HCI : Hid (∀ W gg, Blk W gg V → W.cell? ⟨gg, 1, none⟩ = some (.int .i64 (sget s x).1.2.1)) := Lib.hid (fun W gg hB => hB.cell (j := 1) (by rw [hV]; rfl))
    have HVEQ := Lib.hid hV
    cases hk : kget (toKV s.cs) x with
    | none =>
      have HR : Hid (swrite s x p = (s, zcd, sgone s x)) := Lib.hid (by unfold swrite; rw [if_neg hbad, hk])
      have HVY : Hid (Z = ccl zcd) := Lib.hid hZ
      have hsg : sget s x = (zcd, sgone s x) := by unfold sget; rw [hk]
      have hne : (sgone s x == 0) = false := by unfold sgone; split <;> rfl
      have hne2 : (sgone s x != 0) = true := by rw [bne, hne]; rfl
      rw [hsg] at HGET HCI
      generalize sgone s x = sg at HR HGET hne hne2
      clear hk hsg
      clear h h1 hb0 hb1 B1 BP hPC hW0 hW1 hZ hbad hz0 TH1 HPB hb0' hgok hV hok
      go_enter Try.func13, Try.ntmps13
      go_wp2_with fail
      rw [← HW0.out, ← HZZ.out, ← HW1.out]
      refine HNO.out.mono ?_
      rintro e w1 ⟨rfl, rfl⟩
      go_wp2_with (first
        | (refine wpList_load_mid rfl 36 (.tmp 5) rfl w.heap.size 0 rfl PC _ RGP Try.underlying36 rfl (by rw [HPL.out]; exact info_patch) ?_
           simp only [Act.put, List.setIfInBounds_toArray, List.set_cons_zero, List.set_cons_succ])
        | fail)
      refine HPK.out.mono ?_
      rintro e w2 ⟨rfl, hb2⟩
      have HBX2 := Lib.hid hb2
      clear hb2 HPK RGP c0 c1 c2
      go_wp2_with fail
      refine (HGET.out w2 HBX2.out).mono ?_
      rintro e w3 ⟨rfl, hb3⟩
      have HB3X := Lib.hid (HBX2.out.trans (hb3.mono HBX2.out.size))
      clear hb3 HBX2 HGET
      have hbz := Blk.new w3 Z 44
      have TH3 := hbz.there 0 27 (by rw [HZL.out]; omega)
      obtain ⟨W4, hW4⟩ : ∃ W4, W4 = (w3.alloc (.cells Z.toArray 44)).setCells w3.heap.size 0 V := ⟨_, rfl⟩
      have HB4 := Lib.hid (show Blk W4 w3.heap.size V by rw [hW4]; exact hbz.whole (by rw [HZL.out, HVL.out]))
      have hb34 : Below w3.heap.size w3 W4 := by rw [hW4]; exact below_sets (Nat.le_refl _) _ _ ((Below.refl w3.heap.size w3).alloc (Nat.le_refl _) _)
      have HB4X := Lib.hid (HB3X.out.trans (hb34.mono HB3X.out.size))
      have HW4 := Lib.hid hW4
      rw [HZZ.out] at TH3
      have cv1 := HCI.out _ _ HB4.out
      have HB41 := Lib.hid (HB1.out.later HB4X.out)
      have HB4P := Lib.hid (HBP.out.later HB4X.out)
      have HB4W := Lib.hid (HB1W.out.trans (HB4X.out.mono HB1W.out.size))
      have HS4 := Lib.hid (HH1.out.later HB4X.out)
      have HG9 := Lib.hid (show w.heap.size + 1 < w3.heap.size from (HB1.out.later HB3X.out).lt)
      clear hW4 hbz hb34 HB3X HB4X
      have TH4 := HB41.out.there 0 27 (by rw [HZL.out]; omega)
      obtain ⟨W5, hW5⟩ : ∃ W5, W5 = W4.setCells (w.heap.size + 1) 0 Z := ⟨_, rfl⟩
      have HB5 := Lib.hid (show Blk W5 (w.heap.size + 1) Z by rw [hW5]; exact HB41.out.whole rfl)
      have HB5W := Lib.hid (show Below w.heap.size w W5 by rw [hW5]; exact below_sets (by have := HG3.out; omega) _ _ HB4W.out)
      have HS5 := Lib.hid (HH.out.later HB5W.out)
      have HW5 := Lib.hid hW5
      clear hW5
      go_wp2_with (first
        | (refine wpList_store_mid rfl 44 (.tmp 9) (.tmp 24) rfl w3.heap.size 0 V.toArray rfl rfl (by simpa [HVL.out] using TH3) (by simpa [HVL.out] using info_card) (all_oneCell_toArray HV1.out) ?_
           rw [← HZZ.out, ← HW4.out]
           clear TH3)
        | (refine wpList_exec (by rfl) (.agg Z.toArray) (HEZ.out _ _ rfl _) ?_
           simp only [Act.put, List.setIfInBounds_toArray, List.set_cons_zero, List.set_cons_succ])
        | (refine wpList_store_mid rfl 44 (.tmp 6) (.tmp 35) rfl (w.heap.size + 1) 0 Z.toArray rfl rfl (by simpa [HZL.out] using TH4) (by simpa [HZL.out] using info_card) (all_oneCell_toArray HZ1.out) ?_
           rw [← HW5.out]
           clear TH4)
        | fail)
      exact bodyPost_ret (v := .tuple #[.agg Z.toArray, .int .i64 sg]) (results_blkS rfl _ _ (w.heap.size + 1) Z _ (.int .i64 sg) rfl rfl HB5.out huc rfl (by rw [HZL.out]; exact info_card)) rfl ⟨by rw [HR.out, HVY.out], N, by rw [HR.out]; exact HS5.out, by omega, TurnS.of_below HB5W.out _ _ _⟩
    | some y =>
      have hsg : sget s x = (y, 0) := by unfold sget; rw [hk]
      have hyc := hok.may y (get_own hk).2
      have hyl := ckc_lo hyc
      by_cases hfull : 1099511627776 ≤ y.2.1
      · have HR : Hid (swrite s x p = (s, zcd, 8)) := Lib.hid (by unfold swrite; rw [if_neg hbad, hk]; simp only; rw [if_pos hfull])
        have HVY : Hid (Z = ccl zcd) := Lib.hid hZ
        rw [hsg] at HGET HCI
        have HCI2 : Hid (∀ W gg, Blk W gg V → W.cell? ⟨gg, 1, none⟩ = some (.int .i64 y.2.1)) := HCI
        clear HCI
        have HCI := HCI2
        have dv : decide (1099511627776 ≤ y.2.1) = true := decide_eq_true hfull
        clear HCI2 hfull hyc hyl hk hsg
        generalize y.2.1 = yv at HCI dv
        clear h h1 hb0 hb1 B1 BP hPC hW0 hW1 hZ hbad hz0 TH1 HPB hb0' hgok hV hok
        go_enter Try.func13, Try.ntmps13
        go_wp2_with fail
        rw [← HW0.out, ← HZZ.out, ← HW1.out]
        refine HNO.out.mono ?_
        rintro e w1 ⟨rfl, rfl⟩
        go_wp2_with (first
          | (refine wpList_load_mid rfl 36 (.tmp 5) rfl w.heap.size 0 rfl PC _ RGP Try.underlying36 rfl (by rw [HPL.out]; exact info_patch) ?_
             simp only [Act.put, List.setIfInBounds_toArray, List.set_cons_zero, List.set_cons_succ])
          | fail)
        refine HPK.out.mono ?_
        rintro e w2 ⟨rfl, hb2⟩
        have HBX2 := Lib.hid hb2
        clear hb2 HPK RGP c0 c1 c2
        go_wp2_with fail
        refine (HGET.out w2 HBX2.out).mono ?_
        rintro e w3 ⟨rfl, hb3⟩
        have HB3X := Lib.hid (HBX2.out.trans (hb3.mono HBX2.out.size))
        clear hb3 HBX2 HGET
        have hbz := Blk.new w3 Z 44
        have TH3 := hbz.there 0 27 (by rw [HZL.out]; omega)
        obtain ⟨W4, hW4⟩ : ∃ W4, W4 = (w3.alloc (.cells Z.toArray 44)).setCells w3.heap.size 0 V := ⟨_, rfl⟩
        have HB4 := Lib.hid (show Blk W4 w3.heap.size V by rw [hW4]; exact hbz.whole (by rw [HZL.out, HVL.out]))
        have hb34 : Below w3.heap.size w3 W4 := by rw [hW4]; exact below_sets (Nat.le_refl _) _ _ ((Below.refl w3.heap.size w3).alloc (Nat.le_refl _) _)
        have HB4X := Lib.hid (HB3X.out.trans (hb34.mono HB3X.out.size))
        have HW4 := Lib.hid hW4
        rw [HZZ.out] at TH3
        have cv1 := HCI.out _ _ HB4.out
        have HB41 := Lib.hid (HB1.out.later HB4X.out)
        have HB4P := Lib.hid (HBP.out.later HB4X.out)
        have HB4W := Lib.hid (HB1W.out.trans (HB4X.out.mono HB1W.out.size))
        have HS4 := Lib.hid (HH1.out.later HB4X.out)
        have HG9 := Lib.hid (show w.heap.size + 1 < w3.heap.size from (HB1.out.later HB3X.out).lt)
        clear hW4 hbz hb34 HB3X HB4X
        have TH4 := HB41.out.there 0 27 (by rw [HZL.out]; omega)
        obtain ⟨W5, hW5⟩ : ∃ W5, W5 = W4.setCells (w.heap.size + 1) 0 Z := ⟨_, rfl⟩
        have HB5 := Lib.hid (show Blk W5 (w.heap.size + 1) Z by rw [hW5]; exact HB41.out.whole rfl)
        have HB5W := Lib.hid (show Below w.heap.size w W5 by rw [hW5]; exact below_sets (by have := HG3.out; omega) _ _ HB4W.out)
        have HS5 := Lib.hid (HH.out.later HB5W.out)
        have HW5 := Lib.hid hW5
        clear hW5
        go_wp2_with (first
          | (refine wpList_store_mid rfl 44 (.tmp 9) (.tmp 24) rfl w3.heap.size 0 V.toArray rfl rfl (by simpa [HVL.out] using TH3) (by simpa [HVL.out] using info_card) (all_oneCell_toArray HV1.out) ?_
             rw [← HZZ.out, ← HW4.out]
             clear TH3)
          | (refine wpList_exec (by rfl) (.agg Z.toArray) (HEZ.out _ _ rfl _) ?_
             simp only [Act.put, List.setIfInBounds_toArray, List.set_cons_zero, List.set_cons_succ])
          | (refine wpList_store_mid rfl 44 (.tmp 6) (.tmp 35) rfl (w.heap.size + 1) 0 Z.toArray rfl rfl (by simpa [HZL.out] using TH4) (by simpa [HZL.out] using info_card) (all_oneCell_toArray HZ1.out) ?_
             rw [← HW5.out]
             clear TH4)
          | fail)
        exact bodyPost_ret (v := .tuple #[.agg Z.toArray, .int .i64 8]) (results_blkS rfl _ _ (w.heap.size + 1) Z _ (.int .i64 8) rfl rfl HB5.out huc rfl (by rw [HZL.out]; exact info_card)) rfl ⟨by rw [HR.out, HVY.out], N, by rw [HR.out]; exact HS5.out, by omega, TurnS.of_below HB5W.out _ _ _⟩
      · have HR : Hid (swrite s x p = (⟨s.nx, s.cs.take (cpos s.cs x) ++ mrg y p :: s.cs.drop (cpos s.cs x + 1), s.dd⟩, mrg y p, 0)) := Lib.hid (by unfold swrite; rw [if_neg hbad, hk]; simp only; rw [if_neg hfull])
        obtain ⟨cs', hcs⟩ : ∃ cs', cs' = s.cs.take (cpos s.cs x) ++ mrg y p :: s.cs.drop (cpos s.cs x + 1) := ⟨_, rfl⟩
        rw [← hcs] at HR
        have hkv : toKV cs' = kput (toKV s.cs) x (mrg y p) := by rw [hcs]; exact write_put hok.rise hk (get_own hk).1
        obtain ⟨U, hU⟩ : ∃ U, U = ccl (mrg y p) := ⟨_, rfl⟩
        have HUL := Lib.hid (show U.length = 27 by rw [hU]; exact ccl_len (show okCd (mrg y p) from mix_len _ _ _))
        have HU1 := Lib.hid (show ∀ v ∈ U, v.oneCell' = true by rw [hU]; exact ccl_one _)
        have HUE := Lib.hid hU
        rw [hsg] at HGET HCI hV hgok
        have HCI2 : Hid (∀ W gg, Blk W gg V → W.cell? ⟨gg, 1, none⟩ = some (.int .i64 y.2.1)) := HCI
        clear HCI
        have HCI := HCI2
        have hMG : ∀ wx, Calls Try.prog 34 #[.agg V.toArray, .agg PC.toArray] wx fun e w' => e = .returned (.agg U.toArray) ∧ Below wx.heap.size wx w' := fun wx => by
          have := merge_any y.1 y.2.1 y.2.2.1 p.lb p.ms y.2.2.2 p.fs wx hgok hp8 (by omega)
          rw [hPC, hV, hU]
          exact this
        have HMG := Lib.hid hMG
        have HPUT : Hid (mput (vmap cdv (toKV s.cs)) x (.agg U.toArray) = vmap cdv (toKV cs')) := Lib.hid (by rw [hkv, hU]; exact vmap_put cdv _ _ _)
        have HWF := Lib.hid hx
        have HLK : Hid (∀ W N', MapI Try.prog 3 W b N' (vmap cdv (toKV cs')) → (Instr.lookup 61 (.map (some b)) (.int .i64 x) false).run Try.prog W = .ok (.agg U.toArray) W) := Lib.hid (fun W N' hI => by
          have := look_card1 hI hx
          rw [hkv, kget_put _ _ _ _ (toKV_rise hok.rise), if_pos rfl] at this
          rw [hU]
          exact this)
        have dv : decide (1099511627776 ≤ y.2.1) = false := decide_eq_false hfull
        clear HCI2 hfull hyc hyl hk hsg hcs hkv hU hMG
        generalize y.2.1 = yv at HCI dv
        clear h h1 hb0 hb1 B1 BP hPC hW0 hW1 hZ hbad hz0 TH1 HPB hb0' hgok hV hok
        go_enter Try.func13, Try.ntmps13
        go_wp2_with fail
        rw [← HW0.out, ← HZZ.out, ← HW1.out]
        refine HNO.out.mono ?_
        rintro e w1 ⟨rfl, rfl⟩
        go_wp2_with (first
          | (refine wpList_load_mid rfl 36 (.tmp 5) rfl w.heap.size 0 rfl PC _ RGP Try.underlying36 rfl (by rw [HPL.out]; exact info_patch) ?_
             simp only [Act.put, List.setIfInBounds_toArray, List.set_cons_zero, List.set_cons_succ])
          | fail)
        refine HPK.out.mono ?_
        rintro e w2 ⟨rfl, hb2⟩
        have HBX2 := Lib.hid hb2
        clear hb2 HPK RGP c0 c1 c2
        go_wp2_with fail
        refine (HGET.out w2 HBX2.out).mono ?_
        rintro e w3 ⟨rfl, hb3⟩
        have HB3X := Lib.hid (HBX2.out.trans (hb3.mono HBX2.out.size))
        clear hb3 HBX2 HGET
        have hbz := Blk.new w3 Z 44
        have TH3 := hbz.there 0 27 (by rw [HZL.out]; omega)
        obtain ⟨W4, hW4⟩ : ∃ W4, W4 = (w3.alloc (.cells Z.toArray 44)).setCells w3.heap.size 0 V := ⟨_, rfl⟩
        have HB4 := Lib.hid (show Blk W4 w3.heap.size V by rw [hW4]; exact hbz.whole (by rw [HZL.out, HVL.out]))
        have hb34 : Below w3.heap.size w3 W4 := by rw [hW4]; exact below_sets (Nat.le_refl _) _ _ ((Below.refl w3.heap.size w3).alloc (Nat.le_refl _) _)
        have HB4X := Lib.hid (HB3X.out.trans (hb34.mono HB3X.out.size))
        have HW4 := Lib.hid hW4
        rw [HZZ.out] at TH3
        have cv1 := HCI.out _ _ HB4.out
        have HB41 := Lib.hid (HB1.out.later HB4X.out)
        have HB4P := Lib.hid (HBP.out.later HB4X.out)
        have HB4W := Lib.hid (HB1W.out.trans (HB4X.out.mono HB1W.out.size))
        have HS4 := Lib.hid (HH1.out.later HB4X.out)
        have HG9 := Lib.hid (show w.heap.size + 1 < w3.heap.size from (HB1.out.later HB3X.out).lt)
        clear hW4 hbz hb34 HB3X HB4X
        go_wp2_with (first
          | (refine wpList_store_mid rfl 44 (.tmp 9) (.tmp 24) rfl w3.heap.size 0 V.toArray rfl rfl (by simpa [HVL.out] using TH3) (by simpa [HVL.out] using info_card) (all_oneCell_toArray HV1.out) ?_
             rw [← HZZ.out, ← HW4.out]
             clear TH3)
          | fail)
        have cx1 : ∀ kk : LW W4, kk.val.cell? ⟨g, 1, none⟩ = some (.map (some b)) := fun kk => by obtain ⟨_, _, _, k1, _⟩ := (HS4.out.later kk.le).cells; exact k1
        clear cv1
        refine wp_region_tail [] 51 8 (by kernel_rfl) (by kernel_rfl) (by kernel_rfl) (by rfl) ?_
        simp only [List.take_succ_cons, List.take_zero, List.drop_succ_cons, List.drop_zero]
        iterate 5 (refine wpG_quiet (by rfl) (by rfl) (by rfl) (fun K hK => ?_); go_big_quiet_op; refine hK _ ?_; clear hK K)
        refine wpG_run (by rfl) (by rfl) (.agg V.toArray) (fun wx hl => exec_load 44 (.tmp 9) rfl w3.heap.size 0 rfl V _ ((HB4.out.later hl.1).wholeC) huc rfl (by rw [HVL.out]; exact info_card)) ?_
        simp only [Act.put, List.setIfInBounds_toArray, List.set_cons_zero, List.set_cons_succ]
        refine wpG_run (by rfl) (by rfl) (.agg PC.toArray) (fun wx hl => exec_load 36 (.tmp 5) rfl w.heap.size 0 rfl PC _ ((HB4P.out.later hl.1).wholeC) Try.underlying36 rfl (by rw [HPL.out]; exact info_patch)) ?_
        simp only [Act.put, List.setIfInBounds_toArray, List.set_cons_zero, List.set_cons_succ]
        refine wpG_call (by rfl) (by rfl) 34 #[.agg V.toArray, .agg PC.toArray] (.agg U.toArray) (by intro _; simp [go_sem]) (by kernel_rfl) (fun wx hl => HMG.out wx) ?_
        simp only [Act.put, List.setIfInBounds_toArray, List.set_cons_zero, List.set_cons_succ]
        refine wpG_nil fun w7 hl _ => ?_
        have HS7 := Lib.hid (HS4.out.later hl)
        have HB47 := Lib.hid (HB41.out.later hl)
        have HB7W := Lib.hid (HB4W.out.trans (hl.mono HB4W.out.size))
        clear cx1 hl HS4 HB4 HB41 HB4P HB4W HMG
        refine wpList_putM rfl (.tmp 40) (.tmp 41) (.tmp 44) x rfl HS7.out.map Try.underlying3 Try.underlying61 (by unfold maxLen; omega) rfl rfl HWF.out (.agg U.toArray) rfl ?_
        intro w8 hI8 hg8
        rw [HPUT.out] at hI8
        have hs8 := HS7.out.putMap hg8 hI8
        have hb478 := HB47.out.kept hg8 (by have := HGNE.out.2.1; simpa using this)
        have T8 := (TurnS.of_below HB7W.out g b r).trans (TurnS.of_map hg8 g r) (RowS.refl _ _)
        obtain ⟨_, _, k0, k1, kx⟩ := hs8.cells
        clear kx
        have HLK8 := Lib.hid (HLK.out w8 _ hI8)
        have TH9 := hb478.there 0 27 (by rw [HZL.out]; omega)
        obtain ⟨W10, hW10⟩ : ∃ W10, W10 = w8.setCells (w.heap.size + 1) 0 U := ⟨_, rfl⟩
        have HB10 := Lib.hid (show Blk W10 (w.heap.size + 1) U by rw [hW10]; exact hb478.whole (by rw [HZL.out, HUL.out]))
        have HS10 := Lib.hid (show SfAt W10 L g b r (N + 1) ⟨s.nx, cs', s.dd⟩ by rw [hW10]; exact hs8.turn (TurnS.sets _ _ _ _ none U 0 (.inl rfl)) (Ne.symm HGNE.out.1) (Ne.symm HGNE.out.2.1) HGNE.out.2.2)
        have HT10 := Lib.hid (show TurnS w W10 g b r by rw [hW10]; exact T8.fresh (by have := HG3.out; omega) U 0)
        have HW10 := Lib.hid hW10
        clear hW10 hb478 hs8 T8 HS7 HB47 HB7W hI8 hg8 k0
        go_wp2_with (first
          | (refine wpList_exec (by rfl) (.agg U.toArray) (exec_lookM1 (.tmp 48) (.tmp 49) rfl x rfl rfl HLK8.out) ?_
             simp only [Act.put, List.setIfInBounds_toArray, List.set_cons_zero, List.set_cons_succ])
          | (refine wpList_store_mid rfl 44 (.tmp 6) (.tmp 50) rfl (w.heap.size + 1) 0 U.toArray rfl rfl (by simpa [HUL.out] using TH9) (by simpa [HUL.out] using info_card) (all_oneCell_toArray HU1.out) ?_
             rw [← HW10.out]
             clear TH9)
          | fail)
        exact bodyPost_ret (v := .tuple #[.agg U.toArray, .int .i64 0]) (results_blkS rfl _ _ (w.heap.size + 1) U _ (.int .i64 0) rfl rfl HB10.out huc rfl (by rw [HUL.out]; exact info_card)) rfl ⟨by rw [HR.out, HUE.out], N + 1, by rw [HR.out]; exact HS10.out, by omega, HT10.out⟩
end Go.Proofs.Ytgkpbkedaddekaa
