/- Contracts of Go's library at this program: maps.Keys, slices.Sorted, slices.Sort at ints, laid by the shelf's own tools. No condition beside what each says. -/
import Derived.Shelf.SlIterI.Nil
import Derived.Shelf.SortM.Plain
import Derived.Shelf.SortM.SortNone
import Derived.Shelf.SlGeneric
import Derived.Test.YtepefocpeeihdaaProg
import Derived.Test.YtepefocpeeihdaaU3
import Derived.Maps.Own
import Derived.Laws.EntriesVeiled
import Derived.Test.YtepefocpeeihdaaU8
import Derived.Test.YtepefocpeeihdaaU4
namespace Go.Proofs.Ytepefocpeeihdaa
open Go Go.Shelf
def Try.keysT_ren : Go.Shelf.Ren := ⟨fun | 7 => 30 | 10 => 42 | n => n, fun | 23 => 53 | 26 => 3 | 3 => 32 | 28 => 57 | 0 => 0 | 27 => 56 | 33 => 67 | 4 => 4 | n => n, fun | n => n⟩
theorem Try.keysT : Go.Proofs.SlLaysZI.n7 Try.prog Try.keysT_ren := {
  mixed := by kernel_rfl
  f7 := ⟨Try.f30.name, by decide, Try.func30.trans (congrArg some (by kernel_rfl))⟩
  f10 := ⟨Try.f42.name, by decide, Try.func42.trans (congrArg some (by kernel_rfl))⟩
  t0 := Try.underlying0
  a0 := Try.isAgg0
  z0 := Try.sizeOf0
  v0 := Try.zeroValue0
  t4 := Try.underlying4
  a4 := Try.isAgg4
  z4 := Try.sizeOf4
  v4 := Try.zeroValue4
  t23 := Try.underlying53
  a23 := Try.isAgg53
  z23 := Try.sizeOf53
  v23 := Try.zeroValue53
  t26 := Try.underlying3
  a26 := Try.isAgg3
  z26 := Try.sizeOf3
  v26 := Try.zeroValue3
  t27 := Try.underlying56
  a27 := Try.isAgg56
  z27 := Try.sizeOf56
  v27 := Try.zeroValue56
  t28 := Try.underlying57
  a28 := Try.isAgg57
  z28 := Try.sizeOf57
  v28 := Try.zeroValue57
  t33 := Try.underlying67
  a33 := Try.isAgg67
  z33 := Try.sizeOf67
  v33 := Try.zeroValue67 }
def Try.keysC_ren : Go.Shelf.Ren := ⟨fun | 7 => 35 | 10 => 44 | n => n, fun | 23 => 62 | 26 => 3 | 3 => 30 | 28 => 57 | 0 => 0 | 27 => 56 | 33 => 67 | 4 => 4 | n => n, fun | n => n⟩
theorem Try.keysC : Go.Proofs.SlLaysZI.n7 Try.prog Try.keysC_ren := {
  mixed := by kernel_rfl
  f7 := ⟨Try.f35.name, by decide, Try.func35.trans (congrArg some (by kernel_rfl))⟩
  f10 := ⟨Try.f44.name, by decide, Try.func44.trans (congrArg some (by kernel_rfl))⟩
  t0 := Try.underlying0
  a0 := Try.isAgg0
  z0 := Try.sizeOf0
  v0 := Try.zeroValue0
  t4 := Try.underlying4
  a4 := Try.isAgg4
  z4 := Try.sizeOf4
  v4 := Try.zeroValue4
  t23 := Try.underlying62
  a23 := Try.isAgg62
  z23 := Try.sizeOf62
  v23 := Try.zeroValue62
  t26 := Try.underlying3
  a26 := Try.isAgg3
  z26 := Try.sizeOf3
  v26 := Try.zeroValue3
  t27 := Try.underlying56
  a27 := Try.isAgg56
  z27 := Try.sizeOf56
  v27 := Try.zeroValue56
  t28 := Try.underlying57
  a28 := Try.isAgg57
  z28 := Try.sizeOf57
  v28 := Try.zeroValue57
  t33 := Try.underlying67
  a33 := Try.isAgg67
  z33 := Try.sizeOf67
  v33 := Try.zeroValue67 }
def Try.sortedI_ren : Go.Shelf.Ren := ⟨fun | 6 => 29 | 8 => 40 | 9 => 41 | 11 => 46 | 13 => 48 | 12 => 47 | 23 => 59 | 24 => 60 | 14 => 50 | 15 => 51 | 16 => 52 | 17 => 53 | 18 => 54 | 19 => 55 | 20 => 56 | 21 => 57 | 22 => 58 | 25 => 61 | 26 => 62 | 27 => 63 | 28 => 64 | 29 => 65 | 30 => 66 | 31 => 67 | n => n, fun | 26 => 3 | 28 => 57 | 24 => 54 | 0 => 0 | 3 => 3 | 37 => 73 | 48 => 25 | 50 => 84 | 4 => 4 | 40 => 76 | 39 => 75 | 45 => 52 | 5 => 5 | 9 => 9 | 51 => 85 | 55 => 89 | 57 => 91 | 58 => 92 | 33 => 67 | n => n, fun | n => n⟩
theorem Try.sortedI : Go.Proofs.SlLaysZI.n6 Try.prog Try.sortedI_ren := {
  mixed := by kernel_rfl
  f6 := ⟨Try.f29.name, by decide, Try.func29.trans (congrArg some (by kernel_rfl))⟩
  f8 := ⟨Try.f40.name, by decide, Try.func40.trans (congrArg some (by kernel_rfl))⟩
  f11 := ⟨Try.f46.name, by decide, Try.func46.trans (congrArg some (by kernel_rfl))⟩
  t0 := Try.underlying0
  a0 := Try.isAgg0
  z0 := Try.sizeOf0
  v0 := Try.zeroValue0
  t24 := Try.underlying54
  a24 := Try.isAgg54
  z24 := Try.sizeOf54
  v24 := Try.zeroValue54
  t26 := Try.underlying3
  a26 := Try.isAgg3
  z26 := Try.sizeOf3
  v26 := Try.zeroValue3
  t28 := Try.underlying57
  a28 := Try.isAgg57
  z28 := Try.sizeOf57
  v28 := Try.zeroValue57
  i26 := by kernel_rfl }
def Try.sortI_ren : Go.Shelf.Ren := ⟨fun | 5 => 41 | 8 => 48 | 7 => 47 | 19 => 59 | 20 => 60 | 10 => 50 | 11 => 51 | 12 => 52 | 13 => 53 | 14 => 54 | 15 => 55 | 16 => 56 | 17 => 57 | 18 => 58 | 30 => 61 | 31 => 62 | 32 => 63 | 33 => 64 | 34 => 65 | 35 => 66 | 40 => 67 | n => n, fun | 23 => 54 | 25 => 3 | 3 => 3 | 32 => 73 | 22 => 54 | 0 => 0 | 44 => 25 | 46 => 84 | 4 => 4 | 36 => 76 | 35 => 75 | 41 => 52 | 5 => 5 | 9 => 9 | 53 => 85 | 57 => 89 | 63 => 91 | 64 => 92 | n => n, fun | n => n⟩
theorem Try.sortI : Go.Proofs.SlLaysM.n5 Try.prog Try.sortI_ren := {
  mixed := by kernel_rfl
  f5 := ⟨Try.f41.name, by decide, Try.func41.trans (congrArg some (by kernel_rfl))⟩
  f7 := ⟨Try.f47.name, by decide, Try.func47.trans (congrArg some (by kernel_rfl))⟩
  f8 := Try.func48.trans (congrArg some (by kernel_rfl))
  f10 := ⟨Try.f50.name, by decide, Try.func50.trans (congrArg some (by kernel_rfl))⟩
  f11 := ⟨Try.f51.name, by decide, Try.func51.trans (congrArg some (by kernel_rfl))⟩
  f12 := ⟨Try.f52.name, by decide, Try.func52.trans (congrArg some (by kernel_rfl))⟩
  f13 := ⟨Try.f53.name, by decide, Try.func53.trans (congrArg some (by kernel_rfl))⟩
  f14 := ⟨Try.f54.name, by decide, Try.func54.trans (congrArg some (by kernel_rfl))⟩
  f15 := ⟨Try.f55.name, by decide, Try.func55.trans (congrArg some (by kernel_rfl))⟩
  f16 := ⟨Try.f56.name, by decide, Try.func56.trans (congrArg some (by kernel_rfl))⟩
  f17 := ⟨Try.f57.name, by decide, Try.func57.trans (congrArg some (by kernel_rfl))⟩
  f18 := ⟨Try.f58.name, by decide, Try.func58.trans (congrArg some (by kernel_rfl))⟩
  f19 := Try.func59.trans (congrArg some (by kernel_rfl))
  f20 := Try.func60.trans (congrArg some (by kernel_rfl))
  f30 := ⟨Try.f61.name, by decide, Try.func61.trans (congrArg some (by kernel_rfl))⟩
  f31 := Try.func62.trans (congrArg some (by kernel_rfl))
  f32 := Try.func63.trans (congrArg some (by kernel_rfl))
  f33 := ⟨Try.f64.name, by decide, Try.func64.trans (congrArg some (by kernel_rfl))⟩
  f34 := ⟨Try.f65.name, by decide, Try.func65.trans (congrArg some (by kernel_rfl))⟩
  f35 := ⟨Try.f66.name, by decide, Try.func66.trans (congrArg some (by kernel_rfl))⟩
  f40 := ⟨Try.f67.name, by decide, Try.func67.trans (congrArg some (by kernel_rfl))⟩
  t0 := Try.underlying0
  a0 := Try.isAgg0
  z0 := Try.sizeOf0
  v0 := Try.zeroValue0
  t3 := Try.underlying3
  a3 := Try.isAgg3
  z3 := Try.sizeOf3
  v3 := Try.zeroValue3
  t4 := Try.underlying4
  a4 := Try.isAgg4
  z4 := Try.sizeOf4
  v4 := Try.zeroValue4
  t5 := Try.underlying5
  a5 := Try.isAgg5
  z5 := Try.sizeOf5
  v5 := Try.zeroValue5
  t9 := Try.underlying9
  a9 := Try.isAgg9
  z9 := Try.sizeOf9
  v9 := Try.zeroValue9
  t22 := Try.underlying54
  a22 := Try.isAgg54
  z22 := Try.sizeOf54
  v22 := Try.zeroValue54
  t23 := Try.underlying54
  a23 := Try.isAgg54
  z23 := Try.sizeOf54
  v23 := Try.zeroValue54
  t25 := Try.underlying3
  a25 := Try.isAgg3
  z25 := Try.sizeOf3
  v25 := Try.zeroValue3
  t32 := Try.underlying73
  a32 := Try.isAgg73
  z32 := Try.sizeOf73
  v32 := Try.zeroValue73
  t35 := Try.underlying75
  a35 := Try.isAgg75
  z35 := Try.sizeOf75
  v35 := Try.zeroValue75
  t36 := Try.underlying76
  a36 := Try.isAgg76
  z36 := Try.sizeOf76
  v36 := Try.zeroValue76
  t41 := Try.underlying52
  a41 := Try.isAgg52
  z41 := Try.sizeOf52
  v41 := Try.zeroValue52
  t44 := Try.underlying25
  a44 := Try.isAgg25
  z44 := Try.sizeOf25
  v44 := Try.zeroValue25
  t46 := Try.underlying84
  a46 := Try.isAgg84
  z46 := Try.sizeOf84
  v46 := Try.zeroValue84
  t53 := Try.underlying85
  a53 := Try.isAgg85
  z53 := Try.sizeOf85
  v53 := Try.zeroValue85
  t57 := Try.underlying89
  a57 := Try.isAgg89
  z57 := Try.sizeOf89
  v57 := Try.zeroValue89
  t63 := Try.underlying91
  a63 := Try.isAgg91
  z63 := Try.sizeOf91
  v63 := Try.zeroValue91
  t64 := Try.underlying92
  a64 := Try.isAgg92
  z64 := Try.sizeOf92
  v64 := Try.zeroValue92 }
end Go.Proofs.Ytepefocpeeihdaa

/- The keys of a map whose keys are ints, sorted: slices.Sorted(maps.Keys(m)). -/
namespace Go.Proofs.Ytepefocpeeihdaa
set_option linter.unusedVariables false
set_option linter.unusedSimpArgs false
open Go Go.RowKit Go.Maps Go.Sort Go.Shelf

theorem row_le {w : World} {base : Nat} {e : TypeId} {size n c : Nat} {A : Option Addr} {xs : List Value} (h : w.ownsRow base e size (.slice A n c) n xs) : n ≤ c := by
  rcases h.2 with ⟨e, h0⟩ | ⟨g, cap, cur, e, hx⟩
  · cases e; omega
  · cases e; exact hx.2.2.1
theorem sortsI (m : Nat) : AnyZI.SortsIn Try.prog Try.sortedI_ren Fence.wide m :=
  ⟨fun blk off cap ss W hH hblk hsz => callsIn_wide.2 (AnyM.slices_Sort_int Try.sortI blk off cap ss W hH hblk hsz),
   fun p cap W => callsIn_wide.2 (AnyM.slices_Sort_int_none Try.sortI p cap W)⟩
/-- The keys of a map, sorted, are handed back in memory of the call's own. -/
def GivesK (w0 : Nat) (l : List Int) (e : Ending) (W w' : World) : Prop :=
  ∃ A c, e = .returned (.slice A l.length c) ∧ Sees w' w'.heap.size A (l.map fun x => Value.int .i64 x) ∧ l.length ≤ c ∧ Below W.heap.size W w'
theorem keysT_any (b : Nat) (W : World) : Calls Try.prog 30 #[.map (some b)] W fun e w' =>
    e = .returned (.func (.func 42) #[] #[.pointer (some ⟨W.heap.size, 0, none⟩)]) ∧ w' = W.alloc (.cells #[.map (some b)] 53) :=
  (callsIn_wide (n := 5)).1 (AnyZI.keys_in Try.keysT Fence.wide 5 trivial rfl (some b) W)
theorem keysC_any (b : Nat) (W : World) : Calls Try.prog 35 #[.map (some b)] W fun e w' =>
    e = .returned (.func (.func 44) #[] #[.pointer (some ⟨W.heap.size, 0, none⟩)]) ∧ w' = W.alloc (.cells #[.map (some b)] 62) :=
  (callsIn_wide (n := 5)).1 (AnyZI.keys_in Try.keysC Fence.wide 5 trivial rfl (some b) W)
theorem sortedT_any {α : Type} (f : α → Value) (b N : Nat) (m : KV α) (w : World) (hr : KRise m) (hI : MapI Try.prog 3 w b N (vmap f m)) (hm : m.length ≤ 65536) :
    Calls Try.prog 29 #[.func (.func 42) #[] #[.pointer (some ⟨w.heap.size, 0, none⟩)]] (w.alloc (.cells #[.map (some b)] 53)) fun e w' =>
      GivesK w.heap.size (m.map (·.1)) e (w.alloc (.cells #[.map (some b)] 53)) w' := by
  refine (callsIn_wide (n := 5)).1 ?_
  have hown := hI.own
  have hbl := hown.lt
  have hsz : Maps.size (DataW.map ((vmap f m).map mlit) : DataW Value) = m.length := vmap_size f m
  have hseq : SeqGives Fence.wide 2 Try.prog 42 #[.pointer (some ⟨w.heap.size, 0, none⟩)] encZ (fun ss => ss.Perm (intKeys (DataW.map ((vmap f m).map mlit) : DataW Value))) (Maps.size (DataW.map ((vmap f m).map mlit) : DataW Value)) (w.alloc (.cells #[.map (some b)] 53)) :=
    AnyZI.keys_gives (ρ := Try.keysT_ren) { Try.keysT with } Fence.wide _ trivial rfl (by omega) w.heap.size b N _ _ (by simp) (by simp) (by
      obtain ⟨es, clock, hb, Ft, hs, hD⟩ := hown
      exact ⟨es, clock, (Below.heap_alloc _ _ b hbl).trans hb, Ft, hs, hD⟩)
  refine (AnyZI.sorted_in Try.sortedI Fence.wide 5 trivial trivial trivial trivial rfl (by omega) (sortsI _) (enters_of Try.func41 (by kernel_rfl) rfl) 42 #[.pointer (some ⟨w.heap.size, 0, none⟩)] trivial (enters_of Try.func42 (by kernel_rfl) rfl) _ _ (by rw [hsz]; unfold maxLen; omega) (by rw [hsz]; omega) _ hseq).mono ?_
  rintro e w' ⟨v, ss, rfl, hp, hrow, hnil, hb⟩
  have hl : ss.length = (m.map (·.1)).length := by
    have := hp.length_eq
    rw [vmap_keys] at this
    exact this
  rw [keys_sorted f hr hp] at hrow
  obtain ⟨A, c, rfl⟩ := row_form hrow
  refine ⟨A, c, by rw [hl], row_sees hrow, by rw [← hl]; exact row_le hrow, hb⟩
theorem sortedC_any {α : Type} (f : α → Value) (b N : Nat) (m : KV α) (w : World) (hr : KRise m) (hI : MapI Try.prog 3 w b N (vmap f m)) (hm : m.length ≤ 65536) :
    Calls Try.prog 29 #[.func (.func 44) #[] #[.pointer (some ⟨w.heap.size, 0, none⟩)]] (w.alloc (.cells #[.map (some b)] 62)) fun e w' =>
      GivesK w.heap.size (m.map (·.1)) e (w.alloc (.cells #[.map (some b)] 62)) w' := by
  refine (callsIn_wide (n := 5)).1 ?_
  have hown := hI.own
  have hbl := hown.lt
  have hsz : Maps.size (DataW.map ((vmap f m).map mlit) : DataW Value) = m.length := vmap_size f m
  have hseq : SeqGives Fence.wide 2 Try.prog 44 #[.pointer (some ⟨w.heap.size, 0, none⟩)] encZ (fun ss => ss.Perm (intKeys (DataW.map ((vmap f m).map mlit) : DataW Value))) (Maps.size (DataW.map ((vmap f m).map mlit) : DataW Value)) (w.alloc (.cells #[.map (some b)] 62)) :=
    AnyZI.keys_gives (ρ := Try.keysC_ren) { Try.keysC with } Fence.wide _ trivial rfl (by omega) w.heap.size b N _ _ (by simp) (by simp) (by
      obtain ⟨es, clock, hb, Ft, hs, hD⟩ := hown
      exact ⟨es, clock, (Below.heap_alloc _ _ b hbl).trans hb, Ft, hs, hD⟩)
  refine (AnyZI.sorted_in Try.sortedI Fence.wide 5 trivial trivial trivial trivial rfl (by omega) (sortsI _) (enters_of Try.func41 (by kernel_rfl) rfl) 44 #[.pointer (some ⟨w.heap.size, 0, none⟩)] trivial (enters_of Try.func44 (by kernel_rfl) rfl) _ _ (by rw [hsz]; unfold maxLen; omega) (by rw [hsz]; omega) _ hseq).mono ?_
  rintro e w' ⟨v, ss, rfl, hp, hrow, hnil, hb⟩
  have hl : ss.length = (m.map (·.1)).length := by
    have := hp.length_eq
    rw [vmap_keys] at this
    exact this
  rw [keys_sorted f hr hp] at hrow
  obtain ⟨A, c, rfl⟩ := row_form hrow
  refine ⟨A, c, by rw [hl], row_sees hrow, by rw [← hl]; exact row_le hrow, hb⟩
end Go.Proofs.Ytepefocpeeihdaa

/- Maps whose keys are ints: laws of the walk: make, put, look, delete, len; general. -/
namespace Go.Proofs.Ytepefocpeeihdaa
set_option linter.unusedVariables false
set_option linter.unusedSimpArgs false
open Go Go.RowKit

section
variable {P : Program} {ops : Array Oper} {rest : List Oper} {o : Oper} {a : Act} {Q : Exit → Act → World → Prop} {k t e : TypeId} {w : World} {b N : Nat} {mm : IM}
theorem wpList_mkM (hg : o.guard = none) (hop : o.op = Op.makeMap t none) (hK : ∀ w', MapI P k w' w.heap.size 0 [] → Below w.heap.size w w' → wpList P ops Q rest (a.put o.dst (.map (some w.heap.size))) w') : wpList P ops Q (o :: rest) a w := by
  refine wpList_plain hg fun K' hK' => ?_
  unfold Oper.wp
  simp [execOp, hop, Instr.makeMap, Result.andThen]
  exact hK' _ _ (hK (w.alloc (.map #[] 0)) (MapI.new P k w) ((Below.refl _ _).alloc (Nat.le_refl _) _))
theorem wpList_putM (hg : o.guard = none) (m x v : Operand) (z : Int) (hop : o.op = Op.mapUpdate t m x v) (hI : MapI P k w b N mm) (hk : P.underlying k = some (.int .i64)) (ht : P.underlying t = some (.map k e)) (hn : N < maxLen) (hm : a.eval m = .map (some b)) (hx : a.eval x = .int .i64 z) (hz : (Lit.int .i64 z).wf = true)
    (val : Value) (hv : a.eval v = val) (hK : ∀ w', MapI P k w' b (N + 1) (mput mm z val) → w.grownBy w' (some b) → wpList P ops Q rest (a.put o.dst undef) w') : wpList P ops Q (o :: rest) a w := by
  refine wpList_plain hg fun K' hK' => ?_
  obtain ⟨w', hrun, r1, r2⟩ := hI.store hk ht hn hz val
  unfold Oper.wp
  simp [execOp, hop, hm, hx, hv, hrun, Result.andThen]
  exact hK' _ _ (hK w' r1 r2)
theorem exec_lookM2 (m x : Operand) (ho : o.op = .lookup t m x true) (z : Int) (hm : a.eval m = .map (some b)) (hx : a.eval x = .int .i64 z) {v : Value} (hr : (Instr.lookup t (.map (some b)) (.int .i64 z) true).run P w = .ok v w) : (execOp a.eval o).run P w = .ok (.value v) w := by
  unfold execOp
  simp only [ho, hm, hx, Sem.run_bind, hr, Result.andThen_ok, Sem.run_pure]
theorem exec_lookM1 (m x : Operand) (ho : o.op = .lookup t m x false) (z : Int) (hm : a.eval m = .map (some b)) (hx : a.eval x = .int .i64 z) {v : Value} (hr : (Instr.lookup t (.map (some b)) (.int .i64 z) false).run P w = .ok v w) : (execOp a.eval o).run P w = .ok (.value v) w := by
  unfold execOp
  simp only [ho, hm, hx, Sem.run_bind, hr, Result.andThen_ok, Sem.run_pure]
theorem below_rowM {w' : World} {B : Nat} (hg : w.grownBy w' (some b)) (hb : B ≤ b) (hz : B ≤ w.heap.size) : Below B w w' := ⟨hg.os, hg.tape, hg.output, hg.size, fun k hk => hg.block k (by omega) (fun e => by injection e with e; omega)⟩
theorem wf_small {x : Int} (h : 0 ≤ x ∧ x ≤ 1099511627776) : (Lit.int .i64 x).wf = true := by
  simp only [Lit.wf, Bool.and_eq_true, decide_eq_true_eq]
  exact ⟨by show (-9223372036854775808 : Int) ≤ x; omega, by show x ≤ (9223372036854775807 : Int); omega⟩
end
end Go.Proofs.Ytepefocpeeihdaa

/- Items applied to cards: the program's Apply. -/
namespace Go.Proofs.Ytepefocpeeihdaa
set_option linter.unusedVariables false
set_option linter.unusedSimpArgs false
open Go Go.RowKit BitM

def cv64 (c : Cd) : Value := .agg (ccl c).toArray
theorem zc28u : (icl ⟨0, zcd⟩).toArray = #[Value.int .i64 0, .int .i64 0, .int .i64 0, .int .u32 0, .int .i64 0, .int .i64 0, .string { data := #[] }, .int .i64 0, .int .i64 0, .string { data := #[] }, .int .i64 0, .int .i64 0, .string { data := #[] }, .int .i64 0, .int .i64 0, .string { data := #[] }, .int .i64 0, .int .i64 0, .string { data := #[] }, .int .i64 0, .int .i64 0, .string { data := #[] }, .int .i64 0, .int .i64 0, .string { data := #[] }, .int .i64 0, .int .i64 0, .string { data := #[] }] := rfl
theorem zc27u : (ccl zcd).toArray = #[Value.int .i64 0, .int .i64 0, .int .u32 0, .int .i64 0, .int .i64 0, .string { data := #[] }, .int .i64 0, .int .i64 0, .string { data := #[] }, .int .i64 0, .int .i64 0, .string { data := #[] }, .int .i64 0, .int .i64 0, .string { data := #[] }, .int .i64 0, .int .i64 0, .string { data := #[] }, .int .i64 0, .int .i64 0, .string { data := #[] }, .int .i64 0, .int .i64 0, .string { data := #[] }, .int .i64 0, .int .i64 0, .string { data := #[] }] := rfl
theorem toKV_take {cs : List Cd} (hr : CRise cs) {k : Nat} (hk : k < cs.length) : kput (toKV (cs.take k)) cs[k].1 cs[k] = toKV (cs.take (k + 1)) := by
  rw [List.take_succ_eq_append_getElem hk]
  rw [kput_end (fun p hp => by
    obtain ⟨c, hc, rfl⟩ := List.mem_map.1 hp
    obtain ⟨j, hj, rfl⟩ := List.getElem_of_mem hc
    simp only [List.length_take] at hj
    simp only [List.getElem_take]
    exact List.pairwise_iff_getElem.1 hr j k (by omega) hk (by omega))]
  unfold toKV
  rw [List.map_append]
  rfl
theorem aput_all {Q : Int × Cd → Prop} {m m' : KV Cd} {x : Im} (hm : ∀ p ∈ m, Q p) (hx : Q (rkey x, x.cd)) (h : aput m x = some m') : (∀ p ∈ m', Q p) ∧ m'.length ≤ m.length + 1 := by
  unfold aput at h
  split at h
  · cases h
  · cases h
    split
    · exact ⟨fun p hp => hm p (List.mem_filter.1 hp).1, Nat.le_trans (List.length_filter_le _ _) (by omega)⟩
    · refine ⟨fun p hp => ?_, kput_len _ _ _⟩
      rcases kput_mem hp with rfl | hp
      · exact hx
      · exact hm p hp
theorem app_take {L : List Im} {m m1 : KV Cd} {k : Nat} (hk : k < L.length) (h : app m (L.take k) = some m1) : app m (L.take (k + 1)) = aput m1 L[k] := by
  rw [List.take_succ_eq_append_getElem hk, app_append, h]
  show (match aput m1 L[k] with | none => none | some m' => app m' []) = _
  cases aput m1 L[k] <;> rfl
theorem app_none {L : List Im} {m : KV Cd} {k : Nat} (h : app m (L.take k) = none) : app m L = none := by
  rw [← List.take_append_drop k L, app_append, h]
theorem exec_delM {P : Program} {o : Oper} {a : Act} {w w' : World} {b : Nat} {t k : TypeId} (mo x : Operand) (ho : o.op = .call { callee := .builtin .delete, args := #[mo, x], argTypes := #[t, k] }) (z : Int) (hm : a.eval mo = .map (some b)) (hx : a.eval x = .int .i64 z)
    (hr : (Builtin.delete_ #[t, k] o.type #[.map (some b), .int .i64 z]).run P w = .ok (.tuple #[]) w') : (execOp a.eval o).run P w = .ok (.value (.tuple #[])) w' := by
  unfold execOp
  simp only [ho, resolve, invoke, builtin, Sem.run_bind, Sem.run_pure, Result.andThen_ok, List.map_toArray, List.map_cons, List.map_nil, hm, hx, hr]
def okP (p : Int × Cd) : Prop := okCd p.2 ∧ (Lit.int .i64 p.1).wf = true
set_option maxRecDepth 100000 in
set_option maxHeartbeats 12800000 in
theorem apply_any (A : Option Addr) (n c : Nat) (cs : List Cd) (B : Option Addr) (m d : Nat) (L : List Im) (w : World) (h : SeesR ccl w A n c cs) (hok : ∀ y ∈ cs, okCd y ∧ (Lit.int .i64 y.1).wf = true) (hri : CRise cs) (h2 : SeesR icl w B m d L) (hok2 : ∀ x ∈ L, okCd x.cd ∧ (Lit.int .i64 x.cd.1).wf = true) (hz : n + m ≤ 60000) :
    Calls Try.prog 21 #[.slice A n c, .slice B m d] w (GivesA w (apOut cs L)) := by
  have huc := Try.underlying30
  have hui := Try.underlying49
  have hkk := Try.underlying3
  have hmt := Try.underlying62
  obtain ⟨i1, ji, jz0, jz1, jz2⟩ := info_crd0
  have HN := Lib.hid h.len
  have HM := Lib.hid h2.len
  obtain ⟨Z, hZ⟩ : ∃ Z, Z = ccl zcd := ⟨_, rfl⟩
  have HZL := Lib.hid (show Z.length = 27 by rw [hZ]; rfl)
  have HZ1 := Lib.hid (show ∀ v ∈ Z, v.oneCell' = true by rw [hZ]; exact ccl_one _)
  have HZZ : Hid (Z.toArray = #[Value.int .i64 0, .int .i64 0, .int .u32 0, .int .i64 0, .int .i64 0, .string { data := #[] }, .int .i64 0, .int .i64 0, .string { data := #[] }, .int .i64 0, .int .i64 0, .string { data := #[] }, .int .i64 0, .int .i64 0, .string { data := #[] }, .int .i64 0, .int .i64 0, .string { data := #[] }, .int .i64 0, .int .i64 0, .string { data := #[] }, .int .i64 0, .int .i64 0, .string { data := #[] }, .int .i64 0, .int .i64 0, .string { data := #[] }]) := Lib.hid (by rw [hZ]; exact zc27u)
  obtain ⟨Y, hY⟩ : ∃ Y, Y = icl ⟨0, zcd⟩ := ⟨_, rfl⟩
  have HYL := Lib.hid (show Y.length = 28 by rw [hY]; rfl)
  have HYY : Hid (Y.toArray = #[Value.int .i64 0, .int .i64 0, .int .i64 0, .int .u32 0, .int .i64 0, .int .i64 0, .string { data := #[] }, .int .i64 0, .int .i64 0, .string { data := #[] }, .int .i64 0, .int .i64 0, .string { data := #[] }, .int .i64 0, .int .i64 0, .string { data := #[] }, .int .i64 0, .int .i64 0, .string { data := #[] }, .int .i64 0, .int .i64 0, .string { data := #[] }, .int .i64 0, .int .i64 0, .string { data := #[] }, .int .i64 0, .int .i64 0, .string { data := #[] }]) := Lib.hid (by rw [hY]; exact zc28u)
  have hokc : ∀ y ∈ cs, okCd y := fun y hy => (hok y hy).1
  have hoki : ∀ x ∈ L, okCd x.cd := fun x hx => (hok2 x hx).1
  have HCE : Hid (∀ k (hk : k < cs.length), ∃ b o, A = some ⟨b, o, none⟩ ∧ ∀ W, Below w.heap.size w W → W.rangeAt b (o + k * 27) (ccl cs[k])) := Lib.hid (fun k hk => by
    obtain ⟨b, o, e, _, hc⟩ := card_cells h hokc (by omega)
    exact ⟨b, o, e, fun W hW => (hc W hW k hk).2.2.1⟩)
  have HIE : Hid (∀ k (hk : k < L.length), ∃ b o, B = some ⟨b, o, none⟩ ∧ ∀ W, Below w.heap.size w W → W.rangeAt b (o + k * 28) (icl L[k])) := Lib.hid (fun k hk => by
    obtain ⟨b, o, e, _, hc⟩ := item_cells h2 hoki (by omega)
    exact ⟨b, o, e, fun W hW => (hc W hW k hk).2.2.1⟩)
  have HOKC := Lib.hid (fun k (hk : k < cs.length) => hok _ (List.getElem_mem hk))
  have HOKI := Lib.hid (fun k (hk : k < L.length) => hok2 _ (List.getElem_mem hk))
  have HFILL : Hid (∀ k (hk : k < cs.length), mput (vmap cv64 (toKV (cs.take k))) cs[k].1 (.agg (ccl cs[k]).toArray) = vmap cv64 (toKV (cs.take (k + 1)))) := Lib.hid (fun k hk => by
    rw [← toKV_take hri hk]
    exact vmap_put cv64 _ _ _)
  have HLOOK : Hid (∀ W gm N (m : KV Cd) x, MapI Try.prog 3 W gm N (vmap cv64 m) → (Lit.int .i64 x).wf = true → (Instr.lookup 62 (.map (some gm)) (.int .i64 x) true).run Try.prog W = .ok (.tuple #[((kget m x).map cv64).getD (.agg Z.toArray), .bool (kget m x).isSome]) W) := Lib.hid (fun W gm N m x hI hx => by
    have := hI.look2 hkk hmt (z := .agg Z.toArray) (by rw [hZ]; kernel_rfl) hx
    rw [vmap_get] at this
    rw [this, Option.isSome_map])
  have HLOOK1 : Hid (∀ W gm N (m : KV Cd) x u, MapI Try.prog 3 W gm N (vmap cv64 m) → (Lit.int .i64 x).wf = true → kget m x = some u → (Instr.lookup 62 (.map (some gm)) (.int .i64 x) false).run Try.prog W = .ok (.agg (ccl u).toArray) W) := Lib.hid (fun W gm N m x u hI hx hu => by
    have := hI.look1 hkk hmt (z := .agg Z.toArray) (by rw [hZ]; kernel_rfl) hx
    rw [vmap_get, hu] at this
    exact this)
  have HP0 : Hid (∀ p ∈ toKV cs, okP p) := Lib.hid (fun p hp => by
    obtain ⟨c, hc, rfl⟩ := List.mem_map.1 hp
    exact hok c hc)
  have HR0 := Lib.hid (toKV_rise hri)
  have HAT : Hid (∀ k (hk : k < L.length) m1, app (toKV cs) (L.take k) = some m1 → app (toKV cs) (L.take (k + 1)) = aput m1 L[k]) := Lib.hid (fun k hk m1 e => app_take hk e)
  have HANO : Hid (∀ k, app (toKV cs) (L.take k) = none → apOut cs L = none) := Lib.hid (fun k e => by unfold apOut; rw [app_none e]; rfl)
  have HAALL : Hid (∀ m1, app (toKV cs) (L.take L.length) = some m1 → apOut cs L = some (m1.map (·.2))) := Lib.hid (fun m1 e => by rw [List.take_length] at e; unfold apOut; rw [e]; rfl)
  clear h hok hri h2 hok2 hZ hY hokc hoki
  go_enter Try.func21, Try.ntmps21
  go_wp2_with (first
    | (refine wpList_mkM (k := 3) rfl rfl ?_
       intro w1 hI1 hb1
       have HI1 : Hid (MapI Try.prog 3 w1 w.heap.size 0 (vmap cv64 (toKV (cs.take 0)))) := Lib.hid hI1
       have HB1 := Lib.hid hb1
       clear hI1 hb1)
    | fail)
  go_loopw [19] (fun i wr => ∃ k : Nat, k ≤ n ∧ i = .int .i64 (k : Int) ∧ Hid (MapI Try.prog 3 wr w.heap.size k (vmap cv64 (toKV (cs.take k)))) ∧ Hid (Below w.heap.size w wr)) (fun i _ => n - (iOf i).toNat)
  case atStart => exact ⟨0, by omega, rfl, HI1, HB1⟩
  case round =>
    clear HI1 HB1
    obtain ⟨k, hk, rfl, HI, HB⟩ := hrel
    by_cases hlt : k < n
    · have d0 : decide ((k : Int) < (n : Int)) = true := decide_eq_true (by omega)
      have hkl : k < cs.length := by rw [HN.out]; exact hlt
      obtain ⟨b, o, rfl, hcc⟩ := HCE.out k hkl
      have hrg := hcc wr HB.out
      have HOK := Lib.hid (HOKC.out k hkl)
      have HCL := Lib.hid (ccl_len HOK.out.1)
      have HC1 := Lib.hid (ccl_one cs[k])
      have HPK := Lib.hid (HFILL.out k hkl)
      have HCI : Hid (∀ W g, Blk W g (ccl cs[k]) → W.cell? ⟨g, 0, none⟩ = some (.int .i64 cs[k].1)) := Lib.hid (fun W g hW => hW.cell (j := 0) rfl)
      have HWF := Lib.hid HOK.out.2
      obtain ⟨CC, hCC⟩ : ∃ CC, CC = ccl cs[k] := ⟨_, rfl⟩
      rw [← hCC] at hrg HCL HC1 HPK HCI
      generalize cs[k].1 = x at HPK HCI HWF
      have B1 := Blk.new wr Z 30
      have hb2 := (Below.refl wr.heap.size wr).alloc (Nat.le_refl _) (.cells Z.toArray 30)
      have TH1 := B1.there 0 27 (by rw [HZL.out]; omega)
      obtain ⟨W1, hW1⟩ : ∃ W1, W1 = (wr.alloc (.cells Z.toArray 30)).setCells wr.heap.size 0 CC := ⟨_, rfl⟩
      have BC : Blk W1 wr.heap.size CC := by rw [hW1]; exact B1.whole (by rw [HZL.out, HCL.out])
      have hb3 : Below wr.heap.size wr W1 := by rw [hW1]; exact below_sets (Nat.le_refl _) _ _ hb2
      have x0 := HCI.out W1 _ BC
      have RGC := BC.wholeC
      have HI2 := Lib.hid (HI.out.later hb3)
      have HB2 := Lib.hid (HB.out.trans (hb3.mono HB.out.size))
      have HW1 := Lib.hid hW1
      rw [HZZ.out] at TH1
      clear hcc hCC B1 hb2 hW1 BC hb3 HI HB HCE HIE HOKC HOKI HFILL HLOOK HLOOK1 HP0 HR0 HAT HANO HAALL HOK HCI
      go_wp2_with (first
        | (refine wpList_load_mid rfl 30 (.tmp 21) rfl b (o + k * 27) rfl CC _ hrg huc rfl (by rw [HCL.out]; exact info_card) ?_
           simp only [Act.put, List.setIfInBounds_toArray, List.set_cons_zero, List.set_cons_succ])
        | (refine wpList_store_mid rfl 30 (.tmp 8) (.tmp 22) rfl wr.heap.size 0 CC.toArray rfl rfl (by simpa [HCL.out] using TH1) (by simpa [HCL.out] using info_card) (all_oneCell_toArray HC1.out) ?_
           rw [← HZZ.out, ← HW1.out]
           clear TH1 hrg)
        | (refine wpList_load_mid rfl 30 (.tmp 8) rfl wr.heap.size 0 rfl CC _ RGC huc rfl (by rw [HCL.out]; exact info_card) ?_
           simp only [Act.put, List.setIfInBounds_toArray, List.set_cons_zero, List.set_cons_succ])
        | (refine wpList_putM rfl (.tmp 23) (.tmp 25) (.tmp 26) x rfl HI2.out hkk hmt (by unfold maxLen; omega) rfl rfl HWF.out (.agg CC.toArray) rfl ?_
           intro w4 hI4 hg4
           rw [HPK.out] at hI4
           have HI4 := Lib.hid hI4
           have HB4 := Lib.hid (HB2.out.trans (below_rowM hg4 (Nat.le_refl _) HB2.out.size))
           clear hI4 hg4)
        | fail)
      go_roundw
      case rel => exact ⟨k + 1, by omega, by go_num, HI4, HB4⟩
      case measure => simp [iOf]; omega
    · obtain rfl : k = n := by omega
      have HI2 : Hid (MapI Try.prog 3 wr w.heap.size k (vmap cv64 (toKV cs))) := Lib.hid (by
        have := HI.out
        rwa [List.take_of_length_le (by rw [HN.out]; exact Nat.le_refl _)] at this)
      have HK0 : Hid ((toKV cs).length ≤ k) := Lib.hid (by simp [toKV, HN.out])
      clear HI HCE HOKC HFILL
      go_wp2_with fail
      go_loopw [30] (fun i wr => ∃ (j N : Nat) (mp : KV Cd), j ≤ m ∧ i = .int .i64 (j : Int) ∧ N ≤ k + j ∧ Hid (app (toKV cs) (L.take j) = some mp) ∧ Hid (KRise mp ∧ (∀ p ∈ mp, okP p) ∧ mp.length ≤ k + j) ∧ Hid (MapI Try.prog 3 wr w.heap.size N (vmap cv64 mp)) ∧ Hid (Below w.heap.size w wr)) (fun i _ => m - (iOf i).toNat)
      case atStart => exact ⟨0, k, toKV cs, by omega, rfl, by omega, Lib.hid rfl, Lib.hid ⟨HR0.out, HP0.out, HK0.out⟩, HI2, HB⟩
      case round =>
        clear HI2 HB HK0
        obtain ⟨j, N, mp, hj, rfl, hN, HAP, HMP, HI, HB⟩ := hrel
        by_cases hlt : j < m
        · have d0 : decide ((j : Int) < (m : Int)) = true := decide_eq_true (by omega)
          have hjl : j < L.length := by rw [HM.out]; exact hlt
          obtain ⟨b, o, rfl, hcc⟩ := HIE.out j hjl
          have hrg := hcc wr HB.out
          have HOK := Lib.hid (HOKI.out j hjl)
          have HIL := Lib.hid (icl_len HOK.out.1)
          have HI1 := Lib.hid (icl_one L[j])
          have HCLx := Lib.hid (ccl_len HOK.out.1)
          have HWF : Hid ((Lit.int .i64 (rkey L[j])).wf = true) := Lib.hid HOK.out.2
          have HT := Lib.hid (HAT.out j hjl mp HAP.out)
          have HNEW : Hid (∀ m', aput mp L[j] = some m' → KRise m' ∧ (∀ p ∈ m', okP p) ∧ m'.length ≤ k + (j + 1)) := Lib.hid (fun m' e => by
            obtain ⟨h1, h2⟩ := aput_all HMP.out.2.1 ⟨HOK.out.1, HOK.out.2⟩ e
            have := HMP.out.2.2
            exact ⟨aput_rise HMP.out.1 e, h1, by omega⟩)
          have HICS : Hid (∀ W g, Blk W g (icl L[j]) → W.cell? ⟨g, 0, none⟩ = some (.int .i64 L[j].kd) ∧ W.cell? ⟨g, 1, none⟩ = some (.int .i64 (rkey L[j])) ∧ W.rangeAt g 1 (ccl L[j].cd)) := Lib.hid (fun W g hW => ⟨hW.cell (j := 0) rfl, hW.cell (j := 1) rfl, hW.range 1 (ccl L[j].cd) (icl_drop HOK.out.1)⟩)
          have HAN : Hid ((kget mp (rkey L[j])).isSome = decide (L[j].kd = 1) → aput mp L[j] = none) := Lib.hid (fun e => by unfold aput; rw [if_pos e])
          have HAD : Hid ((kget mp (rkey L[j])).isSome ≠ decide (L[j].kd = 1) → L[j].kd = 2 → aput mp L[j] = some (kdel mp (rkey L[j]))) := Lib.hid (fun e e2 => by unfold aput; rw [if_neg e, if_pos e2])
          have HAS : Hid ((kget mp (rkey L[j])).isSome ≠ decide (L[j].kd = 1) → L[j].kd ≠ 2 → aput mp L[j] = some (kput mp (rkey L[j]) L[j].cd)) := Lib.hid (fun e e2 => by unfold aput; rw [if_neg e, if_neg e2])
          have HVP : Hid (mput (vmap cv64 mp) (rkey L[j]) (.agg (ccl L[j].cd).toArray) = vmap cv64 (kput mp (rkey L[j]) L[j].cd)) := Lib.hid (vmap_put cv64 _ _ _)
          have HVD : Hid (mdel (vmap cv64 mp) (rkey L[j]) = vmap cv64 (kdel mp (rkey L[j]))) := Lib.hid (vmap_del cv64 _ _)
          obtain ⟨II, hII⟩ : ∃ II, II = icl L[j] := ⟨_, rfl⟩
          obtain ⟨CC, hCC⟩ : ∃ CC, CC = ccl L[j].cd := ⟨_, rfl⟩
          rw [← hII] at hrg HIL HI1 HICS
          rw [← hCC] at HICS HCLx HVP
          generalize aput mp L[j] = ap at HT HNEW HAN HAD HAS
          have B1 := Blk.new wr Y 49
          have hb1 := (Below.refl wr.heap.size wr).alloc (Nat.le_refl _) (.cells Y.toArray 49)
          have TH1 := B1.there 0 28 (by rw [HYL.out]; omega)
          obtain ⟨W1, hW1⟩ : ∃ W1, W1 = (wr.alloc (.cells Y.toArray 49)).setCells wr.heap.size 0 II := ⟨_, rfl⟩
          have HBI : Hid (Blk W1 wr.heap.size II) := Lib.hid (by rw [hW1]; exact B1.whole (by rw [HYL.out, HIL.out]))
          have hb2 : Below wr.heap.size wr W1 := by rw [hW1]; exact below_sets (Nat.le_refl _) _ _ hb1
          have HB1 := Lib.hid (HB.out.trans (hb2.mono HB.out.size))
          have HI2 := Lib.hid (HI.out.later hb2)
          have hlk := HLOOK.out W1 w.heap.size N mp (rkey L[j]) HI2.out HWF.out
          have hx1 := (HICS.out W1 _ HBI.out).2.1
          have HGM : Hid (w.heap.size < wr.heap.size) := Lib.hid HI.out.lt
          have HKD : Hid (∀ x u, kget mp x = some u → okCd u) := Lib.hid (fun x u e => (HMP.out.2.1 (x, u) (kget_mem e)).1)
          generalize rkey L[j] = x at HWF HICS HAN HAD HAS HVP HVD hlk hx1
          generalize L[j].kd = kd at HICS HAN HAD HAS
          generalize L[j].cd = xcd at HAS HVP
          have B5 := Blk.new W1 Z 30
          have hb5 := (Below.refl W1.heap.size W1).alloc (Nat.le_refl _) (.cells Z.toArray 30)
          have TH5 := B5.there 0 27 (by rw [HZL.out]; omega)
          have HW1 := Lib.hid hW1
          rw [HYY.out] at TH1
          clear hcc hII hCC B1 hb1 hW1 hb2 HIE HOKI HLOOK HLOOK1 HP0 HR0 HAT HMP HI HB HAALL HAP HOK
          cases hla : kget mp x with
          | none =>
            rw [hla] at hlk HAN HAD HAS
            have HLK := Lib.hid (show (Instr.lookup 62 (.map (some w.heap.size)) (.int .i64 x) true).run Try.prog W1 = .ok (.tuple #[.agg Z.toArray, .bool false]) W1 from hlk)
            obtain ⟨W2, hW2⟩ : ∃ W2, W2 = (W1.alloc (.cells Z.toArray 30)).setCells W1.heap.size 0 Z := ⟨_, rfl⟩
            have hb6 : Below W1.heap.size W1 W2 := by rw [hW2]; exact below_sets (Nat.le_refl _) _ _ hb5
            have HGL := HZL
            have HG1 := HZ1
            have HI3 := Lib.hid (HI2.out.later hb6)
            have HB2 := Lib.hid (HB1.out.trans (hb6.mono HB1.out.size))
            have HC2 := Lib.hid (HICS.out W2 _ (HBI.out.later hb6))
            have k0 := HC2.out.1
            have x1 := HC2.out.2.1
            have RGC := HC2.out.2.2
            have HW2 := Lib.hid hW2
            rw [HZZ.out] at TH5
            clear hla hlk B5 hb5 hb6 hW2 HKD HBI HICS HC2
            by_cases hk1 : kd = 1
            · have f1 : decide (kd = 1) = true := decide_eq_true hk1
              have f1' : (kd == 1) = true := by simpa using f1
              have hk2 : kd ≠ 2 := by omega
              have f2 : decide (kd = 2) = false := decide_eq_false hk2
              have f2' : (kd == 2) = false := by simpa using f2
              have HE := Lib.hid (HAS.out (by rw [f1]; simp) hk2)
              clear hk1 hk2
              have HT2 : Hid (app (toKV cs) (L.take (j + 1)) = some (kput mp x xcd)) := Lib.hid (by rw [HT.out]; exact HE.out)
              have HM2 := Lib.hid (HNEW.out _ HE.out)
              clear HAN HAD HAS HT HNEW HANO HVD
              go_wp2_with (first
                | (refine wpList_load_mid rfl 49 (.tmp 32) rfl b (o + j * 28) rfl II _ hrg hui rfl (by rw [HIL.out]; exact info_item) ?_
                   simp only [Act.put, List.setIfInBounds_toArray, List.set_cons_zero, List.set_cons_succ])
                | (refine wpList_store_mid rfl 49 (.tmp 10) (.tmp 33) rfl wr.heap.size 0 II.toArray rfl rfl (by simpa [HIL.out] using TH1) (by simpa [HIL.out] using info_item) (all_oneCell_toArray HI1.out) ?_
                   rw [← HYY.out, ← HW1.out]
                   clear TH1 hrg)
                | (refine wpList_exec (by rfl) (.tuple #[.agg Z.toArray, .bool false]) (exec_lookM2 (.tmp 35) (.tmp 38) rfl x rfl rfl HLK.out) ?_
                   simp only [Act.put, List.setIfInBounds_toArray, List.set_cons_zero, List.set_cons_succ])
                | (refine wpList_store_mid rfl 30 (.tmp 11) (.tmp 40) rfl W1.heap.size 0 Z.toArray rfl rfl (by simpa [HGL.out] using TH5) (by simpa [HGL.out] using info_card) (all_oneCell_toArray HG1.out) ?_
                   rw [← HZZ.out, ← HW2.out]
                   clear TH5)
                | (refine wpList_load_mid rfl 30 (.tmp 58) rfl wr.heap.size 1 rfl CC _ RGC huc rfl (by rw [HCLx.out]; exact info_card) ?_
                   simp only [Act.put, List.setIfInBounds_toArray, List.set_cons_zero, List.set_cons_succ])
                | (refine wpList_putM rfl (.tmp 54) (.tmp 57) (.tmp 59) x rfl HI3.out hkk hmt (by unfold maxLen; omega) rfl rfl HWF.out (.agg CC.toArray) rfl ?_
                   intro w4 hI4 hg4
                   rw [HVP.out] at hI4
                   have HI4 := Lib.hid hI4
                   have HB4 := Lib.hid (HB2.out.trans (below_rowM hg4 (Nat.le_refl _) HB2.out.size))
                   clear hI4 hg4)
                | fail)
              go_roundw
              case rel => exact ⟨j + 1, N + 1, kput mp x xcd, by omega, by go_num, by omega, HT2, HM2, HI4, HB4⟩
              case measure => simp [iOf]; omega
            · have f1 : decide (kd = 1) = false := decide_eq_false hk1
              have f1' : (kd == 1) = false := by simpa using f1
              have HE := Lib.hid (HAN.out (by rw [f1]; rfl))
              clear hk1
              have HRR := Lib.hid (HANO.out (j + 1) (by rw [HT.out]; exact HE.out))
              clear HAN HAD HAS HT HNEW HANO HVP HVD
              go_wp2_with (first
                | (refine wpList_load_mid rfl 49 (.tmp 32) rfl b (o + j * 28) rfl II _ hrg hui rfl (by rw [HIL.out]; exact info_item) ?_
                   simp only [Act.put, List.setIfInBounds_toArray, List.set_cons_zero, List.set_cons_succ])
                | (refine wpList_store_mid rfl 49 (.tmp 10) (.tmp 33) rfl wr.heap.size 0 II.toArray rfl rfl (by simpa [HIL.out] using TH1) (by simpa [HIL.out] using info_item) (all_oneCell_toArray HI1.out) ?_
                   rw [← HYY.out, ← HW1.out]
                   clear TH1 hrg)
                | (refine wpList_exec (by rfl) (.tuple #[.agg Z.toArray, .bool false]) (exec_lookM2 (.tmp 35) (.tmp 38) rfl x rfl rfl HLK.out) ?_
                   simp only [Act.put, List.setIfInBounds_toArray, List.set_cons_zero, List.set_cons_succ])
                | (refine wpList_store_mid rfl 30 (.tmp 11) (.tmp 40) rfl W1.heap.size 0 Z.toArray rfl rfl (by simpa [HGL.out] using TH5) (by simpa [HGL.out] using info_card) (all_oneCell_toArray HG1.out) ?_
                   rw [← HZZ.out, ← HW2.out]
                   clear TH5)
                | fail)
              go_ret2
              rw [HRR.out]
              exact ⟨rfl, HB2.out⟩
          | some u =>
            rw [hla] at hlk HAN HAD HAS
            have HGL0 := Lib.hid (ccl_len (HKD.out x u hla))
            have HG10 := Lib.hid (ccl_one u)
            obtain ⟨UU, hUU⟩ : ∃ UU, UU = ccl u := ⟨_, rfl⟩
            rw [← hUU] at HGL0 HG10
            have HLK := Lib.hid (show (Instr.lookup 62 (.map (some w.heap.size)) (.int .i64 x) true).run Try.prog W1 = .ok (.tuple #[.agg UU.toArray, .bool true]) W1 from by rw [hUU]; exact hlk)
            obtain ⟨W2, hW2⟩ : ∃ W2, W2 = (W1.alloc (.cells Z.toArray 30)).setCells W1.heap.size 0 UU := ⟨_, rfl⟩
            have hb6 : Below W1.heap.size W1 W2 := by rw [hW2]; exact below_sets (Nat.le_refl _) _ _ hb5
            have HGL := HGL0
            have HG1 := HG10
            clear hUU
            have HI3 := Lib.hid (HI2.out.later hb6)
            have HB2 := Lib.hid (HB1.out.trans (hb6.mono HB1.out.size))
            have HC2 := Lib.hid (HICS.out W2 _ (HBI.out.later hb6))
            have k0 := HC2.out.1
            have x1 := HC2.out.2.1
            have RGC := HC2.out.2.2
            have HW2 := Lib.hid hW2
            rw [HZZ.out] at TH5
            clear hla hlk B5 hb5 hb6 hW2 HKD HBI HICS HC2
            by_cases hk1 : kd = 1
            · have f1 : decide (kd = 1) = true := decide_eq_true hk1
              have f1' : (kd == 1) = true := by simpa using f1
              have HE := Lib.hid (HAN.out (by rw [f1]; rfl))
              clear hk1
              have HRR := Lib.hid (HANO.out (j + 1) (by rw [HT.out]; exact HE.out))
              clear HAN HAD HAS HT HNEW HANO HVP HVD
              go_wp2_with (first
                | (refine wpList_load_mid rfl 49 (.tmp 32) rfl b (o + j * 28) rfl II _ hrg hui rfl (by rw [HIL.out]; exact info_item) ?_
                   simp only [Act.put, List.setIfInBounds_toArray, List.set_cons_zero, List.set_cons_succ])
                | (refine wpList_store_mid rfl 49 (.tmp 10) (.tmp 33) rfl wr.heap.size 0 II.toArray rfl rfl (by simpa [HIL.out] using TH1) (by simpa [HIL.out] using info_item) (all_oneCell_toArray HI1.out) ?_
                   rw [← HYY.out, ← HW1.out]
                   clear TH1 hrg)
                | (refine wpList_exec (by rfl) (.tuple #[.agg UU.toArray, .bool true]) (exec_lookM2 (.tmp 35) (.tmp 38) rfl x rfl rfl HLK.out) ?_
                   simp only [Act.put, List.setIfInBounds_toArray, List.set_cons_zero, List.set_cons_succ])
                | (refine wpList_store_mid rfl 30 (.tmp 11) (.tmp 40) rfl W1.heap.size 0 UU.toArray rfl rfl (by simpa [HGL.out] using TH5) (by simpa [HGL.out] using info_card) (all_oneCell_toArray HG1.out) ?_
                   rw [← HZZ.out, ← HW2.out]
                   clear TH5)
                | fail)
              go_ret2
              rw [HRR.out]
              exact ⟨rfl, HB2.out⟩
            · have f1 : decide (kd = 1) = false := decide_eq_false hk1
              have f1' : (kd == 1) = false := by simpa using f1
              by_cases hk2 : kd = 2
              · have f2 : decide (kd = 2) = true := decide_eq_true hk2
                have f2' : (kd == 2) = true := by simpa using f2
                have HE := Lib.hid (HAD.out (by rw [f1]; simp) hk2)
                clear hk1 hk2
                have HT2 : Hid (app (toKV cs) (L.take (j + 1)) = some (kdel mp x)) := Lib.hid (by rw [HT.out]; exact HE.out)
                have HM2 := Lib.hid (HNEW.out _ HE.out)
                obtain ⟨wd, hrd, hId, hgd⟩ := HI3.out.drop hkk hmt HWF.out (ty := 0)
                rw [HVD.out] at hId
                have HI4 := Lib.hid hId
                have HB4 := Lib.hid (HB2.out.trans (below_rowM hgd.grown (Nat.le_refl _) HB2.out.size))
                clear hId hgd HAN HAD HAS HT HNEW HANO HVP HVD
                go_wp2_with (first
                  | (refine wpList_load_mid rfl 49 (.tmp 32) rfl b (o + j * 28) rfl II _ hrg hui rfl (by rw [HIL.out]; exact info_item) ?_
                     simp only [Act.put, List.setIfInBounds_toArray, List.set_cons_zero, List.set_cons_succ])
                  | (refine wpList_store_mid rfl 49 (.tmp 10) (.tmp 33) rfl wr.heap.size 0 II.toArray rfl rfl (by simpa [HIL.out] using TH1) (by simpa [HIL.out] using info_item) (all_oneCell_toArray HI1.out) ?_
                     rw [← HYY.out, ← HW1.out]
                     clear TH1 hrg)
                  | (refine wpList_exec (by rfl) (.tuple #[.agg UU.toArray, .bool true]) (exec_lookM2 (.tmp 35) (.tmp 38) rfl x rfl rfl HLK.out) ?_
                     simp only [Act.put, List.setIfInBounds_toArray, List.set_cons_zero, List.set_cons_succ])
                  | (refine wpList_store_mid rfl 30 (.tmp 11) (.tmp 40) rfl W1.heap.size 0 UU.toArray rfl rfl (by simpa [HGL.out] using TH5) (by simpa [HGL.out] using info_card) (all_oneCell_toArray HG1.out) ?_
                     rw [← HZZ.out, ← HW2.out]
                     clear TH5)
                  | (refine wpList_execx (by rfl) (.tuple #[]) (exec_delM (.tmp 50) (.tmp 53) rfl x rfl rfl hrd) ?_
                     simp only [Act.put, List.setIfInBounds_toArray, List.set_cons_zero, List.set_cons_succ])
                  | fail)
                go_roundw
                case rel => exact ⟨j + 1, N, kdel mp x, by omega, by go_num, by omega, HT2, HM2, HI4, HB4⟩
                case measure => simp [iOf]; omega
              · have f2 : decide (kd = 2) = false := decide_eq_false hk2
                have f2' : (kd == 2) = false := by simpa using f2
                have HE := Lib.hid (HAS.out (by rw [f1]; simp) hk2)
                clear hk1 hk2
                have HT2 : Hid (app (toKV cs) (L.take (j + 1)) = some (kput mp x xcd)) := Lib.hid (by rw [HT.out]; exact HE.out)
                have HM2 := Lib.hid (HNEW.out _ HE.out)
                clear HAN HAD HAS HT HNEW HANO HVD
                go_wp2_with (first
                  | (refine wpList_load_mid rfl 49 (.tmp 32) rfl b (o + j * 28) rfl II _ hrg hui rfl (by rw [HIL.out]; exact info_item) ?_
                     simp only [Act.put, List.setIfInBounds_toArray, List.set_cons_zero, List.set_cons_succ])
                  | (refine wpList_store_mid rfl 49 (.tmp 10) (.tmp 33) rfl wr.heap.size 0 II.toArray rfl rfl (by simpa [HIL.out] using TH1) (by simpa [HIL.out] using info_item) (all_oneCell_toArray HI1.out) ?_
                     rw [← HYY.out, ← HW1.out]
                     clear TH1 hrg)
                  | (refine wpList_exec (by rfl) (.tuple #[.agg UU.toArray, .bool true]) (exec_lookM2 (.tmp 35) (.tmp 38) rfl x rfl rfl HLK.out) ?_
                     simp only [Act.put, List.setIfInBounds_toArray, List.set_cons_zero, List.set_cons_succ])
                  | (refine wpList_store_mid rfl 30 (.tmp 11) (.tmp 40) rfl W1.heap.size 0 UU.toArray rfl rfl (by simpa [HGL.out] using TH5) (by simpa [HGL.out] using info_card) (all_oneCell_toArray HG1.out) ?_
                     rw [← HZZ.out, ← HW2.out]
                     clear TH5)
                  | (refine wpList_load_mid rfl 30 (.tmp 58) rfl wr.heap.size 1 rfl CC _ RGC huc rfl (by rw [HCLx.out]; exact info_card) ?_
                     simp only [Act.put, List.setIfInBounds_toArray, List.set_cons_zero, List.set_cons_succ])
                  | (refine wpList_putM rfl (.tmp 54) (.tmp 57) (.tmp 59) x rfl HI3.out hkk hmt (by unfold maxLen; omega) rfl rfl HWF.out (.agg CC.toArray) rfl ?_
                     intro w4 hI4 hg4
                     rw [HVP.out] at hI4
                     have HI4 := Lib.hid hI4
                     have HB4 := Lib.hid (HB2.out.trans (below_rowM hg4 (Nat.le_refl _) HB2.out.size))
                     clear hI4 hg4)
                  | fail)
                go_roundw
                case rel => exact ⟨j + 1, N + 1, kput mp x xcd, by omega, by go_num, by omega, HT2, HM2, HI4, HB4⟩
                case measure => simp [iOf]; omega
        · obtain rfl : j = m := by omega
          have HAA : Hid (apOut cs L = some (mp.map (·.2))) := Lib.hid (HAALL.out mp (by rw [HM.out]; exact HAP.out))
          obtain ⟨K, hK⟩ : ∃ K, K = mp.map (·.1) := ⟨_, rfl⟩
          have HSO := Lib.hid (sortedC_any cv64 w.heap.size N mp wr HMP.out.1 HI.out (by have := HMP.out.2.2; omega))
          rw [← hK] at HSO
          have HKL : Hid (K.length = mp.length) := Lib.hid (by rw [hK, List.length_map])
          have HKX : Hid (∀ i (hi : i < K.length) (hi2 : i < mp.length), K[i] = mp[i].1) := Lib.hid (fun i hi hi2 => by subst hK; simp)
          have hKn : K.length ≤ k + j := by rw [hK, List.length_map]; exact HMP.out.2.2
          have HB2 : Hid (Below w.heap.size w (wr.alloc (.cells #[.map (some w.heap.size)] 62))) := Lib.hid (HB.out.alloc HB.out.size _)
          have HI3 := Lib.hid (HI.out.later ((Below.refl wr.heap.size wr).alloc (Nat.le_refl _) (.cells #[.map (some w.heap.size)] 62)))
          have HKA : Hid (∀ i (hi : i < mp.length), kget mp mp[i].1 = some mp[i].2) := Lib.hid (fun i hi => kget_at HMP.out.1 hi)
          have HOKW : Hid (∀ i (hi : i < mp.length), okCd mp[i].2 ∧ (Lit.int .i64 mp[i].1).wf = true) := Lib.hid (fun i hi => HMP.out.2.1 _ (List.getElem_mem hi))
          clear hK HI HB HIE HOKI HLOOK HP0 HR0 HAT HANO HAALL HMP HAP
          go_wp2_with fail
          refine (keysC_any _ _).mono ?_
          rintro e w2 ⟨rfl, rfl⟩
          go_wp2_with fail
          refine HSO.out.mono ?_
          rintro e w3 ⟨A3, c3, rfl, hs3, hc3, hb3⟩
          have HS3 := Lib.hid hs3
          have HB3 := Lib.hid (HB2.out.trans (hb3.mono HB2.out.size))
          have HI4 := Lib.hid (HI3.out.later hb3)
          have HRN := Lib.hid (World.ownsRow_nil w3 w3.heap.size 30 27)
          obtain ⟨q, hq⟩ : ∃ q, q = K.length := ⟨_, rfl⟩
          rw [← hq] at hc3 hKn
          rw [← hq]
          have HQ := Lib.hid hq
          clear hs3 hb3 HB2 HI3 HSO hq
          go_wp2_with fail
          go_loopw [13, 65] (fun v i wr => ∃ (t cc : Nat) (AA : Option Addr), t ≤ q ∧ v = .slice AA t cc ∧ i = .int .i64 (t : Int) ∧ Hid (wr.ownsRow w3.heap.size 30 27 (.slice AA t cc) t (rws ccl ((mp.map (·.2)).take t))) ∧ Hid (Below w3.heap.size w3 wr)) (fun _ i _ => q - (iOf i).toNat)
          case atStart => exact ⟨0, 0, none, by omega, rfl, rfl, HRN, Lib.hid (Below.refl _ _)⟩
          case round =>
            clear HRN
            obtain ⟨t, cc, AA, ht, rfl, rfl, HRW, HBJ⟩ := hrel
            by_cases hlt : t < q
            · have d0 : decide ((t : Int) < (q : Int)) = true := decide_eq_true (by omega)
              have htk : t < K.length := by rw [← HQ.out]; exact hlt
              have htw : t < mp.length := by rw [← HKL.out]; exact htk
              obtain ⟨b2, o2, rfl, hb2, hci⟩ := ((HS3.out.below HBJ.out).more HBJ.out.size) (by rw [List.length_map]; omega)
              have hkc : wr.cell? ⟨b2, o2 + t, none⟩ = some (.int .i64 K[t]) := by
                have := hci t (by simpa using htk)
                simpa using this
              have HI5 := Lib.hid (HI4.out.later HBJ.out)
              have HOK := Lib.hid (HOKW.out t htw)
              have HLK : Hid ((Instr.lookup 62 (.map (some w.heap.size)) (.int .i64 K[t]) false).run Try.prog wr = .ok (.agg (ccl mp[t].2).toArray) wr) := Lib.hid (by
                rw [HKX.out t htk htw]
                exact HLOOK1.out wr w.heap.size N mp _ _ HI5.out HOK.out.2 (HKA.out t htw))
              have HEX := Lib.hid (fun (a : Act) (op : Oper) (y : Operand) (ho : op.op = .buildSlice 38 1 #[(0, y)]) (hy : a.eval y = .agg (ccl mp[t].2).toArray) => exec_cs1 (a := a) (op := op) y ho mp[t].2 HOK.out.1 hy wr)
              have HXL := Lib.hid (ccl_len HOK.out.1)
              have HX1 := Lib.hid (ccl_one mp[t].2)
              have HNX : Hid (rws ccl ((mp.map (·.2)).take t) ++ ccl mp[t].2 = rws ccl ((mp.map (·.2)).take (t + 1))) := Lib.hid (by
                rw [List.take_succ_eq_append_getElem (by simpa using htw), rws_append, rws_one, List.getElem_map])
              generalize K[t] = x at hkc HLK
              obtain ⟨X, hX⟩ : ∃ X, X = ccl mp[t].2 := ⟨_, rfl⟩
              rw [← hX] at HLK HEX HXL HX1 HNX
              have B7 := Blk.new wr X 30
              have hb8 := (Below.refl wr.heap.size wr).alloc (Nat.le_refl _) (.cells X.toArray 30)
              obtain ⟨W7, hW7⟩ : ∃ W7, W7 = wr.alloc (.cells X.toArray 30) := ⟨_, rfl⟩
              rw [← hW7] at B7 hb8 HEX
              have HRW3 := Lib.hid (row_later HRW.out hb8)
              have HBJ3 := Lib.hid (HBJ.out.trans (hb8.mono HBJ.out.size))
              have HS7 : Hid (Sees W7 W7.heap.size (some ⟨wr.heap.size, 0, none⟩) X) := Lib.hid (fun _ => ⟨wr.heap.size, 0, rfl, B7.lt, fun j hj => by rw [Nat.zero_add]; exact B7.cell (List.getElem?_eq_getElem hj)⟩)
              have HZ7 := Lib.hid HBJ3.out.size
              clear hX B7 hb8 hW7 HOK HKX HLOOK1 HOKW HKA HI5 HBJ HRW hci
              go_wp2_with (first
                | (refine wpList_exec (by rfl) (.agg X.toArray) (exec_lookM1 (.tmp 70) (.tmp 71) rfl x rfl rfl HLK.out) ?_
                   simp only [Act.put, List.setIfInBounds_toArray, List.set_cons_zero, List.set_cons_succ])
                | (refine wpList_execx (by rfl) (.slice (some ⟨wr.heap.size, 0, none⟩) 1 1) (HEX.out _ _ (.tmp 72) rfl rfl) ?_
                   simp only [Act.put, List.setIfInBounds_toArray, List.set_cons_zero, List.set_cons_succ])
                | (at_builtin
                   refine wpList_appk _ rfl (.tmp 69) (.tmp 73) 38 rfl w3.heap.size 30 i1 _ 27 280 Try.underlying38 ji jz0 jz1 jz2 rfl (by decide) (.slice AA t cc) t (rws ccl ((mp.map (·.2)).take t)) rfl HRW3.out _ (some ⟨wr.heap.size, 0, none⟩) 1 X 1 rfl (by rw [HXL.out]) HS7.out HX1.out (by unfold maxLen; omega) (by omega) HZ7.out ?_
                   intro A9 c9 w9 hr9 hb9 hg9 hat9
                   rw [HNX.out] at hr9
                   have HR9 := Lib.hid hr9
                   have HB9 := Lib.hid (HBJ3.out.trans hb9)
                   clear hr9 hg9 hat9 hb9)
                | fail)
              go_roundw
              case rel => exact ⟨t + 1, c9, A9, by omega, rfl, by go_num, HR9, HB9⟩
              case measure => simp [iOf]; omega
            · obtain rfl : t = q := by omega
              have HF : Hid (GivesA w (some (mp.map (·.2))) (.returned (.tuple #[.slice AA t cc, .bool true])) wr) := Lib.hid (by
                have h1 := HRW.out
                have hl : (mp.map (·.2)).length = t := by rw [List.length_map, ← HKL.out, HQ.out]
                rw [List.take_of_length_le (by omega)] at h1
                exact ⟨AA, t, cc, rfl, SeesR.of_row h1 hl (row_capi h1), HB3.out.trans (HBJ.out.mono HB3.out.size)⟩)
              clear HRW HKL HQ HBJ HLOOK1 HOKW HKA HKX HS3 HI4
              go_wp2_with fail
              go_ret2
              rw [HAA.out]
              exact HF.out
end Go.Proofs.Ytepefocpeeihdaa
