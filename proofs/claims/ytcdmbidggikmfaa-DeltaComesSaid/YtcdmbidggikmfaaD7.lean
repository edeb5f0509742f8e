/- Contracts of Go's library at this program: maps.Keys, slices.Sorted, slices.Sort at ints, laid by the shelf's own tools. No condition beside what each says. -/
import Derived.Shelf.SlIterI.Nil
import Derived.Shelf.SortM.Plain
import Derived.Shelf.SortM.SortNone
import Derived.Shelf.SlGeneric
import Derived.Test.YtcdmbidggikmfaaProg
import Derived.Test.YtcdmbidggikmfaaD3
import Derived.Test.YtcdmbidggikmfaaD5
import Derived.Test.YtcdmbidggikmfaaD6
import Derived.Test.YtcdmbidggikmfaaD4
namespace Go.Proofs.Ytcdmbidggikmfaa
open Go Go.Shelf
def Try.keysT_ren : Go.Shelf.Ren := ⟨fun | 7 => 30 | 10 => 34 | n => n, fun | 23 => 62 | 26 => 3 | 3 => 51 | 28 => 67 | 0 => 0 | 27 => 66 | 33 => 71 | 4 => 4 | n => n, fun | n => n⟩
theorem Try.keysT : Go.Proofs.SlLaysZI.n7 Try.prog Try.keysT_ren := {
  mixed := by kernel_rfl
  f7 := ⟨Try.f30.name, by decide, Try.func30.trans (congrArg some (by kernel_rfl))⟩
  f10 := ⟨Try.f34.name, by decide, Try.func34.trans (congrArg some (by kernel_rfl))⟩
  t0 := Try.underlying0
  a0 := Try.isAgg0
  z0 := Try.sizeOf0
  v0 := Try.zeroValue0
  t4 := Try.underlying4
  a4 := Try.isAgg4
  z4 := Try.sizeOf4
  v4 := Try.zeroValue4
  t23 := Try.underlying62
  a23 := Try.isAgg62
  z23 := Try.sizeOf62
  v23 := Try.zeroValue62
  t26 := Try.underlying3
  a26 := Try.isAgg3
  z26 := Try.sizeOf3
  v26 := Try.zeroValue3
  t27 := Try.underlying66
  a27 := Try.isAgg66
  z27 := Try.sizeOf66
  v27 := Try.zeroValue66
  t28 := Try.underlying67
  a28 := Try.isAgg67
  z28 := Try.sizeOf67
  v28 := Try.zeroValue67
  t33 := Try.underlying71
  a33 := Try.isAgg71
  z33 := Try.sizeOf71
  v33 := Try.zeroValue71 }
def Try.sortedI_ren : Go.Shelf.Ren := ⟨fun | 6 => 29 | 8 => 32 | 9 => 33 | 11 => 35 | 13 => 37 | 12 => 36 | 23 => 47 | 24 => 48 | 14 => 38 | 15 => 39 | 16 => 40 | 17 => 41 | 18 => 42 | 19 => 43 | 20 => 44 | 21 => 45 | 22 => 46 | 25 => 49 | 26 => 50 | 27 => 51 | 28 => 52 | 29 => 53 | 30 => 54 | 31 => 55 | n => n, fun | 26 => 3 | 28 => 67 | 24 => 64 | 0 => 0 | 3 => 3 | 37 => 75 | 48 => 38 | 50 => 86 | 4 => 4 | 40 => 78 | 39 => 77 | 45 => 61 | 5 => 5 | 9 => 9 | 51 => 87 | 55 => 91 | 57 => 93 | 58 => 94 | 33 => 71 | n => n, fun | n => n⟩
theorem Try.sortedI : Go.Proofs.SlLaysZI.n6 Try.prog Try.sortedI_ren := {
  mixed := by kernel_rfl
  f6 := ⟨Try.f29.name, by decide, Try.func29.trans (congrArg some (by kernel_rfl))⟩
  f8 := ⟨Try.f32.name, by decide, Try.func32.trans (congrArg some (by kernel_rfl))⟩
  f11 := ⟨Try.f35.name, by decide, Try.func35.trans (congrArg some (by kernel_rfl))⟩
  t0 := Try.underlying0
  a0 := Try.isAgg0
  z0 := Try.sizeOf0
  v0 := Try.zeroValue0
  t24 := Try.underlying64
  a24 := Try.isAgg64
  z24 := Try.sizeOf64
  v24 := Try.zeroValue64
  t26 := Try.underlying3
  a26 := Try.isAgg3
  z26 := Try.sizeOf3
  v26 := Try.zeroValue3
  t28 := Try.underlying67
  a28 := Try.isAgg67
  z28 := Try.sizeOf67
  v28 := Try.zeroValue67
  i26 := by kernel_rfl }
def Try.sortI_ren : Go.Shelf.Ren := ⟨fun | 5 => 33 | 8 => 37 | 7 => 36 | 19 => 47 | 20 => 48 | 10 => 38 | 11 => 39 | 12 => 40 | 13 => 41 | 14 => 42 | 15 => 43 | 16 => 44 | 17 => 45 | 18 => 46 | 30 => 49 | 31 => 50 | 32 => 51 | 33 => 52 | 34 => 53 | 35 => 54 | 40 => 55 | n => n, fun | 23 => 64 | 25 => 3 | 3 => 3 | 32 => 75 | 22 => 64 | 0 => 0 | 44 => 38 | 46 => 86 | 4 => 4 | 36 => 78 | 35 => 77 | 41 => 61 | 5 => 5 | 9 => 9 | 53 => 87 | 57 => 91 | 63 => 93 | 64 => 94 | n => n, fun | n => n⟩
theorem Try.sortI : Go.Proofs.SlLaysM.n5 Try.prog Try.sortI_ren := {
  mixed := by kernel_rfl
  f5 := ⟨Try.f33.name, by decide, Try.func33.trans (congrArg some (by kernel_rfl))⟩
  f7 := ⟨Try.f36.name, by decide, Try.func36.trans (congrArg some (by kernel_rfl))⟩
  f8 := Try.func37.trans (congrArg some (by kernel_rfl))
  f10 := ⟨Try.f38.name, by decide, Try.func38.trans (congrArg some (by kernel_rfl))⟩
  f11 := ⟨Try.f39.name, by decide, Try.func39.trans (congrArg some (by kernel_rfl))⟩
  f12 := ⟨Try.f40.name, by decide, Try.func40.trans (congrArg some (by kernel_rfl))⟩
  f13 := ⟨Try.f41.name, by decide, Try.func41.trans (congrArg some (by kernel_rfl))⟩
  f14 := ⟨Try.f42.name, by decide, Try.func42.trans (congrArg some (by kernel_rfl))⟩
  f15 := ⟨Try.f43.name, by decide, Try.func43.trans (congrArg some (by kernel_rfl))⟩
  f16 := ⟨Try.f44.name, by decide, Try.func44.trans (congrArg some (by kernel_rfl))⟩
  f17 := ⟨Try.f45.name, by decide, Try.func45.trans (congrArg some (by kernel_rfl))⟩
  f18 := ⟨Try.f46.name, by decide, Try.func46.trans (congrArg some (by kernel_rfl))⟩
  f19 := Try.func47.trans (congrArg some (by kernel_rfl))
  f20 := Try.func48.trans (congrArg some (by kernel_rfl))
  f30 := ⟨Try.f49.name, by decide, Try.func49.trans (congrArg some (by kernel_rfl))⟩
  f31 := Try.func50.trans (congrArg some (by kernel_rfl))
  f32 := Try.func51.trans (congrArg some (by kernel_rfl))
  f33 := ⟨Try.f52.name, by decide, Try.func52.trans (congrArg some (by kernel_rfl))⟩
  f34 := ⟨Try.f53.name, by decide, Try.func53.trans (congrArg some (by kernel_rfl))⟩
  f35 := ⟨Try.f54.name, by decide, Try.func54.trans (congrArg some (by kernel_rfl))⟩
  f40 := ⟨Try.f55.name, by decide, Try.func55.trans (congrArg some (by kernel_rfl))⟩
  t0 := Try.underlying0
  a0 := Try.isAgg0
  z0 := Try.sizeOf0
  v0 := Try.zeroValue0
  t3 := Try.underlying3
  a3 := Try.isAgg3
  z3 := Try.sizeOf3
  v3 := Try.zeroValue3
  t4 := Try.underlying4
  a4 := Try.isAgg4
  z4 := Try.sizeOf4
  v4 := Try.zeroValue4
  t5 := Try.underlying5
  a5 := Try.isAgg5
  z5 := Try.sizeOf5
  v5 := Try.zeroValue5
  t9 := Try.underlying9
  a9 := Try.isAgg9
  z9 := Try.sizeOf9
  v9 := Try.zeroValue9
  t22 := Try.underlying64
  a22 := Try.isAgg64
  z22 := Try.sizeOf64
  v22 := Try.zeroValue64
  t23 := Try.underlying64
  a23 := Try.isAgg64
  z23 := Try.sizeOf64
  v23 := Try.zeroValue64
  t25 := Try.underlying3
  a25 := Try.isAgg3
  z25 := Try.sizeOf3
  v25 := Try.zeroValue3
  t32 := Try.underlying75
  a32 := Try.isAgg75
  z32 := Try.sizeOf75
  v32 := Try.zeroValue75
  t35 := Try.underlying77
  a35 := Try.isAgg77
  z35 := Try.sizeOf77
  v35 := Try.zeroValue77
  t36 := Try.underlying78
  a36 := Try.isAgg78
  z36 := Try.sizeOf78
  v36 := Try.zeroValue78
  t41 := Try.underlying61
  a41 := Try.isAgg61
  z41 := Try.sizeOf61
  v41 := Try.zeroValue61
  t44 := Try.underlying38
  a44 := Try.isAgg38
  z44 := Try.sizeOf38
  v44 := Try.zeroValue38
  t46 := Try.underlying86
  a46 := Try.isAgg86
  z46 := Try.sizeOf86
  v46 := Try.zeroValue86
  t53 := Try.underlying87
  a53 := Try.isAgg87
  z53 := Try.sizeOf87
  v53 := Try.zeroValue87
  t57 := Try.underlying91
  a57 := Try.isAgg91
  z57 := Try.sizeOf91
  v57 := Try.zeroValue91
  t63 := Try.underlying93
  a63 := Try.isAgg93
  z63 := Try.sizeOf93
  v63 := Try.zeroValue93
  t64 := Try.underlying94
  a64 := Try.isAgg94
  z64 := Try.sizeOf94
  v64 := Try.zeroValue94 }
end Go.Proofs.Ytcdmbidggikmfaa

/- The keys of a map whose keys are ints, sorted: slices.Sorted(maps.Keys(m)). -/
namespace Go.Proofs.Ytcdmbidggikmfaa
set_option linter.unusedVariables false
set_option linter.unusedSimpArgs false
open Go Go.RowKit Go.Maps Go.Sort Go.Shelf

theorem row_le {w : World} {base : Nat} {e : TypeId} {size n c : Nat} {A : Option Addr} {xs : List Value} (h : w.ownsRow base e size (.slice A n c) n xs) : n ≤ c := by
  rcases h.2 with ⟨e, h0⟩ | ⟨g, cap, cur, e, hx⟩
  · cases e; omega
  · cases e; exact hx.2.2.1
theorem sortsI (m : Nat) : AnyZI.SortsIn Try.prog Try.sortedI_ren Fence.wide m :=
  ⟨fun blk off cap ss W hH hblk hsz => callsIn_wide.2 (AnyM.slices_Sort_int Try.sortI blk off cap ss W hH hblk hsz),
   fun p cap W => callsIn_wide.2 (AnyM.slices_Sort_int_none Try.sortI p cap W)⟩
/-- The keys of a map, sorted, are handed back in memory of the call's own. -/
def GivesK (w0 : Nat) (l : List Int) (e : Ending) (W w' : World) : Prop :=
  ∃ A c, e = .returned (.slice A l.length c) ∧ Sees w' w'.heap.size A (l.map fun x => Value.int .i64 x) ∧ l.length ≤ c ∧ Below W.heap.size W w'
theorem keysT_any (b : Nat) (W : World) : Calls Try.prog 30 #[.map (some b)] W fun e w' =>
    e = .returned (.func (.func 34) #[] #[.pointer (some ⟨W.heap.size, 0, none⟩)]) ∧ w' = W.alloc (.cells #[.map (some b)] 62) :=
  (callsIn_wide (n := 5)).1 (AnyZI.keys_in Try.keysT Fence.wide 5 trivial rfl (some b) W)
theorem sortedT_any {α : Type} (f : α → Value) (b N : Nat) (m : KV α) (w : World) (hr : KRise m) (hI : MapI Try.prog 3 w b N (vmap f m)) (hm : m.length ≤ 65536) :
    Calls Try.prog 29 #[.func (.func 34) #[] #[.pointer (some ⟨w.heap.size, 0, none⟩)]] (w.alloc (.cells #[.map (some b)] 62)) fun e w' =>
      GivesK w.heap.size (m.map (·.1)) e (w.alloc (.cells #[.map (some b)] 62)) w' := by
  refine (callsIn_wide (n := 5)).1 ?_
  have hown := hI.own
  have hbl := hown.lt
  have hsz : Maps.size (DataW.map ((vmap f m).map mlit) : DataW Value) = m.length := vmap_size f m
  have hseq : SeqGives Fence.wide 2 Try.prog 34 #[.pointer (some ⟨w.heap.size, 0, none⟩)] encZ (fun ss => ss.Perm (intKeys (DataW.map ((vmap f m).map mlit) : DataW Value))) (Maps.size (DataW.map ((vmap f m).map mlit) : DataW Value)) (w.alloc (.cells #[.map (some b)] 62)) :=
    AnyZI.keys_gives (ρ := Try.keysT_ren) { Try.keysT with } Fence.wide _ trivial rfl (by omega) w.heap.size b N _ _ (by simp) (by simp) (by
      obtain ⟨es, clock, hb, Ft, hs, hD⟩ := hown
      exact ⟨es, clock, (Below.heap_alloc _ _ b hbl).trans hb, Ft, hs, hD⟩)
  refine (AnyZI.sorted_in Try.sortedI Fence.wide 5 trivial trivial trivial trivial rfl (by omega) (sortsI _) (enters_of Try.func33 (by kernel_rfl) rfl) 34 #[.pointer (some ⟨w.heap.size, 0, none⟩)] trivial (enters_of Try.func34 (by kernel_rfl) rfl) _ _ (by rw [hsz]; unfold maxLen; omega) (by rw [hsz]; omega) _ hseq).mono ?_
  rintro e w' ⟨v, ss, rfl, hp, hrow, hnil, hb⟩
  have hl : ss.length = (m.map (·.1)).length := by
    have := hp.length_eq
    rw [vmap_keys] at this
    exact this
  rw [keys_sorted f hr hp] at hrow
  obtain ⟨A, c, rfl⟩ := row_form hrow
  refine ⟨A, c, by rw [hl], row_sees hrow, by rw [← hl]; exact row_le hrow, hb⟩
end Go.Proofs.Ytcdmbidggikmfaa

/- What turns come to: the program's Net. -/
namespace Go.Proofs.Ytcdmbidggikmfaa
set_option linter.unusedVariables false
set_option linter.unusedSimpArgs false
open Go Go.RowKit BitM

def tv64 (t : Tn) : Value := .agg (tcl t).toArray
theorem wmap_len (l : List Tn) : (wmap l).length ≤ l.length := by
  have h : ∀ (l : List Tn) (m : KV Tn), (l.foldl wstep m).length ≤ m.length + l.length := by
    intro l
    induction l with
    | nil => intro m; simp
    | cons t l ih =>
      intro m
      have h1 := ih (wstep m t)
      have h2 : (wstep m t).length ≤ m.length + 1 := kput_len _ _ _
      simp only [List.foldl_cons, List.length_cons]
      omega
  have := h l []
  simpa [wmap] using this
theorem wmap_at {l : List Tn} {k : Nat} (hk : k < (wmap l).length) : whole l (wmap l)[k].1 = some (wmap l)[k].2 := by
  rw [← wmap_get]
  exact kget_at (wmap_rise l) hk
theorem whole_mem {l : List Tn} {i : Int} {t : Tn} (h : whole l i = some t) : ∃ u ∈ l, u.id = i ∧ t.cd = u.cd ∧ t.id = i := by
  unfold whole at h
  split at h
  · rename_i f u hf hu
    cases h
    exact ⟨u, (last_id hu).2, (last_id hu).1, rfl, (last_id hu).1⟩
  · cases h
theorem kget_cd {l : List Tn} {i : Int} {t : Tn} (h : kget (wmap l) i = some t) (hok : ∀ t ∈ l, okCd t.cd) : okCd t.cd := by
  rw [wmap_get] at h
  obtain ⟨u, hu, _, e, _⟩ := whole_mem h
  rw [e]
  exact hok u hu
theorem tcl_set2 (t : Tn) (x : Int) : (tcl t).set 2 (.int .i64 x) = tcl { t with old := x } := rfl
set_option maxRecDepth 100000 in
set_option maxHeartbeats 6400000 in
theorem nets_any (A : Option Addr) (n c : Nat) (l : List Tn) (w : World) (h : SeesR tcl w A n c l) (hok : ∀ t ∈ l, okCd t.cd) (hwf : ∀ t ∈ l, (Lit.int .i64 t.id).wf = true) (hz : n ≤ 65000) :
    Calls Try.prog 23 #[.slice A n c] w (GivesS w (net l)) := by
  have hu := Try.underlying51
  have hui := Try.underlying54
  have hkk := Try.underlying3
  have hmt := Try.underlying62
  obtain ⟨i1, ji, jz0, jz1, jz2⟩ := info_itm
  have HS := Lib.hid h
  have HN := Lib.hid h.len
  have HTLN := Lib.hid (fun k (hk : k < l.length) => tcl_len (hok _ (List.getElem_mem hk)))
  have HWF := Lib.hid (fun k (hk : k < l.length) => hwf _ (List.getElem_mem hk))
  have HLEN : Hid ((wmap l).length ≤ n) := Lib.hid (by have := wmap_len l; have := h.len; omega)
  have HOKW : Hid (∀ k (hk : k < (wmap l).length), okCd (wmap l)[k].2.cd ∧ (Lit.int .i64 (wmap l)[k].1).wf = true) := Lib.hid (fun k hk => by
    obtain ⟨u, hu, e1, e2, e3⟩ := whole_mem (wmap_at hk)
    refine ⟨by rw [e2]; exact hok u hu, by rw [← e1]; exact hwf u hu⟩)
  have HCE : Hid (∀ k, k < l.length → ∃ b o, A = some ⟨b, o, none⟩ ∧ ∀ W, Below w.heap.size w W → ∀ k (hk : k < l.length), W.cell? ⟨b, o + k * 31, none⟩ = some (.int .i64 l[k].sq) ∧ W.cell? ⟨b, o + k * 31 + 1, none⟩ = some (.int .i64 l[k].id) ∧
      W.cell? ⟨b, o + k * 31 + 2, none⟩ = some (.int .i64 l[k].old) ∧ W.cell? ⟨b, o + k * 31 + 3, none⟩ = some (.int .i64 l[k].nw) ∧ W.rangeAt b (o + k * 31) (tcl l[k])) := Lib.hid (fun k hk => by
    obtain ⟨b, o, e, _, hc⟩ := turn_cells h hok (by omega)
    exact ⟨b, o, e, fun W hW k hk => ⟨(hc W hW k hk).1, (hc W hW k hk).2.1, (hc W hW k hk).2.2.1, (hc W hW k hk).2.2.2.1, (hc W hW k hk).2.2.2.2.1⟩⟩)
  obtain ⟨Z, hZ⟩ : ∃ Z, Z = tcl ⟨0, 0, 0, 0, zcd⟩ := ⟨_, rfl⟩
  have HZL := Lib.hid (show Z.length = 31 by rw [hZ]; rfl)
  have HZZ : Hid (Z.toArray = #[Value.int .i64 0, .int .i64 0, .int .i64 0, .int .i64 0, .int .i64 0, .int .i64 0, .int .u32 0, .int .i64 0, .int .i64 0, .string { data := #[] }, .int .i64 0, .int .i64 0, .string { data := #[] }, .int .i64 0, .int .i64 0, .string { data := #[] }, .int .i64 0, .int .i64 0, .string { data := #[] }, .int .i64 0, .int .i64 0, .string { data := #[] }, .int .i64 0, .int .i64 0, .string { data := #[] }, .int .i64 0, .int .i64 0, .string { data := #[] }, .int .i64 0, .int .i64 0, .string { data := #[] }]) := Lib.hid (by rw [hZ]; exact zc31)
  have HLOOK : Hid (∀ W gm N m x, MapI Try.prog 3 W gm N (vmap tv64 m) → (Lit.int .i64 x).wf = true → (Instr.lookup 62 (.map (some gm)) (.int .i64 x) true).run Try.prog W = .ok (.tuple #[((kget m x).map tv64).getD (.agg Z.toArray), .bool (kget m x).isSome]) W) := Lib.hid (fun W gm N m x hI hx => by
    have := hI.look2 hkk hmt (z := .agg Z.toArray) (by rw [hZ]; kernel_rfl) hx
    rw [vmap_get] at this
    rw [this, Option.isSome_map])
  have HLOOK1 : Hid (∀ W gm N m x u, MapI Try.prog 3 W gm N (vmap tv64 m) → (Lit.int .i64 x).wf = true → kget m x = some u → (Instr.lookup 62 (.map (some gm)) (.int .i64 x) false).run Try.prog W = .ok (.agg (tcl u).toArray) W) := Lib.hid (fun W gm N m x u hI hx hu => by
    have := hI.look1 hkk hmt (z := .agg Z.toArray) (by rw [hZ]; kernel_rfl) hx
    rw [vmap_get, hu] at this
    exact this)
  have HPUT : Hid (∀ k (hk : k < l.length), (kget (wmap (l.take k)) l[k].id = none → mput (vmap tv64 (wmap (l.take k))) l[k].id (.agg (tcl l[k]).toArray) = vmap tv64 (wmap (l.take (k + 1)))) ∧
      ∀ f, kget (wmap (l.take k)) l[k].id = some f → mput (vmap tv64 (wmap (l.take k))) l[k].id (.agg ((tcl l[k]).set 2 (.int .i64 f.old)).toArray) = vmap tv64 (wmap (l.take (k + 1)))) := Lib.hid (fun k hk => by
    rw [wmap_take hk]
    unfold wstep
    refine ⟨fun e => ?_, fun f e => ?_⟩
    · rw [e]
      exact vmap_put tv64 _ _ _
    · rw [e, tcl_set2]
      exact vmap_put tv64 _ _ _)
  have HKCD : Hid (∀ k x f, kget (wmap (l.take k)) x = some f → okCd f.cd) := Lib.hid (fun k x f e => kget_cd e (fun t ht => hok t (List.mem_of_mem_take ht)))
  have HRISE := Lib.hid (wmap_rise l)
  have HZ1 : Hid (∀ v ∈ Z, v.oneCell' = true) := Lib.hid (by rw [hZ]; exact tcl_one _)
  clear h hok hwf hZ
  go_enter Try.func23, Try.ntmps23
  go_wp2_with (first
    | (refine wpList_mkM (k := 3) rfl rfl ?_
       intro w1 hI1 hb1
       have HI1 : Hid (MapI Try.prog 3 w1 w.heap.size 0 (vmap tv64 (wmap (l.take 0)))) := Lib.hid hI1
       have HB1 := Lib.hid hb1
       clear hI1 hb1)
    | fail)
  go_loopw [15] (fun i wr => ∃ k : Nat, k ≤ n ∧ i = .int .i64 (k : Int) ∧ Hid (MapI Try.prog 3 wr w.heap.size k (vmap tv64 (wmap (l.take k)))) ∧ Hid (Below w.heap.size w wr)) (fun i _ => n - (iOf i).toNat)
  case atStart => exact ⟨0, by omega, rfl, HI1, HB1⟩
  case round =>
    clear HI1 HB1
    obtain ⟨k, hk, rfl, HI, HB⟩ := hrel
    by_cases hlt : k < n
    · have d0 : decide ((k : Int) < (n : Int)) = true := decide_eq_true (by omega)
      have hkl : k < l.length := by rw [HN.out]; exact hlt
      obtain ⟨b, o, rfl, hcc⟩ := HCE.out k hkl
      have HCC := Lib.hid hcc
      have HWK := Lib.hid (HWF.out k hkl)
      have HPK := Lib.hid (HPUT.out k hkl)
      have HLK := Lib.hid (fun W gm N x => HLOOK.out W gm N (wmap (l.take k)) x)
      have HKC := Lib.hid (fun x f => HKCD.out k x f)
      obtain ⟨TT, hTT⟩ : ∃ TT, TT = tcl l[k] := ⟨_, rfl⟩
      have hrg := (HCC.out wr HB.out k hkl).2.2.2.2
      have HTL := Lib.hid (HTLN.out k hkl)
      have HT1 := Lib.hid (tcl_one l[k])
      have HTC : Hid (∀ W, Blk W wr.heap.size TT → W.cell? ⟨wr.heap.size, 0, none⟩ = some (.int .i64 l[k].sq) ∧ W.cell? ⟨wr.heap.size, 1, none⟩ = some (.int .i64 l[k].id) ∧ W.cell? ⟨wr.heap.size, 2, none⟩ = some (.int .i64 l[k].old) ∧ W.cell? ⟨wr.heap.size, 3, none⟩ = some (.int .i64 l[k].nw)) := Lib.hid (fun W hW => by
        rw [hTT] at hW
        exact ⟨hW.cell (j := 0) rfl, hW.cell (j := 1) rfl, hW.cell (j := 2) rfl, hW.cell (j := 3) rfl⟩)
      rw [← hTT] at hrg HTL HT1
      have B1 := Blk.new wr Z 51
      have hb2 := (Below.refl wr.heap.size wr).alloc (Nat.le_refl _) (.cells Z.toArray 51)
      have TH1 := B1.there 0 31 (by rw [HZL.out]; omega)
      obtain ⟨W1, hW1⟩ : ∃ W1, W1 = (wr.alloc (.cells Z.toArray 51)).setCells wr.heap.size 0 TT := ⟨_, rfl⟩
      have HBI : Hid (Blk W1 wr.heap.size TT) := Lib.hid (by rw [hW1]; exact B1.whole (by rw [HZL.out, HTL.out]))
      have hb3 : Below wr.heap.size wr W1 := by rw [hW1]; exact below_sets (Nat.le_refl _) _ _ hb2
      have HBE := Lib.hid (HB.out.trans (hb3.mono HB.out.size))
      have HLE := Lib.hid hb3
      have HW1 := Lib.hid hW1
      rw [HZZ.out] at TH1
      rw [← hTT] at HPK
      have HI2 := Lib.hid (HI.out.later HLE.out)
      have hlk := HLK.out W1 w.heap.size k l[k].id HI2.out HWK.out
      have HGM : Hid (w.heap.size < wr.heap.size) := Lib.hid HI.out.lt
      have HTX : Hid (TT[1]? = some (.int .i64 l[k].id)) := Lib.hid (by rw [hTT]; rfl)
      generalize l[k].id = x at HTC HWK HPK hlk HTX
      generalize l[k].old = y at HTC
      generalize l[k].nw = z at HTC
      generalize l[k].sq = q at HTC
      clear hcc hTT HS B1 hb2 hW1 hb3 HCE HCC HLOOK HLOOK1 HPUT HWF HI HB HTLN HOKW HLEN HKCD HRISE HLK
      have hx0 := (HTC.out W1 HBI.out).2.1
      have B5 := Blk.new W1 Z 51
      have hb5 := (Below.refl W1.heap.size W1).alloc (Nat.le_refl _) (.cells Z.toArray 51)
      have TH5 := B5.there 0 31 (by rw [HZL.out]; omega)
      cases hla : kget (wmap (l.take k)) x with
      | none =>
        rw [hla] at hlk
        have HLK := Lib.hid (show (Instr.lookup 62 (.map (some w.heap.size)) (.int .i64 x) true).run Try.prog W1 = .ok (.tuple #[.agg Z.toArray, .bool false]) W1 from hlk)
        have HPN := Lib.hid (HPK.out.1 hla)
        obtain ⟨W2, hW2⟩ : ∃ W2, W2 = (W1.alloc (.cells Z.toArray 51)).setCells W1.heap.size 0 Z := ⟨_, rfl⟩
        have hb6 : Below W1.heap.size W1 W2 := by rw [hW2]; exact below_sets (Nat.le_refl _) _ _ hb5
        have HBI2 := Lib.hid (HBI.out.later hb6)
        have HI3 := Lib.hid (HI2.out.later hb6)
        have HB2 := Lib.hid (HBE.out.trans (hb6.mono HBE.out.size))
        have x1 := (HTC.out W2 HBI2.out).2.1
        have RG := HBI2.out.wholeC
        have HW2 := Lib.hid hW2
        rw [HZZ.out] at TH5
        clear hla hlk HPK B5 hb5 hb6 hW2 HKC
        go_wp2_with (first
          | (refine wpList_load_mid rfl 51 (.tmp 17) rfl b (o + k * 31) rfl TT _ hrg hu rfl (by rw [HTL.out]; exact info_turn) ?_
             simp only [Act.put, List.setIfInBounds_toArray, List.set_cons_zero, List.set_cons_succ])
          | (refine wpList_store_mid rfl 51 (.tmp 5) (.tmp 18) rfl wr.heap.size 0 TT.toArray rfl rfl (by simpa [HTL.out] using TH1) (by simpa [HTL.out] using info_turn) (all_oneCell_toArray HT1.out) ?_
             rw [← HZZ.out, ← HW1.out]
             clear TH1 hrg HT1)
          | (refine wpList_exec (by rfl) (.tuple #[.agg Z.toArray, .bool false]) (exec_lookM2 (.tmp 20) (.tmp 22) rfl x rfl rfl HLK.out) ?_
             simp only [Act.put, List.setIfInBounds_toArray, List.set_cons_zero, List.set_cons_succ])
          | (refine wpList_store_mid rfl 51 (.tmp 6) (.tmp 24) rfl W1.heap.size 0 Z.toArray rfl rfl (by simpa [HZL.out] using TH5) (by simpa [HZL.out] using info_turn) (all_oneCell_toArray HZ1.out) ?_
             rw [← HZZ.out, ← HW2.out]
             clear TH5)
          | (refine wpList_load_mid rfl 51 (.tmp 5) rfl wr.heap.size 0 rfl TT _ RG hu rfl (by rw [HTL.out]; exact info_turn) ?_
             simp only [Act.put, List.setIfInBounds_toArray, List.set_cons_zero, List.set_cons_succ])
          | (refine wpList_putM rfl (.tmp 30) (.tmp 32) (.tmp 33) x rfl HI3.out hkk hmt (by unfold maxLen; omega) rfl rfl HWK.out (.agg TT.toArray) rfl ?_
             intro w4 hI4 hg4
             rw [HPN.out] at hI4
             have HI4 := Lib.hid hI4
             have HB4 := Lib.hid (HB2.out.trans (below_rowM hg4 (Nat.le_refl _) HB2.out.size))
             clear hI4 hg4)
          | fail)
        go_roundw
        case rel => exact ⟨k + 1, by omega, by go_num, HI4, HB4⟩
        case measure => simp [iOf]; omega
      | some f =>
        rw [hla] at hlk
        obtain ⟨FF, hFF⟩ : ∃ FF, FF = tcl f := ⟨_, rfl⟩
        have hfl : FF.length = 31 := by rw [hFF]; exact tcl_len (HKC.out x f hla)
        have hf1 : ∀ v ∈ FF, v.oneCell' = true := by rw [hFF]; exact tcl_one f
        have HLK := Lib.hid (show (Instr.lookup 62 (.map (some w.heap.size)) (.int .i64 x) true).run Try.prog W1 = .ok (.tuple #[.agg FF.toArray, .bool true]) W1 from by rw [hFF]; exact hlk)
        have HPN := Lib.hid (HPK.out.2 f hla)
        obtain ⟨W2, hW2⟩ : ∃ W2, W2 = (W1.alloc (.cells Z.toArray 51)).setCells W1.heap.size 0 FF := ⟨_, rfl⟩
        have hb6 : Below W1.heap.size W1 W2 := by rw [hW2]; exact below_sets (Nat.le_refl _) _ _ hb5
        have BF : Blk W2 W1.heap.size FF := by rw [hW2]; exact B5.whole (by rw [HZL.out, hfl])
        have HBI2 := Lib.hid (HBI.out.later hb6)
        have HB2 := Lib.hid (HBE.out.trans (hb6.mono HBE.out.size))
        have f2 : W2.cell? ⟨W1.heap.size, 2, none⟩ = some (.int .i64 f.old) := by rw [hFF] at BF; exact BF.cell (j := 2) rfl
        have x2 := (HTC.out W2 HBI2.out).2.2.1
        have z2 := HBI2.out.frozen 2
        have HI3 := Lib.hid ((HI2.out.later hb6).setCell (a := ⟨wr.heap.size, 2, none⟩) (by show w.heap.size ≠ wr.heap.size; exact Nat.ne_of_lt HGM.out) (.int .i64 f.old))
        have HBI3 := Lib.hid (HBI2.out.set 2 (.int .i64 f.old))
        have HB3 := Lib.hid (HB2.out.setCell (p := ⟨wr.heap.size, 2, none⟩) (by show w.heap.size ≤ wr.heap.size; exact Nat.le_of_lt HGM.out) (.int .i64 f.old))
        have x1 : (W2.setCell ⟨wr.heap.size, 2, none⟩ (.int .i64 f.old)).cell? ⟨wr.heap.size, 1, none⟩ = some (.int .i64 x) := by
          have := (HTC.out W2 HBI2.out).2.1
          have h2 : TT[1]? = some (.int .i64 x) := HTX.out
          exact HBI3.out.cell (j := 1) (by rw [List.getElem?_set_ne (by omega)]; exact h2)
        have RG := HBI3.out.wholeC
        have HW2 := Lib.hid hW2
        have HFL := Lib.hid hfl
        have HF1 := Lib.hid hf1
        rw [HZZ.out] at TH5
        obtain ⟨T3, hT3⟩ : ∃ T3, T3 = TT.set 2 (.int .i64 f.old) := ⟨_, rfl⟩
        have HT3 := Lib.hid (show T3.length = 31 by rw [hT3, List.length_set, HTL.out])
        rw [← hT3] at RG HPN
        generalize f.old = fo at f2 x1 RG HI3 HB3
        clear hla hlk HPK B5 hb5 hb6 hW2 HKC BF hFF hfl hf1 hT3 HBI3
        go_wp2_with (first
          | (refine wpList_load_mid rfl 51 (.tmp 17) rfl b (o + k * 31) rfl TT _ hrg hu rfl (by rw [HTL.out]; exact info_turn) ?_
             simp only [Act.put, List.setIfInBounds_toArray, List.set_cons_zero, List.set_cons_succ])
          | (refine wpList_store_mid rfl 51 (.tmp 5) (.tmp 18) rfl wr.heap.size 0 TT.toArray rfl rfl (by simpa [HTL.out] using TH1) (by simpa [HTL.out] using info_turn) (all_oneCell_toArray HT1.out) ?_
             rw [← HZZ.out, ← HW1.out]
             clear TH1 hrg HT1)
          | (refine wpList_exec (by rfl) (.tuple #[.agg FF.toArray, .bool true]) (exec_lookM2 (.tmp 20) (.tmp 22) rfl x rfl rfl HLK.out) ?_
             simp only [Act.put, List.setIfInBounds_toArray, List.set_cons_zero, List.set_cons_succ])
          | (refine wpList_store_mid rfl 51 (.tmp 6) (.tmp 24) rfl W1.heap.size 0 FF.toArray rfl rfl (by simpa [HFL.out] using TH5) (by simpa [HFL.out] using info_turn) (all_oneCell_toArray HF1.out) ?_
             rw [← HZZ.out, ← HW2.out]
             clear TH5)
          | (refine wpList_load_mid rfl 51 (.tmp 5) rfl wr.heap.size 0 rfl T3 _ RG hu rfl (by rw [HT3.out]; exact info_turn) ?_
             simp only [Act.put, List.setIfInBounds_toArray, List.set_cons_zero, List.set_cons_succ])
          | (refine wpList_putM rfl (.tmp 30) (.tmp 32) (.tmp 33) x rfl HI3.out hkk hmt (by unfold maxLen; omega) rfl rfl HWK.out (.agg T3.toArray) rfl ?_
             intro w4 hI4 hg4
             rw [HPN.out] at hI4
             have HI4 := Lib.hid hI4
             have HB4 := Lib.hid (HB3.out.trans (below_rowM hg4 (Nat.le_refl _) HB3.out.size))
             clear hI4 hg4)
          | fail)
        go_roundw
        case rel => exact ⟨k + 1, by omega, by go_num, HI4, HB4⟩
        case measure => simp [iOf]; omega
    · obtain rfl : k = n := by omega
      have HI2 : Hid (MapI Try.prog 3 wr w.heap.size k (vmap tv64 (wmap l))) := Lib.hid (by
        have := HI.out
        rwa [List.take_of_length_le (by rw [HN.out]; exact Nat.le_refl _)] at this)
      obtain ⟨K, hK⟩ : ∃ K, K = (wmap l).map (·.1) := ⟨_, rfl⟩
      have HSO := Lib.hid (sortedT_any tv64 w.heap.size k (wmap l) wr HRISE.out HI2.out (by have := HLEN.out; omega))
      rw [← hK] at HSO
      have HKL : Hid (K.length = (wmap l).length) := Lib.hid (by rw [hK, List.length_map])
      have HKX : Hid (∀ j (hj : j < K.length) (hj2 : j < (wmap l).length), K[j] = (wmap l)[j].1) := Lib.hid (fun j hj hj2 => by subst hK; simp)
      have hKn : K.length ≤ k := by rw [hK, List.length_map]; exact HLEN.out
      have HB2 : Hid (Below w.heap.size w (wr.alloc (.cells #[.map (some w.heap.size)] 62))) := Lib.hid (HB.out.alloc HB.out.size _)
      have HI3 := Lib.hid (HI2.out.later ((Below.refl wr.heap.size wr).alloc (Nat.le_refl _) (.cells #[.map (some w.heap.size)] 62)))
      have HAT : Hid (∀ j (hj : j < (wmap l).length), kget (wmap l) (wmap l)[j].1 = some (wmap l)[j].2) := Lib.hid (fun j hj => kget_at HRISE.out hj)
      clear hK HI HB HI2 HCE HTLN HS HWF HPUT HKCD HLOOK HLEN HRISE HN
      go_wp2_with fail
      refine (keysT_any _ _).mono ?_
      rintro e w2 ⟨rfl, rfl⟩
      go_wp2_with fail
      refine HSO.out.mono ?_
      rintro e w3 ⟨A3, c3, rfl, hs3, hc3, hb3⟩
      have HS3 := Lib.hid hs3
      have HB3 := Lib.hid (HB2.out.trans (hb3.mono HB2.out.size))
      have HI4 := Lib.hid (HI3.out.later hb3)
      have HR0 := Lib.hid (World.ownsRow_nil w3 w3.heap.size 54 28)
      obtain ⟨m, hm⟩ : ∃ m, m = K.length := ⟨_, rfl⟩
      rw [← hm] at hc3 hKn
      rw [← hm]
      have HM := Lib.hid hm
      clear hs3 hb3 HB2 HI3 HSO hm
      go_wp2_with fail
      go_loopw [8, 39] (fun v i wr => ∃ (j mm cc : Nat) (AA : Option Addr), j ≤ m ∧ v = .slice AA mm cc ∧ i = .int .i64 (j : Int) ∧ mm ≤ j ∧ Hid (mm = (((wmap l).take j).filterMap pick).length) ∧ Hid (wr.ownsRow w3.heap.size 54 28 (.slice AA mm cc) mm (rws icl (((wmap l).take j).filterMap pick))) ∧ Hid (Below w3.heap.size w3 wr)) (fun _ i _ => m - (iOf i).toNat)
      case atStart => exact ⟨0, 0, 0, none, by omega, rfl, rfl, by omega, Lib.hid rfl, HR0, Lib.hid (Below.refl _ _)⟩
      case round =>
        clear HR0
        obtain ⟨j, mm, cc, AA, hj, rfl, rfl, hmm, HMM, HRW, HBJ⟩ := hrel
        by_cases hlt : j < m
        · have d0 : decide ((j : Int) < (m : Int)) = true := decide_eq_true (by omega)
          have hjk : j < K.length := by rw [← HM.out]; exact hlt
          have hjw : j < (wmap l).length := by rw [← HKL.out]; exact hjk
          have HBW := Lib.hid (HB3.out.trans (HBJ.out.mono HB3.out.size))
          obtain ⟨b2, o2, rfl, hb2, hci⟩ := ((HS3.out.below HBJ.out).more HBJ.out.size) (by rw [List.length_map]; omega)
          have hkc : wr.cell? ⟨b2, o2 + j, none⟩ = some (.int .i64 K[j]) := by
            have := hci j (by simpa using hjk)
            simpa using this
          have HI5 := Lib.hid (HI4.out.later HBJ.out)
          have HOK := Lib.hid (HOKW.out j hjw)
          have HLK : Hid ((Instr.lookup 62 (.map (some w.heap.size)) (.int .i64 K[j]) false).run Try.prog wr = .ok (.agg (tcl (wmap l)[j].2).toArray) wr) := Lib.hid (by
            rw [HKX.out j hjk hjw]
            exact HLOOK1.out wr w.heap.size k (wmap l) _ _ HI5.out HOK.out.2 (HAT.out j hjw))
          have HPT := Lib.hid (pick_take hjw)
          generalize K[j] = x at hkc HLK
          have HOK1 := Lib.hid HOK.out.1
          have HPN : Hid ((wmap l)[j].2.old = (wmap l)[j].2.nw → ((wmap l).take (j + 1)).filterMap pick = ((wmap l).take j).filterMap pick) := Lib.hid (fun e => by
            rw [HPT.out]; unfold pick; rw [if_pos e]; simp)
          have HPY : Hid ((wmap l)[j].2.old ≠ (wmap l)[j].2.nw → ((wmap l).take (j + 1)).filterMap pick = ((wmap l).take j).filterMap pick ++ [itm (wmap l)[j].2]) := Lib.hid (fun e => by
            rw [HPT.out]; unfold pick; rw [if_neg e])
          generalize (wmap l)[j].2 = u at HLK HOK1 HPN HPY
          obtain ⟨UU, hUU⟩ : ∃ UU, UU = tcl u := ⟨_, rfl⟩
          have hul : UU.length = 31 := by rw [hUU]; exact tcl_len HOK1.out
          have hu1 : ∀ v ∈ UU, v.oneCell' = true := by rw [hUU]; exact tcl_one u
          have HIT := Lib.hid (fun wx => item_any u wx HOK1.out)
          rw [← hUU] at HLK HIT
          have B1 := Blk.new wr Z 51
          have hb5 := (Below.refl wr.heap.size wr).alloc (Nat.le_refl _) (.cells Z.toArray 51)
          have TH1 := B1.there 0 31 (by rw [HZL.out]; omega)
          obtain ⟨W1, hW1⟩ : ∃ W1, W1 = (wr.alloc (.cells Z.toArray 51)).setCells wr.heap.size 0 UU := ⟨_, rfl⟩
          have BU : Blk W1 wr.heap.size UU := by rw [hW1]; exact B1.whole (by rw [HZL.out, hul])
          have hb6 : Below wr.heap.size wr W1 := by rw [hW1]; exact below_sets (Nat.le_refl _) _ _ hb5
          have u2 : W1.cell? ⟨wr.heap.size, 2, none⟩ = some (.int .i64 u.old) := by rw [hUU] at BU; exact BU.cell (j := 2) rfl
          have u3 : W1.cell? ⟨wr.heap.size, 3, none⟩ = some (.int .i64 u.nw) := by rw [hUU] at BU; exact BU.cell (j := 3) rfl
          have RG := BU.wholeC
          have HBJ1 := Lib.hid (HBJ.out.trans (hb6.mono HBJ.out.size))
          have HRW1 := Lib.hid (row_later HRW.out hb6)
          have HW1 := Lib.hid hW1
          have HUL := Lib.hid hul
          have HU1 := Lib.hid hu1
          have HIO : Hid (okCd (itm u).cd) := Lib.hid (okCd_itm HOK1.out)
          generalize u.old = y at HPN HPY u2
          generalize u.nw = z at HPN HPY u3
          rw [HZZ.out] at TH1
          clear hUU hul hu1 B1 hb5 hW1 BU hb6 HPT HOK HKX HLOOK1 HOKW HAT HI5 HBJ HRW hci HBW
          by_cases hyz : y = z
          · have dy : decide (y = z) = true := decide_eq_true hyz
            have dy' : (y != z) = false := by simpa using hyz
            have HG := Lib.hid (HPN.out hyz)
            clear hyz HPN HPY HIT
            go_wp2_with (first
              | (refine wpList_exec (by rfl) (.agg UU.toArray) (exec_lookM1 (.tmp 43) (.tmp 44) rfl x rfl rfl HLK.out) ?_
                 simp only [Act.put, List.setIfInBounds_toArray, List.set_cons_zero, List.set_cons_succ])
              | (refine wpList_store_mid rfl 51 (.tmp 11) (.tmp 45) rfl wr.heap.size 0 UU.toArray rfl rfl (by simpa [HUL.out] using TH1) (by simpa [HUL.out] using info_turn) (all_oneCell_toArray HU1.out) ?_
                 rw [← HZZ.out, ← HW1.out]
                 clear TH1)
              | fail)
            go_roundw
            case rel => exact ⟨j + 1, mm, cc, AA, by omega, rfl, by go_num, by omega, Lib.hid (by rw [HG.out]; exact HMM.out), Lib.hid (by rw [HG.out]; exact HRW1.out), HBJ1⟩
            case measure => simp [iOf]; omega
          · have dy : decide (y = z) = false := decide_eq_false hyz
            have dy' : (y != z) = true := by simpa using hyz
            have HG := Lib.hid (HPY.out hyz)
            clear hyz HPN HPY
            go_wp2_with (first
              | (refine wpList_exec (by rfl) (.agg UU.toArray) (exec_lookM1 (.tmp 43) (.tmp 44) rfl x rfl rfl HLK.out) ?_
                 simp only [Act.put, List.setIfInBounds_toArray, List.set_cons_zero, List.set_cons_succ])
              | (refine wpList_store_mid rfl 51 (.tmp 11) (.tmp 45) rfl wr.heap.size 0 UU.toArray rfl rfl (by simpa [HUL.out] using TH1) (by simpa [HUL.out] using info_turn) (all_oneCell_toArray HU1.out) ?_
                 rw [← HZZ.out, ← HW1.out]
                 clear TH1)
              | (refine wpList_load_mid rfl 51 (.tmp 11) rfl wr.heap.size 0 rfl UU _ RG hu rfl (by rw [HUL.out]; exact info_turn) ?_
                 simp only [Act.put, List.setIfInBounds_toArray, List.set_cons_zero, List.set_cons_succ])
              | fail)
            refine (HIT.out _).mono ?_
            rintro e w5 ⟨rfl, hb7⟩
            have HBJ2 := Lib.hid (HBJ1.out.trans (hb7.mono HBJ1.out.size))
            have HRW2 := Lib.hid (row_later HRW1.out hb7)
            have HEX := Lib.hid (fun (a : Act) (op : Oper) (y : Operand) (ho : op.op = .buildSlice 27 1 #[(0, y)]) (hy : a.eval y = .agg (icl (itm u)).toArray) => exec_is1 (a := a) (op := op) y ho (itm u) HIO.out hy w5)
            obtain ⟨X, hX⟩ : ∃ X, X = icl (itm u) := ⟨_, rfl⟩
            have hxl : X.length = 28 := by rw [hX]; exact icl_len HIO.out
            have hx1 : ∀ v ∈ X, v.oneCell' = true := by rw [hX]; exact icl_one _
            rw [← hX] at HEX
            rw [← hX]
            have B7 := Blk.new w5 X 54
            have hb8 := (Below.refl w5.heap.size w5).alloc (Nat.le_refl _) (.cells X.toArray 54)
            obtain ⟨W7, hW7⟩ : ∃ W7, W7 = w5.alloc (.cells X.toArray 54) := ⟨_, rfl⟩
            rw [← hW7] at B7 hb8 HEX
            have HRW3 := Lib.hid (row_later HRW2.out hb8)
            have HBJ3 := Lib.hid (HBJ2.out.trans (hb8.mono HBJ2.out.size))
            have HS7 : Hid (Sees W7 W7.heap.size (some ⟨w5.heap.size, 0, none⟩) X) := Lib.hid (fun _ => ⟨w5.heap.size, 0, rfl, B7.lt, fun j hj => by rw [Nat.zero_add]; exact B7.cell (List.getElem?_eq_getElem hj)⟩)
            have HZ7 := Lib.hid HBJ3.out.size
            have HRN : Hid (rws icl (((wmap l).take j).filterMap pick) ++ X = rws icl (((wmap l).take (j + 1)).filterMap pick)) := Lib.hid (by rw [HG.out, rws_append, rws_one, hX])
            have HLN : Hid (mm + 1 = (((wmap l).take (j + 1)).filterMap pick).length) := Lib.hid (by rw [HG.out, List.length_append, ← HMM.out]; rfl)
            have HXL := Lib.hid hxl
            have HX1 := Lib.hid hx1
            clear hb7 hX hxl hx1 B7 hb8 hW7 HIT RG u2 u3 hkc HLK HBJ1 HRW1 HBJ2 HRW2 HW1
            go_wp2_with (first
              | (refine wpList_execx (by rfl) (.slice (some ⟨w5.heap.size, 0, none⟩) 1 1) (HEX.out _ _ (.tmp 53) rfl rfl) ?_
                 simp only [Act.put, List.setIfInBounds_toArray, List.set_cons_zero, List.set_cons_succ])
              | (at_builtin
                 refine wpList_appk _ rfl (.tmp 51) (.tmp 54) 27 rfl w3.heap.size 54 i1 _ 28 288 Try.underlying27 ji jz0 jz1 jz2 rfl (by decide) (.slice AA mm cc) mm (rws icl (((wmap l).take j).filterMap pick)) rfl HRW3.out _ (some ⟨w5.heap.size, 0, none⟩) 1 X 1 rfl (by rw [HXL.out]) HS7.out HX1.out (by unfold maxLen; omega) (by omega) HZ7.out ?_
                 intro A9 c9 w9 hr9 hb9 hg9 hat9
                 rw [HRN.out] at hr9
                 have HR9 := Lib.hid hr9
                 have HB9 := Lib.hid (HBJ3.out.trans hb9)
                 clear hr9 hg9 hat9 hb9)
              | fail)
            go_roundw
            case rel => exact ⟨j + 1, mm + 1, c9, A9, by omega, rfl, by go_num, by omega, HLN, HR9, HB9⟩
            case measure => simp [iOf]; omega
        · obtain rfl : j = m := by omega
          have HF : Hid (GivesS w (net l) (.returned (.slice AA mm cc)) wr) := Lib.hid (by
            have h1 := HRW.out
            have h2 := HMM.out
            rw [List.take_of_length_le (by have := HKL.out; have := HM.out; omega)] at h1 h2
            refine ⟨AA, cc, by unfold net; rw [← h2], ?_, HB3.out.trans (HBJ.out.mono HB3.out.size)⟩
            unfold net
            rw [← h2]
            exact SeesR.of_row h1 h2.symm (row_capi h1))
          clear HRW HMM HKL HM HBJ HLOOK1 HOKW HAT HKX HS3 HI4
          go_wp2_with fail
          go_ret
          exact HF.out
end Go.Proofs.Ytcdmbidggikmfaa

/- As many turns as fit into a page: the program's Cut and Steps. -/
namespace Go.Proofs.Ytcdmbidggikmfaa
set_option linter.unusedVariables false
set_option linter.unusedSimpArgs false
open Go Go.RowKit BitM

theorem goes_num {l : List Tn} (h : goes l = true) : ∀ t ∈ l, (1 ≤ t.sq ∧ t.sq ≤ 1099511627776) ∧ (1 ≤ t.id ∧ t.id < 1073741824) := fun t ht => by
  obtain ⟨k, hk, rfl⟩ := List.getElem_of_mem ht
  have h1 := goes_at h hk
  rw [goAt_here hk, Bool.and_eq_true, Bool.and_eq_true] at h1
  have h2 := h1.1.1
  unfold tmay at h2
  rw [Bool.and_eq_true] at h2
  have h3 := of_decide_eq_true h2.1
  omega
theorem goes_wf2 {l : List Tn} (h : goes l = true) : ∀ t ∈ l, (Lit.int .i64 t.id).wf = true := fun t ht => wf_small (by have := (goes_num h t ht).2; omega)
def pgN (page : Int) : Nat := (max page 0).toNat
theorem pgN_eq (page : Int) : ((pgN page : Nat) : Int) = max page 0 := by unfold pgN; omega
/-- Items, and up to which step. -/
def GivesC (w : World) (L : List Im) (to : Int) (e : Ending) (w' : World) : Prop :=
  ∃ A' c', e = .returned (.tuple #[.slice A' L.length c', .int .i64 to]) ∧ SeesR icl w' A' L.length c' L ∧ Below w.heap.size w w'
theorem upl_len (l : List Tn) (a b c : Int) : (upl l a b c).length ≤ l.length := List.length_filter_le _ _
theorem upl_all {Q : Tn → Prop} {l : List Tn} (h : ∀ t ∈ l, Q t) (a b c : Int) : ∀ t ∈ upl l a b c, Q t := fun t ht => h t (upl_mem.1 ht).1
set_option maxRecDepth 100000 in
set_option maxHeartbeats 3200000 in
theorem dcut_any (A : Option Addr) (n c : Nat) (l : List Tn) (fr now cu page : Int) (w : World) (h : SeesR tcl w A n c l) (hok : ∀ t ∈ l, okCd t.cd) (hg : goes l = true) (hf : fr ≤ now) (hz : n ≤ 65000) :
    Calls Try.prog 9 #[.slice A n c, .int .i64 fr, .int .i64 now, .int .i64 cu, .int .i64 page] w (GivesC w (net (cutL l fr now cu (pgN page))) (cutTo l fr now cu (pgN page))) := by
  obtain ⟨U, hU⟩ : ∃ U, U = upl l fr now cu := ⟨_, rfl⟩
  have hUl : U.length ≤ 65000 := by rw [hU]; have := upl_len l fr now cu; have := h.len; omega
  have hUo : ∀ t ∈ U, okCd t.cd := by rw [hU]; exact upl_all hok _ _ _
  have hUn : ∀ t ∈ U, 0 ≤ t.sq ∧ t.sq ≤ 1099511627776 := by rw [hU]; exact upl_all (fun t ht => by have := (goes_num hg t ht).1; omega) _ _ _
  have hUw : ∀ t ∈ U, (Lit.int .i64 t.id).wf = true := by rw [hU]; exact upl_all (goes_wf2 hg) _ _ _
  have hUc : chainT U := by rw [hU]; exact upl_chain (goes_srise hg) (goes_chain hg) _ _ _
  obtain ⟨TT, hTT⟩ : ∃ TT, TT = cutTo l fr now cu (pgN page) := ⟨_, rfl⟩
  have hTT2 : stepAt U now (cutN U (pgN page)) = TT := by rw [hTT, hU]; rfl
  have hin := cutTo_in (l := l) (c := cu) hf (pgN page)
  rw [← hTT] at hin
  have hV : upl U fr TT cu = cutL l fr now cu (pgN page) := by rw [hU, upl_twice l hin.2, hTT]; exact cutL_up (goes_srise hg) hf _
  obtain ⟨V, hVV⟩ : ∃ V, V = cutL l fr now cu (pgN page) := ⟨_, rfl⟩
  have hVm : ∀ t ∈ V, t ∈ U := fun t ht => by rw [hVV, ← hV] at ht; exact (upl_mem.1 ht).1
  have HVl : Hid (V.length ≤ 65000) := Lib.hid (by rw [hVV, ← hV]; exact Nat.le_trans (upl_len _ _ _ _) hUl)
  have H1 := Lib.hid (upto_any A n c l fr now cu w h hok hz)
  have H2 := Lib.hid (fun A1 c1 (w1 : World) (h1 : SeesR tcl w1 A1 U.length c1 U) => last_any A1 U.length c1 U fr now (pgN page) w1 h1 hUo hUw hUn hUc hUl)
  have H3 := Lib.hid (fun A1 c1 (w1 : World) (h1 : SeesR tcl w1 A1 U.length c1 U) => upto_any A1 U.length c1 U fr TT cu w1 h1 hUo hUl)
  have H4 := Lib.hid (fun A1 c1 (w1 : World) (h1 : SeesR tcl w1 A1 V.length c1 V) => nets_any A1 V.length c1 V w1 h1 (fun t ht => hUo t (hVm t ht)) (fun t ht => hUw t (hVm t ht)) HVl.out)
  have HPG := Lib.hid (pgN_eq page)
  rw [← hU] at H1
  rw [hTT2] at H2
  rw [hV, ← hVV] at H3
  rw [← hVV, ← hTT]
  generalize ((pgN page : Nat) : Int) = pg at H2 HPG
  clear hU hUl hUo hUn hUw hUc hTT hTT2 hin hV hVV hVm h hok hg HVl
  go_enter Try.func9, Try.ntmps9
  go_wp2_with fail
  refine H1.out.mono ?_
  rintro e w1 ⟨A1, c1, rfl, hs1, hb1⟩
  have HS1 := Lib.hid hs1
  have HB1 := Lib.hid hb1
  clear hs1 hb1 H1
  go_wp2_with fail
  rw [← HPG.out]
  refine (H2.out A1 c1 _ HS1.out).mono ?_
  rintro e w2 ⟨rfl, hb2⟩
  have HS2 := Lib.hid (HS1.out.later hb2)
  have HB2 := Lib.hid (HB1.out.trans (hb2.mono HB1.out.size))
  clear hb2 H2 HB1
  go_wp2_with fail
  refine (H3.out A1 c1 _ HS2.out).mono ?_
  rintro e w3 ⟨A3, c3, rfl, hs3, hb3⟩
  have HS3 := Lib.hid hs3
  have HB3 := Lib.hid (HB2.out.trans (hb3.mono HB2.out.size))
  clear hs3 hb3 H3 HB2
  go_wp2_with fail
  refine (H4.out A3 c3 _ HS3.out).mono ?_
  rintro e w4 ⟨A4, c4, rfl, hs4, hb4⟩
  have HF : Hid (GivesC w (net V) TT (.returned (.tuple #[.slice A4 (net V).length c4, .int .i64 TT])) w4) := Lib.hid ⟨A4, c4, rfl, hs4, HB3.out.trans (hb4.mono HB3.out.size)⟩
  clear hs4 hb4 H4 HB3
  go_wp2_with fail
  go_ret2
  exact HF.out
set_option maxRecDepth 100000 in
set_option maxHeartbeats 3200000 in
theorem dsteps_any (A : Option Addr) (n c : Nat) (l : List Tn) (fr now cu : Int) (w : World) (h : SeesR tcl w A n c l) (hok : ∀ t ∈ l, okCd t.cd) (hz : n ≤ 65000) :
    Calls Try.prog 12 #[.slice A n c, .int .i64 fr, .int .i64 now, .int .i64 cu] w fun e w' => e = .returned (.int .i64 ((upl l fr now cu).length : Int)) ∧ Below w.heap.size w w' := by
  have H1 := Lib.hid (upto_any A n c l fr now cu w h hok hz)
  clear h hok
  go_enter Try.func12, Try.ntmps12
  go_wp2_with fail
  refine H1.out.mono ?_
  rintro e w1 ⟨A1, c1, rfl, hs1, hb1⟩
  have HB1 := Lib.hid hb1
  clear hs1 hb1 H1
  go_wp2_with fail
  go_ret
  exact ⟨rfl, HB1.out⟩
end Go.Proofs.Ytcdmbidggikmfaa

/- Turns: the chapter's example. -/
namespace Go.Proofs.Ytcdmbidggikmfaa
set_option linter.unusedVariables false
set_option linter.unusedSimpArgs false
open Go Go.RowKit BitM

theorem run_cw (i v : Int) (w : World) : (Instr.build 43 #[(0, .int .i64 i), (1, .int .i64 v)]).run Try.prog w = .ok (.agg (ccl (i, v, 0, zeros)).toArray) w := by kernel_rfl
theorem exec_cw {a : Act} {op : Oper} (x y : Operand) (ho : op.op = .build 43 #[(0, x), (1, y)]) (i v : Int) (hx : a.eval x = .int .i64 i) (hy : a.eval y = .int .i64 v) (w : World) : (execOp a.eval op).run Try.prog w = .ok (.value (.agg (ccl (i, v, 0, zeros)).toArray)) w := by
  unfold execOp
  simp only [ho, List.map_toArray, List.map_cons, List.map_nil, hx, hy, Sem.run_bind, run_cw, Result.andThen_ok, Sem.run_pure]
theorem run_tw (sq id nw : Int) (c : Cd) (h : okCd c) (w : World) : (Instr.build 51 #[(0, .int .i64 sq), (1, .int .i64 id), (3, .int .i64 nw), (4, .agg (ccl c).toArray)]).run Try.prog w = .ok (.agg (tcl ⟨sq, id, 0, nw, c⟩).toArray) w := by
  obtain ⟨i, v, lb, f⟩ := c
  obtain ⟨⟨_, _, _⟩, ⟨_, _, _⟩, ⟨_, _, _⟩, ⟨_, _, _⟩, ⟨_, _, _⟩, ⟨_, _, _⟩, ⟨_, _, _⟩, ⟨_, _, _⟩, e⟩ := tr_eight (show f.length = 8 from h)
  subst e
  kernel_rfl
theorem exec_tw {a : Act} {op : Oper} (x y z u : Operand) (ho : op.op = .build 51 #[(0, x), (1, y), (3, z), (4, u)]) (sq id nw : Int) (c : Cd) (h : okCd c) (hx : a.eval x = .int .i64 sq) (hy : a.eval y = .int .i64 id) (hz : a.eval z = .int .i64 nw) (hu : a.eval u = .agg (ccl c).toArray) (w : World) :
    (execOp a.eval op).run Try.prog w = .ok (.value (.agg (tcl ⟨sq, id, 0, nw, c⟩).toArray)) w := by
  unfold execOp
  simp only [ho, List.map_toArray, List.map_cons, List.map_nil, hx, hy, hz, hu, Sem.run_bind, run_tw sq id nw c h, Result.andThen_ok, Sem.run_pure]
theorem run_ts2 (s t : Tn) (hs : okCd s.cd) (ht : okCd t.cd) (w : World) : (Instr.buildSlice 22 2 #[(0, .agg (tcl s).toArray), (1, .agg (tcl t).toArray)]).run Try.prog w = .ok (.slice (some ⟨w.heap.size, 0, none⟩) 2 2) (w.alloc (.cells (rws tcl [s, t]).toArray 51)) := by
  obtain ⟨_, _, _, _, i, v, lb, f⟩ := s
  obtain ⟨_, _, _, _, i2, v2, lb2, f2⟩ := t
  obtain ⟨⟨_, _, _⟩, ⟨_, _, _⟩, ⟨_, _, _⟩, ⟨_, _, _⟩, ⟨_, _, _⟩, ⟨_, _, _⟩, ⟨_, _, _⟩, ⟨_, _, _⟩, e⟩ := tr_eight (show f.length = 8 from hs)
  obtain ⟨⟨_, _, _⟩, ⟨_, _, _⟩, ⟨_, _, _⟩, ⟨_, _, _⟩, ⟨_, _, _⟩, ⟨_, _, _⟩, ⟨_, _, _⟩, ⟨_, _, _⟩, e2⟩ := tr_eight (show f2.length = 8 from ht)
  subst e e2
  kernel_rfl
theorem exec_ts2 {a : Act} {op : Oper} (x y : Operand) (ho : op.op = .buildSlice 22 2 #[(0, x), (1, y)]) (s t : Tn) (hs : okCd s.cd) (ht : okCd t.cd) (hx : a.eval x = .agg (tcl s).toArray) (hy : a.eval y = .agg (tcl t).toArray) (w : World) :
    (execOp a.eval op).run Try.prog w = .ok (.value (.slice (some ⟨w.heap.size, 0, none⟩) 2 2)) (w.alloc (.cells (rws tcl [s, t]).toArray 51)) := by
  unfold execOp
  simp only [ho, List.map_toArray, List.map_cons, List.map_nil, hx, hy, Sem.run_bind, run_ts2 s t hs ht, Result.andThen_ok, Sem.run_pure]
end Go.Proofs.Ytcdmbidggikmfaa

/- Cuts: the chapter's example. -/
namespace Go.Proofs.Ytcdmbidggikmfaa
set_option linter.unusedVariables false
set_option linter.unusedSimpArgs false
open Go Go.RowKit BitM

def exC : Tn := ⟨3, 1, 0, 1, (1, 1, 0, zeros)⟩
def exD : Tn := ⟨5, 2, 0, 1, (2, 1, 0, zeros)⟩
theorem exd_goes : goes [exC, exD] = true := by decide +kernel
theorem exd_map : (net (cutL [exC, exD] 2 9 9 (pgN 1))).map (fun x => (x.cd.1, x.cd.2.2.2.length)) = [(1, 8)] := by decide +kernel
theorem exd_net : ∃ x : Im, net (cutL [exC, exD] 2 9 9 (pgN 1)) = [x] ∧ x.cd.1 = 1 ∧ okCd x.cd := by
  have h := exd_map
  generalize net (cutL [exC, exD] 2 9 9 (pgN 1)) = l at h
  cases l with
  | nil => cases h
  | cons x l =>
    rw [List.map_cons, List.cons.injEq, List.map_eq_nil_iff] at h
    obtain ⟨h1, rfl⟩ := h
    rw [Prod.mk.injEq] at h1
    exact ⟨x, rfl, h1.1, h1.2⟩
theorem exd_to : cutTo [exC, exD] 2 9 9 (pgN 1) = 4 := by decide +kernel
set_option maxRecDepth 100000 in
set_option maxHeartbeats 3200000 in
theorem dl_awake (w : World) : Calls Try.prog 8 #[] w fun e w' => e = .returned (.bool true) ∧ Below w.heap.size w w' := by
  obtain ⟨C1, hC1⟩ : ∃ CC, CC = ccl (1, 1, 0, zeros) := ⟨_, rfl⟩
  have HE1 : Hid (∀ (a : Act) (op : Oper) (x y : Operand), op.op = .build 43 #[(0, x), (1, y)] → a.eval x = .int .i64 1 → a.eval y = .int .i64 1 → ∀ w, (execOp a.eval op).run Try.prog w = .ok (.value (.agg C1.toArray)) w) := Lib.hid (fun a op x y ho hx hy w => by rw [hC1]; exact exec_cw x y ho 1 1 hx hy w)
  obtain ⟨C2, hC2⟩ : ∃ CC, CC = ccl (2, 1, 0, zeros) := ⟨_, rfl⟩
  have HE2 : Hid (∀ (a : Act) (op : Oper) (x y : Operand), op.op = .build 43 #[(0, x), (1, y)] → a.eval x = .int .i64 2 → a.eval y = .int .i64 1 → ∀ w, (execOp a.eval op).run Try.prog w = .ok (.value (.agg C2.toArray)) w) := Lib.hid (fun a op x y ho hx hy w => by rw [hC2]; exact exec_cw x y ho 2 1 hx hy w)
  obtain ⟨TA, hTA⟩ : ∃ TA, TA = tcl exC := ⟨_, rfl⟩
  have HEA : Hid (∀ (a : Act) (op : Oper) (x y z u : Operand), op.op = .build 51 #[(0, x), (1, y), (3, z), (4, u)] → a.eval x = .int .i64 3 → a.eval y = .int .i64 1 → a.eval z = .int .i64 1 → a.eval u = .agg C1.toArray → ∀ w, (execOp a.eval op).run Try.prog w = .ok (.value (.agg TA.toArray)) w) := Lib.hid (fun a op x y z u ho hx hy hz hu w => by rw [hTA]; exact exec_tw x y z u ho 3 1 1 (1, 1, 0, zeros) rfl hx hy hz (by rw [hu, hC1]) w)
  obtain ⟨TB, hTB⟩ : ∃ TA, TA = tcl exD := ⟨_, rfl⟩
  have HEB : Hid (∀ (a : Act) (op : Oper) (x y z u : Operand), op.op = .build 51 #[(0, x), (1, y), (3, z), (4, u)] → a.eval x = .int .i64 5 → a.eval y = .int .i64 2 → a.eval z = .int .i64 1 → a.eval u = .agg C2.toArray → ∀ w, (execOp a.eval op).run Try.prog w = .ok (.value (.agg TB.toArray)) w) := Lib.hid (fun a op x y z u ho hx hy hz hu w => by rw [hTB]; exact exec_tw x y z u ho 5 2 1 (2, 1, 0, zeros) rfl hx hy hz (by rw [hu, hC2]) w)
  obtain ⟨L2, hL2⟩ : ∃ L2, L2 = rws tcl [exC, exD] := ⟨_, rfl⟩
  have HES : Hid (∀ (a : Act) (op : Oper) (x y : Operand), op.op = .buildSlice 22 2 #[(0, x), (1, y)] → a.eval x = .agg TA.toArray → a.eval y = .agg TB.toArray → ∀ w, (execOp a.eval op).run Try.prog w = .ok (.value (.slice (some ⟨w.heap.size, 0, none⟩) 2 2)) (w.alloc (.cells L2.toArray 51))) := Lib.hid (fun a op x y ho hx hy w => by
    rw [hL2]
    exact exec_ts2 x y ho exC exD rfl rfl (by rw [hx, hTA]) (by rw [hy, hTB]) w)
  obtain ⟨W2, hW2⟩ : ∃ W2, W2 = w.alloc (.cells L2.toArray 51) := ⟨_, rfl⟩
  have B2 : Blk W2 w.heap.size L2 := by rw [hW2]; exact Blk.new w L2 _
  have HB2 := Lib.hid (show Below w.heap.size w W2 by rw [hW2]; exact (Below.refl w.heap.size w).alloc (Nat.le_refl _) _)
  have hok2 : ∀ t ∈ [exC, exD], okCd t.cd := by
    intro t ht
    simp only [List.mem_cons, List.not_mem_nil, or_false] at ht
    rcases ht with rfl | rfl <;> rfl
  have HS2 : SeesR tcl W2 (some ⟨w.heap.size, 0, none⟩) 2 2 [exC, exD] := ⟨rfl, by omega, by simp [maxLen], fun _ => ⟨w.heap.size, 0, rfl, B2.lt, fun j hj => by rw [Nat.zero_add]; exact B2.cell (by rw [hL2]; exact List.getElem?_eq_getElem hj)⟩⟩
  have HC := Lib.hid (dcut_any _ 2 2 [exC, exD] 2 9 9 1 W2 HS2 hok2 exd_goes (by omega) (by omega))
  obtain ⟨xd, hkd, hx1, hxo⟩ := exd_net
  rw [hkd, exd_to] at HC
  clear hkd
  have HW2 := Lib.hid hW2
  clear hC1 hC2 hTA hTB hL2 hW2 B2 HS2 hok2
  go_enter Try.func8, Try.ntmps8
  go_wp2_with (first
    | (refine wpList_exec (by rfl) (.agg C1.toArray) (HE1.out _ _ (.const (.int .i64 1)) (.const (.int .i64 1)) rfl rfl rfl _) ?_
       simp only [Act.put, List.setIfInBounds_toArray, List.set_cons_zero, List.set_cons_succ])
    | (refine wpList_exec (by rfl) (.agg C2.toArray) (HE2.out _ _ (.const (.int .i64 2)) (.const (.int .i64 1)) rfl rfl rfl _) ?_
       simp only [Act.put, List.setIfInBounds_toArray, List.set_cons_zero, List.set_cons_succ])
    | (refine wpList_exec (by rfl) (.agg TA.toArray) (HEA.out _ _ (.const (.int .i64 3)) (.const (.int .i64 1)) (.const (.int .i64 1)) (.tmp 4) rfl rfl rfl rfl rfl _) ?_
       simp only [Act.put, List.setIfInBounds_toArray, List.set_cons_zero, List.set_cons_succ])
    | (refine wpList_exec (by rfl) (.agg TB.toArray) (HEB.out _ _ (.const (.int .i64 5)) (.const (.int .i64 2)) (.const (.int .i64 1)) (.tmp 6) rfl rfl rfl rfl rfl _) ?_
       simp only [Act.put, List.setIfInBounds_toArray, List.set_cons_zero, List.set_cons_succ])
    | (refine wpList_execx (by rfl) (.slice (some ⟨w.heap.size, 0, none⟩) 2 2) (HES.out _ _ (.tmp 5) (.tmp 7) rfl rfl rfl _) ?_
       rw [← HW2.out]
       simp only [Act.put, List.setIfInBounds_toArray, List.set_cons_zero, List.set_cons_succ])
    | fail)
  refine (HC.out).mono ?_
  rintro e w3 ⟨A3, c3, rfl, hs3, hb3⟩
  have HB3 := Lib.hid (HB2.out.trans (hb3.mono HB2.out.size))
  obtain ⟨b, o, hA, _, hcc⟩ := item_cells hs3 (by
    intro t ht
    simp only [List.mem_cons, List.not_mem_nil, or_false] at ht
    subst ht
    exact hxo) (by simp)
  subst hA
  have hcell := (hcc w3 (Below.refl _ _) 0 (by simp)).2.1
  rw [Nat.zero_mul, Nat.add_zero] at hcell
  replace hcell : w3.cell? ⟨b, o + 1, none⟩ = some (.int .i64 1) := by rw [hcell]; show some (Value.int .i64 xd.cd.1) = _; rw [hx1]
  clear hs3 hb3 hcc HC hx1 hxo
  go_wp2_with fail
  go_ret
  exact ⟨rfl, HB3.out⟩
end Go.Proofs.Ytcdmbidggikmfaa

/- As many turns as fit into a page: the document's Cut. -/
namespace Go.Proofs.Ytcdmbidggikmfaa
set_option linter.unusedVariables false
set_option linter.unusedSimpArgs false
open Go Go.RowKit BitM

theorem rowcut_hd {P : Program} (t e : TypeId) (i : TypeInfo) (size : Nat) (ht : P.underlying t = some (.slice e)) (hi : P.info? e = some i) (hsz : i.size = size)
    (A : Option Addr) (n m c : Nat) (H : Int) (kh : IntKind) (hm : m ≤ n) (hH : H = (m : Int)) (hc : n ≤ c) :
    ∃ A2, (∀ wx, (Instr.slice t (.slice A n c) none (some (.int kh H)) none).run P wx = .ok (.slice A2 m c) wx) ∧
      ∀ (wx : World) (B : Nat) (xs : List Value), Sees wx B A xs → Sees wx B A2 (xs.take (m * size)) := by
  refine ⟨if c = 0 then A else A.map (·.add 0), fun wx => ?_, fun wx B xs h => ?_⟩
  · have he : P.elem t = e := by simp [Program.elem, ht]
    have ht' : P.underlying t = some (.slice (P.elem t)) := by rw [he]; exact ht
    rw [run_slice_h wx t A n c ht' kh H (by omega) (by omega), he]
    simp [sizeOf, typeInfo, hi, hsz, sliced, hH]
  · have e2 : (if c = 0 then A else A.map (·.add 0)) = A := by
      split
      · rfl
      · cases A <;> simp [Addr.add]
    rw [e2]
    exact h.take _
theorem SeesR.cutT {w : World} {A : Option Addr} {n c : Nat} {l : List Tn} (h : SeesR tcl w A n c l) (hok : ∀ t ∈ l, okCd t.cd) (k : Nat) (hk : k ≤ n) :
    ∀ W, Below w.heap.size w W → SeesR tcl W A k c (l.take k) := by
  obtain ⟨i1, ji, jz0, jz1, jz2⟩ := info_trn4
  obtain ⟨A2, hr, hs⟩ := rowcut_hd (P := Try.prog) 22 51 i1 31 Try.underlying22 ji jz1 A n k c (k : Int) .i64 hk rfl h.cap
  refine fun W hW => ⟨by rw [List.length_take, h.len]; omega, Nat.le_trans hk h.cap, h.max, ?_⟩
  have := (h.later hW).see.take (k * 31)
  rwa [rws_take l k (tcl_lens hok)] at this
/-- What the document's Cut comes to, at each way out of it. -/
structure CutIs (U : List Tn) (now : Int) (page : Int) (L : List Im) (to : Int) : Prop where
  all : items U U.length ≤ page → L = net U ∧ to = now
  some_ : ∀ m (hm : m < U.length), (∀ j, m < j → j ≤ U.length → page < items U j) → items U m ≤ page → L = net (U.take m) ∧ to = (U[m]).sq - 1
theorem cut_is (U : List Tn) (now page : Int) (pg : Nat) (hp : (pg : Int) = page) : CutIs U now page (net (U.take (cutN U pg))) (stepAt U now (cutN U pg)) := by
  subst hp
  constructor
  · intro h
    have e : cutN U pg = U.length := best_fit h
    rw [e, List.take_of_length_le (Nat.le_refl _)]
    refine ⟨rfl, ?_⟩
    unfold stepAt
    rw [List.getElem?_eq_none (Nat.le_refl _)]
  · intro m hm hj h
    have e : cutN U pg = m := by
      show best U pg U.length = m
      rw [best_down (Nat.le_of_lt hm) (fun j a b => by have := hj j a b; omega), best_fit h]
    rw [e]
    refine ⟨rfl, ?_⟩
    unfold stepAt
    rw [List.getElem?_eq_getElem hm]
set_option maxRecDepth 100000 in
set_option maxHeartbeats 6400000 in
theorem rcut_any (A : Option Addr) (n c : Nat) (l : List Tn) (fr now cu page : Int) (w : World) (h : SeesR tcl w A n c l) (hok : ∀ t ∈ l, okCd t.cd) (hg : goes l = true) (hz : n ≤ 65000) :
    Calls Try.prog 10 #[.slice A n c, .int .i64 fr, .int .i64 now, .int .i64 cu, .int .i64 page] w (GivesC w (net (cutL l fr now cu (pgN page))) (cutTo l fr now cu (pgN page))) := by
  obtain ⟨U, hU⟩ : ∃ U, U = upl l fr now cu := ⟨_, rfl⟩
  have hUl : U.length ≤ 65000 := by rw [hU]; have := upl_len l fr now cu; have := h.len; omega
  have hUo : ∀ t ∈ U, okCd t.cd := by rw [hU]; exact upl_all hok _ _ _
  have hUk : ∀ t ∈ U, okTn t := by rw [hU]; exact upl_all (fun t ht => (goes_okT2 hg t ht).ok) _ _ _
  have hUn : ∀ t ∈ U, 1 ≤ t.sq ∧ t.sq ≤ 1099511627776 := by rw [hU]; exact upl_all (fun t ht => (goes_num hg t ht).1) _ _ _
  obtain ⟨RL, hRL⟩ : ∃ L, L = net (cutL l fr now cu (pgN page)) := ⟨_, rfl⟩
  obtain ⟨RT, hRT⟩ : ∃ t, t = cutTo l fr now cu (pgN page) := ⟨_, rfl⟩
  obtain ⟨pg, hpg⟩ : ∃ pg : Int, pg = max page 0 := ⟨_, rfl⟩
  have HIS : Hid (CutIs U now pg RL RT) := Lib.hid (by
    rw [hRL, hRT, hpg]
    have := cut_is U now (max page 0) (pgN page) (pgN_eq page)
    rw [hU] at this ⊢
    exact this)
  rw [← hRL, ← hRT]
  have HI0 : Hid (items U 0 ≤ pg) := Lib.hid (by rw [items_zero, hpg]; omega)
  have HPG := Lib.hid hpg
  have H1 := Lib.hid (rup_any A n c l fr now cu w h hok hz)
  rw [← hU] at H1
  have H2 := Lib.hid (fun A1 c1 k (hk : k ≤ U.length) (w1 : World) (h1 : SeesR tcl w1 A1 k c1 (U.take k)) => rnets_any A1 k c1 (U.take k) w1 h1 (fun t ht => hUo t (List.mem_of_mem_take ht)) (by omega))
  have HRN : Hid (∀ k, rnetTo (U.take k) (U.take k).length = net (U.take k)) := Lib.hid (fun k => rnet_net (fun t ht => hUk t (List.mem_of_mem_take ht)))
  have HCU := Lib.hid (fun (W : World) A1 c1 (h1 : SeesR tcl W A1 U.length c1 U) k (hk : k ≤ U.length) => h1.cutT hUo k hk)
  have HCE : Hid (∀ (W0 : World) A1 c1, SeesR tcl W0 A1 U.length c1 U → ∀ k (hk : k < U.length), ∃ b o, A1 = some ⟨b, o, none⟩ ∧ ∀ W, Below W0.heap.size W0 W → ∀ k (hk : k < U.length), W.cell? ⟨b, o + k * 31, none⟩ = some (.int .i64 U[k].sq)) := Lib.hid (fun W0 A1 c1 h1 k hk => by
    obtain ⟨b, o, e, _, hc⟩ := turn_cells h1 hUo (by omega)
    exact ⟨b, o, e, fun W hW k hk => (hc W hW k hk).1⟩)
  have HSQ := Lib.hid (fun k (hk : k < U.length) => hUn _ (List.getElem_mem hk))
  have HUB := Lib.hid hUl
  clear hU hUl hUo hUk hUn hRL hRT hpg h hok hg
  go_enter Try.func10, Try.ntmps10
  go_wp2_with fail
  refine H1.out.mono ?_
  rintro e w1 ⟨A1, c1, rfl, hs1, hb1⟩
  have HS1 := Lib.hid hs1
  have HB1 := Lib.hid hb1
  clear hs1 hb1 H1
  go_wp2_with fail
  refine (H2.out A1 c1 U.length (Nat.le_refl _) _ (by rw [List.take_of_length_le (Nat.le_refl _)]; exact HS1.out)).mono ?_
  rintro e w2 ⟨A2, c2, rfl, hs2, hb2⟩
  rw [HRN.out, List.take_of_length_le (Nat.le_refl _)] at hs2
  rw [HRN.out, List.take_of_length_le (Nat.le_refl _)]
  have HS2 := Lib.hid (HS1.out.later hb2)
  have HB2 := Lib.hid (HB1.out.trans (hb2.mono HB1.out.size))
  have HL2 : Hid (((net U).length : Int) = items U U.length) := Lib.hid (by unfold items; rw [List.take_of_length_le (Nat.le_refl _)])
  have HSN := Lib.hid hs2
  clear hs2 hb2 HS1 HB1
  by_cases hf : items U U.length ≤ pg
  · have e1 : decide (((net U).length : Int) ≤ max page 0) = true := decide_eq_true (by rw [HL2.out, ← HPG.out]; exact hf)
    have HR := Lib.hid (HIS.out.all hf)
    have HF : Hid (GivesC w RL RT (.returned (.tuple #[.slice A2 (net U).length c2, .int .i64 now])) w2) := Lib.hid (by rw [HR.out.1, HR.out.2]; exact ⟨A2, c2, rfl, HSN.out, HB2.out⟩)
    clear hf HIS HSN H2 HCU HCE HSQ HL2 HPG
    go_wp2_with fail
    go_ret2
    exact HF.out
  · have e1 : decide (((net U).length : Int) ≤ max page 0) = false := decide_eq_false (by rw [HL2.out, ← HPG.out]; exact hf)
    have hul : 0 < U.length := by
      rcases Nat.eq_zero_or_pos U.length with e | e
      · rw [e] at hf; exact absurd HI0.out hf
      · exact e
    have HJ0 : Hid (∀ j, U.length - 1 < j → j ≤ U.length → pg < items U j) := Lib.hid (fun j h1 h2 => by
      have : j = U.length := by omega
      rw [this]; omega)
    have HUX : U.length ≤ 65000 := HUB.out
    obtain ⟨ul, hul2⟩ : ∃ ul, ul = U.length := ⟨_, rfl⟩
    have HUL := Lib.hid hul2
    rw [← hul2] at HJ0 HS2 HCU HUX hul ⊢
    clear hf HSN HL2 hul2
    go_wp2_with fail
    go_loopw [14] (fun v wr => ∃ m : Nat, m < ul ∧ v = .int .i64 (m : Int) ∧ Hid (∀ j, m < j → j ≤ U.length → pg < items U j) ∧ Hid (Below w2.heap.size w2 wr)) (fun v _ => (iOf v).toNat)
    case atStart => exact ⟨ul - 1, by omega, by go_num, Lib.hid (fun j h1 h2 => HJ0.out j h1 (by rw [HUL.out]; exact h2)), Lib.hid (Below.refl _ _)⟩
    case round =>
      clear HJ0
      obtain ⟨m, hm, rfl, HJ, HB⟩ := hrel
      have hmU : m < U.length := by rw [← HUL.out]; exact hm
      obtain ⟨b, o, hA1, hcc⟩ := HCE.out w2 A1 c1 (by rw [← HUL.out]; exact HS2.out) m hmU
      have HCC := Lib.hid (fun W hW => hcc W hW m hmU)
      have HSM := Lib.hid (HSQ.out m hmU)
      have HIM := Lib.hid (HIS.out.some_ m hmU HJ.out)
      generalize (U[m]).sq = sq at HCC HSM HIM
      clear hcc
      by_cases h0 : 0 < m
      · have d0 : decide ((0 : Int) < (m : Int)) = true := decide_eq_true (by omega)
        have d0' : decide (0 < m) = true := decide_eq_true h0
        have HN3 := Lib.hid (H2.out A1 c1 m (Nat.le_of_lt hmU) wr (HCU.out w2 A1 c1 HS2.out m (Nat.le_of_lt hm) wr HB.out))
        have HLM : Hid (((net (U.take m)).length : Int) = items U m) := Lib.hid rfl
        have HCAP : m ≤ c1 := by have := HS2.out.cap; omega
        subst hA1
        go_wp2_with fail
        refine HN3.out.mono ?_
        rintro e w4 ⟨A4, c4, rfl, hs4, hb4⟩
        rw [HRN.out] at hs4
        rw [HRN.out]
        have HS4 := Lib.hid hs4
        have HB4 := Lib.hid (HB.out.trans (hb4.mono HB.out.size))
        generalize net (U.take m) = NM at *
        clear hs4 hb4 HN3
        by_cases hf2 : items U m ≤ pg
        · have e2 : decide ((NM.length : Int) ≤ max page 0) = true := decide_eq_true (by rw [HLM.out, ← HPG.out]; exact hf2)
          have HR := Lib.hid (HIM.out hf2)
          have cx : ∀ kk : LW w4, kk.val.cell? ⟨b, o + m * 31, none⟩ = some (.int .i64 sq) := fun kk => HCC.out _ (HB4.out.trans (Below.mono kk.le HB4.out.size))
          have HF : Hid (∀ W, Le w4 W → GivesC w RL RT (.returned (.tuple #[.slice A4 NM.length c4, .int .i64 (sq - 1)])) W) := Lib.hid (fun W hl => by
            rw [HR.out.1, HR.out.2]
            have hbw := HB2.out.trans (HB4.out.mono HB2.out.size)
            exact ⟨A4, c4, rfl, HS4.out.later hl, hbw.trans (Below.mono hl hbw.size)⟩)
          have hsm := HSM.out
          clear hf2 HIS HIM HJ HR HLM HS4 HCC HSM HB HRN H2 HCU HCE HSQ HPG HI0
          go_wp2_with fail
          refine wp_region_steady [] 57 (by kernel_rfl) (by kernel_rfl) (by kernel_rfl) (by rfl) ?_
          iterate 9 (refine wpG_quiet (by rfl) (by rfl) (by rfl) (fun K hK => ?_); go_big_quiet_op; refine hK _ ?_; clear hK K)
          refine wpG_nil fun w6 hl _ => ?_
          have HF6 := Lib.hid (HF.out w6 hl)
          clear cx HF hl
          go_wp2_with fail
          go_ret2
          exact HF6.out
        · have e2 : decide ((NM.length : Int) ≤ max page 0) = false := decide_eq_false (by rw [HLM.out, ← HPG.out]; exact hf2)
          have HJ1 : Hid (∀ j, m - 1 < j → j ≤ U.length → pg < items U j) := Lib.hid (fun j h1 h2 => by
            rcases Nat.lt_or_ge m j with h3 | h3
            · exact HJ.out j h3 h2
            · have : j = m := by omega
              rw [this]; omega)
          clear hf2 HIM HJ HLM HS4
          go_wp2_with fail
          go_roundw
          case rel => exact ⟨m - 1, by omega, by go_num, HJ1, HB4⟩
          case measure => simp [iOf]; omega
      · have d0 : decide ((0 : Int) < (m : Int)) = false := decide_eq_false (by omega)
        have d0' : decide (0 < m) = false := decide_eq_false h0
        obtain rfl : m = 0 := by omega
        have HR := Lib.hid (HIM.out HI0.out)
        subst hA1
        have cx : ∀ kk : LW wr, kk.val.cell? ⟨b, o, none⟩ = some (.int .i64 sq) := fun kk => by
          have := HCC.out _ (HB.out.trans (Below.mono kk.le HB.out.size))
          rwa [Nat.zero_mul, Nat.add_zero] at this
        have HF : Hid (∀ W, Le wr W → GivesC w RL RT (.returned (.tuple #[.slice none 0 0, .int .i64 (sq - 1)])) W) := Lib.hid (fun W hl => by
          rw [HR.out.1, HR.out.2, List.take_zero]
          have hbw := HB2.out.trans (HB.out.mono HB2.out.size)
          exact ⟨none, 0, rfl, SeesR.of_row (World.ownsRow_nil W W.heap.size 54 28) rfl ⟨Nat.le_refl _, by simp [maxLen]⟩, hbw.trans (Below.mono hl hbw.size)⟩)
        have hsm := HSM.out
        clear HIS HIM HJ HR HCC HSM HB HRN H2 HCU HCE HSQ HPG HI0
        go_wp2_with fail
        refine wp_region_steady [] 57 (by kernel_rfl) (by kernel_rfl) (by kernel_rfl) (by rfl) ?_
        iterate 7 (refine wpG_quiet (by rfl) (by rfl) (by rfl) (fun K hK => ?_); go_big_quiet_op; refine hK _ ?_; clear hK K)
        refine wpG_nil fun w6 hl _ => ?_
        have HF6 := Lib.hid (HF.out w6 hl)
        clear cx HF hl
        go_wp2_with fail
        go_ret2
        exact HF6.out
end Go.Proofs.Ytcdmbidggikmfaa
