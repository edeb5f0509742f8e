/- Cards and patches as bytes: the mathematics. -/
import Derived.Test.YticdpfjajkfheaaWirC
import Derived.Test.YticdpfjajkfheaaCardI
import Derived.Test.YticdpfjajkfheaaCardK
import Derived.Test.YticdpfjajkfheaaCardT
import Derived.Test.YticdpfjajkfheaaCardX
namespace Go.Proofs.Yticdpfjajkfheaa
set_option linter.unusedVariables false
open Go Go.RowKit BitM OctM

/-- The fields below k that have a value. -/
def kl (f : List V3) (k : Nat) : List Int := ((List.range k).filter fun i => decide ((f.getD i zv).1 ≠ 0)).map fun i : Nat => (i : Int)
theorem kl_succ (f : List V3) (k : Nat) : kl f (k + 1) = kl f k ++ if (f.getD k zv).1 ≠ 0 then [(k : Int)] else [] := by
  unfold kl
  rw [List.range_succ, List.filter_append, List.map_append]
  by_cases h : (f.getD k zv).1 = 0
  · rw [List.filter_cons_of_neg (by rw [decide_eq_false (fun hn => hn h)]; exact Bool.false_ne_true), if_neg (fun hn => hn h)]; rfl
  · rw [List.filter_cons_of_pos (by rw [decide_eq_true h]), if_pos h]; rfl
theorem mem_kl (f : List V3) (k : Nat) (n : Int) : n ∈ kl f k ↔ ∃ i : Nat, i < k ∧ n = (i : Int) ∧ (f.getD i zv).1 ≠ 0 := by
  unfold kl
  simp only [List.mem_map, List.mem_filter, List.mem_range, decide_eq_true_eq]
  constructor
  · rintro ⟨i, ⟨h1, h2⟩, rfl⟩; exact ⟨i, h1, rfl, h2⟩
  · rintro ⟨i, h1, rfl, h2⟩; exact ⟨i, ⟨h1, h2⟩, rfl⟩
theorem zero_val {v : V3} (h : vchk v = true) : (zv ≠ v) ↔ v.1 ≠ 0 := by
  obtain ⟨k, n, s⟩ := v
  constructor
  · intro hne h0
    apply hne
    simp only at h0
    subst h0
    rw [vchk_0] at h
    obtain ⟨h1, h2⟩ := of_decide_eq_true h
    subst h1
    have : s = ⟨#[]⟩ := by
      apply ByteArray.ext
      apply Array.ext'
      rw [ByteArray.toList_eq] at h2
      exact h2
    rw [this]; rfl
  · intro hne e
    apply hne
    rw [← e]; rfl
theorem unl_kl (f : List V3) (hv : vk f 8 = true) : unl zeros f 8 = kl f 8 := by
  unfold unl kl
  congr 1
  refine List.filter_congr fun i hi => ?_
  have h8 : i < 8 := by simpa using hi
  have hz : zeros.getD i zv = zv := by
    unfold zeros
    rw [List.getD_eq_getElem?_getD, List.getElem?_replicate]
    split <;> rfl
  have hvi : vchk (f.getD i zv) = true := by
    unfold vk at hv
    exact List.all_eq_true.1 hv i hi
  rw [hz]
  exact decide_eq_decide.2 (zero_val hvi)
theorem klm (f : List V3) : mkm false (kl f 8) = ofl (kl f 8) := by
  apply BitM.ext
  intro n
  rw [has_mkm, has_ofl]
  simp only [Bool.false_and, Bool.or_false]
  by_cases hm : n ∈ kl f 8
  · obtain ⟨i, h1, rfl, _⟩ := (mem_kl f 8 n).1 hm
    rw [decide_eq_true (show 0 ≤ (i : Int) ∧ (i : Int) < 8 by omega), decide_eq_true (show 0 ≤ (i : Int) ∧ (i : Int) < 32 by omega)]
  · rw [decide_eq_false hm]; simp
theorem dmask_kl (lab : Int) (f : List V3) (hv : vk f 8 = true) : dmask lab zeros lab f = ofl (kl f 8) := by
  unfold dmask
  rw [unl_kl f hv, decide_eq_false (by simp), klm]
theorem lst_end {x : BitVec 32} {j : Nat} (h : ∀ i : Nat, j ≤ i → has x (i : Int) = false) : ∀ k, j ≤ k → lst x k = lst x j
  | 0, hk => by rw [show j = 0 by omega]
  | k + 1, hk => by
    by_cases e : j = k + 1
    · rw [e]
    · rw [lst_succ, h k (by omega), lst_end h k (by omega)]; simp
theorem flds_kl (f : List V3) : flds (ofl (kl f 8)) = kl f 8 := by
  have hh : ∀ n : Int, has (ofl (kl f 8) &&& 255#32) n = (decide (0 ≤ n ∧ n < 8) && decide (n ∈ kl f 8)) := by
    intro n
    rw [has_and_255, has_ofl]
    by_cases h1 : 0 ≤ n ∧ n < 8
    · rw [decide_eq_true h1, decide_eq_true (show 0 ≤ n ∧ n < 32 by omega), decide_eq_true h1.2]; simp
    · rw [decide_eq_false h1]
      by_cases hm : n ∈ kl f 8
      · obtain ⟨i, h2, rfl, _⟩ := (mem_kl f 8 n).1 hm
        exact absurd ⟨by omega, by omega⟩ h1
      · rw [decide_eq_false hm]; simp
  unfold flds
  rw [lst_end (j := 8) (fun i hi => by rw [hh, decide_eq_false (by omega), Bool.false_and]) 32 (by omega)]
  unfold lst
  conv => rhs; unfold kl
  congr 1
  refine List.filter_congr fun i hi => ?_
  have h8 : i < 8 := by simpa using hi
  rw [hh, decide_eq_true (show 0 ≤ (i : Int) ∧ (i : Int) < 8 by omega), Bool.true_and]
  refine decide_eq_decide.2 ?_
  rw [mem_kl]
  constructor
  · rintro ⟨j, _, h2, h3⟩
    obtain rfl : i = j := by omega
    exact h3
  · intro h; exact ⟨i, h8, rfl, h⟩
/-- A card's bytes. -/
def cbs (id ver lab : Int) (f : List V3) : List UInt8 := if ccheck id ver lab f = false then [] else (((enc (held id) ++ enc (held ver)) ++ enc (held lab)) ++ enc (held ((ofl (kl f 8)).toNat : Int))) ++ fbs (kl f 8) f
/-- A patch's bytes. -/
def pbs (x : BitVec 32) (lab : Int) (f : List V3) : List UInt8 := if pchk x lab f ≠ 0 then [] else (enc (held (x.toNat : Int)) ++ (if has x 8 = true then enc (held lab) else [])) ++ fbs (flds x) f
theorem fbs_len (L : List Int) (f : List V3) : (fbs L f).length ≤ 40 * L.length := by
  induction L with
  | nil => simp [fbs]
  | cons i L ih =>
    have := vbs_len (f.getD i.toNat zv)
    simp only [fbs, List.flatMap_cons, List.length_append, List.length_cons] at *
    omega
theorem kl_len (f : List V3) (k : Nat) : (kl f k).length ≤ k := by
  unfold kl
  rw [List.length_map]
  have := List.length_filter_le (fun i => decide ((f.getD i zv).1 ≠ 0)) (List.range k)
  simpa using this
theorem cbs_len (id ver lab : Int) (f : List V3) : (cbs id ver lab f).length ≤ 400 := by
  unfold cbs
  split
  · simp
  · simp only [List.length_append]
    have h1 := held_len id
    have h2 := held_len ver
    have h3 := held_len lab
    have h4 := held_len ((ofl (kl f 8)).toNat : Int)
    have h5 := fbs_len (kl f 8) f
    have h6 := kl_len f 8
    omega
theorem zclab (lab : Int) : (ccells 0 0 lab zeros).toArray = #[Value.int .i64 0, .int .i64 0, .int .u32 lab, .int .i64 0, .int .i64 0, .string { data := #[] }, .int .i64 0, .int .i64 0, .string { data := #[] }, .int .i64 0, .int .i64 0, .string { data := #[] }, .int .i64 0, .int .i64 0, .string { data := #[] }, .int .i64 0, .int .i64 0, .string { data := #[] }, .int .i64 0, .int .i64 0, .string { data := #[] }, .int .i64 0, .int .i64 0, .string { data := #[] }, .int .i64 0, .int .i64 0, .string { data := #[] }] := rfl

theorem flat2 {w : World} {A B : Option Addr} {n c m d : Nat} {l r : List UInt8} (T : TypeId) (hn : l.length = n) (hm : r.length = m) (hs : Sees w w.heap.size A (bvs l)) (ht : Sees w w.heap.size B (bvs r)) :
    FlatAt (w.alloc (.cells #[.slice A n c, .slice B m d] T)) w.heap.size [l, r] := fun k hk => by
  have hB := Blk.new w [.slice A n c, .slice B m d] T
  match k, hk with
  | 0, _ => exact ⟨A, c, by subst hn; exact hB.cell (j := 0) rfl, (hs.alloc (Nat.le_refl _) _).more (by simp)⟩
  | 1, _ => exact ⟨B, d, by subst hm; exact hB.cell (j := 1) rfl, (ht.alloc (Nat.le_refl _) _).more (by simp)⟩
/-- A slot that holds a slice of these bytes. -/
def relSee (n : Nat) (l : List UInt8) : Rel where
  rel v w := ∃ A c, v = .slice A n c ∧ Sees w w.heap.size A (bvs l)
  mono := fun v w w' h ⟨A, c, e, hs⟩ => ⟨A, c, e, (hs.below h).more h.size⟩
  real := fun w ⟨A, c, e, _⟩ => by cases e
theorem gives_see {w : World} {xs : List UInt8} {n : Nat} (hn : xs.length = n) {e : Ending} {w' : World} (h : GivesBytes w xs e w') : ∃ v, e = .returned v ∧ Below w.heap.size w w' ∧ (relSee n xs).rel v w' := by
  obtain ⟨A, c, rfl, ho, hb⟩ := h
  subst hn
  exact ⟨_, rfl, hb, A, c, rfl, ho.sees⟩

set_option maxRecDepth 100000 in
set_option maxHeartbeats 3200000 in
theorem putcard_any (id ver lab : Int) (f : List V3) (A : Option Addr) (n c : Nat) (l : List UInt8) (w : World) (hf : f.length = 8) (hlb : 0 ≤ lab) (hn : l.length = n) (hs : Sees w w.heap.size A (bvs l)) (hm : n ≤ 10000) :
    Calls Try.prog 11 #[.slice A n c, .agg (ccells id ver lab f).toArray] w (GivesBytes w (l ++ cbs id ver lab f)) := by
  have HCK := Lib.hid (fun wx : World => ccheck_any id ver lab f wx hf)
  have HCL := Lib.hid (fun (wx : World) (hb : Below w.heap.size w wx) => clone_any A n c l wx hn ((hs.below hb).more hb.size) (by omega))
  have HDF := Lib.hid (fun wx : World => diff_any 0 0 lab id ver lab zeros f wx zeros_len hf)
  have HPLen : Hid ((ccells id ver lab f).length = 27) := Lib.hid (ccells_len id ver lab hf)
  have B0 := Blk.new w (ccells id ver lab f) 27
  have RF := B0.fieldsC
  obtain ⟨q0, q1, q2⟩ := B0.card
  obtain ⟨pc, hpc⟩ : ∃ pc, pc = ccells id ver lab f := ⟨_, rfl⟩
  rw [← hpc] at HCK HDF B0 HPLen RF q0 q1 q2 ⊢
  have hb0 := (Below.refl w.heap.size w).alloc (Nat.le_refl _) (.cells pc.toArray 27)
  have RG := B0.wholeC
  have hu := Try.underlying27
  have HFL : Hid ((fcells f).length = 24) := Lib.hid (by rw [fcells_len, hf])
  have hu8 := Try.underlying25
  rw [zclab lab] at HDF
  obtain ⟨ok, hok⟩ : ∃ b, b = ccheck id ver lab f := ⟨_, rfl⟩
  rw [← hok] at HCK
  cases ok
  · have HB : Hid (l ++ cbs id ver lab f = l) := Lib.hid (by unfold cbs; rw [if_pos hok.symm]; simp)
    rw [HB.out]
    clear HB hok hpc q0 q1 q2 RF hs hn
    go_enter Try.func11, Try.ntmps11
    go_wp2_with (first
      | (refine wpList_load_mid rfl 27 (.tmp 3) rfl w.heap.size 0 rfl pc _ RG hu rfl (by rw [HPLen.out]; exact info_card) ?_)
      | fail)
    refine (HCK.out _).mono ?_
    rintro e w1 ⟨rfl, hb1⟩
    have hbw := hb0.trans (hb1.mono hb0.size)
    clear RG hb1 hb0
    go_wp2_with fail
    refine (HCL.out _ hbw).mono ?_
    rintro e w2 ⟨A2, c2, rfl, ho, hb2⟩
    go_wp2_with fail
    go_ret
    exact ⟨A2, c2, rfl, ho.lower hbw.size, hbw.trans (hb2.mono hbw.size)⟩
  · obtain ⟨hid, hver, hlab, hvk⟩ : (1 ≤ id ∧ id < 1073741824) ∧ (1 ≤ ver ∧ ver ≤ 1099511627776) ∧ lab < 65536 ∧ vk f 8 = true := by
      have h := hok.symm
      unfold ccheck at h
      rw [Bool.and_eq_true] at h
      have h1 := of_decide_eq_true h.1
      exact ⟨⟨h1.1, h1.2.1⟩, ⟨h1.2.2.1, h1.2.2.2.1⟩, h1.2.2.2.2, h.2⟩
    rw [dmask_kl lab f hvk] at HDF
    have HB : Hid (l ++ cbs id ver lab f = l ++ ((((enc (held id) ++ enc (held ver)) ++ enc (held lab)) ++ enc (held ((ofl (kl f 8)).toNat : Int))) ++ fbs (kl f 8) f)) := Lib.hid (by unfold cbs; rw [if_neg (by rw [← hok]; simp)])
    obtain ⟨R, hR⟩ : ∃ R, R = l ++ cbs id ver lab f := ⟨_, rfl⟩
    rw [← hR] at HB ⊢
    obtain ⟨x, hx⟩ : ∃ x, x = ofl (kl f 8) := ⟨_, rfl⟩
    have HX := Lib.hid (fun (A' : Option Addr) (n' c' : Nat) (l' : List UInt8) (wx : World) (hn' : l'.length = n') (hs' : Sees wx wx.heap.size A' (bvs l')) (hm' : n' ≤ 10000) => putvals_any x f A' n' c' l' wx hf hn' hs' hm')
    rw [hx, flds_kl, ← hx] at HX
    rw [← hx] at HB HDF
    have hx4 := x.isLt
    obtain ⟨X, hX⟩ : ∃ X, X = x.toNat := ⟨_, rfl⟩
    rw [← hX] at HDF HX HB hx4
    clear hok hvk hR hx hX
    have HPC := Lib.hid hpc
    clear hpc
    go_enter Try.func11, Try.ntmps11
    go_wp2_with (first
      | (refine wpList_load_mid rfl 27 (.tmp 3) rfl w.heap.size 0 rfl pc _ RG hu rfl (by rw [HPLen.out]; exact info_card) ?_)
      | fail)
    refine (HCK.out _).mono ?_
    rintro e w1 ⟨rfl, hb1⟩
    have hbw := hb0.trans (hb1.mono hb0.size)
    replace B0 := B0.later hb1
    have p0 := (hb1.cell (p := ⟨w.heap.size, 0, none⟩) (by simp)).trans q0
    have p1 := (hb1.cell (p := ⟨w.heap.size, 1, none⟩) (by simp)).trans q1
    have p2 := (hb1.cell (p := ⟨w.heap.size, 2, none⟩) (by simp)).trans q2
    replace RG := B0.wholeC
    clear RF hb1 hb0 q0 q1 q2
    go_wp2_with (first
      | (refine wpList_load_mid rfl 27 (.tmp 3) rfl w.heap.size 0 rfl pc _ RG hu rfl (by rw [HPLen.out]; exact info_card) ?_)
      | fail)
    refine (HDF.out _).mono ?_
    rintro e w2 ⟨rfl, hb2⟩
    replace hbw := hbw.trans (hb2.mono hbw.size)
    replace B0 := B0.later hb2
    have k0 : ∀ kk : LW w2, kk.val.cell? ⟨w.heap.size, 0, none⟩ = some (.int .i64 id) := fun kk => (kk.le.cell (p := ⟨w.heap.size, 0, none⟩) B0.lt).trans ((hb2.cell (p := ⟨w.heap.size, 0, none⟩) (cell_lt p0)).trans p0)
    have k1 : ∀ kk : LW w2, kk.val.cell? ⟨w.heap.size, 1, none⟩ = some (.int .i64 ver) := fun kk => (kk.le.cell (p := ⟨w.heap.size, 1, none⟩) B0.lt).trans ((hb2.cell (p := ⟨w.heap.size, 1, none⟩) (cell_lt p1)).trans p1)
    have K2 := Lib.hid (fun (wx : World) (hl : Le w2 wx) => (hl.cell (p := ⟨w.heap.size, 2, none⟩) B0.lt).trans ((hb2.cell (p := ⟨w.heap.size, 2, none⟩) (cell_lt p2)).trans p2))
    clear RG p0 p1 p2 hb2 HDF HCK HCL
    obtain ⟨r1, hr1⟩ : ∃ r, r = enc (held id) := ⟨_, rfl⟩
    obtain ⟨r2, hr2⟩ : ∃ r, r = r1 ++ enc (held ver) := ⟨_, rfl⟩
    obtain ⟨r3, hr3⟩ : ∃ r, r = r2 ++ enc (held lab) := ⟨_, rfl⟩
    obtain ⟨r4, hr4⟩ : ∃ r, r = r3 ++ enc (held (X : Int)) := ⟨_, rfl⟩
    have e1 : r1.length ≤ 6 := by rw [hr1]; exact held_len id
    have e2 : r2.length ≤ 12 := by rw [hr2, List.length_append]; have := held_len ver; omega
    have e3 : r3.length ≤ 18 := by rw [hr3, List.length_append]; have := held_len lab; omega
    have e4 : r4.length ≤ 24 := by rw [hr4, List.length_append]; have := held_len (X : Int); omega
    rw [← hr1, ← hr2, ← hr3, ← hr4] at HB
    obtain ⟨r5, hr5⟩ : ∃ r, r = r4 ++ fbs (kl f 8) f := ⟨_, rfl⟩
    rw [← hr5] at HB
    have e5 : r5.length ≤ 400 := by
      rw [hr5, List.length_append]
      have h5 := fbs_len (kl f 8) f
      have h6 := kl_len f 8
      omega
    have HN1 : Hid (∀ wx : World, Calls Try.prog 29 #[.slice none 0 0, .int .i64 id] wx (GivesBytes wx r1)) := Lib.hid (fun wx => by
      have h := oct_num none 0 0 [] id wx rfl Sees.nil_ (by omega)
      rw [List.nil_append, ← hr1] at h
      exact h)
    obtain ⟨n1, hn1⟩ : ∃ n, n = r1.length := ⟨_, rfl⟩
    obtain ⟨n2, hn2⟩ : ∃ n, n = r2.length := ⟨_, rfl⟩
    obtain ⟨n3, hn3⟩ : ∃ n, n = r3.length := ⟨_, rfl⟩
    obtain ⟨n4, hn4⟩ : ∃ n, n = r4.length := ⟨_, rfl⟩
    have HN2 : Hid (∀ (A' : Option Addr) (c' : Nat) (wx : World), Sees wx wx.heap.size A' (bvs r1) → Calls Try.prog 29 #[.slice A' n1 c', .int .i64 ver] wx (GivesBytes wx r2)) := Lib.hid (fun A' c' wx hs' => by
      have h := oct_num A' n1 c' r1 ver wx hn1.symm hs' (by omega)
      rw [← hr2] at h; exact h)
    have HN3 : Hid (∀ (A' : Option Addr) (c' : Nat) (wx : World), Sees wx wx.heap.size A' (bvs r2) → Calls Try.prog 29 #[.slice A' n2 c', .int .i64 lab] wx (GivesBytes wx r3)) := Lib.hid (fun A' c' wx hs' => by
      have h := oct_num A' n2 c' r2 lab wx hn2.symm hs' (by omega)
      rw [← hr3] at h; exact h)
    have HN4 : Hid (∀ (A' : Option Addr) (c' : Nat) (wx : World), Sees wx wx.heap.size A' (bvs r3) → Calls Try.prog 29 #[.slice A' n3 c', .int .i64 (X : Int)] wx (GivesBytes wx r4)) := Lib.hid (fun A' c' wx hs' => by
      have h := oct_num A' n3 c' r3 (X : Int) wx hn3.symm hs' (by omega)
      rw [← hr4] at h; exact h)
    have HN5 : Hid (∀ (A' : Option Addr) (c' : Nat) (wx : World), Sees wx wx.heap.size A' (bvs r4) → Calls Try.prog 36 #[.slice A' n4 c', .int .u32 (X : Int), .agg (fcells f).toArray] wx (SeesBytes wx r5)) := Lib.hid (fun A' c' wx hs' => by
      have h := HX.out A' n4 c' r4 wx hn4.symm hs' (by omega)
      rw [← hr5] at h; exact h)
    have M1 := Lib.hid hn1
    have M2 := Lib.hid hn2
    have M3 := Lib.hid hn3
    have M4 := Lib.hid hn4
    have HS := Lib.hid hs
    have HNL := Lib.hid hn
    clear hr1 hr2 hr3 hr4 hr5 hn1 hn2 hn3 hn4 HX hs hn e1 e2 e3 e4
    go_wp2_with fail
    refine wp_region_steady [(19, relSee n1 r1), (22, relSee n2 r2)] 39 (by kernel_rfl) (by kernel_rfl) (by kernel_rfl) (by rfl) ?_
    iterate 2 (refine wpG_quiet (by rfl) (by rfl) (by rfl) (fun K hK => ?_); go_big_quiet_op; refine hK _ ?_; clear hK K)
    refine wpG_calls (relSee n1 r1) (by rfl) (by rfl) 29 #[.slice none 0 0, .int .i64 id] (by intro _; simp [go_sem]) (fun w1 hl => (HN1.out w1).mono fun e w' h => gives_see M1.out.symm h) ?_
    rintro _ ⟨_, _, _, ⟨A1, c1, rfl, _⟩⟩
    simp only [Act.put, List.setIfInBounds_toArray, List.set_cons_zero, List.set_cons_succ]
    iterate 2 (refine wpG_quiet (by rfl) (by rfl) (by rfl) (fun K hK => ?_); go_big_quiet_op; refine hK _ ?_; clear hK K)
    refine wpG_calls (relSee n2 r2) (by rfl) (by rfl) 29 #[.slice A1 n1 c1, .int .i64 ver] (by intro _; simp [go_sem]) (fun w1 hl => ?_) ?_
    · obtain ⟨A2, c2, h2, s2⟩ := hl.2 19 _ (by simp [Op.operands, Call.operands]) rfl (by intro h; cases h)
      cases h2
      exact (HN2.out _ _ _ s2).mono fun e w' h => gives_see M2.out.symm h
    rintro _ ⟨_, _, _, ⟨A2, c2, rfl, _⟩⟩
    simp only [Act.put, List.setIfInBounds_toArray, List.set_cons_zero, List.set_cons_succ]
    iterate 1 (refine wpG_quiet (by rfl) (by rfl) (by rfl) (fun K hK => ?_); go_big_quiet_op; refine hK _ ?_; clear hK K)
    refine wpG_nil fun w3 hl hs1 => ?_
    obtain ⟨_, A2', c2', eq2, s2⟩ := hs1
    cases eq2
    have p2 := K2.out w3 hl
    replace B0 := B0.later hl
    replace hbw := hbw.trans (hl.mono hbw.size)
    clear k0 k1 hl K2
    go_wp2_with fail
    refine (HN3.out _ _ _ s2).mono ?_
    rintro e w4 ⟨A3, c3, rfl, o3, b3⟩
    have hs3 := o3.sees
    replace B0 := B0.later b3
    replace hbw := hbw.trans (b3.mono hbw.size)
    rw [← M3.out]
    clear o3 b3 s2 p2
    go_wp2_with fail
    refine (HN4.out _ _ _ hs3).mono ?_
    rintro e w5 ⟨A4, c4, rfl, o4, b4⟩
    have hs4 := o4.sees
    replace B0 := B0.later b4
    replace hbw := hbw.trans (b4.mono hbw.size)
    rw [← M4.out]
    clear o4 b4 hs3
    have RF : w5.rangeAt w.heap.size 3 (fcells f) := Blk.fieldsC (by rw [← HPC.out]; exact B0)
    go_wp2_with (first
      | (refine wpList_load_mid rfl 25 (.tmp 34) rfl w.heap.size 3 rfl (fcells f) _ RF hu8 rfl (by rw [HFL.out]; exact info_fields) ?_)
      | fail)
    refine (HN5.out _ _ _ hs4).mono ?_
    rintro e w6 ⟨A5, c5, rfl, s5, b5⟩
    replace hbw := hbw.trans (b5.mono hbw.size)
    have hsA : Sees w6 w6.heap.size A (bvs l) := (HS.out.below hbw).more hbw.size
    obtain ⟨n5, hn5⟩ : ∃ n, n = r5.length := ⟨_, rfl⟩
    rw [← hn5]
    have HCC := Lib.hid (concat_any w6.heap.size 2 2 [l, r5] (w6.alloc (.cells #[.slice A n c, .slice A5 n5 c5] 30)) rfl (by simp) (flat2 30 HNL.out hn5.symm hsA s5) (by omega) (by have := HNL.out; simp; omega))
    have HFL2 : Hid ([l, r5].flatten = R) := Lib.hid (by rw [HB.out]; simp)
    rw [HFL2.out] at HCC
    have hbw2 := hbw.alloc hbw.size (.cells #[.slice A n c, .slice A5 n5 c5] 30)
    clear hn5 s5 b5 hs4 B0 RF hsA hbw
    go_wp2_with fail
    refine HCC.out.mono ?_
    rintro e w7 ⟨A7, c7, rfl, o7, b7⟩
    go_wp2_with fail
    go_ret
    exact ⟨A7, c7, rfl, o7.lower hbw2.size, hbw2.trans (b7.mono hbw2.size)⟩
end Go.Proofs.Yticdpfjajkfheaa
