/- Groups: where a group stands, by the program; Members and Of, both. -/
import Derived.Test.YtglhgdkghddcaaaGrC
import Derived.Test.YtglhgdkghddcaaaBitA
namespace Go.Proofs.Ytglhgdkghddcaaa
set_option linter.unusedVariables false
set_option linter.unusedSimpArgs false
open Go Go.RowKit IdsM

theorem gcmp_neg (a b : Int) : decide (gcmp a b < 0) = decide (a < b) := by
  unfold gcmp
  by_cases h : a < b
  · simp [h]
  · by_cases h2 : b < a <;> simp [h, h2]
theorem gcmp_zero (a b : Int) : (gcmp a b == 0) = decide (a = b) := by
  unfold gcmp
  by_cases h : a < b
  · have : a ≠ b := by omega
    simp [h, this]
  · by_cases h2 : b < a
    · have : a ≠ b := by omega
      simp [h, h2, this]
    · have : a = b := by omega
      simp [this]
/-- A list of numbers as an answer: seen where it is told. -/
structure okL (w : World) (A : Option Addr) (n c : Nat) (m : List Int) : Prop where
  len : m.length = n
  cap : n ≤ c
  max : c ≤ maxLen
  see : Sees w w.heap.size A (ivs m)
theorem okL.later {w w' : World} {A : Option Addr} {n c : Nat} {m : List Int} (h : okL w A n c m) (hb : Below w.heap.size w w') : okL w' A n c m := ⟨h.len, h.cap, h.max, (h.see.below hb).more hb.size⟩
theorem okL.nil_ (w : World) : okL w none 0 0 [] := ⟨rfl, Nat.le_refl _, by simp [maxLen], Sees.nil_⟩
theorem okGp.okL {w : World} {g : Gp} (h : okGp w g) : okL w g.A g.n g.c g.m := ⟨h.len, h.cap, h.max, h.see⟩
def GivesL (w : World) (m : List Int) (e : Ending) (w' : World) : Prop := ∃ A n c, e = .returned (.slice A n c) ∧ okL w' A n c m ∧ Below w.heap.size w w'
theorem GivesInts.givesL {w w' : World} {l : List Int} {e : Ending} (h : GivesInts w l e w') : GivesL w l e w' := by
  obtain ⟨A, c, rfl, ho, hb⟩ := h
  have hc := Own.cap ho
  exact ⟨A, l.length, c, rfl, ⟨rfl, hc.1, hc.2, GivesInts.sees ho⟩, hb⟩

/-- The members of a group; none, where it is not open. -/
def gmem (l : List Gp) (g : Int) : List Int := match l.findIdx? (fun x => decide (x.no = g)) with | some k => (l.getD k ⟨0, none, 0, 0, []⟩).m | none => []
theorem gmem_here {l : List Gp} {g : Int} (k : Nat) (hk : k < l.length) (h : l[k].no = g) (hb : ∀ i (hi : i < l.length), i < k → l[i].no ≠ g) : gmem l g = l[k].m := by
  have : l.findIdx? (fun x => decide (x.no = g)) = some k := by
    rw [List.findIdx?_eq_some_iff_getElem]
    exact ⟨hk, by simpa using h, fun j hj => by simpa using hb j (by omega) hj⟩
  unfold gmem
  rw [this]
  simp [hk]
theorem gmem_none {l : List Gp} {g : Int} (hb : ∀ i (hi : i < l.length), l[i].no ≠ g) : gmem l g = [] := by
  have : l.findIdx? (fun x => decide (x.no = g)) = none := by
    rw [List.findIdx?_eq_none_iff]
    intro x hx
    obtain ⟨i, hi, rfl⟩ := List.getElem_of_mem hx
    simpa using hb i hi
  unfold gmem
  rw [this]
theorem gat_cases (l : List Gp) (g : Int) : (∃ k, ∃ (hk : k < l.length), gat l g = (k : Int) ∧ l[k].no = g ∧ gmem l g = l[k].m ∧ g ∈ gnos l) ∨ (gat l g = -1 ∧ gmem l g = [] ∧ g ∉ gnos l) := by
  cases hf : l.findIdx? (fun x => decide (x.no = g)) with
  | some k =>
    left
    obtain ⟨hk, h, hb⟩ := List.findIdx?_eq_some_iff_getElem.1 hf
    have h : l[k].no = g := by simpa using h
    have hb : ∀ i (hi : i < l.length), i < k → l[i].no ≠ g := fun i hi hlt => by simpa using hb i hlt
    exact ⟨_, hk, gat_here _ hk h hb, h, gmem_here _ hk h hb, by rw [← h]; exact List.mem_map_of_mem (List.getElem_mem hk)⟩
  | none =>
    right
    have hb : ∀ i (hi : i < l.length), l[i].no ≠ g := fun i hi => by simpa using List.findIdx?_eq_none_iff.1 hf _ (List.getElem_mem hi)
    refine ⟨gat_none hb, gmem_none hb, fun h => ?_⟩
    obtain ⟨x, hx, e⟩ := List.mem_map.1 h
    obtain ⟨i, hi, rfl⟩ := List.getElem_of_mem hx
    exact hb i hi e
theorem gmem_up {l : List Gp} (h : Up (gnos l)) (g : Int) (hm : g ∈ gnos l) : ∃ (hk : (gnos l).countP (· < g) < l.length), l[(gnos l).countP (· < g)].no = g ∧ gmem l g = l[(gnos l).countP (· < g)].m := by
  rcases gat_cases l g with ⟨k, hk, h1, h2, h3, _⟩ | ⟨_, _, h3⟩
  · have h4 := (gat_up h g).1 hm
    have e : (gnos l).countP (· < g) = k := by rw [h1] at h4; omega
    refine ⟨by rw [e]; exact hk, ?_⟩
    simp only [e]
    exact ⟨h2, h3⟩
  · exact absurd hm h3
/-- A card's groups. -/
def gof1 (id : Int) (s : BitVec 32) (g : Gp) : BitVec 32 := if id ∈ g.m then BitM.put s g.no else s
def gof (l : List Gp) (id : Int) : BitVec 32 := l.foldl (gof1 id) 0#32
theorem gof_next (l : List Gp) (id : Int) (k : Nat) (hk : k < l.length) : gof (l.take (k + 1)) id = gof1 id (gof (l.take k) id) l[k] := by
  unfold gof
  rw [List.take_succ_eq_append_getElem hk, List.foldl_append]
  rfl
theorem gof_yes {l : List Gp} {id : Int} {k : Nat} (hk : k < l.length) {z : BitVec 32} (hz : z = gof (l.take k) id) (h : id ∈ l[k].m) : BitM.put z l[k].no = gof (l.take (k + 1)) id := by
  rw [gof_next l id k hk, ← hz]; unfold gof1; rw [if_pos h]
theorem gof_no {l : List Gp} {id : Int} {k : Nat} (hk : k < l.length) {z : BitVec 32} (hz : z = gof (l.take k) id) (h : id ∉ l[k].m) : z = gof (l.take (k + 1)) id := by
  rw [gof_next l id k hk, ← hz]; unfold gof1; rw [if_neg h]
theorem gof_all {l : List Gp} {id : Int} {n : Nat} (hn : l.length = n) {z : BitVec 32} (hz : z = gof (l.take n) id) : z = gof l id := by
  rw [hz, List.take_of_length_le (by omega)]

theorem pl1_any (x : Int) (A : Option Addr) (n c : Nat) (g : Int) (w : World) : Calls Try.prog 58 #[.agg #[.int .i64 x, .slice A n c], .int .i64 g] w fun e w' => e = .returned (.int .i64 (gcmp x g)) ∧ Below w.heap.size w w' := by
  have HB0 := Lib.hid ((Below.refl w.heap.size w).alloc (Nat.le_refl _) (.cells #[.int .i64 x, .slice A n c] 41))
  have HC := Lib.hid (fun wx : World => cmpint_any x g wx)
  generalize gcmp x g = r at HC ⊢
  go_enter Try.func58, Try.ntmps58
  go_wp2_with fail
  refine (HC.out _).mono ?_
  rintro e w2 ⟨rfl, rfl⟩
  go_wp2_with fail
  go_ret
  exact ⟨rfl, HB0.out⟩

set_option maxRecDepth 100000 in
set_option maxHeartbeats 3200000 in
theorem gfind_any (A : Option Addr) (n c : Nat) (l : List Gp) (g : Int) (w : World) (h : SeesG w A n c l) (hz : n ≤ 65536) (hup : Up (gnos l)) :
    Calls Try.prog 57 #[.slice A n c, .int .i64 g, (.func (.func 58) #[] #[])] w fun e w' => e = .returned (.tuple #[.int .i64 ((gnos l).countP (· < g) : Nat), .bool (decide (g ∈ gnos l))]) ∧ Below w.heap.size w w' := by
  have hu := Try.underlying41
  have HS := Lib.hid h
  have HN := Lib.hid h.len
  have HGL := Lib.hid (show (gnos l).length = l.length by simp [gnos])
  have HLT := Lib.hid (fun k (hk : k < l.length) => place_lt hup g k (by rw [HGL.out]; exact hk))
  have HHAS := Lib.hid (fun (hp : (gnos l).countP (· < g) < (gnos l).length) => place_has hup g hp)
  have HNOT := Lib.hid (fun (hp : ¬ (gnos l).countP (· < g) < (gnos l).length) => place_hasnt (l := gnos l) g hp)
  obtain ⟨p, hp⟩ : ∃ p, p = (gnos l).countP (· < g) := ⟨_, rfl⟩
  have hpl : p ≤ n := by
    rw [hp, ← HN.out, ← HGL.out]
    exact List.countP_le_length
  rw [← hp] at HHAS HNOT HLT ⊢
  have HLT : Hid (∀ k (hk : k < l.length), l[k].no < g ↔ k < p) := Lib.hid (fun k hk => by rw [← gno_get l k hk]; exact HLT.out k hk)
  have HHAS : Hid (∀ (hk : p < l.length), g ∈ gnos l ↔ l[p].no = g) := Lib.hid (fun hk => by rw [← gno_get l p hk]; exact HHAS.out (by rw [HGL.out]; exact hk))
  have HNOT : Hid (¬ p < n → g ∉ gnos l) := Lib.hid (fun hk => HNOT.out (by rw [HGL.out, HN.out]; exact hk))
  obtain ⟨R, hR⟩ : ∃ R, R = decide (g ∈ gnos l) := ⟨_, rfl⟩
  rw [← hR]
  have HR := Lib.hid hR
  clear hR h hup hp
  go_enter Try.func57, Try.ntmps57
  go_wp2_with fail
  go_loopw [9, 10] (fun i j wr => ∃ x y : Nat, x ≤ p ∧ p ≤ y ∧ y ≤ n ∧ i = .int .i64 (x : Int) ∧ j = .int .i64 (y : Int) ∧ Hid (Below w.heap.size w wr)) (fun i j _ => (intOf j).toNat - (intOf i).toNat)
  case atStart => exact ⟨0, n, Nat.zero_le _, hpl, Nat.le_refl _, rfl, rfl, Lib.hid (Below.refl _ _)⟩
  case round =>
    obtain ⟨x, y, h1, h2, h3, rfl, rfl, HB⟩ := hrel
    by_cases hlt : x < y
    · obtain ⟨m, hm⟩ : ∃ m : Nat, m = (x + y) / 2 := ⟨_, rfl⟩
      have hm1 : x ≤ m := by omega
      have hm2 : m < y := by omega
      have hmm : ((x : Int) + (y : Int)) / 2 = (m : Int) := by omega
      have hml : m < n := by omega
      have hkl : m < l.length := by rw [HN.out]; exact hml
      clear hm
      have HQ := Lib.hid (HLT.out m hkl)
      obtain ⟨b, o, rfl, _, hg⟩ := HS.out.get m hkl
      have hr := (hg wr HB.out).1
      unfold gpc at hr
      obtain ⟨q, hq⟩ : ∃ q, q = l[m].no := ⟨_, rfl⟩
      obtain ⟨qA, hqA⟩ : ∃ q, q = l[m].A := ⟨_, rfl⟩
      obtain ⟨qn, hqn⟩ : ∃ q, q = l[m].n := ⟨_, rfl⟩
      obtain ⟨qc, hqc⟩ : ∃ q, q = l[m].c := ⟨_, rfl⟩
      rw [← hq, ← hqA, ← hqn, ← hqc] at hr
      rw [← hq] at HQ
      have HC := Lib.hid (fun wx : World => pl1_any q qA qn qc g wx)
      have hd := gcmp_neg q g
      clear hg hq hqA hqn hqc
      generalize gcmp q g = r at HC hd
      by_cases hzi : q < g
      · have hmp : m < p := HQ.out.1 hzi
        rw [decide_eq_true hzi] at hd
        clear hzi
        go_wp2_with (first
          | (refine wpList_load_mid rfl 41 (.tmp 27) rfl b (o + m * 2) rfl [.int .i64 q, .slice qA qn qc] _ hr hu rfl info_gp ?_
             simp only [Act.put, List.setIfInBounds_toArray, List.set_cons_zero, List.set_cons_succ])
          | fail)
        refine (HC.out _).mono ?_
        rintro e w2 ⟨rfl, hb2⟩
        have HB2 := Lib.hid (HB.out.trans (hb2.mono HB.out.size))
        clear hb2 hr
        go_wp2_with fail
        go_roundw
        case rel => exact ⟨m + 1, y, by omega, h2, h3, by go_num, rfl, HB2⟩
        case measure => simp [intOf]; omega
      · have hmp : p ≤ m := by
          by_cases h : m < p
          · exact absurd (HQ.out.2 h) hzi
          · omega
        rw [decide_eq_false hzi] at hd
        clear hzi
        go_wp2_with (first
          | (refine wpList_load_mid rfl 41 (.tmp 27) rfl b (o + m * 2) rfl [.int .i64 q, .slice qA qn qc] _ hr hu rfl info_gp ?_
             simp only [Act.put, List.setIfInBounds_toArray, List.set_cons_zero, List.set_cons_succ])
          | fail)
        refine (HC.out _).mono ?_
        rintro e w2 ⟨rfl, hb2⟩
        have HB2 := Lib.hid (HB.out.trans (hb2.mono HB.out.size))
        clear hb2 hr
        go_wp2_with fail
        go_roundw
        case rel => exact ⟨x, m, h1, hmp, by omega, rfl, by go_num, HB2⟩
        case measure => simp [intOf]; omega
    · obtain rfl : x = p := by omega
      by_cases hin : x < n
      · have d0 : decide ((x : Int) < (n : Int)) = true := decide_eq_true (by omega)
        have hkl : x < l.length := by rw [HN.out]; exact hin
        have HQ := Lib.hid (HHAS.out hkl)
        obtain ⟨b, o, rfl, _, hg⟩ := HS.out.get x hkl
        have hr := (hg wr HB.out).1
        unfold gpc at hr
        obtain ⟨q, hq⟩ : ∃ q, q = l[x].no := ⟨_, rfl⟩
        obtain ⟨qA, hqA⟩ : ∃ q, q = l[x].A := ⟨_, rfl⟩
        obtain ⟨qn, hqn⟩ : ∃ q, q = l[x].n := ⟨_, rfl⟩
        obtain ⟨qc, hqc⟩ : ∃ q, q = l[x].c := ⟨_, rfl⟩
        rw [← hq, ← hqA, ← hqn, ← hqc] at hr
        rw [← hq] at HQ
        have HC := Lib.hid (fun wx : World => pl1_any q qA qn qc g wx)
        have hd := gcmp_zero q g
        clear hg hq hqA hqn hqc
        generalize gcmp q g = r at HC hd
        have HRR : Hid (R = decide (q = g)) := Lib.hid (by rw [HR.out, decide_eq_decide]; exact HQ.out)
        generalize decide (q = g) = v at hd HRR
        go_wp2_with (first
          | (refine wpList_load_g (by rfl) 41 (.tmp 43) rfl b (o + x * 2) rfl [.int .i64 q, .slice qA qn qc] _ hr hu rfl info_gp ?_
             simp only [Act.put, List.setIfInBounds_toArray, List.set_cons_zero, List.set_cons_succ])
          | fail)
        refine (HC.out _).mono ?_
        rintro e w2 ⟨rfl, hb2⟩
        have HB2 := Lib.hid (HB.out.trans (hb2.mono HB.out.size))
        clear hb2 hr
        go_wp2_with fail
        go_ret2
        exact ⟨by rw [HRR.out]; first | rfl | (rw [hd]; rfl) | simp [hd], HB2.out⟩
      · have d0 : decide ((x : Int) < (n : Int)) = false := decide_eq_false (by omega)
        have HRR : Hid (R = false) := Lib.hid (by rw [HR.out]; exact decide_eq_false (HNOT.out hin))
        go_wp2_with fail
        go_ret2
        exact ⟨by rw [HRR.out]; first | rfl | simp, HB.out⟩

theorem gplace_any (A : Option Addr) (n c : Nat) (l : List Gp) (g : Int) (w : World) (h : SeesG w A n c l) (hz : n ≤ 65536) (hup : Up (gnos l)) :
    Calls Try.prog 33 #[.slice A n c, .int .i64 g] w fun e w' => e = .returned (.tuple #[.int .i64 ((gnos l).countP (· < g) : Nat), .bool (decide (g ∈ gnos l))]) ∧ Below w.heap.size w w' := by
  have HC := Lib.hid (gfind_any A n c l g w h hz hup)
  generalize decide (g ∈ gnos l) = v at HC ⊢
  generalize (gnos l).countP (· < g) = p at HC ⊢
  clear h hup
  go_enter Try.func33, Try.ntmps33
  go_wp2_with fail
  refine HC.out.mono ?_
  rintro e w2 ⟨rfl, hb2⟩
  have HB2 := Lib.hid hb2
  clear hb2
  go_wp2_with fail
  go_ret2
  exact ⟨rfl, HB2.out⟩

set_option maxRecDepth 100000 in
set_option maxHeartbeats 3200000 in
theorem gof_any (A : Option Addr) (n c : Nat) (l : List Gp) (id : Int) (w : World) (h : SeesG w A n c l) (hz : n ≤ 65536) (hz2 : ∀ g ∈ l, g.n ≤ 65536) (hok : GOk l) :
    Calls Try.prog 23 #[.slice A n c, .int .i64 id] w fun e w' => e = .returned (.int .u32 ((gof l id).toNat : Int)) ∧ Below w.heap.size w w' := by
  have hu := Try.underlying41
  have HS := Lib.hid h
  have HN := Lib.hid h.len
  have HOK := Lib.hid hok.2
  have HZ := Lib.hid hz2
  have HALL := Lib.hid (fun (z : BitVec 32) (e : z = gof (l.take n) id) => gof_all h.len e)
  obtain ⟨R, hR⟩ : ∃ R, R = gof l id := ⟨_, rfl⟩
  rw [← hR] at HALL ⊢
  clear hR h hz2 hok
  go_enter Try.func23, Try.ntmps23
  go_wp2_with fail
  go_loopw [10, 5] (fun i s wr => ∃ k : Nat, k ≤ n ∧ i = .int .i64 (k : Int) ∧ (∃ z : BitVec 32, s = .int .u32 (z.toNat : Int) ∧ Hid (z = gof (l.take k) id)) ∧ Hid (Below w.heap.size w wr)) (fun i _ _ => n - (intOf i).toNat)
  case atStart => exact ⟨0, by omega, rfl, ⟨0#32, rfl, Lib.hid rfl⟩, Lib.hid (Below.refl _ _)⟩
  case round =>
    obtain ⟨k, hk, rfl, ⟨z, rfl, HZ0⟩, HB⟩ := hrel
    by_cases hlt : k < n
    · have d0 : decide ((k : Int) < (n : Int)) = true := decide_eq_true (by omega)
      have hkl : k < l.length := by rw [HN.out]; exact hlt
      have hrng := (HOK.out _ (List.getElem_mem hkl)).1
      have hr := (HOK.out _ (List.getElem_mem hkl)).2
      have hz3 := HZ.out _ (List.getElem_mem hkl)
      obtain ⟨b, o, rfl, _, hg⟩ := HS.out.get k hkl
      have HHAS : Hid (∀ W, Below w.heap.size w W → Calls Try.prog 52 #[.slice l[k].A l[k].n l[k].c, .int .i64 id] W fun e w' => e = .returned (.bool (decide (id ∈ l[k].m))) ∧ W = w') := Lib.hid (fun W hW => by
        have ho := (hg W hW).2.2.2
        exact has_any _ _ _ _ id W ho.len ho.see hz3 hr.1)
      have HWITH : Hid (∀ (z : BitVec 32) (wx : World), Calls Try.prog 53 #[.int .u32 (z.toNat : Int), .int .i64 l[k].no] wx fun e w' => e = .returned (.int .u32 ((BitM.put z l[k].no).toNat : Int)) ∧ wx = w') := Lib.hid (fun z wx => with_any z l[k].no wx)
      have HY := Lib.hid (fun (e : id ∈ l[k].m) => gof_yes hkl HZ0.out e)
      have HNO := Lib.hid (fun (e : id ∉ l[k].m) => gof_no hkl HZ0.out e)
      obtain ⟨rm, hrm⟩ : ∃ R, R = decide (id ∈ l[k].m) := ⟨_, rfl⟩
      rw [← hrm] at HHAS
      have HRM := Lib.hid hrm
      obtain ⟨_, ca, cb, _⟩ := hg wr HB.out
      have hrg := (hg wr HB.out).1
      unfold gpc at hrg
      generalize hq : l[k].no = q at ca hrg HWITH HY
      generalize hqA : l[k].A = qA at cb hrg HHAS
      generalize hqn : l[k].n = qn at cb hrg HHAS
      generalize hqc : l[k].c = qc at cb hrg HHAS
      clear hg hrm hq hqA hqn hqc hrng hr hz3 HOK HZ
      have HB5 := Lib.hid (HB.out.alloc HB.out.size (.cells #[.int .i64 q, .slice qA qn qc] 41))
      cases rm with
      | true =>
        have HE := Lib.hid (HY.out (of_decide_eq_true HRM.out.symm))
        go_wp2_with (first
          | (refine wpList_load_mid rfl 41 (.tmp 12) rfl b (o + k * 2) rfl [.int .i64 q, .slice qA qn qc] _ hrg hu rfl info_gp ?_
             simp only [Act.put, List.setIfInBounds_toArray, List.set_cons_zero, List.set_cons_succ])
          | fail)
        refine (HHAS.out _ HB5.out).mono ?_
        rintro e w2 ⟨rfl, rfl⟩
        go_wp2_with fail
        refine (HWITH.out _ _).mono ?_
        rintro e w2 ⟨rfl, rfl⟩
        go_wp2_with fail
        go_roundw
        case rel => exact ⟨k + 1, by omega, by go_num, ⟨_, rfl, Lib.hid HE.out⟩, HB5⟩
        case measure => simp [intOf]; omega
      | false =>
        have HE := Lib.hid (HNO.out (of_decide_eq_false HRM.out.symm))
        go_wp2_with (first
          | (refine wpList_load_mid rfl 41 (.tmp 12) rfl b (o + k * 2) rfl [.int .i64 q, .slice qA qn qc] _ hrg hu rfl info_gp ?_
             simp only [Act.put, List.setIfInBounds_toArray, List.set_cons_zero, List.set_cons_succ])
          | fail)
        refine (HHAS.out _ HB5.out).mono ?_
        rintro e w2 ⟨rfl, rfl⟩
        go_wp2_with fail
        go_roundw
        case rel => exact ⟨k + 1, by omega, by go_num, ⟨_, rfl, Lib.hid HE.out⟩, HB5⟩
        case measure => simp [intOf]; omega
    · obtain rfl : k = n := by omega
      have HR := Lib.hid (HALL.out z HZ0.out)
      go_wp2_with fail
      go_ret
      exact ⟨by rw [← HR.out]; rfl, HB.out⟩

set_option maxRecDepth 100000 in
set_option maxHeartbeats 3200000 in
theorem rgof_any (A : Option Addr) (n c : Nat) (l : List Gp) (id : Int) (w : World) (h : SeesG w A n c l) (hz : n ≤ 65536) (hz2 : ∀ g ∈ l, g.n ≤ 65536) (hok : GOk l) :
    Calls Try.prog 24 #[.slice A n c, .int .i64 id] w fun e w' => e = .returned (.int .u32 ((gof l id).toNat : Int)) ∧ Below w.heap.size w w' := by
  have hu := Try.underlying41
  have HS := Lib.hid h
  have HN := Lib.hid h.len
  have HOK := Lib.hid hok.2
  have HZ := Lib.hid hz2
  have HALL := Lib.hid (fun (z : BitVec 32) (e : z = gof (l.take n) id) => gof_all h.len e)
  obtain ⟨R, hR⟩ : ∃ R, R = gof l id := ⟨_, rfl⟩
  rw [← hR] at HALL ⊢
  clear hR h hz2 hok
  go_enter Try.func24, Try.ntmps24
  go_wp2_with fail
  go_loopw [6, 5] (fun i s wr => ∃ k : Nat, k ≤ n ∧ i = .int .i64 (k : Int) ∧ (∃ z : BitVec 32, s = .int .u32 (z.toNat : Int) ∧ Hid (z = gof (l.take k) id)) ∧ Hid (Below w.heap.size w wr)) (fun i _ _ => n - (intOf i).toNat)
  case atStart => exact ⟨0, by omega, rfl, ⟨0#32, rfl, Lib.hid rfl⟩, Lib.hid (Below.refl _ _)⟩
  case round =>
    obtain ⟨k, hk, rfl, ⟨z, rfl, HZ0⟩, HB⟩ := hrel
    by_cases hlt : k < n
    · have d0 : decide ((k : Int) < (n : Int)) = true := decide_eq_true (by omega)
      have hkl : k < l.length := by rw [HN.out]; exact hlt
      have hrng := (HOK.out _ (List.getElem_mem hkl)).1
      have hr := (HOK.out _ (List.getElem_mem hkl)).2
      have hz3 := HZ.out _ (List.getElem_mem hkl)
      obtain ⟨b, o, rfl, _, hg⟩ := HS.out.get k hkl
      have HHAS : Hid (∀ W, Below w.heap.size w W → Calls Try.prog 28 #[.slice l[k].A l[k].n l[k].c, .int .i64 id] W fun e w' => e = .returned (.bool (decide (id ∈ l[k].m))) ∧ W = w') := Lib.hid (fun W hW => by
        have ho := (hg W hW).2.2.2
        exact ref_has _ _ _ _ id W W.heap.size ho.len ho.see hz3)
      have HWITH : Hid (∀ (z : BitVec 32) (wx : World), Calls Try.prog 29 #[.int .u32 (z.toNat : Int), .int .i64 l[k].no] wx fun e w' => e = .returned (.int .u32 ((BitM.put z l[k].no).toNat : Int)) ∧ wx = w') := Lib.hid (fun z wx => by
        obtain ⟨k', hk', e'⟩ : ∃ k' : Nat, k' < 32 ∧ l[k].no = (k' : Int) := ⟨l[k].no.toNat, by omega, by omega⟩
        rw [e']
        exact rwith_any z k' hk' wx)
      have HY := Lib.hid (fun (e : id ∈ l[k].m) => gof_yes hkl HZ0.out e)
      have HNO := Lib.hid (fun (e : id ∉ l[k].m) => gof_no hkl HZ0.out e)
      obtain ⟨rm, hrm⟩ : ∃ R, R = decide (id ∈ l[k].m) := ⟨_, rfl⟩
      rw [← hrm] at HHAS
      have HRM := Lib.hid hrm
      obtain ⟨_, ca, cb, _⟩ := hg wr HB.out
      have hrg := (hg wr HB.out).1
      unfold gpc at hrg
      generalize hq : l[k].no = q at ca hrg HWITH HY
      generalize hqA : l[k].A = qA at cb hrg HHAS
      generalize hqn : l[k].n = qn at cb hrg HHAS
      generalize hqc : l[k].c = qc at cb hrg HHAS
      clear hg hrm hq hqA hqn hqc hrng hr hz3 HOK HZ
      clear hrg
      cases rm with
      | true =>
        have HE := Lib.hid (HY.out (of_decide_eq_true HRM.out.symm))
        go_wp2_with fail
        refine (HHAS.out _ HB.out).mono ?_
        rintro e w2 ⟨rfl, rfl⟩
        go_wp2_with fail
        refine (HWITH.out _ _).mono ?_
        rintro e w2 ⟨rfl, rfl⟩
        go_wp2_with fail
        go_roundw
        case rel => exact ⟨k + 1, by omega, by go_num, ⟨_, rfl, Lib.hid HE.out⟩, HB⟩
        case measure => simp [intOf]; omega
      | false =>
        have HE := Lib.hid (HNO.out (of_decide_eq_false HRM.out.symm))
        go_wp2_with fail
        refine (HHAS.out _ HB.out).mono ?_
        rintro e w2 ⟨rfl, rfl⟩
        go_wp2_with fail
        go_roundw
        case rel => exact ⟨k + 1, by omega, by go_num, ⟨_, rfl, Lib.hid HE.out⟩, HB⟩
        case measure => simp [intOf]; omega
    · obtain rfl : k = n := by omega
      have HR := Lib.hid (HALL.out z HZ0.out)
      go_wp2_with fail
      go_ret
      exact ⟨by rw [← HR.out]; rfl, HB.out⟩

set_option maxRecDepth 100000 in
set_option maxHeartbeats 1600000 in
theorem keep_any (g : Gp) (w : World) (h : okGp w g) (hz : g.n ≤ 65536) : Calls Try.prog 36 #[.agg #[.int .i64 g.no, .slice g.A g.n g.c]] w (GivesL w g.m) := by
  have hb0 := (Below.refl w.heap.size w).alloc (Nat.le_refl _) (.cells #[.int .i64 g.no, .slice g.A g.n g.c] 41)
  have HB0 := Lib.hid hb0
  have HC := Lib.hid (clone_any g.A g.n g.c g.m _ (h.later hb0).len (h.later hb0).see hz)
  obtain ⟨x, A, n, c, m⟩ := g
  dsimp only at *
  clear hb0 h
  go_enter Try.func36, Try.ntmps36
  go_wp2_with fail
  refine HC.out.mono ?_
  intro e w2 hh
  obtain ⟨A2, n2, c2, rfl, ho, hb2⟩ := hh.givesL
  have HO := Lib.hid ho
  have HB2 := Lib.hid (HB0.out.trans (hb2.mono HB0.out.size))
  clear ho hb2 hh
  go_wp2_with fail
  go_ret
  exact ⟨A2, n2, c2, rfl, HO.out, HB2.out⟩

set_option maxRecDepth 100000 in
set_option maxHeartbeats 1600000 in
theorem gmembers_any (A : Option Addr) (n c : Nat) (l : List Gp) (g : Int) (w : World) (h : SeesG w A n c l) (hz : n ≤ 65536) (hz2 : ∀ g ∈ l, g.n ≤ 65536) (hup : Up (gnos l)) :
    Calls Try.prog 21 #[.slice A n c, .int .i64 g] w (GivesL w (gmem l g)) := by
  have hu := Try.underlying41
  have HP := Lib.hid (gplace_any A n c l g w h hz hup)
  have HN := Lib.hid h.len
  rcases gat_cases l g with ⟨_, _, _, _, _, hm⟩ | ⟨_, hno, hm⟩
  · obtain ⟨hkl, h1, h2⟩ := gmem_up hup g hm
    rw [h2]
    rw [decide_eq_true hm] at HP
    generalize (gnos l).countP (· < g) = p at hkl h1 h2 HP ⊢
    obtain ⟨b, o, rfl, _, hg⟩ := h.get p hkl
    have HK : Hid (∀ W, Below w.heap.size w W → Calls Try.prog 36 #[.agg #[.int .i64 l[p].no, .slice l[p].A l[p].n l[p].c]] W (GivesL W l[p].m)) := Lib.hid (fun W hW => keep_any _ W (hg W hW).2.2.2 (hz2 _ (List.getElem_mem hkl)))
    have HR : Hid (∀ W, Below w.heap.size w W → W.rangeAt b (o + p * 2) [.int .i64 l[p].no, .slice l[p].A l[p].n l[p].c]) := Lib.hid (fun W hW => (hg W hW).1)
    generalize l[p].m = rm at HK ⊢
    generalize l[p].no = q at HK HR
    generalize l[p].A = qA at HK HR
    generalize l[p].n = qn at HK HR
    generalize l[p].c = qc at HK HR
    have hpn : p < n := by rw [← HN.out]; exact hkl
    clear h h1 h2 hm hup hg hz2 hkl HN
    go_enter Try.func21, Try.ntmps21
    go_wp2_with fail
    refine HP.out.mono ?_
    rintro e w2 ⟨rfl, hb2⟩
    have HB2 := Lib.hid hb2
    have hr := HR.out w2 hb2
    clear hb2
    go_wp2_with (first
      | (refine wpList_load_mid rfl 41 (.tmp 17) rfl b (o + p * 2) rfl [.int .i64 q, .slice qA qn qc] _ hr hu rfl info_gp ?_
         simp only [Act.put, List.setIfInBounds_toArray, List.set_cons_zero, List.set_cons_succ])
      | fail)
    refine (HK.out _ HB2.out).mono ?_
    rintro e w3 ⟨A2, n2, c2, rfl, ho, hb3⟩
    have HO := Lib.hid ho
    have HB3 := Lib.hid (HB2.out.trans (hb3.mono HB2.out.size))
    clear ho hb3 hr
    go_wp2_with fail
    go_ret
    exact ⟨A2, n2, c2, rfl, HO.out, HB3.out⟩
  · rw [hno]
    rw [decide_eq_false hm] at HP
    generalize (gnos l).countP (· < g) = p at HP
    clear h hno hm hup hz2 HN
    go_enter Try.func21, Try.ntmps21
    go_wp2_with fail
    refine HP.out.mono ?_
    rintro e w2 ⟨rfl, hb2⟩
    have HB2 := Lib.hid hb2
    clear hb2
    go_wp2_with fail
    go_ret
    exact ⟨none, 0, 0, rfl, okL.nil_ _, HB2.out⟩

set_option maxRecDepth 100000 in
set_option maxHeartbeats 1600000 in
theorem rgmembers_any (A : Option Addr) (n c : Nat) (l : List Gp) (g : Int) (w : World) (h : SeesG w A n c l) (hz : n ≤ 65536) :
    Calls Try.prog 22 #[.slice A n c, .int .i64 g] w (GivesL w (gmem l g)) := by
  have HP := Lib.hid (rplace_any A n c l g w h hz)
  have HN := Lib.hid h.len
  rcases gat_cases l g with ⟨p, hkl, h1, h9, h2, hm⟩ | ⟨h1, hno, hm⟩
  · rw [h2]
    rw [h1] at HP
    obtain ⟨b, o, rfl, _, hg⟩ := h.get p hkl
    have HK : Hid (∀ W, Below w.heap.size w W → okL W l[p].A l[p].n l[p].c l[p].m) := Lib.hid (fun W hW => (hg W hW).2.2.2.okL)
    have HR : Hid (∀ W, Below w.heap.size w W → W.cell? ⟨b, o + p * 2 + 1, none⟩ = some (.slice l[p].A l[p].n l[p].c)) := Lib.hid (fun W hW => (hg W hW).2.2.1)
    generalize l[p].m = rm at HK ⊢
    generalize l[p].A = qA at HK HR
    generalize l[p].n = qn at HK HR
    generalize l[p].c = qc at HK HR
    have hpn : p < n := by rw [← HN.out]; exact hkl
    have d0 : decide ((p : Int) < 0) = false := decide_eq_false (by omega)
    clear h h1 h2 h9 hm hg hkl HN
    go_enter Try.func22, Try.ntmps22
    go_wp2_with fail
    refine HP.out.mono ?_
    rintro e w2 ⟨rfl, hb2⟩
    have HB2 := Lib.hid hb2
    have hr := HR.out w2 hb2
    clear hb2
    go_wp2_with fail
    go_ret
    exact ⟨qA, qn, qc, rfl, HK.out _ HB2.out, HB2.out⟩
  · rw [hno]
    rw [h1] at HP
    clear h hno hm h1 HN
    go_enter Try.func22, Try.ntmps22
    go_wp2_with fail
    refine HP.out.mono ?_
    rintro e w2 ⟨rfl, hb2⟩
    have HB2 := Lib.hid hb2
    clear hb2
    go_wp2_with fail
    go_ret
    exact ⟨none, 0, 0, rfl, okL.nil_ _, HB2.out⟩
end Go.Proofs.Ytglhgdkghddcaaa
