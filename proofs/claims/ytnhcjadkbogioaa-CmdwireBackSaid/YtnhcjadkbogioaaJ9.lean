/- Edits as they are read of bytes, and put: mathematics. -/
import Derived.Test.YtnhcjadkbogioaaJ8
import Derived.Test.YtnhcjadkbogioaaJ7
import Derived.Test.YtnhcjadkbogioaaJ4
import Derived.Test.YtnhcjadkbogioaaJ3
set_option maxRecDepth 100000
set_option linter.unusedVariables false
set_option linter.unusedSimpArgs false
set_option maxHeartbeats 800000
namespace Go.Proofs.Ytnhcjadkbogioaa
open Go Go.RowKit OctM BitM
def grp (k : Int) : Bool := decide (4 ≤ k ∧ k ≤ 7)
def idk (k : Int) : Bool := decide (k = 2 ∨ k = 3 ∨ k = 6 ∨ k = 7)
def ptk (k : Int) : Bool := decide (k = 1 ∨ k = 2)
def echk (k id gr : Int) (x : BitVec 32) (lab : Int) (f : List V3) : Int :=
  if k < 1 ∨ 7 < k then 1
  else if (grp k = false ∧ gr ≠ 0) ∨ (idk k = false ∧ id ≠ 0) ∨ (ptk k = false ∧ ¬ (x = 0#32 ∧ lab = 0 ∧ f = zeros)) then 1
  else if gr < 0 ∨ 16 ≤ gr ∨ (idk k = true ∧ (id < 1 ∨ 1073741824 ≤ id)) then 1
  else if ptk k = true then pchk x lab f else 0
def ebs (k id gr : Int) (x : BitVec 32) (lab : Int) (f : List V3) : List UInt8 :=
  if echk k id gr x lab f ≠ 0 then []
  else enc (held k) ++ ((if grp k = true then enc (held gr) else []) ++ ((if idk k = true then enc (held id) else []) ++ (if ptk k = true then pbs x lab f else [])))
def edA (l : List UInt8) (a : Nat) (e : Int) : Nat × Nat × Int := abvOut l a e 7
def edG (l : List UInt8) (a : Nat) (e : Int) : Nat × Nat × Int := if grp ((edA l a e).1 : Int) = true then numOut l (edA l a e).2.1 (edA l a e).2.2 15 else (0, (edA l a e).2)
def edI (l : List UInt8) (a : Nat) (e : Int) : Nat × Nat × Int := if idk ((edA l a e).1 : Int) = true then abvOut l (edG l a e).2.1 (edG l a e).2.2 1073741823 else (0, (edG l a e).2)
def edP (l : List UInt8) (a : Nat) (e : Int) : (Int × Int × List V3) × Nat × Int := if ptk ((edA l a e).1 : Int) = true then patOut l (edI l a e).2.1 (edI l a e).2.2 else ((0, 0, zeros), (edI l a e).2)
def editOut (l : List UInt8) (a : Nat) (e : Int) : (Int × Int × Int × Int × Int × List V3) × Nat × Int :=
  (if (edP l a e).2.2 = 0 then (((edA l a e).1 : Int), ((edI l a e).1 : Int), ((edG l a e).1 : Int), (edP l a e).1) else (0, 0, 0, 0, 0, zeros), (edP l a e).2)
theorem edG_at (l : List UInt8) (a : Nat) (e : Int) (h : a ≤ l.length) : (edG l a e).2.1 ≤ l.length := by
  unfold edG
  split
  · exact numOut_at _ _ _ _ (abvOut_at _ _ _ _ h)
  · exact abvOut_at _ _ _ _ h
theorem edI_at (l : List UInt8) (a : Nat) (e : Int) (h : a ≤ l.length) : (edI l a e).2.1 ≤ l.length := by
  unfold edI
  split
  · exact abvOut_at _ _ _ _ (edG_at _ _ _ h)
  · exact edG_at _ _ _ h
theorem editOut_at (l : List UInt8) (a : Nat) (e : Int) (h : a ≤ l.length) : (editOut l a e).2.1 ≤ l.length := by
  unfold editOut edP
  simp only
  split
  · exact patOut_at _ _ _ (edI_at _ _ _ h)
  · exact edI_at _ _ _ h
theorem editOut_len (l : List UInt8) (a : Nat) (e : Int) : (editOut l a e).1.2.2.2.2.2.length = 8 := by
  unfold editOut
  simp only
  split
  · unfold edP
    split
    · exact patOut_len _ _ _
    · exact zeros_len
  · exact zeros_len
theorem ebs_len (k id gr : Int) (x : BitVec 32) (lab : Int) (f : List V3) : (ebs k id gr x lab f).length ≤ 420 := by
  unfold ebs
  split
  · simp
  · have h1 := held_len k
    have h2 := held_len gr
    have h3 := held_len id
    have h4 := pbs_len x lab f
    simp only [List.length_append]
    have g1 : (if grp k = true then enc (held gr) else []).length ≤ 6 := by split <;> simp_all
    have g2 : (if idk k = true then enc (held id) else []).length ≤ 6 := by split <;> simp_all
    have g3 : (if ptk k = true then pbs x lab f else []).length ≤ 400 := by split <;> simp_all
    omega
theorem echk_ok {k id gr : Int} {x : BitVec 32} {lab : Int} {f : List V3} (h : echk k id gr x lab f = 0) :
    1 ≤ k ∧ k ≤ 7 ∧ (grp k = false → gr = 0) ∧ (idk k = false → id = 0) ∧ (ptk k = false → x = 0#32 ∧ lab = 0 ∧ f = zeros) ∧ 0 ≤ gr ∧ gr < 16 ∧ (idk k = true → 1 ≤ id ∧ id < 1073741824) ∧ (ptk k = true → pchk x lab f = 0) := by
  unfold echk at h
  by_cases c1 : k < 1 ∨ 7 < k
  · rw [if_pos c1] at h; cases h
  · rw [if_neg c1] at h
    by_cases c2 : (grp k = false ∧ gr ≠ 0) ∨ (idk k = false ∧ id ≠ 0) ∨ (ptk k = false ∧ ¬ (x = 0#32 ∧ lab = 0 ∧ f = zeros))
    · rw [if_pos c2] at h; cases h
    · rw [if_neg c2] at h
      by_cases c3 : gr < 0 ∨ 16 ≤ gr ∨ (idk k = true ∧ (id < 1 ∨ 1073741824 ≤ id))
      · rw [if_pos c3] at h; cases h
      · rw [if_neg c3] at h
        refine ⟨by omega, by omega, fun hh => ?_, fun hh => ?_, fun hh => ?_, by omega, by omega, fun hh => ?_, fun hh => ?_⟩
        · by_cases e : gr = 0
          · exact e
          · exact absurd (.inl ⟨hh, e⟩) c2
        · by_cases e : id = 0
          · exact e
          · exact absurd (.inr (.inl ⟨hh, e⟩)) c2
        · by_cases e : x = 0#32 ∧ lab = 0 ∧ f = zeros
          · exact e
          · exact absurd (.inr (.inr ⟨hh, e⟩)) c2
        · by_cases e : id < 1 ∨ 1073741824 ≤ id
          · exact absurd (.inr (.inr ⟨hh, e⟩)) c3
          · omega
        · rw [if_pos hh] at h; exact h
theorem echk_mk {k id gr : Int} {x : BitVec 32} {lab : Int} {f : List V3} (h1 : 1 ≤ k) (h2 : k ≤ 7) (h3 : grp k = false → gr = 0) (h4 : idk k = false → id = 0) (h5 : ptk k = false → x = 0#32 ∧ lab = 0 ∧ f = zeros) (h6 : 0 ≤ gr) (h7 : gr < 16)
    (h8 : idk k = true → 1 ≤ id ∧ id < 1073741824) (h9 : ptk k = true → pchk x lab f = 0) : echk k id gr x lab f = 0 := by
  unfold echk
  rw [if_neg (by omega), if_neg, if_neg]
  · split
    · rename_i hp; exact h9 hp
    · rfl
  · rintro (hh | hh | ⟨hh, hb⟩)
    · omega
    · omega
    · have := h8 hh; omega
  · rintro (⟨hh, hb⟩ | ⟨hh, hb⟩ | ⟨hh, hb⟩)
    · exact hb (h3 hh)
    · exact hb (h4 hh)
    · exact hb (h5 hh)
theorem edit_put (pre rest : List UInt8) (k id gr : Int) (x : BitVec 32) (lab : Int) (f : List V3) (hf : f.length = 8) (hl : 0 ≤ lab) (h : echk k id gr x lab f = 0) :
    editOut (pre ++ (ebs k id gr x lab f ++ rest)) pre.length 0 = ((k, id, gr, (x.toNat : Int), lab, f), pre.length + (ebs k id gr x lab f).length, 0) := by
  obtain ⟨h1, h2, h3, h4, h5, h6, h7, h8, h9⟩ := echk_ok h
  have hb : ebs k id gr x lab f = enc (held k) ++ ((if grp k = true then enc (held gr) else []) ++ ((if idk k = true then enc (held id) else []) ++ (if ptk k = true then pbs x lab f else []))) := by
    unfold ebs
    rw [if_neg (by rw [h]; simp)]
  obtain ⟨bg, hbg⟩ : ∃ z, z = (if grp k = true then enc (held gr) else []) := ⟨_, rfl⟩
  obtain ⟨bi, hbi⟩ : ∃ z, z = (if idk k = true then enc (held id) else []) := ⟨_, rfl⟩
  obtain ⟨bp, hbp⟩ : ∃ z, z = (if ptk k = true then pbs x lab f else []) := ⟨_, rfl⟩
  rw [← hbg, ← hbi, ← hbp] at hb
  have hk : ((held k : Nat) : Int) = k := held_self (by omega) (by omega)
  have n1 := abv_put pre (bg ++ (bi ++ (bp ++ rest))) k 7 h1 (by omega) h2
  obtain ⟨l, hll⟩ : ∃ l, l = pre ++ (enc (held k) ++ (bg ++ (bi ++ (bp ++ rest)))) := ⟨_, rfl⟩
  rw [← hll] at n1
  have e1 : pre ++ (ebs k id gr x lab f ++ rest) = l := by rw [hb, hll]; simp only [List.append_assoc]
  rw [e1]
  have kA : edA l pre.length 0 = (held k, pre.length + (enc (held k)).length, 0) := n1
  have kG : edG l pre.length 0 = (held gr, pre.length + (enc (held k)).length + bg.length, 0) := by
    unfold edG
    rw [kA]
    simp only
    rw [hk]
    by_cases hg : grp k = true
    · rw [if_pos hg]
      rw [if_pos hg] at hbg
      have n2 := num_put (pre ++ enc (held k)) (bi ++ (bp ++ rest)) (held gr) 15 (held_le gr) (by rw [held_self h6 (by omega)]; omega)
      rw [← hbg] at n2
      simp only [List.append_assoc, List.length_append] at n2
      rw [← hll] at n2
      exact n2
    · rw [if_neg hg]
      rw [if_neg hg] at hbg
      rw [hbg, h3 (by simpa using hg)]
      rfl
  have kI : edI l pre.length 0 = (held id, pre.length + (enc (held k)).length + bg.length + bi.length, 0) := by
    unfold edI
    rw [kA, kG]
    simp only
    rw [hk]
    by_cases hg : idk k = true
    · rw [if_pos hg]
      rw [if_pos hg] at hbi
      have hid := h8 hg
      have n3 := abv_put (pre ++ enc (held k) ++ bg) (bp ++ rest) id 1073741823 (by omega) (by omega) (by omega)
      rw [← hbi] at n3
      simp only [List.append_assoc, List.length_append] at n3
      rw [← hll] at n3
      simp only [← Nat.add_assoc] at n3
      exact n3
    · rw [if_neg hg]
      rw [if_neg hg] at hbi
      rw [hbi, h4 (by simpa using hg)]
      rfl
  have kP : edP l pre.length 0 = (((x.toNat : Int), lab, f), pre.length + (enc (held k)).length + bg.length + bi.length + bp.length, 0) := by
    unfold edP
    rw [kA, kI]
    simp only
    rw [hk]
    by_cases hg : ptk k = true
    · rw [if_pos hg]
      rw [if_pos hg] at hbp
      have n4 := patOut_put (pre ++ enc (held k) ++ bg ++ bi) rest x lab f hf hl (h9 hg)
      rw [← hbp] at n4
      simp only [List.append_assoc, List.length_append] at n4
      rw [← hll] at n4
      simp only [← Nat.add_assoc] at n4
      exact n4
    · rw [if_neg hg]
      rw [if_neg hg] at hbp
      obtain ⟨rfl, rfl, rfl⟩ := h5 (by simpa using hg)
      rw [hbp]
      rfl
  have hgr : ((held gr : Nat) : Int) = gr := held_self h6 (by omega)
  have hid : ((held id : Nat) : Int) = id := by
    by_cases hg : idk k = true
    · have := h8 hg; exact held_self (by omega) (by omega)
    · rw [h4 (by simpa using hg)]; rfl
  unfold editOut
  rw [kA, kG, kI, kP]
  simp only
  rw [if_pos trivial, hk, hgr, hid, hb]
  simp only [List.length_append, Nat.add_assoc]
theorem held_cast {n : Nat} (h : n ≤ 1099511627776) : held (n : Int) = n := by rw [held_nat (by omega) (by omega)]; rfl
theorem edit_only {l : List UInt8} {a : Nat} {e : Int} (h : (editOut l a e).2.2 = 0) :
    ∃ x : BitVec 32, (editOut l a e).1.2.2.2.1 = (x.toNat : Int) ∧ 0 ≤ (editOut l a e).1.2.2.2.2.1 ∧ echk (editOut l a e).1.1 (editOut l a e).1.2.1 (editOut l a e).1.2.2.1 x (editOut l a e).1.2.2.2.2.1 (editOut l a e).1.2.2.2.2.2 = 0 ∧
      l.drop a = ebs (editOut l a e).1.1 (editOut l a e).1.2.1 (editOut l a e).1.2.2.1 x (editOut l a e).1.2.2.2.2.1 (editOut l a e).1.2.2.2.2.2 ++ l.drop (editOut l a e).2.1 ∧
      (editOut l a e).2.1 = a + (ebs (editOut l a e).1.1 (editOut l a e).1.2.1 (editOut l a e).1.2.2.1 x (editOut l a e).1.2.2.2.2.1 (editOut l a e).1.2.2.2.2.2).length := by
  have hP : (edP l a e).2.2 = 0 := h
  have hout : editOut l a e = ((((edA l a e).1 : Int), ((edI l a e).1 : Int), ((edG l a e).1 : Int), (edP l a e).1), (edP l a e).2) := by
    unfold editOut
    rw [if_pos hP]
  -- the patch
  obtain ⟨x, p1, p2, p3, p4, p5, p6, p7⟩ : ∃ x : BitVec 32, (edP l a e).1.1 = (x.toNat : Int) ∧ 0 ≤ (edP l a e).1.2.1 ∧ (edI l a e).2.2 = 0 ∧ (ptk ((edA l a e).1 : Int) = true → pchk x (edP l a e).1.2.1 (edP l a e).1.2.2 = 0) ∧
      (ptk ((edA l a e).1 : Int) = false → x = 0#32 ∧ (edP l a e).1.2.1 = 0 ∧ (edP l a e).1.2.2 = zeros) ∧
      l.drop (edI l a e).2.1 = (if ptk ((edA l a e).1 : Int) = true then pbs x (edP l a e).1.2.1 (edP l a e).1.2.2 else []) ++ l.drop (edP l a e).2.1 ∧
      (edP l a e).2.1 = (edI l a e).2.1 + (if ptk ((edA l a e).1 : Int) = true then pbs x (edP l a e).1.2.1 (edP l a e).1.2.2 else []).length := by
    by_cases hg : ptk ((edA l a e).1 : Int) = true
    · have hd : edP l a e = patOut l (edI l a e).2.1 (edI l a e).2.2 := by unfold edP; rw [if_pos hg]
      rw [hd] at hP ⊢
      obtain ⟨x, g1, g2, g3, g4, g5⟩ := pat_only hP
      have he : (edI l a e).2.2 = 0 := pat_err hP
      refine ⟨x, g1, g3, he, fun _ => g2, fun hh => (by rw [hg] at hh; cases hh), ?_, ?_⟩
      · rw [if_pos hg]; exact g4
      · rw [if_pos hg]; exact g5
    · have hd : edP l a e = ((0, 0, zeros), (edI l a e).2) := by unfold edP; rw [if_neg hg]
      rw [hd] at hP ⊢
      refine ⟨0#32, rfl, by simp, hP, fun hh => absurd hh hg, fun _ => ⟨rfl, rfl, rfl⟩, ?_, ?_⟩
      · rw [if_neg hg]; rfl
      · rw [if_neg hg]; rfl
  obtain ⟨i1, i2, i3, i4, i5⟩ : (edG l a e).2.2 = 0 ∧ (idk ((edA l a e).1 : Int) = true → 1 ≤ ((edI l a e).1 : Int) ∧ ((edI l a e).1 : Int) < 1073741824) ∧ (idk ((edA l a e).1 : Int) = false → ((edI l a e).1 : Int) = 0) ∧
      l.drop (edG l a e).2.1 = (if idk ((edA l a e).1 : Int) = true then enc (edI l a e).1 else []) ++ l.drop (edI l a e).2.1 ∧ (edI l a e).2.1 = (edG l a e).2.1 + (if idk ((edA l a e).1 : Int) = true then enc (edI l a e).1 else []).length := by
    by_cases hg : idk ((edA l a e).1 : Int) = true
    · have hd : edI l a e = abvOut l (edG l a e).2.1 (edG l a e).2.2 1073741823 := by unfold edI; rw [if_pos hg]
      rw [hd] at p3
      obtain ⟨g1, g2, g3, g4, g5, _⟩ := abv_only p3
      rw [← hd] at g2 g3 g4 g5
      refine ⟨g1, fun _ => by omega, fun hh => (by rw [hg] at hh; cases hh), ?_, ?_⟩
      · rw [if_pos hg]; exact g4
      · rw [if_pos hg]; exact g3
    · have hd : edI l a e = (0, (edG l a e).2) := by unfold edI; rw [if_neg hg]
      rw [hd] at p3 ⊢
      refine ⟨p3, fun hh => absurd hh hg, fun _ => rfl, ?_, ?_⟩
      · rw [if_neg hg]; rfl
      · rw [if_neg hg]; rfl
  obtain ⟨j1, j2, j3, j4, j5⟩ : (edA l a e).2.2 = 0 ∧ ((edG l a e).1 : Int) < 16 ∧ (grp ((edA l a e).1 : Int) = false → ((edG l a e).1 : Int) = 0) ∧
      l.drop (edA l a e).2.1 = (if grp ((edA l a e).1 : Int) = true then enc (edG l a e).1 else []) ++ l.drop (edG l a e).2.1 ∧ (edG l a e).2.1 = (edA l a e).2.1 + (if grp ((edA l a e).1 : Int) = true then enc (edG l a e).1 else []).length := by
    by_cases hg : grp ((edA l a e).1 : Int) = true
    · have hd : edG l a e = numOut l (edA l a e).2.1 (edA l a e).2.2 15 := by unfold edG; rw [if_pos hg]
      rw [hd] at i1
      obtain ⟨g1, g2, g3, g4, _⟩ := num_only i1
      rw [← hd] at g2 g3 g4
      refine ⟨g1, by omega, fun hh => (by rw [hg] at hh; cases hh), ?_, ?_⟩
      · rw [if_pos hg]; exact g3
      · rw [if_pos hg]; exact g2
    · have hd : edG l a e = (0, (edA l a e).2) := by unfold edG; rw [if_neg hg]
      rw [hd] at i1 ⊢
      refine ⟨i1, by simp, fun _ => rfl, ?_, ?_⟩
      · rw [if_neg hg]; rfl
      · rw [if_neg hg]; rfl
  obtain ⟨_, a0, a1, a2, a3, _⟩ := abv_only (l := l) (a := a) (e := e) (m := 7) j1
  change (edA l a e).1 ≠ 0 at a0
  change (edA l a e).2.1 = _ + (enc (edA l a e).1).length at a1
  change l.drop _ = enc (edA l a e).1 ++ l.drop (edA l a e).2.1 at a2
  change ((edA l a e).1 : Int) ≤ 7 at a3
  have hi16 : (edI l a e).1 ≤ 1099511627776 := by
    by_cases hg : idk ((edA l a e).1 : Int) = true
    · have := i2 hg; omega
    · have := i3 (by simpa using hg); omega
  have hck : echk ((edA l a e).1 : Int) ((edI l a e).1 : Int) ((edG l a e).1 : Int) x (edP l a e).1.2.1 (edP l a e).1.2.2 = 0 :=
    echk_mk (by omega) a3 j3 i3 p5 (by omega) j2 i2 p4
  have hbs : ebs ((edA l a e).1 : Int) ((edI l a e).1 : Int) ((edG l a e).1 : Int) x (edP l a e).1.2.1 (edP l a e).1.2.2 = enc (edA l a e).1 ++ ((if grp ((edA l a e).1 : Int) = true then enc (edG l a e).1 else []) ++ ((if idk ((edA l a e).1 : Int) = true then enc (edI l a e).1 else []) ++ (if ptk ((edA l a e).1 : Int) = true then pbs x (edP l a e).1.2.1 (edP l a e).1.2.2 else []))) := by
    unfold ebs
    rw [if_neg (by rw [hck]; simp), held_cast (by omega), held_cast (by omega), held_cast hi16]
  rw [hout]
  simp only
  refine ⟨x, p1, p2, hck, ?_, ?_⟩
  · rw [hbs]
    simp only [List.append_assoc]
    rw [← p6, ← i4, ← j4, ← a2]
  · rw [hbs]
    simp only [List.length_append]
    omega
def ecells (k id gr m lab : Int) (f : List V3) : List Value := [.int .i64 k, .int .i64 id, .int .i64 gr] ++ pcells m lab f
theorem ecells_len (k id gr m lab : Int) {f : List V3} (h : f.length = 8) : (ecells k id gr m lab f).length = 29 := by
  unfold ecells
  rw [List.length_append, pcells_len _ _ h]
  rfl
theorem ecells_one (k id gr m lab : Int) (f : List V3) : ∀ u ∈ ecells k id gr m lab f, u.oneCell' = true := by
  intro u hu
  unfold ecells at hu
  rcases List.mem_append.1 hu with h | h
  · simp only [List.mem_cons, List.not_mem_nil, or_false] at h
    rcases h with rfl | rfl | rfl <;> rfl
  · exact pcells_one _ _ _ u h
theorem Blk.patchE {w : World} {g : Nat} {k id gr m lab : Int} {f : List V3} (h : Blk w g (ecells k id gr m lab f)) : w.rangeAt g 3 (pcells m lab f) :=
  h.range 3 _ (by
    unfold ecells
    rw [List.drop_left' (by rfl), List.take_length])
theorem Blk.edit {w : World} {g : Nat} {k id gr m lab : Int} {f : List V3} (h : Blk w g (ecells k id gr m lab f)) :
    w.cell? ⟨g, 0, none⟩ = some (.int .i64 k) ∧ w.cell? ⟨g, 1, none⟩ = some (.int .i64 id) ∧ w.cell? ⟨g, 2, none⟩ = some (.int .i64 gr) := ⟨h.cell rfl, h.cell rfl, h.cell rfl⟩
theorem guard_patchE : Try.prog.eqGuardType Try.prog.depth 27 = false := by kernel_rfl
def inr (k : Int) : Bool := decide (1 ≤ k ∧ k ≤ 7)
theorem has_grp (k : Int) (w : World) : Calls Try.prog 49 #[.int .i64 k, .int .i64 1] w fun e w' => e = .returned (.bool (grp k)) ∧ w = w' := by
  by_cases h1 : k < 1
  · have d1 : decide ((1 : Int) ≤ k) = false := decide_eq_false (by omega)
    have hr : grp k = false := by unfold grp; exact decide_eq_false (by omega)
    rw [hr]
    clear hr
    go_enter Try.func49, Try.ntmps49
    go_wp2
    go_ret
    exact ⟨rfl, rfl⟩
  · by_cases h2 : 7 < k
    · have d1 : decide ((1 : Int) ≤ k) = true := decide_eq_true (by omega)
      have d2 : decide (k ≤ 7) = false := decide_eq_false (by omega)
      have hr : grp k = false := by unfold grp; exact decide_eq_false (by omega)
      rw [hr]
      clear hr
      go_enter Try.func49, Try.ntmps49
      go_wp2
      go_ret
      exact ⟨rfl, rfl⟩
    · have hk : k = 1 ∨ k = 2 ∨ k = 3 ∨ k = 4 ∨ k = 5 ∨ k = 6 ∨ k = 7 := by omega
      clear h1 h2
      rcases hk with rfl | rfl | rfl | rfl | rfl | rfl | rfl
      all_goals
        go_enter Try.func49, Try.ntmps49
        go_wp2
        go_ret
        exact ⟨by rfl, rfl⟩
theorem has_idk (k : Int) (w : World) : Calls Try.prog 49 #[.int .i64 k, .int .i64 2] w fun e w' => e = .returned (.bool (idk k)) ∧ w = w' := by
  by_cases h1 : k < 1
  · have d1 : decide ((1 : Int) ≤ k) = false := decide_eq_false (by omega)
    have hr : idk k = false := by unfold idk; exact decide_eq_false (by omega)
    rw [hr]
    clear hr
    go_enter Try.func49, Try.ntmps49
    go_wp2
    go_ret
    exact ⟨rfl, rfl⟩
  · by_cases h2 : 7 < k
    · have d1 : decide ((1 : Int) ≤ k) = true := decide_eq_true (by omega)
      have d2 : decide (k ≤ 7) = false := decide_eq_false (by omega)
      have hr : idk k = false := by unfold idk; exact decide_eq_false (by omega)
      rw [hr]
      clear hr
      go_enter Try.func49, Try.ntmps49
      go_wp2
      go_ret
      exact ⟨rfl, rfl⟩
    · have hk : k = 1 ∨ k = 2 ∨ k = 3 ∨ k = 4 ∨ k = 5 ∨ k = 6 ∨ k = 7 := by omega
      clear h1 h2
      rcases hk with rfl | rfl | rfl | rfl | rfl | rfl | rfl
      all_goals
        go_enter Try.func49, Try.ntmps49
        go_wp2
        go_ret
        exact ⟨by rfl, rfl⟩
theorem has_ptk (k : Int) (w : World) : Calls Try.prog 49 #[.int .i64 k, .int .i64 4] w fun e w' => e = .returned (.bool (ptk k)) ∧ w = w' := by
  by_cases h1 : k < 1
  · have d1 : decide ((1 : Int) ≤ k) = false := decide_eq_false (by omega)
    have hr : ptk k = false := by unfold ptk; exact decide_eq_false (by omega)
    rw [hr]
    clear hr
    go_enter Try.func49, Try.ntmps49
    go_wp2
    go_ret
    exact ⟨rfl, rfl⟩
  · by_cases h2 : 7 < k
    · have d1 : decide ((1 : Int) ≤ k) = true := decide_eq_true (by omega)
      have d2 : decide (k ≤ 7) = false := decide_eq_false (by omega)
      have hr : ptk k = false := by unfold ptk; exact decide_eq_false (by omega)
      rw [hr]
      clear hr
      go_enter Try.func49, Try.ntmps49
      go_wp2
      go_ret
      exact ⟨rfl, rfl⟩
    · have hk : k = 1 ∨ k = 2 ∨ k = 3 ∨ k = 4 ∨ k = 5 ∨ k = 6 ∨ k = 7 := by omega
      clear h1 h2
      rcases hk with rfl | rfl | rfl | rfl | rfl | rfl | rfl
      all_goals
        go_enter Try.func49, Try.ntmps49
        go_wp2
        go_ret
        exact ⟨by rfl, rfl⟩
theorem has_inr (k : Int) (w : World) : Calls Try.prog 49 #[.int .i64 k, .int .i64 7] w fun e w' => e = .returned (.bool (inr k)) ∧ w = w' := by
  by_cases h1 : k < 1
  · have d1 : decide ((1 : Int) ≤ k) = false := decide_eq_false (by omega)
    have hr : inr k = false := by unfold inr; exact decide_eq_false (by omega)
    rw [hr]
    clear hr
    go_enter Try.func49, Try.ntmps49
    go_wp2
    go_ret
    exact ⟨rfl, rfl⟩
  · by_cases h2 : 7 < k
    · have d1 : decide ((1 : Int) ≤ k) = true := decide_eq_true (by omega)
      have d2 : decide (k ≤ 7) = false := decide_eq_false (by omega)
      have hr : inr k = false := by unfold inr; exact decide_eq_false (by omega)
      rw [hr]
      clear hr
      go_enter Try.func49, Try.ntmps49
      go_wp2
      go_ret
      exact ⟨rfl, rfl⟩
    · have hk : k = 1 ∨ k = 2 ∨ k = 3 ∨ k = 4 ∨ k = 5 ∨ k = 6 ∨ k = 7 := by omega
      clear h1 h2
      rcases hk with rfl | rfl | rfl | rfl | rfl | rfl | rfl
      all_goals
        go_enter Try.func49, Try.ntmps49
        go_wp2
        go_ret
        exact ⟨by rfl, rfl⟩
theorem rgrp_any (k : Int) (w : World) : Calls Try.prog 56 #[.int .i64 k] w fun e w' => e = .returned (.bool (grp k)) ∧ w = w' := by
  by_cases h4 : k = 4
  · subst h4
    go_enter Try.func56, Try.ntmps56
    go_wp2
    go_ret
    exact ⟨by rfl, rfl⟩
  · have t4 : (k == 4) = false := by simpa using h4
    by_cases h5 : k = 5
    · subst h5
      go_enter Try.func56, Try.ntmps56
      go_wp2
      go_ret
      exact ⟨by rfl, rfl⟩
    · have t5 : (k == 5) = false := by simpa using h5
      by_cases h6 : k = 6
      · subst h6
        go_enter Try.func56, Try.ntmps56
        go_wp2
        go_ret
        exact ⟨by rfl, rfl⟩
      · have t6 : (k == 6) = false := by simpa using h6
        by_cases h7 : k = 7
        · subst h7
          go_enter Try.func56, Try.ntmps56
          go_wp2
          go_ret
          exact ⟨by rfl, rfl⟩
        · have t7 : (k == 7) = false := by simpa using h7
          have hr : grp k = false := by unfold grp; exact decide_eq_false (by omega)
          rw [hr]
          clear hr
          clear h4 h5 h6 h7
          go_enter Try.func56, Try.ntmps56
          go_wp2
          go_ret
          exact ⟨by rfl, rfl⟩
theorem ridk_any (k : Int) (w : World) : Calls Try.prog 57 #[.int .i64 k] w fun e w' => e = .returned (.bool (idk k)) ∧ w = w' := by
  by_cases h2 : k = 2
  · subst h2
    go_enter Try.func57, Try.ntmps57
    go_wp2
    go_ret
    exact ⟨by rfl, rfl⟩
  · have t2 : (k == 2) = false := by simpa using h2
    by_cases h3 : k = 3
    · subst h3
      go_enter Try.func57, Try.ntmps57
      go_wp2
      go_ret
      exact ⟨by rfl, rfl⟩
    · have t3 : (k == 3) = false := by simpa using h3
      by_cases h6 : k = 6
      · subst h6
        go_enter Try.func57, Try.ntmps57
        go_wp2
        go_ret
        exact ⟨by rfl, rfl⟩
      · have t6 : (k == 6) = false := by simpa using h6
        by_cases h7 : k = 7
        · subst h7
          go_enter Try.func57, Try.ntmps57
          go_wp2
          go_ret
          exact ⟨by rfl, rfl⟩
        · have t7 : (k == 7) = false := by simpa using h7
          have hr : idk k = false := by unfold idk; exact decide_eq_false (by omega)
          rw [hr]
          clear hr
          clear h2 h3 h6 h7
          go_enter Try.func57, Try.ntmps57
          go_wp2
          go_ret
          exact ⟨by rfl, rfl⟩
theorem rptk_any (k : Int) (w : World) : Calls Try.prog 58 #[.int .i64 k] w fun e w' => e = .returned (.bool (ptk k)) ∧ w = w' := by
  by_cases h1 : k = 1
  · subst h1
    go_enter Try.func58, Try.ntmps58
    go_wp2
    go_ret
    exact ⟨by rfl, rfl⟩
  · have t1 : (k == 1) = false := by simpa using h1
    by_cases h2 : k = 2
    · subst h2
      go_enter Try.func58, Try.ntmps58
      go_wp2
      go_ret
      exact ⟨by rfl, rfl⟩
    · have t2 : (k == 2) = false := by simpa using h2
      have hr : ptk k = false := by unfold ptk; exact decide_eq_false (by omega)
      rw [hr]
      clear hr
      clear h1 h2
      go_enter Try.func58, Try.ntmps58
      go_wp2
      go_ret
      exact ⟨by rfl, rfl⟩
theorem echk_bool {k id gr : Int} {x : BitVec 32} {lab : Int} {f : List V3} {g i p zg zi bp d1 d2 e1 e2 : Bool} (h1 : 1 ≤ k) (h2 : k ≤ 7) (hg : grp k = g) (hi : idk k = i) (hp : ptk k = p) (hzg : (gr != 0) = zg) (hzi : (id != 0) = zi)
    (hbp : decide ((x.toNat : Int) = 0 ∧ lab = 0 ∧ f = zeros) = bp) (hd1 : decide (gr < 0) = d1) (hd2 : decide (16 ≤ gr) = d2) (he1 : decide (id < 1) = e1) (he2 : decide (1073741824 ≤ id) = e2) :
    echk k id gr x lab f = if ((!g && zg) || (!i && zi) || (!p && !bp)) = true then 1 else if (d1 || d2 || (i && (e1 || e2))) = true then 1 else if p = true then pchk x lab f else 0 := by
  subst hg hi hp hzg hzi hbp hd1 hd2 he1 he2
  unfold echk
  rw [if_neg (by omega)]
  have hx : (x = 0#32 ∧ lab = 0 ∧ f = zeros) ↔ ((x.toNat : Int) = 0 ∧ lab = 0 ∧ f = zeros) := by
    constructor
    · rintro ⟨rfl, h⟩; exact ⟨rfl, h⟩
    · rintro ⟨h0, h⟩; exact ⟨BitVec.eq_of_toNat_eq (by simpa using h0), h⟩
  have c2 : ((grp k = false ∧ gr ≠ 0) ∨ (idk k = false ∧ id ≠ 0) ∨ (ptk k = false ∧ ¬ (x = 0#32 ∧ lab = 0 ∧ f = zeros))) ↔ ((!grp k && (gr != 0)) || (!idk k && (id != 0)) || (!ptk k && !decide ((x.toNat : Int) = 0 ∧ lab = 0 ∧ f = zeros))) = true := by
    rw [hx]
    simp only [Bool.or_eq_true, Bool.and_eq_true, Bool.not_eq_true', bne_iff_ne, decide_eq_false_iff_not, or_assoc]
  have c3 : (gr < 0 ∨ 16 ≤ gr ∨ (idk k = true ∧ (id < 1 ∨ 1073741824 ≤ id))) ↔ (decide (gr < 0) || decide (16 ≤ gr) || (idk k && (decide (id < 1) || decide (1073741824 ≤ id)))) = true := by
    simp only [Bool.or_eq_true, Bool.and_eq_true, decide_eq_true_eq, or_assoc]
  simp only [c2, c3]
end Go.Proofs.Ytnhcjadkbogioaa
namespace Go.Proofs.Ytnhcjadkbogioaa
open Go Go.RowKit
abbrev Nd := Int × Int × V3
def ncells (n : Nd) : List Value := [.int .i64 n.1, .int .i64 n.2.1, .int .i64 n.2.2.1, .int .i64 n.2.2.2.1, .string n.2.2.2.2]
def ncs (l : List Nd) : List Value := l.flatMap ncells
theorem ncells_len (n : Nd) : (ncells n).length = 5 := rfl
theorem ncells_of (n : Nd) : ncells n = [.int .i64 n.1, .int .i64 n.2.1] ++ vcells n.2.2 := rfl
theorem ncs_cons (n : Nd) (l : List Nd) : ncs (n :: l) = ncells n ++ ncs l := rfl
theorem ncs_append (l m : List Nd) : ncs (l ++ m) = ncs l ++ ncs m := by simp [ncs]
theorem ncs_len (l : List Nd) : (ncs l).length = 5 * l.length := by
  induction l with
  | nil => rfl
  | cons n l ih => rw [ncs_cons, List.length_append, ih, ncells_len, List.length_cons]; omega
theorem ncs_one (l : List Nd) : ∀ u ∈ ncs l, u.oneCell' = true := by
  intro u hu
  simp only [ncs, List.mem_flatMap, ncells] at hu
  obtain ⟨v, _, hv⟩ := hu
  simp at hv
  rcases hv with rfl | rfl | rfl | rfl | rfl <;> rfl
theorem ncs_drop (l : List Nd) (k : Nat) : (ncs l).drop (5 * k) = ncs (l.drop k) := by
  induction l generalizing k with
  | nil => simp [ncs]
  | cons n l ih =>
    cases k with
    | zero => simp
    | succ k =>
      rw [ncs_cons, List.drop_succ_cons, show 5 * (k + 1) = 5 + 5 * k by omega, ← List.drop_drop]
      rw [show (ncells n ++ ncs l).drop 5 = ncs l from by rw [List.drop_append_of_le_length (by simp [ncells])]; simp [ncells]]
      exact ih k
theorem ncs_take (l : List Nd) (k : Nat) : (ncs l).take (5 * k) = ncs (l.take k) := by
  induction l generalizing k with
  | nil => simp [ncs]
  | cons n l ih =>
    cases k with
    | zero => simp [ncs]
    | succ k =>
      rw [ncs_cons, List.take_succ_cons, ncs_cons, show 5 * (k + 1) = (ncells n).length + 5 * k by rw [ncells_len]; omega, List.take_length_add_append, ih k]
theorem ncs_get (l : List Nd) (k : Nat) (h : k < l.length) : ((ncs l).drop (5 * k)).take 5 = ncells l[k] := by
  rw [ncs_drop, List.drop_eq_getElem_cons h, ncs_cons, List.take_append_of_le_length (by simp [ncells])]
  simp [ncells]
def par (op : Int) : Nat := if op = 10 then 1 else if op = 11 ∨ op = 12 then 2 else 0
theorem par_le (op : Int) : par op ≤ 2 := by unfold par; split; · omega
                                             · split <;> omega
def nok (n : Nd) : Bool :=
  if n.1 = 1 ∨ n.1 = 2 ∨ n.1 = 10 ∨ n.1 = 11 ∨ n.1 = 12 then decide (n.2.1 = 0 ∧ n.2.2 = zv)
  else if n.1 = 3 ∨ n.1 = 4 then decide (0 ≤ n.2.1 ∧ n.2.1 < 16 ∧ n.2.2 = zv)
  else if n.1 = 5 then decide (0 ≤ n.2.1 ∧ n.2.1 < 8 ∧ n.2.2 = zv)
  else if n.1 = 6 ∨ n.1 = 7 ∨ n.1 = 8 then decide (0 ≤ n.2.1 ∧ n.2.1 < 8 ∧ vchk n.2.2 = true ∧ n.2.2 ≠ zv)
  else if n.1 = 9 then decide (0 ≤ n.2.1 ∧ n.2.1 < 8 ∧ vchk n.2.2 = true ∧ n.2.2.1 = 2)
  else false
theorem vchk_isz {v : V3} (h : vchk v = true) : v.1 = 0 ↔ v = zv := by
  obtain ⟨k, n, s⟩ := v
  constructor
  · intro hk
    have hk : k = 0 := hk
    subst hk
    rw [vchk_0] at h
    simp only [decide_eq_true_eq, nil_str_iff] at h
    rw [h.1, h.2]
    rfl
  · intro e
    rw [e]
    rfl
def endOf : List Nd → Nat → Option Nat
  | _, 0 => some 0
  | [], _ + 1 => none
  | x :: l, k + 1 => (endOf l (k + par x.1)).map (· + 1)
theorem endOf_zero (l : List Nd) : endOf l 0 = some 0 := by cases l <;> rfl
theorem endOf_cons (x : Nd) (l : List Nd) (k : Nat) : endOf (x :: l) (k + 1) = (endOf l (k + par x.1)).map (· + 1) := rfl
theorem endOf_le : ∀ {l : List Nd} {k m : Nat}, endOf l k = some m → m ≤ l.length
  | l, 0, m, h => by rw [endOf_zero] at h; cases h; omega
  | [], k + 1, m, h => by cases h
  | x :: l, k + 1, m, h => by
    rw [endOf_cons, Option.map_eq_some_iff] at h
    obtain ⟨m', h', rfl⟩ := h
    have := endOf_le h'
    simp; omega
def endAt (l : List Nd) (at_ : Int) : Int := if at_ < 0 then -1 else match endOf (l.drop at_.toNat) 1 with
  | some m => at_ + m
  | none => -1
theorem endAt_nat (l : List Nd) (j : Nat) : endAt l (j : Int) = match endOf (l.drop j) 1 with
    | some m => (j : Int) + m
    | none => -1 := by
  unfold endAt
  rw [if_neg (by omega)]
  simp
theorem endAt_neg (l : List Nd) (j : Int) (h : j < 0) : endAt l j = -1 := by unfold endAt; rw [if_pos h]
def Wood (l : List Nd) (k : Nat) : Prop := endOf l k = some l.length
instance (l : List Nd) (k : Nat) : Decidable (Wood l k) := inferInstanceAs (Decidable (_ = _))
theorem wood_nil : Wood [] 0 := rfl
theorem wood_cons {x : Nd} {l : List Nd} {k : Nat} (h : Wood (x :: l) k) : ∃ j, k = j + 1 ∧ Wood l (j + par x.1) := by
  cases k with
  | zero => unfold Wood at h; rw [endOf_zero] at h; simp at h
  | succ j =>
    refine ⟨j, rfl, ?_⟩
    unfold Wood at h ⊢
    rw [endOf_cons, Option.map_eq_some_iff] at h
    obtain ⟨m, h1, h2⟩ := h
    simp at h2
    rw [h1, h2]
theorem wood_mk {x : Nd} {l : List Nd} {k : Nat} (h : Wood l (k + par x.1)) : Wood (x :: l) (k + 1) := by
  unfold Wood at h ⊢
  rw [endOf_cons, h]
  rfl
theorem wood_drop {l : List Nd} {k : Nat} (h : Wood l k) (j : Nat) (hj : j ≤ l.length) : ∃ k', Wood (l.drop j) k' := by
  induction j generalizing l k with
  | zero => exact ⟨k, h⟩
  | succ j ih =>
    cases l with
    | nil => simp at hj
    | cons x l =>
      obtain ⟨i, _, h'⟩ := wood_cons h
      exact ih h' (by simpa using hj)
theorem wood_uniq {l : List Nd} {k k' : Nat} (h : Wood l k) (h' : Wood l k') : k = k' := by
  induction l generalizing k k' with
  | nil =>
    cases k with
    | zero => cases k' with
      | zero => rfl
      | succ _ => cases h'
    | succ _ => cases h
  | cons x l ih =>
    obtain ⟨j, rfl, h1⟩ := wood_cons h
    obtain ⟨j', rfl, h1'⟩ := wood_cons h'
    have := ih h1 h1'
    omega
theorem endOf_split {l : List Nd} : ∀ (j k m : Nat), endOf l (j + k) = some m → ∃ m1, endOf l j = some m1 ∧ Wood (l.take m1) j ∧ m1 ≤ m ∧ endOf (l.drop m1) k = some (m - m1) := by
  induction l with
  | nil =>
    intro j k m h
    cases j with
    | zero => exact ⟨0, rfl, rfl, by omega, by simpa using h⟩
    | succ j => rw [show j + 1 + k = (j + k) + 1 by omega] at h; cases h
  | cons x l ih =>
    intro j k m h
    cases j with
    | zero => exact ⟨0, rfl, by simpa using wood_nil, by omega, by simpa using h⟩
    | succ j =>
      rw [show j + 1 + k = (j + k) + 1 by omega, endOf_cons, Option.map_eq_some_iff] at h
      obtain ⟨m', h1, rfl⟩ := h
      rw [show j + k + par x.1 = (j + par x.1) + k by omega] at h1
      obtain ⟨m1, e1, e2, e3, e4⟩ := ih _ _ _ h1
      refine ⟨m1 + 1, by rw [endOf_cons, e1]; rfl, ?_, by omega, ?_⟩
      · rw [List.take_succ_cons]; exact wood_mk e2
      · rw [List.drop_succ_cons, e4]; congr 1; omega
theorem wood_split {l : List Nd} {j k : Nat} (h : Wood l (j + k)) : ∃ m1, endOf l j = some m1 ∧ m1 ≤ l.length ∧ Wood (l.take m1) j ∧ Wood (l.drop m1) k := by
  obtain ⟨m1, e1, e2, e3, e4⟩ := endOf_split j k _ h
  refine ⟨m1, e1, e3, e2, ?_⟩
  unfold Wood
  rw [e4, List.length_drop]
def stk : List Nd → List Nat
  | [] => []
  | x :: l => (((stk l).take (par x.1)).foldl max 0 + 1) :: (stk l).drop (par x.1)
theorem stk_cons (x : Nd) (l : List Nd) : stk (x :: l) = (((stk l).take (par x.1)).foldl max 0 + 1) :: (stk l).drop (par x.1) := rfl
theorem stk_len {l : List Nd} {k : Nat} (h : Wood l k) : (stk l).length = k := by
  induction l generalizing k with
  | nil => rw [wood_uniq h wood_nil]; rfl
  | cons x l ih =>
    obtain ⟨j, rfl, h1⟩ := wood_cons h
    have := ih h1
    simp [stk, this]
theorem stk_app {a b : List Nd} {k : Nat} (h : Wood a k) : stk (a ++ b) = stk a ++ stk b := by
  induction a generalizing k with
  | nil => rfl
  | cons x a ih =>
    obtain ⟨j, rfl, h1⟩ := wood_cons h
    have hl := stk_len h1
    rw [List.cons_append, stk_cons, stk_cons, ih h1]
    rw [List.take_append_of_le_length (by omega), List.drop_append_of_le_length (by omega)]
    rfl
theorem stk_lt (l : List Nd) : ∀ d ∈ stk l, 1 ≤ d ∧ d ≤ l.length := by
  induction l with
  | nil => simp [stk]
  | cons x l ih =>
    intro d hd
    rw [stk_cons, List.mem_cons] at hd
    rcases hd with rfl | hd
    · have hmax : ∀ (q : List Nat) (a : Nat), (∀ y ∈ q, y ≤ l.length) → a ≤ l.length → q.foldl max a ≤ l.length := by
        intro q
        induction q with
        | nil => intro a _ h; exact h
        | cons y q ihq =>
          intro a hq ha
          refine ihq _ (fun z hz => hq z (List.mem_cons_of_mem _ hz)) ?_
          have := hq y (by simp)
          omega
      have := hmax ((stk l).take (par x.1)) 0 (fun y hy => (ih y (List.mem_of_mem_take hy)).2) (by omega)
      simp only [List.length_cons]
      omega
    · have := ih d (List.mem_of_mem_drop hd)
      simp only [List.length_cons]
      omega
def dep (l : List Nd) : Nat := if Wood l 1 then (stk l).headD 0 else 0
theorem dep_not {l : List Nd} (h : ¬ Wood l 1) : dep l = 0 := by unfold dep; rw [if_neg h]
theorem dep_wood {l : List Nd} (h : Wood l 1) : stk l = [dep l] := by
  unfold dep
  rw [if_pos h]
  have hl := stk_len h
  match hs : stk l, hl with
  | [d], _ => rfl
theorem dep_le (l : List Nd) : dep l ≤ l.length := by
  unfold dep
  split
  · cases hs : stk l with
    | nil => simp
    | cons d q => exact (stk_lt l d (by rw [hs]; simp)).2
  · omega
theorem wood_end (l : List Nd) : endAt l 0 = (l.length : Int) ↔ Wood l 1 := by
  have := endAt_nat l 0
  simp only [Int.ofNat_zero, List.drop_zero, Int.zero_add, Int.natCast_zero] at this
  rw [show endAt l 0 = _ from this]
  unfold Wood
  cases endOf l 1 with
  | none => simp
  | some m => simp; omega
def lchk (l : List Nd) : Int :=
  if 31 < l.length then 4 else if l.all nok = false then 1 else if ¬ Wood l 1 then 1 else if 8 < dep l then 5 else 0
theorem lchk_ok {l : List Nd} (h : lchk l = 0) : l.length ≤ 31 ∧ (∀ n ∈ l, nok n = true) ∧ Wood l 1 ∧ dep l ≤ 8 := by
  unfold lchk at h
  by_cases h1 : 31 < l.length
  · rw [if_pos h1] at h; cases h
  · rw [if_neg h1] at h
    by_cases h2 : l.all nok = false
    · rw [if_pos h2] at h; cases h
    · rw [if_neg h2] at h
      by_cases h3 : ¬ Wood l 1
      · rw [if_pos h3] at h; cases h
      · rw [if_neg h3] at h
        by_cases h4 : 8 < dep l
        · rw [if_pos h4] at h; cases h
        · exact ⟨by omega, by simpa using h2, by simpa using h3, by omega⟩
theorem info_node : (Try.prog.info? 76).map (·.size) = some 5 := by kernel_rfl
theorem info_val3 : (Try.prog.info? 24).map (·.size) = some 3 := by kernel_rfl
theorem parts_any (op : Int) (w : World) : Calls Try.prog 101 #[.int .i64 op] w fun e w' => e = .returned (.int .i64 (par op)) ∧ w = w' := by
  by_cases h0 : op = 10
  · subst h0
    go_enter Try.func101, Try.ntmps101
    go_wp2
    go_ret
    exact ⟨rfl, rfl⟩
  by_cases h1 : op = 11
  · subst h1
    go_enter Try.func101, Try.ntmps101
    go_wp2
    go_ret
    exact ⟨rfl, rfl⟩
  by_cases h2 : op = 12
  · subst h2
    go_enter Try.func101, Try.ntmps101
    go_wp2
    go_ret
    exact ⟨rfl, rfl⟩
  have hp : Hid (par op = 0) := hid (by unfold par; simp [h0, h1, h2])
  have b0 : (op == 10) = false := by simpa using h0
  have b1 : (op == 11) = false := by simpa using h1
  have b2 : (op == 12) = false := by simpa using h2
  clear h0 h1 h2
  go_enter Try.func101, Try.ntmps101
  go_wp2
  go_ret
  exact ⟨by rw [hp.out]; rfl, rfl⟩
theorem rparts_any (op : Int) (w : World) : Calls Try.prog 99 #[.int .i64 op] w fun e w' => e = .returned (.int .i64 (par op)) ∧ w = w' := by
  by_cases h0 : op = 10
  · subst h0
    go_enter Try.func99, Try.ntmps99
    go_wp2
    go_ret
    exact ⟨rfl, rfl⟩
  by_cases h1 : op = 11
  · subst h1
    go_enter Try.func99, Try.ntmps99
    go_wp2
    go_ret
    exact ⟨rfl, rfl⟩
  by_cases h2 : op = 12
  · subst h2
    go_enter Try.func99, Try.ntmps99
    go_wp2
    go_ret
    exact ⟨rfl, rfl⟩
  have hp : Hid (par op = 0) := hid (by unfold par; simp [h0, h1, h2])
  have b0 : (op == 10) = false := by simpa using h0
  have b1 : (op == 11) = false := by simpa using h1
  have b2 : (op == 12) = false := by simpa using h2
  clear h0 h1 h2
  go_enter Try.func99, Try.ntmps99
  go_wp2
  go_ret
  exact ⟨by rw [hp.out]; rfl, rfl⟩
end Go.Proofs.Ytnhcjadkbogioaa
