/- Edits as they are read of bytes, and put: mathematics. -/
import Derived.Test.YtgpbglmlakildaaE12
import Derived.Test.YtgpbglmlakildaaE7
namespace Go.Proofs.Ytgpbglmlakildaa
set_option linter.unusedVariables false
set_option linter.unusedSimpArgs false
open Go Go.RowKit OctM BitM

def grp (k : Int) : Bool := decide (4 ≤ k ∧ k ≤ 7)
def idk (k : Int) : Bool := decide (k = 2 ∨ k = 3 ∨ k = 6 ∨ k = 7)
def ptk (k : Int) : Bool := decide (k = 1 ∨ k = 2)
/-- What is wrong with an edit. -/
def echk (k id gr : Int) (x : BitVec 32) (lab : Int) (f : List V3) : Int :=
  if k < 1 ∨ 7 < k then 1
  else if (grp k = false ∧ gr ≠ 0) ∨ (idk k = false ∧ id ≠ 0) ∨ (ptk k = false ∧ ¬ (x = 0#32 ∧ lab = 0 ∧ f = zeros)) then 1
  else if gr < 0 ∨ 16 ≤ gr ∨ (idk k = true ∧ (id < 1 ∨ 1073741824 ≤ id)) then 1
  else if ptk k = true then pchk x lab f else 0
/-- An edit's bytes. -/
def ebs (k id gr : Int) (x : BitVec 32) (lab : Int) (f : List V3) : List UInt8 :=
  if echk k id gr x lab f ≠ 0 then []
  else enc (held k) ++ ((if grp k = true then enc (held gr) else []) ++ ((if idk k = true then enc (held id) else []) ++ (if ptk k = true then pbs x lab f else [])))
def edA (l : List UInt8) (a : Nat) (e : Int) : Nat × Nat × Int := abvOut l a e 7
def edG (l : List UInt8) (a : Nat) (e : Int) : Nat × Nat × Int := if grp ((edA l a e).1 : Int) = true then numOut l (edA l a e).2.1 (edA l a e).2.2 15 else (0, (edA l a e).2)
def edI (l : List UInt8) (a : Nat) (e : Int) : Nat × Nat × Int := if idk ((edA l a e).1 : Int) = true then abvOut l (edG l a e).2.1 (edG l a e).2.2 1073741823 else (0, (edG l a e).2)
def edP (l : List UInt8) (a : Nat) (e : Int) : (Int × Int × List V3) × Nat × Int := if ptk ((edA l a e).1 : Int) = true then patOut l (edI l a e).2.1 (edI l a e).2.2 else ((0, 0, zeros), (edI l a e).2)
/-- What is read of bytes: the edit, how far, the error. -/
def editOut (l : List UInt8) (a : Nat) (e : Int) : (Int × Int × Int × Int × Int × List V3) × Nat × Int :=
  (if (edP l a e).2.2 = 0 then (((edA l a e).1 : Int), ((edI l a e).1 : Int), ((edG l a e).1 : Int), (edP l a e).1) else (0, 0, 0, 0, 0, zeros), (edP l a e).2)
theorem edG_at (l : List UInt8) (a : Nat) (e : Int) (h : a ≤ l.length) : (edG l a e).2.1 ≤ l.length := by
  unfold edG
  split
  · exact numOut_at _ _ _ _ (abvOut_at _ _ _ _ h)
  · exact abvOut_at _ _ _ _ h
theorem edI_at (l : List UInt8) (a : Nat) (e : Int) (h : a ≤ l.length) : (edI l a e).2.1 ≤ l.length := by
  unfold edI
  split
  · exact abvOut_at _ _ _ _ (edG_at _ _ _ h)
  · exact edG_at _ _ _ h
theorem editOut_at (l : List UInt8) (a : Nat) (e : Int) (h : a ≤ l.length) : (editOut l a e).2.1 ≤ l.length := by
  unfold editOut edP
  simp only
  split
  · exact patOut_at _ _ _ (edI_at _ _ _ h)
  · exact edI_at _ _ _ h
theorem editOut_len (l : List UInt8) (a : Nat) (e : Int) : (editOut l a e).1.2.2.2.2.2.length = 8 := by
  unfold editOut
  simp only
  split
  · unfold edP
    split
    · exact patOut_len _ _ _
    · exact zeros_len
  · exact zeros_len
theorem ebs_len (k id gr : Int) (x : BitVec 32) (lab : Int) (f : List V3) : (ebs k id gr x lab f).length ≤ 420 := by
  unfold ebs
  split
  · simp
  · have h1 := held_len k
    have h2 := held_len gr
    have h3 := held_len id
    have h4 := pbs_len x lab f
    simp only [List.length_append]
    have g1 : (if grp k = true then enc (held gr) else []).length ≤ 6 := by split <;> simp_all
    have g2 : (if idk k = true then enc (held id) else []).length ≤ 6 := by split <;> simp_all
    have g3 : (if ptk k = true then pbs x lab f else []).length ≤ 400 := by split <;> simp_all
    omega
theorem echk_ok {k id gr : Int} {x : BitVec 32} {lab : Int} {f : List V3} (h : echk k id gr x lab f = 0) :
    1 ≤ k ∧ k ≤ 7 ∧ (grp k = false → gr = 0) ∧ (idk k = false → id = 0) ∧ (ptk k = false → x = 0#32 ∧ lab = 0 ∧ f = zeros) ∧ 0 ≤ gr ∧ gr < 16 ∧ (idk k = true → 1 ≤ id ∧ id < 1073741824) ∧ (ptk k = true → pchk x lab f = 0) := by
  unfold echk at h
  by_cases c1 : k < 1 ∨ 7 < k
  · rw [if_pos c1] at h; cases h
  · rw [if_neg c1] at h
    by_cases c2 : (grp k = false ∧ gr ≠ 0) ∨ (idk k = false ∧ id ≠ 0) ∨ (ptk k = false ∧ ¬ (x = 0#32 ∧ lab = 0 ∧ f = zeros))
    · rw [if_pos c2] at h; cases h
    · rw [if_neg c2] at h
      by_cases c3 : gr < 0 ∨ 16 ≤ gr ∨ (idk k = true ∧ (id < 1 ∨ 1073741824 ≤ id))
      · rw [if_pos c3] at h; cases h
      · rw [if_neg c3] at h
        refine ⟨by omega, by omega, fun hh => ?_, fun hh => ?_, fun hh => ?_, by omega, by omega, fun hh => ?_, fun hh => ?_⟩
        · by_cases e : gr = 0
          · exact e
          · exact absurd (.inl ⟨hh, e⟩) c2
        · by_cases e : id = 0
          · exact e
          · exact absurd (.inr (.inl ⟨hh, e⟩)) c2
        · by_cases e : x = 0#32 ∧ lab = 0 ∧ f = zeros
          · exact e
          · exact absurd (.inr (.inr ⟨hh, e⟩)) c2
        · by_cases e : id < 1 ∨ 1073741824 ≤ id
          · exact absurd (.inr (.inr ⟨hh, e⟩)) c3
          · omega
        · rw [if_pos hh] at h; exact h
theorem echk_mk {k id gr : Int} {x : BitVec 32} {lab : Int} {f : List V3} (h1 : 1 ≤ k) (h2 : k ≤ 7) (h3 : grp k = false → gr = 0) (h4 : idk k = false → id = 0) (h5 : ptk k = false → x = 0#32 ∧ lab = 0 ∧ f = zeros) (h6 : 0 ≤ gr) (h7 : gr < 16)
    (h8 : idk k = true → 1 ≤ id ∧ id < 1073741824) (h9 : ptk k = true → pchk x lab f = 0) : echk k id gr x lab f = 0 := by
  unfold echk
  rw [if_neg (by omega), if_neg, if_neg]
  · split
    · rename_i hp; exact h9 hp
    · rfl
  · rintro (hh | hh | ⟨hh, hb⟩)
    · omega
    · omega
    · have := h8 hh; omega
  · rintro (⟨hh, hb⟩ | ⟨hh, hb⟩ | ⟨hh, hb⟩)
    · exact hb (h3 hh)
    · exact hb (h4 hh)
    · exact hb (h5 hh)
/-- A part that may lack is put, and read. -/
theorem edit_put (pre rest : List UInt8) (k id gr : Int) (x : BitVec 32) (lab : Int) (f : List V3) (hf : f.length = 8) (hl : 0 ≤ lab) (h : echk k id gr x lab f = 0) :
    editOut (pre ++ (ebs k id gr x lab f ++ rest)) pre.length 0 = ((k, id, gr, (x.toNat : Int), lab, f), pre.length + (ebs k id gr x lab f).length, 0) := by
  obtain ⟨h1, h2, h3, h4, h5, h6, h7, h8, h9⟩ := echk_ok h
  have hb : ebs k id gr x lab f = enc (held k) ++ ((if grp k = true then enc (held gr) else []) ++ ((if idk k = true then enc (held id) else []) ++ (if ptk k = true then pbs x lab f else []))) := by
    unfold ebs
    rw [if_neg (by rw [h]; simp)]
  obtain ⟨bg, hbg⟩ : ∃ z, z = (if grp k = true then enc (held gr) else []) := ⟨_, rfl⟩
  obtain ⟨bi, hbi⟩ : ∃ z, z = (if idk k = true then enc (held id) else []) := ⟨_, rfl⟩
  obtain ⟨bp, hbp⟩ : ∃ z, z = (if ptk k = true then pbs x lab f else []) := ⟨_, rfl⟩
  rw [← hbg, ← hbi, ← hbp] at hb
  have hk : ((held k : Nat) : Int) = k := held_self (by omega) (by omega)
  have n1 := abv_put pre (bg ++ (bi ++ (bp ++ rest))) k 7 h1 (by omega) h2
  obtain ⟨l, hll⟩ : ∃ l, l = pre ++ (enc (held k) ++ (bg ++ (bi ++ (bp ++ rest)))) := ⟨_, rfl⟩
  rw [← hll] at n1
  have e1 : pre ++ (ebs k id gr x lab f ++ rest) = l := by rw [hb, hll]; simp only [List.append_assoc]
  rw [e1]
  have kA : edA l pre.length 0 = (held k, pre.length + (enc (held k)).length, 0) := n1
  have kG : edG l pre.length 0 = (held gr, pre.length + (enc (held k)).length + bg.length, 0) := by
    unfold edG
    rw [kA]
    simp only
    rw [hk]
    by_cases hg : grp k = true
    · rw [if_pos hg]
      rw [if_pos hg] at hbg
      have n2 := num_put (pre ++ enc (held k)) (bi ++ (bp ++ rest)) (held gr) 15 (held_le gr) (by rw [held_self h6 (by omega)]; omega)
      rw [← hbg] at n2
      simp only [List.append_assoc, List.length_append] at n2
      rw [← hll] at n2
      exact n2
    · rw [if_neg hg]
      rw [if_neg hg] at hbg
      rw [hbg, h3 (by simpa using hg)]
      rfl
  have kI : edI l pre.length 0 = (held id, pre.length + (enc (held k)).length + bg.length + bi.length, 0) := by
    unfold edI
    rw [kA, kG]
    simp only
    rw [hk]
    by_cases hg : idk k = true
    · rw [if_pos hg]
      rw [if_pos hg] at hbi
      have hid := h8 hg
      have n3 := abv_put (pre ++ enc (held k) ++ bg) (bp ++ rest) id 1073741823 (by omega) (by omega) (by omega)
      rw [← hbi] at n3
      simp only [List.append_assoc, List.length_append] at n3
      rw [← hll] at n3
      simp only [← Nat.add_assoc] at n3
      exact n3
    · rw [if_neg hg]
      rw [if_neg hg] at hbi
      rw [hbi, h4 (by simpa using hg)]
      rfl
  have kP : edP l pre.length 0 = (((x.toNat : Int), lab, f), pre.length + (enc (held k)).length + bg.length + bi.length + bp.length, 0) := by
    unfold edP
    rw [kA, kI]
    simp only
    rw [hk]
    by_cases hg : ptk k = true
    · rw [if_pos hg]
      rw [if_pos hg] at hbp
      have n4 := patOut_put (pre ++ enc (held k) ++ bg ++ bi) rest x lab f hf hl (h9 hg)
      rw [← hbp] at n4
      simp only [List.append_assoc, List.length_append] at n4
      rw [← hll] at n4
      simp only [← Nat.add_assoc] at n4
      exact n4
    · rw [if_neg hg]
      rw [if_neg hg] at hbp
      obtain ⟨rfl, rfl, rfl⟩ := h5 (by simpa using hg)
      rw [hbp]
      rfl
  have hgr : ((held gr : Nat) : Int) = gr := held_self h6 (by omega)
  have hid : ((held id : Nat) : Int) = id := by
    by_cases hg : idk k = true
    · have := h8 hg; exact held_self (by omega) (by omega)
    · rw [h4 (by simpa using hg)]; rfl
  unfold editOut
  rw [kA, kG, kI, kP]
  simp only
  rw [if_pos trivial, hk, hgr, hid, hb]
  simp only [List.length_append, Nat.add_assoc]
theorem held_cast {n : Nat} (h : n ≤ 1099511627776) : held (n : Int) = n := by rw [held_nat (by omega) (by omega)]; rfl
/-- What is read without an error may be, and has just the bytes that were taken. -/
theorem edit_only {l : List UInt8} {a : Nat} {e : Int} (h : (editOut l a e).2.2 = 0) :
    ∃ x : BitVec 32, (editOut l a e).1.2.2.2.1 = (x.toNat : Int) ∧ 0 ≤ (editOut l a e).1.2.2.2.2.1 ∧ echk (editOut l a e).1.1 (editOut l a e).1.2.1 (editOut l a e).1.2.2.1 x (editOut l a e).1.2.2.2.2.1 (editOut l a e).1.2.2.2.2.2 = 0 ∧
      l.drop a = ebs (editOut l a e).1.1 (editOut l a e).1.2.1 (editOut l a e).1.2.2.1 x (editOut l a e).1.2.2.2.2.1 (editOut l a e).1.2.2.2.2.2 ++ l.drop (editOut l a e).2.1 ∧
      (editOut l a e).2.1 = a + (ebs (editOut l a e).1.1 (editOut l a e).1.2.1 (editOut l a e).1.2.2.1 x (editOut l a e).1.2.2.2.2.1 (editOut l a e).1.2.2.2.2.2).length := by
  have hP : (edP l a e).2.2 = 0 := h
  have hout : editOut l a e = ((((edA l a e).1 : Int), ((edI l a e).1 : Int), ((edG l a e).1 : Int), (edP l a e).1), (edP l a e).2) := by
    unfold editOut
    rw [if_pos hP]
  -- the patch
  obtain ⟨x, p1, p2, p3, p4, p5, p6, p7⟩ : ∃ x : BitVec 32, (edP l a e).1.1 = (x.toNat : Int) ∧ 0 ≤ (edP l a e).1.2.1 ∧ (edI l a e).2.2 = 0 ∧ (ptk ((edA l a e).1 : Int) = true → pchk x (edP l a e).1.2.1 (edP l a e).1.2.2 = 0) ∧
      (ptk ((edA l a e).1 : Int) = false → x = 0#32 ∧ (edP l a e).1.2.1 = 0 ∧ (edP l a e).1.2.2 = zeros) ∧
      l.drop (edI l a e).2.1 = (if ptk ((edA l a e).1 : Int) = true then pbs x (edP l a e).1.2.1 (edP l a e).1.2.2 else []) ++ l.drop (edP l a e).2.1 ∧
      (edP l a e).2.1 = (edI l a e).2.1 + (if ptk ((edA l a e).1 : Int) = true then pbs x (edP l a e).1.2.1 (edP l a e).1.2.2 else []).length := by
    by_cases hg : ptk ((edA l a e).1 : Int) = true
    · have hd : edP l a e = patOut l (edI l a e).2.1 (edI l a e).2.2 := by unfold edP; rw [if_pos hg]
      rw [hd] at hP ⊢
      obtain ⟨x, g1, g2, g3, g4, g5⟩ := pat_only hP
      have he : (edI l a e).2.2 = 0 := pat_err hP
      refine ⟨x, g1, g3, he, fun _ => g2, fun hh => (by rw [hg] at hh; cases hh), ?_, ?_⟩
      · rw [if_pos hg]; exact g4
      · rw [if_pos hg]; exact g5
    · have hd : edP l a e = ((0, 0, zeros), (edI l a e).2) := by unfold edP; rw [if_neg hg]
      rw [hd] at hP ⊢
      refine ⟨0#32, rfl, by simp, hP, fun hh => absurd hh hg, fun _ => ⟨rfl, rfl, rfl⟩, ?_, ?_⟩
      · rw [if_neg hg]; rfl
      · rw [if_neg hg]; rfl
  obtain ⟨i1, i2, i3, i4, i5⟩ : (edG l a e).2.2 = 0 ∧ (idk ((edA l a e).1 : Int) = true → 1 ≤ ((edI l a e).1 : Int) ∧ ((edI l a e).1 : Int) < 1073741824) ∧ (idk ((edA l a e).1 : Int) = false → ((edI l a e).1 : Int) = 0) ∧
      l.drop (edG l a e).2.1 = (if idk ((edA l a e).1 : Int) = true then enc (edI l a e).1 else []) ++ l.drop (edI l a e).2.1 ∧ (edI l a e).2.1 = (edG l a e).2.1 + (if idk ((edA l a e).1 : Int) = true then enc (edI l a e).1 else []).length := by
    by_cases hg : idk ((edA l a e).1 : Int) = true
    · have hd : edI l a e = abvOut l (edG l a e).2.1 (edG l a e).2.2 1073741823 := by unfold edI; rw [if_pos hg]
      rw [hd] at p3
      obtain ⟨g1, g2, g3, g4, g5, _⟩ := abv_only p3
      rw [← hd] at g2 g3 g4 g5
      refine ⟨g1, fun _ => by omega, fun hh => (by rw [hg] at hh; cases hh), ?_, ?_⟩
      · rw [if_pos hg]; exact g4
      · rw [if_pos hg]; exact g3
    · have hd : edI l a e = (0, (edG l a e).2) := by unfold edI; rw [if_neg hg]
      rw [hd] at p3 ⊢
      refine ⟨p3, fun hh => absurd hh hg, fun _ => rfl, ?_, ?_⟩
      · rw [if_neg hg]; rfl
      · rw [if_neg hg]; rfl
  obtain ⟨j1, j2, j3, j4, j5⟩ : (edA l a e).2.2 = 0 ∧ ((edG l a e).1 : Int) < 16 ∧ (grp ((edA l a e).1 : Int) = false → ((edG l a e).1 : Int) = 0) ∧
      l.drop (edA l a e).2.1 = (if grp ((edA l a e).1 : Int) = true then enc (edG l a e).1 else []) ++ l.drop (edG l a e).2.1 ∧ (edG l a e).2.1 = (edA l a e).2.1 + (if grp ((edA l a e).1 : Int) = true then enc (edG l a e).1 else []).length := by
    by_cases hg : grp ((edA l a e).1 : Int) = true
    · have hd : edG l a e = numOut l (edA l a e).2.1 (edA l a e).2.2 15 := by unfold edG; rw [if_pos hg]
      rw [hd] at i1
      obtain ⟨g1, g2, g3, g4, _⟩ := num_only i1
      rw [← hd] at g2 g3 g4
      refine ⟨g1, by omega, fun hh => (by rw [hg] at hh; cases hh), ?_, ?_⟩
      · rw [if_pos hg]; exact g3
      · rw [if_pos hg]; exact g2
    · have hd : edG l a e = (0, (edA l a e).2) := by unfold edG; rw [if_neg hg]
      rw [hd] at i1 ⊢
      refine ⟨i1, by simp, fun _ => rfl, ?_, ?_⟩
      · rw [if_neg hg]; rfl
      · rw [if_neg hg]; rfl
  obtain ⟨_, a0, a1, a2, a3, _⟩ := abv_only (l := l) (a := a) (e := e) (m := 7) j1
  change (edA l a e).1 ≠ 0 at a0
  change (edA l a e).2.1 = _ + (enc (edA l a e).1).length at a1
  change l.drop _ = enc (edA l a e).1 ++ l.drop (edA l a e).2.1 at a2
  change ((edA l a e).1 : Int) ≤ 7 at a3
  have hi16 : (edI l a e).1 ≤ 1099511627776 := by
    by_cases hg : idk ((edA l a e).1 : Int) = true
    · have := i2 hg; omega
    · have := i3 (by simpa using hg); omega
  have hck : echk ((edA l a e).1 : Int) ((edI l a e).1 : Int) ((edG l a e).1 : Int) x (edP l a e).1.2.1 (edP l a e).1.2.2 = 0 :=
    echk_mk (by omega) a3 j3 i3 p5 (by omega) j2 i2 p4
  have hbs : ebs ((edA l a e).1 : Int) ((edI l a e).1 : Int) ((edG l a e).1 : Int) x (edP l a e).1.2.1 (edP l a e).1.2.2 = enc (edA l a e).1 ++ ((if grp ((edA l a e).1 : Int) = true then enc (edG l a e).1 else []) ++ ((if idk ((edA l a e).1 : Int) = true then enc (edI l a e).1 else []) ++ (if ptk ((edA l a e).1 : Int) = true then pbs x (edP l a e).1.2.1 (edP l a e).1.2.2 else []))) := by
    unfold ebs
    rw [if_neg (by rw [hck]; simp), held_cast (by omega), held_cast (by omega), held_cast hi16]
  rw [hout]
  simp only
  refine ⟨x, p1, p2, hck, ?_, ?_⟩
  · rw [hbs]
    simp only [List.append_assoc]
    rw [← p6, ← i4, ← j4, ← a2]
  · rw [hbs]
    simp only [List.length_append]
    omega
end Go.Proofs.Ytgpbglmlakildaa

/- Edits: which may be, or why not: what each returns. -/
namespace Go.Proofs.Ytgpbglmlakildaa
set_option linter.unusedVariables false
set_option linter.unusedSimpArgs false
open Go Go.RowKit OctM BitM

def ecells (k id gr m lab : Int) (f : List V3) : List Value := [.int .i64 k, .int .i64 id, .int .i64 gr] ++ pcells m lab f
theorem ecells_len (k id gr m lab : Int) {f : List V3} (h : f.length = 8) : (ecells k id gr m lab f).length = 29 := by
  unfold ecells
  rw [List.length_append, pcells_len _ _ h]
  rfl
theorem ecells_one (k id gr m lab : Int) (f : List V3) : ∀ u ∈ ecells k id gr m lab f, u.oneCell' = true := by
  intro u hu
  unfold ecells at hu
  rcases List.mem_append.1 hu with h | h
  · simp only [List.mem_cons, List.not_mem_nil, or_false] at h
    rcases h with rfl | rfl | rfl <;> rfl
  · exact pcells_one _ _ _ u h
theorem Blk.patchE {w : World} {g : Nat} {k id gr m lab : Int} {f : List V3} (h : Blk w g (ecells k id gr m lab f)) : w.rangeAt g 3 (pcells m lab f) :=
  h.range 3 _ (by
    unfold ecells
    rw [List.drop_left' (by rfl), List.take_length])
theorem Blk.edit {w : World} {g : Nat} {k id gr m lab : Int} {f : List V3} (h : Blk w g (ecells k id gr m lab f)) :
    w.cell? ⟨g, 0, none⟩ = some (.int .i64 k) ∧ w.cell? ⟨g, 1, none⟩ = some (.int .i64 id) ∧ w.cell? ⟨g, 2, none⟩ = some (.int .i64 gr) := ⟨h.cell rfl, h.cell rfl, h.cell rfl⟩
theorem guard_patchE : Try.prog.eqGuardType Try.prog.depth 61 = false := by kernel_rfl
def inr (k : Int) : Bool := decide (1 ≤ k ∧ k ≤ 7)
set_option maxRecDepth 100000 in
theorem has_grp (k : Int) (w : World) : Calls Try.prog 75 #[.int .i64 k, .int .i64 1] w fun e w' => e = .returned (.bool (grp k)) ∧ w = w' := by
  by_cases h1 : k < 1
  · have d1 : decide ((1 : Int) ≤ k) = false := decide_eq_false (by omega)
    have hr : grp k = false := by unfold grp; exact decide_eq_false (by omega)
    rw [hr]
    clear hr
    go_enter Try.func75, Try.ntmps75
    go_wp2
    go_ret
    exact ⟨rfl, rfl⟩
  · by_cases h2 : 7 < k
    · have d1 : decide ((1 : Int) ≤ k) = true := decide_eq_true (by omega)
      have d2 : decide (k ≤ 7) = false := decide_eq_false (by omega)
      have hr : grp k = false := by unfold grp; exact decide_eq_false (by omega)
      rw [hr]
      clear hr
      go_enter Try.func75, Try.ntmps75
      go_wp2
      go_ret
      exact ⟨rfl, rfl⟩
    · have hk : k = 1 ∨ k = 2 ∨ k = 3 ∨ k = 4 ∨ k = 5 ∨ k = 6 ∨ k = 7 := by omega
      clear h1 h2
      rcases hk with rfl | rfl | rfl | rfl | rfl | rfl | rfl
      all_goals
        go_enter Try.func75, Try.ntmps75
        go_wp2
        go_ret
        exact ⟨by rfl, rfl⟩
set_option maxRecDepth 100000 in
theorem has_idk (k : Int) (w : World) : Calls Try.prog 75 #[.int .i64 k, .int .i64 2] w fun e w' => e = .returned (.bool (idk k)) ∧ w = w' := by
  by_cases h1 : k < 1
  · have d1 : decide ((1 : Int) ≤ k) = false := decide_eq_false (by omega)
    have hr : idk k = false := by unfold idk; exact decide_eq_false (by omega)
    rw [hr]
    clear hr
    go_enter Try.func75, Try.ntmps75
    go_wp2
    go_ret
    exact ⟨rfl, rfl⟩
  · by_cases h2 : 7 < k
    · have d1 : decide ((1 : Int) ≤ k) = true := decide_eq_true (by omega)
      have d2 : decide (k ≤ 7) = false := decide_eq_false (by omega)
      have hr : idk k = false := by unfold idk; exact decide_eq_false (by omega)
      rw [hr]
      clear hr
      go_enter Try.func75, Try.ntmps75
      go_wp2
      go_ret
      exact ⟨rfl, rfl⟩
    · have hk : k = 1 ∨ k = 2 ∨ k = 3 ∨ k = 4 ∨ k = 5 ∨ k = 6 ∨ k = 7 := by omega
      clear h1 h2
      rcases hk with rfl | rfl | rfl | rfl | rfl | rfl | rfl
      all_goals
        go_enter Try.func75, Try.ntmps75
        go_wp2
        go_ret
        exact ⟨by rfl, rfl⟩
set_option maxRecDepth 100000 in
theorem has_ptk (k : Int) (w : World) : Calls Try.prog 75 #[.int .i64 k, .int .i64 4] w fun e w' => e = .returned (.bool (ptk k)) ∧ w = w' := by
  by_cases h1 : k < 1
  · have d1 : decide ((1 : Int) ≤ k) = false := decide_eq_false (by omega)
    have hr : ptk k = false := by unfold ptk; exact decide_eq_false (by omega)
    rw [hr]
    clear hr
    go_enter Try.func75, Try.ntmps75
    go_wp2
    go_ret
    exact ⟨rfl, rfl⟩
  · by_cases h2 : 7 < k
    · have d1 : decide ((1 : Int) ≤ k) = true := decide_eq_true (by omega)
      have d2 : decide (k ≤ 7) = false := decide_eq_false (by omega)
      have hr : ptk k = false := by unfold ptk; exact decide_eq_false (by omega)
      rw [hr]
      clear hr
      go_enter Try.func75, Try.ntmps75
      go_wp2
      go_ret
      exact ⟨rfl, rfl⟩
    · have hk : k = 1 ∨ k = 2 ∨ k = 3 ∨ k = 4 ∨ k = 5 ∨ k = 6 ∨ k = 7 := by omega
      clear h1 h2
      rcases hk with rfl | rfl | rfl | rfl | rfl | rfl | rfl
      all_goals
        go_enter Try.func75, Try.ntmps75
        go_wp2
        go_ret
        exact ⟨by rfl, rfl⟩
set_option maxRecDepth 100000 in
theorem has_inr (k : Int) (w : World) : Calls Try.prog 75 #[.int .i64 k, .int .i64 7] w fun e w' => e = .returned (.bool (inr k)) ∧ w = w' := by
  by_cases h1 : k < 1
  · have d1 : decide ((1 : Int) ≤ k) = false := decide_eq_false (by omega)
    have hr : inr k = false := by unfold inr; exact decide_eq_false (by omega)
    rw [hr]
    clear hr
    go_enter Try.func75, Try.ntmps75
    go_wp2
    go_ret
    exact ⟨rfl, rfl⟩
  · by_cases h2 : 7 < k
    · have d1 : decide ((1 : Int) ≤ k) = true := decide_eq_true (by omega)
      have d2 : decide (k ≤ 7) = false := decide_eq_false (by omega)
      have hr : inr k = false := by unfold inr; exact decide_eq_false (by omega)
      rw [hr]
      clear hr
      go_enter Try.func75, Try.ntmps75
      go_wp2
      go_ret
      exact ⟨rfl, rfl⟩
    · have hk : k = 1 ∨ k = 2 ∨ k = 3 ∨ k = 4 ∨ k = 5 ∨ k = 6 ∨ k = 7 := by omega
      clear h1 h2
      rcases hk with rfl | rfl | rfl | rfl | rfl | rfl | rfl
      all_goals
        go_enter Try.func75, Try.ntmps75
        go_wp2
        go_ret
        exact ⟨by rfl, rfl⟩
set_option maxRecDepth 100000 in
theorem rgrp_any (k : Int) (w : World) : Calls Try.prog 77 #[.int .i64 k] w fun e w' => e = .returned (.bool (grp k)) ∧ w = w' := by
  by_cases h4 : k = 4
  · subst h4
    go_enter Try.func77, Try.ntmps77
    go_wp2
    go_ret
    exact ⟨by rfl, rfl⟩
  · have t4 : (k == 4) = false := by simpa using h4
    by_cases h5 : k = 5
    · subst h5
      go_enter Try.func77, Try.ntmps77
      go_wp2
      go_ret
      exact ⟨by rfl, rfl⟩
    · have t5 : (k == 5) = false := by simpa using h5
      by_cases h6 : k = 6
      · subst h6
        go_enter Try.func77, Try.ntmps77
        go_wp2
        go_ret
        exact ⟨by rfl, rfl⟩
      · have t6 : (k == 6) = false := by simpa using h6
        by_cases h7 : k = 7
        · subst h7
          go_enter Try.func77, Try.ntmps77
          go_wp2
          go_ret
          exact ⟨by rfl, rfl⟩
        · have t7 : (k == 7) = false := by simpa using h7
          have hr : grp k = false := by unfold grp; exact decide_eq_false (by omega)
          rw [hr]
          clear hr
          clear h4 h5 h6 h7
          go_enter Try.func77, Try.ntmps77
          go_wp2
          go_ret
          exact ⟨by rfl, rfl⟩
set_option maxRecDepth 100000 in
theorem ridk_any (k : Int) (w : World) : Calls Try.prog 78 #[.int .i64 k] w fun e w' => e = .returned (.bool (idk k)) ∧ w = w' := by
  by_cases h2 : k = 2
  · subst h2
    go_enter Try.func78, Try.ntmps78
    go_wp2
    go_ret
    exact ⟨by rfl, rfl⟩
  · have t2 : (k == 2) = false := by simpa using h2
    by_cases h3 : k = 3
    · subst h3
      go_enter Try.func78, Try.ntmps78
      go_wp2
      go_ret
      exact ⟨by rfl, rfl⟩
    · have t3 : (k == 3) = false := by simpa using h3
      by_cases h6 : k = 6
      · subst h6
        go_enter Try.func78, Try.ntmps78
        go_wp2
        go_ret
        exact ⟨by rfl, rfl⟩
      · have t6 : (k == 6) = false := by simpa using h6
        by_cases h7 : k = 7
        · subst h7
          go_enter Try.func78, Try.ntmps78
          go_wp2
          go_ret
          exact ⟨by rfl, rfl⟩
        · have t7 : (k == 7) = false := by simpa using h7
          have hr : idk k = false := by unfold idk; exact decide_eq_false (by omega)
          rw [hr]
          clear hr
          clear h2 h3 h6 h7
          go_enter Try.func78, Try.ntmps78
          go_wp2
          go_ret
          exact ⟨by rfl, rfl⟩
set_option maxRecDepth 100000 in
theorem rptk_any (k : Int) (w : World) : Calls Try.prog 79 #[.int .i64 k] w fun e w' => e = .returned (.bool (ptk k)) ∧ w = w' := by
  by_cases h1 : k = 1
  · subst h1
    go_enter Try.func79, Try.ntmps79
    go_wp2
    go_ret
    exact ⟨by rfl, rfl⟩
  · have t1 : (k == 1) = false := by simpa using h1
    by_cases h2 : k = 2
    · subst h2
      go_enter Try.func79, Try.ntmps79
      go_wp2
      go_ret
      exact ⟨by rfl, rfl⟩
    · have t2 : (k == 2) = false := by simpa using h2
      have hr : ptk k = false := by unfold ptk; exact decide_eq_false (by omega)
      rw [hr]
      clear hr
      clear h1 h2
      go_enter Try.func79, Try.ntmps79
      go_wp2
      go_ret
      exact ⟨by rfl, rfl⟩
theorem echk_bool {k id gr : Int} {x : BitVec 32} {lab : Int} {f : List V3} {g i p zg zi bp d1 d2 e1 e2 : Bool} (h1 : 1 ≤ k) (h2 : k ≤ 7) (hg : grp k = g) (hi : idk k = i) (hp : ptk k = p) (hzg : (gr != 0) = zg) (hzi : (id != 0) = zi)
    (hbp : decide ((x.toNat : Int) = 0 ∧ lab = 0 ∧ f = zeros) = bp) (hd1 : decide (gr < 0) = d1) (hd2 : decide (16 ≤ gr) = d2) (he1 : decide (id < 1) = e1) (he2 : decide (1073741824 ≤ id) = e2) :
    echk k id gr x lab f = if ((!g && zg) || (!i && zi) || (!p && !bp)) = true then 1 else if (d1 || d2 || (i && (e1 || e2))) = true then 1 else if p = true then pchk x lab f else 0 := by
  subst hg hi hp hzg hzi hbp hd1 hd2 he1 he2
  unfold echk
  rw [if_neg (by omega)]
  have hx : (x = 0#32 ∧ lab = 0 ∧ f = zeros) ↔ ((x.toNat : Int) = 0 ∧ lab = 0 ∧ f = zeros) := by
    constructor
    · rintro ⟨rfl, h⟩; exact ⟨rfl, h⟩
    · rintro ⟨h0, h⟩; exact ⟨BitVec.eq_of_toNat_eq (by simpa using h0), h⟩
  have c2 : ((grp k = false ∧ gr ≠ 0) ∨ (idk k = false ∧ id ≠ 0) ∨ (ptk k = false ∧ ¬ (x = 0#32 ∧ lab = 0 ∧ f = zeros))) ↔ ((!grp k && (gr != 0)) || (!idk k && (id != 0)) || (!ptk k && !decide ((x.toNat : Int) = 0 ∧ lab = 0 ∧ f = zeros))) = true := by
    rw [hx]
    simp only [Bool.or_eq_true, Bool.and_eq_true, Bool.not_eq_true', bne_iff_ne, decide_eq_false_iff_not, or_assoc]
  have c3 : (gr < 0 ∨ 16 ≤ gr ∨ (idk k = true ∧ (id < 1 ∨ 1073741824 ≤ id))) ↔ (decide (gr < 0) || decide (16 ≤ gr) || (idk k && (decide (id < 1) || decide (1073741824 ≤ id)))) = true := by
    simp only [Bool.or_eq_true, Bool.and_eq_true, decide_eq_true_eq, or_assoc]
  simp only [c2, c3]
end Go.Proofs.Ytgpbglmlakildaa

/- Edits as bytes: what both share. -/
namespace Go.Proofs.Ytgpbglmlakildaa
set_option linter.unusedVariables false
set_option linter.unusedSimpArgs false
open Go Go.RowKit OctM BitM

set_option maxRecDepth 100000 in
theorem info_edit : (Try.prog.info? 63).map (·.size) = some 29 := by kernel_rfl
theorem ebs_of {k id gr : Int} {x : BitVec 32} {lab : Int} {f : List V3} {g i p : Bool} (h : echk k id gr x lab f = 0) (hg : grp k = g) (hi : idk k = i) (hp : ptk k = p) :
    ebs k id gr x lab f = enc (held k) ++ ((if g = true then enc (held gr) else []) ++ ((if i = true then enc (held id) else []) ++ (if p = true then pbs x lab f else []))) := by
  subst hg hi hp
  unfold ebs
  rw [if_neg (by rw [h]; simp)]
end Go.Proofs.Ytgpbglmlakildaa

/- Edits: which may be, or why not: what Check returns. -/
namespace Go.Proofs.Ytgpbglmlakildaa
set_option linter.unusedVariables false
set_option linter.unusedSimpArgs false
open Go Go.RowKit OctM BitM

set_option maxRecDepth 100000 in
set_option maxHeartbeats 3200000 in
theorem echeck_001 (k id gr lab : Int) (x : BitVec 32) (f : List V3) (w : World) (hf : f.length = 8) (hk1 : 1 ≤ k) (hk2 : k ≤ 7) (hg : grp k = false) (hi : idk k = false) (hp : ptk k = true) :
    Calls Try.prog 42 #[.agg (ecells k id gr (x.toNat : Int) lab f).toArray] w fun e w' => e = .returned (.int .i64 (echk k id gr x lab f)) ∧ Below w.heap.size w w' := by
  have HPC := Lib.hid (fun wx : World => pcheck_any x lab f wx hf)
  have HG := Lib.hid (fun wx : World => has_grp k wx)
  have HI := Lib.hid (fun wx : World => has_idk k wx)
  have HP := Lib.hid (fun wx : World => has_ptk k wx)
  have HR0 := Lib.hid (fun (zg zi bp d1 d2 e1 e2 : Bool) h1 h2 h3 h4 h5 h6 h7 => echk_bool (k := k) (id := id) (gr := gr) (x := x) (lab := lab) (f := f) (zg := zg) (zi := zi) (bp := bp) (d1 := d1) (d2 := d2) (e1 := e1) (e2 := e2) hk1 hk2 hg hi hp h1 h2 h3 h4 h5 h6 h7)
  have B0 := Blk.new w (ecells k id gr (x.toNat : Int) lab f) 63
  obtain ⟨q0, q1, q2⟩ := B0.edit
  have RP := B0.patchE
  have hb := (Below.refl w.heap.size w).alloc (Nat.le_refl _) (.cells (ecells k id gr (x.toNat : Int) lab f).toArray 63)
  obtain ⟨R, hR⟩ : ∃ R, R = echk k id gr x lab f := ⟨_, rfl⟩
  rw [← hR] at HR0 ⊢
  obtain ⟨P, hP⟩ : ∃ P, P = pchk x lab f := ⟨_, rfl⟩
  rw [← hP] at HR0 HPC
  obtain ⟨bp, kbp⟩ : ∃ b, decide ((x.toNat : Int) = 0 ∧ lab = 0 ∧ f = zeros) = b := ⟨_, rfl⟩
  have HEQ : Hid (∀ wx : World, (Op.equalIn 10000 61 (.agg (pcells (x.toNat : Int) lab f).toArray) (.agg (pcells 0 0 zeros).toArray)).run Try.prog wx = .ok bp wx) := Lib.hid (fun wx => by rw [eq_patch 9996 _ _ _ _ f zeros hf zeros_len wx, kbp])
  have HPL := Lib.hid (pcells_len (x.toNat : Int) lab hf)
  obtain ⟨zg, kzg⟩ : ∃ b, (gr != 0) = b := ⟨_, rfl⟩
  obtain ⟨zi, kzi⟩ : ∃ b, (id != 0) = b := ⟨_, rfl⟩
  obtain ⟨d1, kd1⟩ : ∃ b, decide (gr < 0) = b := ⟨_, rfl⟩
  obtain ⟨d2, kd2⟩ : ∃ b, decide (16 ≤ gr) = b := ⟨_, rfl⟩
  obtain ⟨e1, ke1⟩ : ∃ b, decide (id < 1) = b := ⟨_, rfl⟩
  obtain ⟨e2, ke2⟩ : ∃ b, decide (1073741824 ≤ id) = b := ⟨_, rfl⟩
  have HR := Lib.hid (HR0.out zg zi bp d1 d2 e1 e2 kzg kzi kbp kd1 kd2 ke1 ke2)
  rw [hg] at HG
  rw [hi] at HI
  rw [hp] at HP
  have hup := Try.underlying61
  obtain ⟨pc, hpc⟩ : ∃ pc, pc = pcells (x.toNat : Int) lab f := ⟨_, rfl⟩
  rw [← hpc] at RP HEQ HPL HPC
  obtain ⟨ec, hec⟩ : ∃ ec, ec = ecells k id gr (x.toNat : Int) lab f := ⟨_, rfl⟩
  rw [← hec] at q0 q1 q2 RP hb B0 ⊢
  have HIN := Lib.hid (show inr k = true by unfold inr; exact decide_eq_true ⟨hk1, hk2⟩)
  have HIN := Lib.hid (show inr k = true by unfold inr; exact decide_eq_true ⟨hk1, hk2⟩)
  have HIN := Lib.hid (show inr k = true by unfold inr; exact decide_eq_true ⟨hk1, hk2⟩)
  have HIN := Lib.hid (show inr k = true by unfold inr; exact decide_eq_true ⟨hk1, hk2⟩)
  have HIN := Lib.hid (show inr k = true by unfold inr; exact decide_eq_true ⟨hk1, hk2⟩)
  clear HR0 hpc hec hR hP hg hi hp hk1 hk2 kbp hf
  have H7 := Lib.hid (fun wx : World => has_inr k wx)
  rw [show inr k = true from HIN.out] at H7
  clear B0
  go_enter Try.func42, Try.ntmps42
  go_wp2_with fail
  refine (H7.out _).mono ?_
  rintro e' w' ⟨rfl, rfl⟩
  go_wp2_with fail
  refine (HG.out _).mono ?_
  rintro e' w' ⟨rfl, rfl⟩
  cases zg
  · go_wp2_with fail
    refine (HI.out _).mono ?_
    rintro e' w' ⟨rfl, rfl⟩
    cases zi
    · go_wp2_with fail
      refine (HP.out _).mono ?_
      rintro e' w' ⟨rfl, rfl⟩
      cases d1
      · cases d2
        · go_wp2_with fail
          refine (HI.out _).mono ?_
          rintro e' w' ⟨rfl, rfl⟩
          go_wp2_with fail
          refine (HP.out _).mono ?_
          rintro e' w' ⟨rfl, rfl⟩
          go_wp2_with (first
            | (refine wpList_load_g (by rfl) 61 (.tmp 64) rfl w.heap.size 3 rfl pc _ RP hup rfl (by rw [HPL.out]; exact info_patch) ?_)
            | fail)
          refine (HPC.out _).mono ?_
          rintro e' w' ⟨rfl, hb2⟩
          go_wp2_with fail
          go_ret
          exact ⟨by rw [HR.out]; rfl, hb.trans (hb2.mono hb.size)⟩
        · go_wp2_with fail
          go_ret
          exact ⟨by rw [HR.out]; rfl, hb⟩
      · go_wp2_with fail
        go_ret
        exact ⟨by rw [HR.out]; rfl, hb⟩
    · go_wp2_with fail
      go_ret
      exact ⟨by rw [HR.out]; rfl, hb⟩
  · go_wp2_with fail
    go_ret
    exact ⟨by rw [HR.out]; rfl, hb⟩
set_option maxRecDepth 100000 in
set_option maxHeartbeats 3200000 in
theorem echeck_011 (k id gr lab : Int) (x : BitVec 32) (f : List V3) (w : World) (hf : f.length = 8) (hk1 : 1 ≤ k) (hk2 : k ≤ 7) (hg : grp k = false) (hi : idk k = true) (hp : ptk k = true) :
    Calls Try.prog 42 #[.agg (ecells k id gr (x.toNat : Int) lab f).toArray] w fun e w' => e = .returned (.int .i64 (echk k id gr x lab f)) ∧ Below w.heap.size w w' := by
  have HPC := Lib.hid (fun wx : World => pcheck_any x lab f wx hf)
  have HG := Lib.hid (fun wx : World => has_grp k wx)
  have HI := Lib.hid (fun wx : World => has_idk k wx)
  have HP := Lib.hid (fun wx : World => has_ptk k wx)
  have HR0 := Lib.hid (fun (zg zi bp d1 d2 e1 e2 : Bool) h1 h2 h3 h4 h5 h6 h7 => echk_bool (k := k) (id := id) (gr := gr) (x := x) (lab := lab) (f := f) (zg := zg) (zi := zi) (bp := bp) (d1 := d1) (d2 := d2) (e1 := e1) (e2 := e2) hk1 hk2 hg hi hp h1 h2 h3 h4 h5 h6 h7)
  have B0 := Blk.new w (ecells k id gr (x.toNat : Int) lab f) 63
  obtain ⟨q0, q1, q2⟩ := B0.edit
  have RP := B0.patchE
  have hb := (Below.refl w.heap.size w).alloc (Nat.le_refl _) (.cells (ecells k id gr (x.toNat : Int) lab f).toArray 63)
  obtain ⟨R, hR⟩ : ∃ R, R = echk k id gr x lab f := ⟨_, rfl⟩
  rw [← hR] at HR0 ⊢
  obtain ⟨P, hP⟩ : ∃ P, P = pchk x lab f := ⟨_, rfl⟩
  rw [← hP] at HR0 HPC
  obtain ⟨bp, kbp⟩ : ∃ b, decide ((x.toNat : Int) = 0 ∧ lab = 0 ∧ f = zeros) = b := ⟨_, rfl⟩
  have HEQ : Hid (∀ wx : World, (Op.equalIn 10000 61 (.agg (pcells (x.toNat : Int) lab f).toArray) (.agg (pcells 0 0 zeros).toArray)).run Try.prog wx = .ok bp wx) := Lib.hid (fun wx => by rw [eq_patch 9996 _ _ _ _ f zeros hf zeros_len wx, kbp])
  have HPL := Lib.hid (pcells_len (x.toNat : Int) lab hf)
  obtain ⟨zg, kzg⟩ : ∃ b, (gr != 0) = b := ⟨_, rfl⟩
  obtain ⟨zi, kzi⟩ : ∃ b, (id != 0) = b := ⟨_, rfl⟩
  obtain ⟨d1, kd1⟩ : ∃ b, decide (gr < 0) = b := ⟨_, rfl⟩
  obtain ⟨d2, kd2⟩ : ∃ b, decide (16 ≤ gr) = b := ⟨_, rfl⟩
  obtain ⟨e1, ke1⟩ : ∃ b, decide (id < 1) = b := ⟨_, rfl⟩
  obtain ⟨e2, ke2⟩ : ∃ b, decide (1073741824 ≤ id) = b := ⟨_, rfl⟩
  have HR := Lib.hid (HR0.out zg zi bp d1 d2 e1 e2 kzg kzi kbp kd1 kd2 ke1 ke2)
  rw [hg] at HG
  rw [hi] at HI
  rw [hp] at HP
  have hup := Try.underlying61
  obtain ⟨pc, hpc⟩ : ∃ pc, pc = pcells (x.toNat : Int) lab f := ⟨_, rfl⟩
  rw [← hpc] at RP HEQ HPL HPC
  obtain ⟨ec, hec⟩ : ∃ ec, ec = ecells k id gr (x.toNat : Int) lab f := ⟨_, rfl⟩
  rw [← hec] at q0 q1 q2 RP hb B0 ⊢
  have HIN := Lib.hid (show inr k = true by unfold inr; exact decide_eq_true ⟨hk1, hk2⟩)
  have HIN := Lib.hid (show inr k = true by unfold inr; exact decide_eq_true ⟨hk1, hk2⟩)
  have HIN := Lib.hid (show inr k = true by unfold inr; exact decide_eq_true ⟨hk1, hk2⟩)
  have HIN := Lib.hid (show inr k = true by unfold inr; exact decide_eq_true ⟨hk1, hk2⟩)
  clear HR0 hpc hec hR hP hg hi hp hk1 hk2 kbp hf
  have H7 := Lib.hid (fun wx : World => has_inr k wx)
  rw [show inr k = true from HIN.out] at H7
  clear B0
  go_enter Try.func42, Try.ntmps42
  go_wp2_with fail
  refine (H7.out _).mono ?_
  rintro e' w' ⟨rfl, rfl⟩
  go_wp2_with fail
  refine (HG.out _).mono ?_
  rintro e' w' ⟨rfl, rfl⟩
  cases zg
  · go_wp2_with fail
    refine (HI.out _).mono ?_
    rintro e' w' ⟨rfl, rfl⟩
    go_wp2_with fail
    refine (HP.out _).mono ?_
    rintro e' w' ⟨rfl, rfl⟩
    cases d1
    · cases d2
      · go_wp2_with fail
        refine (HI.out _).mono ?_
        rintro e' w' ⟨rfl, rfl⟩
        cases e1
        · cases e2
          · go_wp2_with fail
            refine (HP.out _).mono ?_
            rintro e' w' ⟨rfl, rfl⟩
            go_wp2_with (first
              | (refine wpList_load_g (by rfl) 61 (.tmp 64) rfl w.heap.size 3 rfl pc _ RP hup rfl (by rw [HPL.out]; exact info_patch) ?_)
              | fail)
            refine (HPC.out _).mono ?_
            rintro e' w' ⟨rfl, hb2⟩
            go_wp2_with fail
            go_ret
            exact ⟨by rw [HR.out]; rfl, hb.trans (hb2.mono hb.size)⟩
          · go_wp2_with fail
            go_ret
            exact ⟨by rw [HR.out]; rfl, hb⟩
        · go_wp2_with fail
          go_ret
          exact ⟨by rw [HR.out]; rfl, hb⟩
      · go_wp2_with fail
        go_ret
        exact ⟨by rw [HR.out]; rfl, hb⟩
    · go_wp2_with fail
      go_ret
      exact ⟨by rw [HR.out]; rfl, hb⟩
  · go_wp2_with fail
    go_ret
    exact ⟨by rw [HR.out]; rfl, hb⟩
set_option maxRecDepth 100000 in
set_option maxHeartbeats 3200000 in
theorem echeck_010 (k id gr lab : Int) (x : BitVec 32) (f : List V3) (w : World) (hf : f.length = 8) (hk1 : 1 ≤ k) (hk2 : k ≤ 7) (hg : grp k = false) (hi : idk k = true) (hp : ptk k = false) :
    Calls Try.prog 42 #[.agg (ecells k id gr (x.toNat : Int) lab f).toArray] w fun e w' => e = .returned (.int .i64 (echk k id gr x lab f)) ∧ Below w.heap.size w w' := by
  have HPC := Lib.hid (fun wx : World => pcheck_any x lab f wx hf)
  have HG := Lib.hid (fun wx : World => has_grp k wx)
  have HI := Lib.hid (fun wx : World => has_idk k wx)
  have HP := Lib.hid (fun wx : World => has_ptk k wx)
  have HR0 := Lib.hid (fun (zg zi bp d1 d2 e1 e2 : Bool) h1 h2 h3 h4 h5 h6 h7 => echk_bool (k := k) (id := id) (gr := gr) (x := x) (lab := lab) (f := f) (zg := zg) (zi := zi) (bp := bp) (d1 := d1) (d2 := d2) (e1 := e1) (e2 := e2) hk1 hk2 hg hi hp h1 h2 h3 h4 h5 h6 h7)
  have B0 := Blk.new w (ecells k id gr (x.toNat : Int) lab f) 63
  obtain ⟨q0, q1, q2⟩ := B0.edit
  have RP := B0.patchE
  have hb := (Below.refl w.heap.size w).alloc (Nat.le_refl _) (.cells (ecells k id gr (x.toNat : Int) lab f).toArray 63)
  obtain ⟨R, hR⟩ : ∃ R, R = echk k id gr x lab f := ⟨_, rfl⟩
  rw [← hR] at HR0 ⊢
  obtain ⟨P, hP⟩ : ∃ P, P = pchk x lab f := ⟨_, rfl⟩
  rw [← hP] at HR0 HPC
  obtain ⟨bp, kbp⟩ : ∃ b, decide ((x.toNat : Int) = 0 ∧ lab = 0 ∧ f = zeros) = b := ⟨_, rfl⟩
  have HEQ : Hid (∀ wx : World, (Op.equalIn 10000 61 (.agg (pcells (x.toNat : Int) lab f).toArray) (.agg (pcells 0 0 zeros).toArray)).run Try.prog wx = .ok bp wx) := Lib.hid (fun wx => by rw [eq_patch 9996 _ _ _ _ f zeros hf zeros_len wx, kbp])
  have HPL := Lib.hid (pcells_len (x.toNat : Int) lab hf)
  obtain ⟨zg, kzg⟩ : ∃ b, (gr != 0) = b := ⟨_, rfl⟩
  obtain ⟨zi, kzi⟩ : ∃ b, (id != 0) = b := ⟨_, rfl⟩
  obtain ⟨d1, kd1⟩ : ∃ b, decide (gr < 0) = b := ⟨_, rfl⟩
  obtain ⟨d2, kd2⟩ : ∃ b, decide (16 ≤ gr) = b := ⟨_, rfl⟩
  obtain ⟨e1, ke1⟩ : ∃ b, decide (id < 1) = b := ⟨_, rfl⟩
  obtain ⟨e2, ke2⟩ : ∃ b, decide (1073741824 ≤ id) = b := ⟨_, rfl⟩
  have HR := Lib.hid (HR0.out zg zi bp d1 d2 e1 e2 kzg kzi kbp kd1 kd2 ke1 ke2)
  rw [hg] at HG
  rw [hi] at HI
  rw [hp] at HP
  have hup := Try.underlying61
  obtain ⟨pc, hpc⟩ : ∃ pc, pc = pcells (x.toNat : Int) lab f := ⟨_, rfl⟩
  rw [← hpc] at RP HEQ HPL HPC
  obtain ⟨ec, hec⟩ : ∃ ec, ec = ecells k id gr (x.toNat : Int) lab f := ⟨_, rfl⟩
  rw [← hec] at q0 q1 q2 RP hb B0 ⊢
  have HIN := Lib.hid (show inr k = true by unfold inr; exact decide_eq_true ⟨hk1, hk2⟩)
  have HIN := Lib.hid (show inr k = true by unfold inr; exact decide_eq_true ⟨hk1, hk2⟩)
  have HIN := Lib.hid (show inr k = true by unfold inr; exact decide_eq_true ⟨hk1, hk2⟩)
  clear HR0 hpc hec hR hP hg hi hp hk1 hk2 kbp hf
  have H7 := Lib.hid (fun wx : World => has_inr k wx)
  rw [show inr k = true from HIN.out] at H7
  clear B0
  go_enter Try.func42, Try.ntmps42
  go_wp2_with fail
  refine (H7.out _).mono ?_
  rintro e' w' ⟨rfl, rfl⟩
  go_wp2_with fail
  refine (HG.out _).mono ?_
  rintro e' w' ⟨rfl, rfl⟩
  cases zg
  · go_wp2_with fail
    refine (HI.out _).mono ?_
    rintro e' w' ⟨rfl, rfl⟩
    go_wp2_with fail
    refine (HP.out _).mono ?_
    rintro e' w' ⟨rfl, rfl⟩
    cases bp
    · go_wp2_with (first
        | (refine wpList_load_g (by rfl) 61 (.tmp 32) rfl w.heap.size 3 rfl pc _ RP hup rfl (by rw [HPL.out]; exact info_patch) ?_)
        | (refine wpList_exec (by rfl) (.bool (!false)) (exec_neq 61 _ (.tmp 33) (.tmp 34) rfl pc.toArray (pcells 0 0 zeros).toArray (by rfl) (by rfl) guard_patchE false (HEQ.out _)) ?_)
        | fail)
      go_ret
      exact ⟨by rw [HR.out]; rfl, hb⟩
    · cases d1
      · cases d2
        · go_wp2_with (first
            | (refine wpList_load_g (by rfl) 61 (.tmp 32) rfl w.heap.size 3 rfl pc _ RP hup rfl (by rw [HPL.out]; exact info_patch) ?_)
            | (refine wpList_exec (by rfl) (.bool (!true)) (exec_neq 61 _ (.tmp 33) (.tmp 34) rfl pc.toArray (pcells 0 0 zeros).toArray (by rfl) (by rfl) guard_patchE true (HEQ.out _)) ?_)
            | fail)
          refine (HI.out _).mono ?_
          rintro e' w' ⟨rfl, rfl⟩
          cases e1
          · cases e2
            · go_wp2_with fail
              refine (HP.out _).mono ?_
              rintro e' w' ⟨rfl, rfl⟩
              go_wp2_with fail
              go_ret
              exact ⟨by rw [HR.out]; rfl, hb⟩
            · go_wp2_with fail
              go_ret
              exact ⟨by rw [HR.out]; rfl, hb⟩
          · go_wp2_with fail
            go_ret
            exact ⟨by rw [HR.out]; rfl, hb⟩
        · go_wp2_with (first
            | (refine wpList_load_g (by rfl) 61 (.tmp 32) rfl w.heap.size 3 rfl pc _ RP hup rfl (by rw [HPL.out]; exact info_patch) ?_)
            | (refine wpList_exec (by rfl) (.bool (!true)) (exec_neq 61 _ (.tmp 33) (.tmp 34) rfl pc.toArray (pcells 0 0 zeros).toArray (by rfl) (by rfl) guard_patchE true (HEQ.out _)) ?_)
            | fail)
          go_ret
          exact ⟨by rw [HR.out]; rfl, hb⟩
      · go_wp2_with (first
          | (refine wpList_load_g (by rfl) 61 (.tmp 32) rfl w.heap.size 3 rfl pc _ RP hup rfl (by rw [HPL.out]; exact info_patch) ?_)
          | (refine wpList_exec (by rfl) (.bool (!true)) (exec_neq 61 _ (.tmp 33) (.tmp 34) rfl pc.toArray (pcells 0 0 zeros).toArray (by rfl) (by rfl) guard_patchE true (HEQ.out _)) ?_)
          | fail)
        go_ret
        exact ⟨by rw [HR.out]; rfl, hb⟩
  · go_wp2_with fail
    go_ret
    exact ⟨by rw [HR.out]; rfl, hb⟩
set_option maxRecDepth 100000 in
set_option maxHeartbeats 3200000 in
theorem echeck_100 (k id gr lab : Int) (x : BitVec 32) (f : List V3) (w : World) (hf : f.length = 8) (hk1 : 1 ≤ k) (hk2 : k ≤ 7) (hg : grp k = true) (hi : idk k = false) (hp : ptk k = false) :
    Calls Try.prog 42 #[.agg (ecells k id gr (x.toNat : Int) lab f).toArray] w fun e w' => e = .returned (.int .i64 (echk k id gr x lab f)) ∧ Below w.heap.size w w' := by
  have HPC := Lib.hid (fun wx : World => pcheck_any x lab f wx hf)
  have HG := Lib.hid (fun wx : World => has_grp k wx)
  have HI := Lib.hid (fun wx : World => has_idk k wx)
  have HP := Lib.hid (fun wx : World => has_ptk k wx)
  have HR0 := Lib.hid (fun (zg zi bp d1 d2 e1 e2 : Bool) h1 h2 h3 h4 h5 h6 h7 => echk_bool (k := k) (id := id) (gr := gr) (x := x) (lab := lab) (f := f) (zg := zg) (zi := zi) (bp := bp) (d1 := d1) (d2 := d2) (e1 := e1) (e2 := e2) hk1 hk2 hg hi hp h1 h2 h3 h4 h5 h6 h7)
  have B0 := Blk.new w (ecells k id gr (x.toNat : Int) lab f) 63
  obtain ⟨q0, q1, q2⟩ := B0.edit
  have RP := B0.patchE
  have hb := (Below.refl w.heap.size w).alloc (Nat.le_refl _) (.cells (ecells k id gr (x.toNat : Int) lab f).toArray 63)
  obtain ⟨R, hR⟩ : ∃ R, R = echk k id gr x lab f := ⟨_, rfl⟩
  rw [← hR] at HR0 ⊢
  obtain ⟨P, hP⟩ : ∃ P, P = pchk x lab f := ⟨_, rfl⟩
  rw [← hP] at HR0 HPC
  obtain ⟨bp, kbp⟩ : ∃ b, decide ((x.toNat : Int) = 0 ∧ lab = 0 ∧ f = zeros) = b := ⟨_, rfl⟩
  have HEQ : Hid (∀ wx : World, (Op.equalIn 10000 61 (.agg (pcells (x.toNat : Int) lab f).toArray) (.agg (pcells 0 0 zeros).toArray)).run Try.prog wx = .ok bp wx) := Lib.hid (fun wx => by rw [eq_patch 9996 _ _ _ _ f zeros hf zeros_len wx, kbp])
  have HPL := Lib.hid (pcells_len (x.toNat : Int) lab hf)
  obtain ⟨zg, kzg⟩ : ∃ b, (gr != 0) = b := ⟨_, rfl⟩
  obtain ⟨zi, kzi⟩ : ∃ b, (id != 0) = b := ⟨_, rfl⟩
  obtain ⟨d1, kd1⟩ : ∃ b, decide (gr < 0) = b := ⟨_, rfl⟩
  obtain ⟨d2, kd2⟩ : ∃ b, decide (16 ≤ gr) = b := ⟨_, rfl⟩
  obtain ⟨e1, ke1⟩ : ∃ b, decide (id < 1) = b := ⟨_, rfl⟩
  obtain ⟨e2, ke2⟩ : ∃ b, decide (1073741824 ≤ id) = b := ⟨_, rfl⟩
  have HR := Lib.hid (HR0.out zg zi bp d1 d2 e1 e2 kzg kzi kbp kd1 kd2 ke1 ke2)
  rw [hg] at HG
  rw [hi] at HI
  rw [hp] at HP
  have hup := Try.underlying61
  obtain ⟨pc, hpc⟩ : ∃ pc, pc = pcells (x.toNat : Int) lab f := ⟨_, rfl⟩
  rw [← hpc] at RP HEQ HPL HPC
  obtain ⟨ec, hec⟩ : ∃ ec, ec = ecells k id gr (x.toNat : Int) lab f := ⟨_, rfl⟩
  rw [← hec] at q0 q1 q2 RP hb B0 ⊢
  have HIN := Lib.hid (show inr k = true by unfold inr; exact decide_eq_true ⟨hk1, hk2⟩)
  have HIN := Lib.hid (show inr k = true by unfold inr; exact decide_eq_true ⟨hk1, hk2⟩)
  clear HR0 hpc hec hR hP hg hi hp hk1 hk2 kbp hf
  have H7 := Lib.hid (fun wx : World => has_inr k wx)
  rw [show inr k = true from HIN.out] at H7
  clear B0
  go_enter Try.func42, Try.ntmps42
  go_wp2_with fail
  refine (H7.out _).mono ?_
  rintro e' w' ⟨rfl, rfl⟩
  go_wp2_with fail
  refine (HG.out _).mono ?_
  rintro e' w' ⟨rfl, rfl⟩
  go_wp2_with fail
  refine (HI.out _).mono ?_
  rintro e' w' ⟨rfl, rfl⟩
  cases zi
  · go_wp2_with fail
    refine (HP.out _).mono ?_
    rintro e' w' ⟨rfl, rfl⟩
    cases bp
    · go_wp2_with (first
        | (refine wpList_load_g (by rfl) 61 (.tmp 32) rfl w.heap.size 3 rfl pc _ RP hup rfl (by rw [HPL.out]; exact info_patch) ?_)
        | (refine wpList_exec (by rfl) (.bool (!false)) (exec_neq 61 _ (.tmp 33) (.tmp 34) rfl pc.toArray (pcells 0 0 zeros).toArray (by rfl) (by rfl) guard_patchE false (HEQ.out _)) ?_)
        | fail)
      go_ret
      exact ⟨by rw [HR.out]; rfl, hb⟩
    · cases d1
      · cases d2
        · go_wp2_with (first
            | (refine wpList_load_g (by rfl) 61 (.tmp 32) rfl w.heap.size 3 rfl pc _ RP hup rfl (by rw [HPL.out]; exact info_patch) ?_)
            | (refine wpList_exec (by rfl) (.bool (!true)) (exec_neq 61 _ (.tmp 33) (.tmp 34) rfl pc.toArray (pcells 0 0 zeros).toArray (by rfl) (by rfl) guard_patchE true (HEQ.out _)) ?_)
            | fail)
          refine (HI.out _).mono ?_
          rintro e' w' ⟨rfl, rfl⟩
          go_wp2_with fail
          refine (HP.out _).mono ?_
          rintro e' w' ⟨rfl, rfl⟩
          go_wp2_with fail
          go_ret
          exact ⟨by rw [HR.out]; rfl, hb⟩
        · go_wp2_with (first
            | (refine wpList_load_g (by rfl) 61 (.tmp 32) rfl w.heap.size 3 rfl pc _ RP hup rfl (by rw [HPL.out]; exact info_patch) ?_)
            | (refine wpList_exec (by rfl) (.bool (!true)) (exec_neq 61 _ (.tmp 33) (.tmp 34) rfl pc.toArray (pcells 0 0 zeros).toArray (by rfl) (by rfl) guard_patchE true (HEQ.out _)) ?_)
            | fail)
          go_ret
          exact ⟨by rw [HR.out]; rfl, hb⟩
      · go_wp2_with (first
          | (refine wpList_load_g (by rfl) 61 (.tmp 32) rfl w.heap.size 3 rfl pc _ RP hup rfl (by rw [HPL.out]; exact info_patch) ?_)
          | (refine wpList_exec (by rfl) (.bool (!true)) (exec_neq 61 _ (.tmp 33) (.tmp 34) rfl pc.toArray (pcells 0 0 zeros).toArray (by rfl) (by rfl) guard_patchE true (HEQ.out _)) ?_)
          | fail)
        go_ret
        exact ⟨by rw [HR.out]; rfl, hb⟩
  · go_wp2_with fail
    go_ret
    exact ⟨by rw [HR.out]; rfl, hb⟩
set_option maxRecDepth 100000 in
set_option maxHeartbeats 3200000 in
theorem echeck_110 (k id gr lab : Int) (x : BitVec 32) (f : List V3) (w : World) (hf : f.length = 8) (hk1 : 1 ≤ k) (hk2 : k ≤ 7) (hg : grp k = true) (hi : idk k = true) (hp : ptk k = false) :
    Calls Try.prog 42 #[.agg (ecells k id gr (x.toNat : Int) lab f).toArray] w fun e w' => e = .returned (.int .i64 (echk k id gr x lab f)) ∧ Below w.heap.size w w' := by
  have HPC := Lib.hid (fun wx : World => pcheck_any x lab f wx hf)
  have HG := Lib.hid (fun wx : World => has_grp k wx)
  have HI := Lib.hid (fun wx : World => has_idk k wx)
  have HP := Lib.hid (fun wx : World => has_ptk k wx)
  have HR0 := Lib.hid (fun (zg zi bp d1 d2 e1 e2 : Bool) h1 h2 h3 h4 h5 h6 h7 => echk_bool (k := k) (id := id) (gr := gr) (x := x) (lab := lab) (f := f) (zg := zg) (zi := zi) (bp := bp) (d1 := d1) (d2 := d2) (e1 := e1) (e2 := e2) hk1 hk2 hg hi hp h1 h2 h3 h4 h5 h6 h7)
  have B0 := Blk.new w (ecells k id gr (x.toNat : Int) lab f) 63
  obtain ⟨q0, q1, q2⟩ := B0.edit
  have RP := B0.patchE
  have hb := (Below.refl w.heap.size w).alloc (Nat.le_refl _) (.cells (ecells k id gr (x.toNat : Int) lab f).toArray 63)
  obtain ⟨R, hR⟩ : ∃ R, R = echk k id gr x lab f := ⟨_, rfl⟩
  rw [← hR] at HR0 ⊢
  obtain ⟨P, hP⟩ : ∃ P, P = pchk x lab f := ⟨_, rfl⟩
  rw [← hP] at HR0 HPC
  obtain ⟨bp, kbp⟩ : ∃ b, decide ((x.toNat : Int) = 0 ∧ lab = 0 ∧ f = zeros) = b := ⟨_, rfl⟩
  have HEQ : Hid (∀ wx : World, (Op.equalIn 10000 61 (.agg (pcells (x.toNat : Int) lab f).toArray) (.agg (pcells 0 0 zeros).toArray)).run Try.prog wx = .ok bp wx) := Lib.hid (fun wx => by rw [eq_patch 9996 _ _ _ _ f zeros hf zeros_len wx, kbp])
  have HPL := Lib.hid (pcells_len (x.toNat : Int) lab hf)
  obtain ⟨zg, kzg⟩ : ∃ b, (gr != 0) = b := ⟨_, rfl⟩
  obtain ⟨zi, kzi⟩ : ∃ b, (id != 0) = b := ⟨_, rfl⟩
  obtain ⟨d1, kd1⟩ : ∃ b, decide (gr < 0) = b := ⟨_, rfl⟩
  obtain ⟨d2, kd2⟩ : ∃ b, decide (16 ≤ gr) = b := ⟨_, rfl⟩
  obtain ⟨e1, ke1⟩ : ∃ b, decide (id < 1) = b := ⟨_, rfl⟩
  obtain ⟨e2, ke2⟩ : ∃ b, decide (1073741824 ≤ id) = b := ⟨_, rfl⟩
  have HR := Lib.hid (HR0.out zg zi bp d1 d2 e1 e2 kzg kzi kbp kd1 kd2 ke1 ke2)
  rw [hg] at HG
  rw [hi] at HI
  rw [hp] at HP
  have hup := Try.underlying61
  obtain ⟨pc, hpc⟩ : ∃ pc, pc = pcells (x.toNat : Int) lab f := ⟨_, rfl⟩
  rw [← hpc] at RP HEQ HPL HPC
  obtain ⟨ec, hec⟩ : ∃ ec, ec = ecells k id gr (x.toNat : Int) lab f := ⟨_, rfl⟩
  rw [← hec] at q0 q1 q2 RP hb B0 ⊢
  have HIN := Lib.hid (show inr k = true by unfold inr; exact decide_eq_true ⟨hk1, hk2⟩)
  clear HR0 hpc hec hR hP hg hi hp hk1 hk2 kbp hf
  have H7 := Lib.hid (fun wx : World => has_inr k wx)
  rw [show inr k = true from HIN.out] at H7
  clear B0
  go_enter Try.func42, Try.ntmps42
  go_wp2_with fail
  refine (H7.out _).mono ?_
  rintro e' w' ⟨rfl, rfl⟩
  go_wp2_with fail
  refine (HG.out _).mono ?_
  rintro e' w' ⟨rfl, rfl⟩
  go_wp2_with fail
  refine (HI.out _).mono ?_
  rintro e' w' ⟨rfl, rfl⟩
  go_wp2_with fail
  refine (HP.out _).mono ?_
  rintro e' w' ⟨rfl, rfl⟩
  cases bp
  · go_wp2_with (first
      | (refine wpList_load_g (by rfl) 61 (.tmp 32) rfl w.heap.size 3 rfl pc _ RP hup rfl (by rw [HPL.out]; exact info_patch) ?_)
      | (refine wpList_exec (by rfl) (.bool (!false)) (exec_neq 61 _ (.tmp 33) (.tmp 34) rfl pc.toArray (pcells 0 0 zeros).toArray (by rfl) (by rfl) guard_patchE false (HEQ.out _)) ?_)
      | fail)
    go_ret
    exact ⟨by rw [HR.out]; rfl, hb⟩
  · cases d1
    · cases d2
      · go_wp2_with (first
          | (refine wpList_load_g (by rfl) 61 (.tmp 32) rfl w.heap.size 3 rfl pc _ RP hup rfl (by rw [HPL.out]; exact info_patch) ?_)
          | (refine wpList_exec (by rfl) (.bool (!true)) (exec_neq 61 _ (.tmp 33) (.tmp 34) rfl pc.toArray (pcells 0 0 zeros).toArray (by rfl) (by rfl) guard_patchE true (HEQ.out _)) ?_)
          | fail)
        refine (HI.out _).mono ?_
        rintro e' w' ⟨rfl, rfl⟩
        cases e1
        · cases e2
          · go_wp2_with fail
            refine (HP.out _).mono ?_
            rintro e' w' ⟨rfl, rfl⟩
            go_wp2_with fail
            go_ret
            exact ⟨by rw [HR.out]; rfl, hb⟩
          · go_wp2_with fail
            go_ret
            exact ⟨by rw [HR.out]; rfl, hb⟩
        · go_wp2_with fail
          go_ret
          exact ⟨by rw [HR.out]; rfl, hb⟩
      · go_wp2_with (first
          | (refine wpList_load_g (by rfl) 61 (.tmp 32) rfl w.heap.size 3 rfl pc _ RP hup rfl (by rw [HPL.out]; exact info_patch) ?_)
          | (refine wpList_exec (by rfl) (.bool (!true)) (exec_neq 61 _ (.tmp 33) (.tmp 34) rfl pc.toArray (pcells 0 0 zeros).toArray (by rfl) (by rfl) guard_patchE true (HEQ.out _)) ?_)
          | fail)
        go_ret
        exact ⟨by rw [HR.out]; rfl, hb⟩
    · go_wp2_with (first
        | (refine wpList_load_g (by rfl) 61 (.tmp 32) rfl w.heap.size 3 rfl pc _ RP hup rfl (by rw [HPL.out]; exact info_patch) ?_)
        | (refine wpList_exec (by rfl) (.bool (!true)) (exec_neq 61 _ (.tmp 33) (.tmp 34) rfl pc.toArray (pcells 0 0 zeros).toArray (by rfl) (by rfl) guard_patchE true (HEQ.out _)) ?_)
        | fail)
      go_ret
      exact ⟨by rw [HR.out]; rfl, hb⟩
set_option maxRecDepth 100000 in
set_option maxHeartbeats 1600000 in
theorem echeck_any (k id gr lab : Int) (x : BitVec 32) (f : List V3) (w : World) (hf : f.length = 8) :
    Calls Try.prog 42 #[.agg (ecells k id gr (x.toNat : Int) lab f).toArray] w fun e w' => e = .returned (.int .i64 (echk k id gr x lab f)) ∧ Below w.heap.size w w' := by
  by_cases hk : 1 ≤ k ∧ k ≤ 7
  · have hc : k = 1 ∨ k = 2 ∨ k = 3 ∨ k = 4 ∨ k = 5 ∨ k = 6 ∨ k = 7 := by omega
    rcases hc with rfl | rfl | rfl | rfl | rfl | rfl | rfl
    · exact echeck_001 _ id gr lab x f w hf (by omega) (by omega) rfl rfl rfl
    · exact echeck_011 _ id gr lab x f w hf (by omega) (by omega) rfl rfl rfl
    · exact echeck_010 _ id gr lab x f w hf (by omega) (by omega) rfl rfl rfl
    · exact echeck_100 _ id gr lab x f w hf (by omega) (by omega) rfl rfl rfl
    · exact echeck_100 _ id gr lab x f w hf (by omega) (by omega) rfl rfl rfl
    · exact echeck_110 _ id gr lab x f w hf (by omega) (by omega) rfl rfl rfl
    · exact echeck_110 _ id gr lab x f w hf (by omega) (by omega) rfl rfl rfl
  · have hR : echk k id gr x lab f = 1 := by unfold echk; rw [if_pos (by omega)]
    rw [hR]
    have B0 := Blk.new w (ecells k id gr (x.toNat : Int) lab f) 63
    obtain ⟨q0, q1, q2⟩ := B0.edit
    have hb := (Below.refl w.heap.size w).alloc (Nat.le_refl _) (.cells (ecells k id gr (x.toNat : Int) lab f).toArray 63)
    obtain ⟨ec, hec⟩ : ∃ ec, ec = ecells k id gr (x.toNat : Int) lab f := ⟨_, rfl⟩
    rw [← hec] at q0 q1 q2 hb ⊢
    clear hec B0 hR
    have H7 := Lib.hid (fun wx : World => has_inr k wx)
    rw [show inr k = false by unfold inr; exact decide_eq_false hk] at H7
    clear hk
    go_enter Try.func42, Try.ntmps42
    go_wp2_with fail
    refine (H7.out _).mono ?_
    rintro e' w' ⟨rfl, rfl⟩
    go_wp2_with fail
    go_ret
    exact ⟨rfl, hb⟩
end Go.Proofs.Ytgpbglmlakildaa
