/- Texts of any bytes in quotes: the mathematics. -/
import Derived.Test.YtgdidamjgaegkaaDoorValM
import Derived.Lib.Bytealg
namespace Go.Proofs.YtgdidamjgaegkaaDoor
open Go
namespace ValM

/-- A digit of base 16. -/
def hexd (n : Nat) : UInt8 := if n < 10 then UInt8.ofNat (48 + n) else UInt8.ofNat (87 + n)
/-- How a byte stands in a text. -/
def escg (c : UInt8) : List UInt8 := if c.toNat < 32 ∨ 126 < c.toNat then [92, 120, hexd (c.toNat / 16), hexd (c.toNat % 16)] else esc c
def qug (l : List UInt8) : List UInt8 := l.flatMap escg
def quo (l : List UInt8) : List UInt8 := [34] ++ qug l ++ [34]
theorem escg_len (c : UInt8) : 1 ≤ (escg c).length ∧ (escg c).length ≤ 4 := by
  unfold escg esc
  split
  · simp
  · split <;> simp
theorem qug_snoc (l : List UInt8) (c : UInt8) : qug (l ++ [c]) = qug l ++ escg c := by simp [qug]
theorem qug_cons (l : List UInt8) (c : UInt8) : qug (c :: l) = escg c ++ qug l := by simp [qug]
theorem qug_append (l m : List UInt8) : qug (l ++ m) = qug l ++ qug m := by simp [qug]
theorem qug_len (l : List UInt8) : (qug l).length ≤ 4 * l.length := by
  induction l with
  | nil => simp [qug]
  | cons x l ih =>
    have := (escg_len x).2
    rw [qug_cons, List.length_append, List.length_cons]
    omega
theorem quog_snoc (l : List UInt8) (k : Nat) (h : k < l.length) : [34] ++ qug (l.take (k + 1)) = ([34] ++ qug (l.take k)) ++ escg l[k] := by
  rw [List.take_succ_eq_append_getElem h, qug_snoc, List.append_assoc]
theorem hexd_inj {m n : Nat} (hm : m < 16) (hn : n < 16) (h : hexd m = hexd n) : m = n := by
  have key : ∀ m : Fin 16, ∀ n : Fin 16, hexd m.val = hexd n.val → m = n := by decide +kernel
  exact Fin.ext_iff.1 (key ⟨m, hm⟩ ⟨n, hn⟩ h)
/-- Three kinds of bytes. -/
theorem escg_kinds (c : UInt8) : (escg c = [c] ∧ c ≠ 92 ∧ c ≠ 34) ∨ (escg c = [92, c] ∧ (c = 34 ∨ c = 92)) ∨ (escg c = [92, 120, hexd (c.toNat / 16), hexd (c.toNat % 16)] ∧ (c.toNat < 32 ∨ 126 < c.toNat)) := by
  unfold escg
  by_cases h : c.toNat < 32 ∨ 126 < c.toNat
  · rw [if_pos h]; exact .inr (.inr ⟨rfl, h⟩)
  · rw [if_neg h]
    unfold esc
    by_cases k : c = 34 ∨ c = 92
    · rw [if_pos k]; exact .inr (.inl ⟨rfl, k⟩)
    · rw [if_neg k]; exact .inl ⟨rfl, fun e => k (.inr e), fun e => k (.inl e)⟩
theorem escg_inj {a b : UInt8} {s t : List UInt8} (h : escg a ++ s = escg b ++ t) : a = b ∧ s = t := by
  rcases escg_kinds a with ⟨ea, ha, ha2⟩ | ⟨ea, ha⟩ | ⟨ea, ha⟩ <;> rcases escg_kinds b with ⟨eb, hb, hb2⟩ | ⟨eb, hb⟩ | ⟨eb, hb⟩ <;> rw [ea, eb] at h <;> simp only [List.cons_append, List.nil_append, List.cons.injEq] at h
  · exact h
  · exact absurd h.1 ha
  · exact absurd h.1 ha
  · exact absurd h.1.symm hb
  · exact ⟨h.2.1, h.2.2⟩
  · rcases ha with rfl | rfl <;> exact absurd h.2.1 (by decide)
  · exact absurd h.1.symm hb
  · rcases hb with rfl | rfl <;> exact absurd h.2.1 (by decide)
  · obtain ⟨_, _, h1, h2, h3⟩ := h
    have la := UInt8.toNat_lt a
    have lb := UInt8.toNat_lt b
    have e1 := hexd_inj (by omega) (by omega) h1
    have e2 := hexd_inj (by omega) (by omega) h2
    exact ⟨UInt8.toNat_inj.1 (by omega), h3⟩
theorem escg_not_end (a : UInt8) (s : List UInt8) : escg a ++ s ≠ [34] := by
  rcases escg_kinds a with ⟨ea, ha, ha2⟩ | ⟨ea, ha⟩ | ⟨ea, ha⟩ <;> rw [ea] <;> intro h <;> simp at h
  exact ha2 h.1
theorem qug_inj : ∀ {l m : List UInt8}, qug l ++ [34] = qug m ++ [34] → l = m
  | [], [], _ => rfl
  | [], b :: m, h => by
    rw [qug_cons, List.append_assoc] at h
    exact absurd h.symm (escg_not_end b _)
  | a :: l, [], h => by
    rw [qug_cons, List.append_assoc] at h
    exact absurd h (escg_not_end a _)
  | a :: l, b :: m, h => by
    rw [qug_cons, qug_cons, List.append_assoc, List.append_assoc] at h
    obtain ⟨rfl, h2⟩ := escg_inj h
    rw [qug_inj h2]
theorem quo_inj {l m : List UInt8} (h : quo l = quo m) : l = m := by
  unfold quo at h
  rw [List.append_assoc, List.append_assoc] at h
  exact qug_inj (List.append_cancel_left h)
def hexs : ByteArray := ⟨#[48, 49, 50, 51, 52, 53, 54, 55, 56, 57, 97, 98, 99, 100, 101, 102]⟩
theorem hexs_at (n : Nat) (h : n < 16) : hexs.data[n]? = some (hexd n) := by
  have key : ∀ n : Fin 16, hexs.data[n.val]? = some (hexd n.val) := by decide +kernel
  exact key ⟨n, h⟩
theorem hexs_index (n : Nat) (h : n < 16) : Lib.indexByte hexs.data.toList (hexd n) = (n : Int) := by
  have key : ∀ n : Fin 16, Lib.indexByte hexs.data.toList (hexd n.val) = ((n.val : Nat) : Int) := by decide +kernel
  exact key ⟨n, h⟩
end ValM
end Go.Proofs.YtgdidamjgaegkaaDoor
