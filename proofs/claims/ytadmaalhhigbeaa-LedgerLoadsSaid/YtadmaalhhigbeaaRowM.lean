/- append onto a new slice that has no room: it leaves a later world. -/
import Derived.Test.YtadmaalhhigbeaaRowL
import Derived.Test.YtadmaalhhigbeaaSteady
import Derived.ArgAppend
namespace Go.Proofs.Ytadmaalhhigbeaa
set_option linter.unusedVariables false
open Go Go.RowKit

theorem app_fresh {P : Program} (w : World) (B : Nat) (t ty e : TypeId) (i : TypeInfo) (z : Value) (size bytes : Nat) (ht : P.underlying t = some (.slice e)) (hi : P.info? e = some i) (hz : i.zero = some z)
    (hsize : i.size = size) (hby : i.bytes = bytes) (hzs : z.cells.size = size) (hpos : 0 < size) (b : Nat) (hown : w.ownsRow B e size (.slice (some ⟨b, 0, none⟩) 0 0) 0 [])
    (ad : Addr) (m c : Nat) (news : List Value) (hl : news.length = m * size) (hs : Sees w w.heap.size (some ad) news) (h1 : ∀ u ∈ news, u.oneCell' = true)
    (h63 : m ≤ maxLen) (hbytes : m * bytes ≤ 140737488355328) (hbase : B ≤ w.heap.size) :
    ∃ v' w', (Builtin.append_ #[t, t] ty #[.slice (some ⟨b, 0, none⟩) 0 0, .slice (some ad) m c]).run P w = .ok v' w' ∧ Le w w' ∧ w'.ownsRow B e size v' m news := by
  have hnews : ∀ j u, news[j]? = some u → w.cell? (ad.add j) = some u := fun j u hj => by
    have hlt := (List.getElem?_eq_some_iff.1 hj).1
    obtain ⟨b', o', e', _, hc⟩ := hs (by omega)
    cases e'
    rw [Addr.add_lit]
    have := hc j hlt
    rw [(List.getElem?_eq_some_iff.1 hj).2] at this
    exact this
  by_cases hm : m = 0
  · subst hm
    have hn0 : news = [] := List.length_eq_zero_iff.1 (by simpa using hl)
    subst hn0
    subst hsize
    refine ⟨_, _, run_append_room_cells (P := P) (w := w) t ty e i ht hi b 0 0 0 ad 0 c [] (by simp) (by simp) (by simp) (by simp) (by simp) (by simp), Le.refl _, hown⟩
  · obtain ⟨v', w', hrun, hr, hg⟩ := run_append_arg_grows (P := P) (w := w) t ty e i z size bytes ht hi hz hsize hby hzs hpos ⟨b, 0, none⟩ 0 0 [] (by simp) (by simp) ad m c news hl hnews (by omega) (by omega) (by simpa using hbytes)
    refine ⟨v', w', hrun, ⟨hg.os, hg.tape, hg.output, hg.size, fun k hk => hg.block k hk (by simp)⟩, ?_⟩
    have := row_lower hr hbase
    simpa using this
end Go.Proofs.Ytadmaalhhigbeaa
