/- Groups: slices.Insert of one group, at any place of a row of the call's own. -/
import Derived.Test.YtglhgdkghddcaaaGrI
import Derived.Test.YtglhgdkghddcaaaCpk
import Derived.Lib.Overlaps
namespace Go.Proofs.Ytglhgdkghddcaaa
set_option linter.unusedVariables false
set_option linter.unusedSimpArgs false
open Go Go.RowKit IdsM

theorem ins_take (a b c d : List Value) (n : Nat) (h : (a ++ b ++ c).length = n) : (a ++ b ++ c ++ d).take n = a ++ b ++ c := by
  rw [← h]; exact List.take_left
theorem ins_shift (cur v cs : List Value) (k m z : Nat) (hk : k + z ≤ cur.length) (hv : v.length = z) (hcs : cs.length = m) :
    (((cur.take (k + z) ++ cs ++ cur.drop (k + z + cs.length)).take k ++ v ++ (cur.take (k + z) ++ cs ++ cur.drop (k + z + cs.length)).drop (k + v.length)).take (k + z + m)) = cur.take k ++ v ++ cs := by
  have e1 : (cur.take (k + z) ++ cs ++ cur.drop (k + z + cs.length)).take k = cur.take k := by
    rw [List.append_assoc, List.take_append_of_le_length (by rw [List.length_take]; omega), List.take_take]
    congr 1
    omega
  have e2 : (cur.take (k + z) ++ cs ++ cur.drop (k + z + cs.length)).drop (k + v.length) = cs ++ cur.drop (k + z + cs.length) := by
    rw [hv, List.append_assoc, List.drop_append_of_le_length (by rw [List.length_take]; omega), List.drop_of_length_le (by rw [List.length_take]; omega), List.nil_append]
  rw [e1, e2, ← List.append_assoc]
  refine ins_take _ _ _ _ _ ?_
  simp only [List.length_append, List.length_take]
  omega
theorem ins_new (cur v cs : List Value) (k m z : Nat) (hk : k + z ≤ cur.length) (hv : v.length = z) (hcs : cs.length = m) :
    (((cur.take k ++ v ++ cur.drop (k + v.length)).take (k + z) ++ cs ++ (cur.take k ++ v ++ cur.drop (k + v.length)).drop (k + z + cs.length)).take (k + z + m)) = cur.take k ++ v ++ cs := by
  have e1 : (cur.take k ++ v ++ cur.drop (k + v.length)).take (k + z) = cur.take k ++ v := by
    rw [List.take_append_of_le_length (by simp only [List.length_append, List.length_take]; omega), List.take_of_length_le (by simp only [List.length_append, List.length_take]; omega)]
  rw [e1]
  refine ins_take _ _ _ _ _ ?_
  simp only [List.length_append, List.length_take]
  omega
theorem ins_rows (gs : List Gp) (x : Gp) (k : Nat) : rws gpc (gs.take k ++ x :: gs.drop k) = (rws gpc gs).take (k * 2) ++ gpc x ++ (rws gpc gs).drop (k * 2) := by
  rw [rws_append, rws_cons, rws_take gs k (gp_len gs), rws_drop gs k (gp_len gs), List.append_assoc]

/-- A row of the call's own, with one group put in. -/
def GivesI (w : World) (base n : Nat) (r : Option Nat) (ys : List Gp) (e : Ending) (w' : World) : Prop := ∃ A' c', e = .returned (.slice A' (n + 1) c') ∧ w'.ownsRow base 41 2 (.slice A' (n + 1) c') (n + 1) (rws gpc ys) ∧ w.grownBy w' r ∧ ((Value.slice A' (n + 1) c').ownBlock = r ∨ (Value.slice A' (n + 1) c').ownBlock = some w.heap.size)

set_option maxRecDepth 100000 in
set_option maxHeartbeats 1600000 in
/-- at the end -/
theorem insend_any (base : Nat) (A : Option Addr) (n c : Nat) (gs : List Gp) (b : Nat) (x : Gp) (w : World) (hr : w.ownsRow base 41 2 (.slice A n c) n (rws gpc gs)) (hn : gs.length = n) (hz : n ≤ 65536) (hx : Blk w b (gpc x)) (hbase : base ≤ w.heap.size) (r : Option Nat) (hrr : (Value.slice A n c).ownBlock = r) :
    Calls Try.prog 34 #[.slice A n c, .int .i64 (n : Int), .slice (some ⟨b, 0, none⟩) 1 1] w (GivesI w base n r (gs ++ [x])) := by
  have HRR := Lib.hid hrr
  obtain ⟨i1, ji, jz0, jz1, jz2⟩ := info_grp
  have hsee : Sees w w.heap.size (some ⟨b, 0, none⟩) (gpc x) := fun _ => ⟨b, 0, rfl, hx.lt, fun j hj => by rw [Nat.zero_add]; exact hx.cell (List.getElem?_eq_getElem hj)⟩
  have hc := row_cap hr
  have hc1 := hc.1
  have hc2 := hc.2
  have HSEE := Lib.hid hsee
  have HR := Lib.hid hr
  clear hx hsee hr hc hrr
  go_enter Try.func34, Try.ntmps34
  go_wp2_with (first
    | (at_builtin
       refine wpList_appk _ rfl (.tmp 23) (.tmp 24) 22 rfl base 41 i1 _ 2 32 Try.underlying22 ji jz0 jz1 jz2 rfl (by decide) (.slice A n c) n (rws gpc gs) rfl HR.out w.heap.size (some ⟨b, 0, none⟩) 1 (gpc x) 1 rfl rfl HSEE.out (gpc_one x) (by unfold maxLen; omega) (by omega) hbase ?_
       intro A5 c5 w5 hr5 hb5 hg5 hat5)
    | fail)
  all_goals
    rw [HRR.out] at hg5 hat5
    go_ret
    refine ⟨A5, c5, rfl, ?_, hg5, hat5⟩
    rw [rws_append, rws_one]
    exact hr5

theorem grown_drew (w : World) (r : Option Nat) : w.grownBy w.drew r := ⟨rfl, rfl, rfl, Nat.le_refl _, fun _ _ _ => rfl⟩
set_option maxRecDepth 100000 in
set_option maxHeartbeats 3200000 in
/-- inside, there is room -/
theorem insmid_any (base g n c k : Nat) (cur : List Value) (gs : List Gp) (b : Nat) (x : Gp) (tb : TypeId) (w : World) (hB : BT w g cur 41) (hlc : cur.length = c * 2) (hcur : cur.take (n * 2) = rws gpc gs) (hn : gs.length = n) (hk : k < n) (hroom : n + 1 ≤ c) (hcm : c ≤ maxLen) (hz : n ≤ 65536) (hx : BT w b (gpc x) tb) (hne : b ≠ g) (hbase : base ≤ g) :
    Calls Try.prog 34 #[.slice (some ⟨g, 0, none⟩) n c, .int .i64 (k : Int), .slice (some ⟨b, 0, none⟩) 1 1] w (GivesI w base n (some g) (gs.take k ++ x :: gs.drop k)) := by
  obtain ⟨i1, ji, jz0, jz1, jz2⟩ := info_grp
  have hcs : (rws gpc (gs.drop k)).length = (n - k) * 2 := by rw [rws_len _ (gp_len _), List.length_drop, hn]
  have hgl : (rws gpc gs).length = n * 2 := by rw [rws_len _ (gp_len _), hn]
  have hcell : ∀ j u, (rws gpc gs)[j]? = some u → w.cell? ⟨g, j, none⟩ = some u := fun j u hu => by
    rw [← hcur, List.getElem?_take] at hu
    split at hu
    · exact hB.blk.cell hu
    · cases hu
  have hcp1 : ∀ ty (dc sc : Nat), (Builtin.copy_ #[22, 22] ty #[.slice (some ⟨g, (k + 1) * 2, none⟩) (n - k) dc, .slice (some ⟨g, k * 2, none⟩) (n + 1 - k) sc]).run Try.prog w.drew = .ok (goInt ((n - k : Nat) : Int)) (w.drew.setCells g ((k + 1) * 2) (rws gpc (gs.drop k))) := fun ty dc sc =>
    run_copy_k w.drew 22 ty 41 i1 2 Try.underlying22 ji jz1 g ((k + 1) * 2) (n - k) dc ⟨g, k * 2, none⟩ (n + 1 - k) sc (n - k) _ (by simp only [Nat.min_def]; split <;> omega) hcs
      (fun j u hu => by rw [Addr.add_lit]; exact hcell _ u (by rw [← hu, ← rws_drop gs k (gp_len gs), List.getElem?_drop]))
      (fun j hj => by rw [show w.drew.cell? ⟨g, (k + 1) * 2 + j, none⟩ = _ from hB.blk.cell (List.getElem?_eq_getElem (show (k + 1) * 2 + j < cur.length by omega))]; rfl)
      (fun j => hB.blk.frozen j) (rws_all (fun y _ => gpc_one y))
  obtain ⟨W1, hW1⟩ : ∃ W1, W1 = w.drew.setCells g ((k + 1) * 2) (rws gpc (gs.drop k)) := ⟨_, rfl⟩
  rw [← hW1] at hcp1
  have hB1 : BT W1 g (cur.take ((k + 1) * 2) ++ rws gpc (gs.drop k) ++ cur.drop ((k + 1) * 2 + (rws gpc (gs.drop k)).length)) 41 := by
    rw [hW1]
    exact BT.sets (w := w.drew) hB _ _ (by omega)
  have hx1 : BT W1 b (gpc x) tb := by rw [hW1]; exact BT.other (w := w.drew) hx (Ne.symm hne) _ _
  have hl1 : (cur.take ((k + 1) * 2) ++ rws gpc (gs.drop k) ++ cur.drop ((k + 1) * 2 + (rws gpc (gs.drop k)).length)).length = c * 2 := by
    simp only [List.length_append, List.length_take, List.length_drop]
    omega
  generalize hcur1 : cur.take ((k + 1) * 2) ++ rws gpc (gs.drop k) ++ cur.drop ((k + 1) * 2 + (rws gpc (gs.drop k)).length) = cur1 at hB1 hl1
  have hcp2 : ∀ ty (dc : Nat), (Builtin.copy_ #[22, 22] ty #[.slice (some ⟨g, k * 2, none⟩) (n + 1 - k) dc, .slice (some ⟨b, 0, none⟩) 1 1]).run Try.prog W1 = .ok (goInt (1 : Nat)) (W1.setCells g (k * 2) (gpc x)) := fun ty dc =>
    run_copy_k W1 22 ty 41 i1 2 Try.underlying22 ji jz1 g (k * 2) (n + 1 - k) dc ⟨b, 0, none⟩ 1 1 1 _ (by simp only [Nat.min_def]; split <;> omega) rfl
      (fun j u hu => by rw [Addr.add_lit, Nat.zero_add]; exact hx1.blk.cell hu)
      (fun j hj => by rw [hB1.blk.cell (List.getElem?_eq_getElem (show k * 2 + j < cur1.length by simp [gpc] at hj; omega))]; rfl)
      (fun j => hB1.blk.frozen j) (gpc_one x)
  have hB2 := hB1.sets (gpc x) (k * 2) (by show k * 2 + 2 ≤ _; omega)
  have hfin : (W1.setCells g (k * 2) (gpc x)).ownsRow base 41 2 (.slice (some ⟨g, 0, none⟩) (n + 1) c) (n + 1) (rws gpc (gs.take k ++ x :: gs.drop k)) := by
    refine ⟨by rw [rws_len _ (gp_len _)]; simp only [List.length_append, List.length_take, List.length_cons, List.length_drop]; omega, .inr ⟨g, c, _, rfl, hbase, hB2, hroom, hcm, ?_, ?_⟩⟩
    · show _ = _
      simp only [List.size_toArray, List.length_append, List.length_take, List.length_drop]
      show min (k * 2) cur1.length + 2 + (cur1.length - (k * 2 + 2)) = _
      omega
    · rw [← hcur1]
      have h1 := ins_shift cur (gpc x) (rws gpc (gs.drop k)) (k * 2) ((n - k) * 2) 2 (by omega) rfl hcs
      rw [show k * 2 + 2 + (n - k) * 2 = (n + 1) * 2 by omega, show k * 2 + 2 = (k + 1) * 2 by omega] at h1
      rw [h1, ins_rows, ← rws_drop gs k (gp_len gs), ← hcur, List.take_take]
      congr 3
      omega
  have hgr : w.grownBy (W1.setCells g (k * 2) (gpc x)) (some g) := by
    rw [hW1]
    exact ((grown_drew w _).trans (grown_sets _ _ _ _)).trans (grown_sets _ _ _ _)
  have hov : ∀ lb cb, (callFunc 60 #[.slice (some ⟨b, 0, none⟩) 1 1, .slice (some ⟨g, (k + 1) * 2, none⟩) lb cb]).run Try.prog w = .ok (.value (.bool false)) w := fun lb cb => by
    rw [run_callFunc_extern Try.func60 (by kernel_rfl) (by kernel_rfl) (by kernel_rfl) (e := Extern.SlicesOverlaps.overlaps #[22, 22] #[4]) (by kernel_rfl),
      Lib.run_overlaps_apart w 22 4 41 Try.underlying22 2 (fun w => by simp [Go.sizeOf, typeInfo, ji, jz1]) ⟨b, 0, none⟩ ⟨g, (k + 1) * 2, none⟩ 1 1 lb cb hne tb 41 2 cur.length (by simp [World.shape?, show w.heap[b]? = _ from hx]; rfl) (by simp [World.shape?, show w.heap[g]? = _ from hB]) (by omega) (hx.blk.frozen _) (hx.blk.frozen _)]
    rfl
  have HCP1 := Lib.hid hcp1
  have HW1 := Lib.hid hW1
  have HCP2 := Lib.hid hcp2
  have HOV := Lib.hid hov
  have HFIN := Lib.hid hfin
  have HGR := Lib.hid hgr
  have hzn : ¬ ((k : Int) = (n : Int)) := by omega
  have hin : (k : Int) ≤ (n : Int) := by omega
  have hb2 : ¬ (c = k + 1) := by omega
  have hb4 : ¬ (c = k) := by omega
  have hp0 : (0 : Int) ≤ (k : Int) + 1 := by omega
  have hp2 : ((k : Int) + 1).toNat = k + 1 := by omega
  have hp3 : ((n : Int) + 1).toNat = n + 1 := by omega
  have hb3 : (k : Int) ≤ (n : Int) + 1 := by omega
  have hb5 : (n : Int) + 1 ≤ (c : Int) := by omega
  have hb6 : (0 : Int) ≤ (n : Int) + 1 := by omega
  have hw1 : IntKind.i64.wrap ((k : Int) + 1) = (k : Int) + 1 := by rw [IntKind.wrap_i64]; omega
  have hb7 : (k : Int) + 1 ≤ (n : Int) + 1 := by omega
  clear hW1 hcp1 hcp2 hov hfin hgr hB2 hB1 hx1 hl1 hcur1 hcell hcs hgl hB hx hcur
  go_enter Try.func34, Try.ntmps34
  go_wp2_with (simp only [HOV.out])
  go_region_law (refine step_execx rfl _ (exec_cpy (.tmp 73) (.tmp 76) 22 22 rfl (.slice (some ⟨g, (k + 1) * 2, none⟩) (n - k) (c - (k + 1))) (.slice (some ⟨g, k * 2, none⟩) (n + 1 - k) (c - k)) (goInt ((n - k : Nat) : Int)) (by simp [Act.eval, Act.put]) (by simp [Act.eval, Act.put]) (HCP1.out _ _ _)) ?_)
  go_wp2_with (first
    | (refine wpList_execx (by rfl) (goInt (1 : Nat)) (exec_cpy (.tmp 80) (.tmp 81) 22 22 rfl (.slice (some ⟨g, k * 2, none⟩) (n + 1 - k) (c - k)) (.slice (some ⟨b, 0, none⟩) 1 1) _ rfl rfl (HCP2.out _ _)) ?_
       simp only [Act.put, List.setIfInBounds_toArray, List.set_cons_zero, List.set_cons_succ])
    | fail)
  go_ret
  exact ⟨some ⟨g, 0, none⟩, c, rfl, HFIN.out, HGR.out, .inl rfl⟩

set_option maxRecDepth 100000 in
set_option maxHeartbeats 3200000 in
/-- inside, there is no room -/
theorem insnew_any (base g n c k : Nat) (gs : List Gp) (b : Nat) (x : Gp) (w : World) (hr : w.ownsRow base 41 2 (.slice (some ⟨g, 0, none⟩) n c) n (rws gpc gs)) (hn : gs.length = n) (hk : k < n) (hroom : c < n + 1) (hz : n ≤ 65536) (hx : Blk w b (gpc x)) (hbase : base ≤ w.heap.size) :
    Calls Try.prog 34 #[.slice (some ⟨g, 0, none⟩) n c, .int .i64 (k : Int), .slice (some ⟨b, 0, none⟩) 1 1] w (GivesI w base n (some g) (gs.take k ++ x :: gs.drop k)) := by
  obtain ⟨i1, ji, jz0, jz1, jz2⟩ := info_grp
  have hcap := row_cap hr
  have hcc := hcap.1
  have hcells := hr.cells (g := g) rfl
  have hgw : g < w.heap.size := (World.ownsRow.lt hr g rfl).2
  have hcs : (rws gpc (gs.drop k)).length = (n - k) * 2 := by rw [rws_len _ (gp_len _), List.length_drop, hn]
  have hgl : (rws gpc gs).length = n * 2 := by rw [rws_len _ (gp_len _), hn]
  have hrk : w.ownsRow base 41 2 (.slice (some ⟨g, 0, none⟩) k c) k ((rws gpc gs).take (k * 2)) := by
    refine ⟨by rw [List.length_take]; omega, ?_⟩
    rcases hr.2 with ⟨e, _⟩ | ⟨g', cap, cur, e, h1, h2, h3, h4, h5, h6⟩
    · cases e
    · injection e with e1 _ e3
      injection e1 with e1
      injection e1 with e1
      subst e1 e3
      exact .inr ⟨g, c, cur, rfl, h1, h2, by omega, h4, h5, by rw [← h6, List.take_take]; congr 1; omega⟩
  obtain ⟨G, cells, hap, hG1, hG2, hG3, hG4⟩ := run_appz_new (P := Try.prog) w base 22 3 22 41 i1 _ .i64 .i64 2 32 Try.underlying22 Try.underlying3 ji jz0 jz1 jz2 rfl (by decide) g k c _ hrk (n + 1 - k) (by omega) (by omega) (by unfold maxLen; omega) (by omega)
  rw [show k + (n + 1 - k) = n + 1 by omega, show ((n + 1 - k : Nat) : Int) = (n : Int) + 1 - (k : Int) by omega] at hap
  obtain ⟨W1, hW1⟩ : ∃ W1, W1 = w.drew.alloc (.cells cells.toArray 41) := ⟨_, rfl⟩
  obtain ⟨N, hN⟩ : ∃ N, N = w.heap.size := ⟨_, rfl⟩
  have hB1 : BT W1 N cells 41 := by rw [hW1, hN]; exact BT.new w.drew cells 41
  have hg1 : w.grownBy W1 (some g) := by rw [hW1]; exact (grown_drew w _).trans (World.grownBy_alloc _ _ _)
  have hx1 : Blk W1 b (gpc x) := by rw [hW1]; exact Blk.alloc (w := w.drew) hx _
  have ho1 : ∀ j u, (rws gpc gs)[j]? = some u → W1.cell? ⟨g, j, none⟩ = some u := fun j u hu => by
    rw [hW1, World.cell?_alloc_past (w := w.drew) _ g j hgw]
    have := hcells j u hu
    rw [Addr.add_lit, Nat.zero_add] at this
    exact this
  rw [← hW1, ← hN] at hap
  have hbw : b ≠ N := by have := hx.lt; omega
  have hgN : g ≠ N := by omega
  have hcpA : ∀ ty (dc : Nat), (Builtin.copy_ #[22, 22] ty #[.slice (some ⟨N, k * 2, none⟩) (n + 1 - k) dc, .slice (some ⟨b, 0, none⟩) 1 1]).run Try.prog W1 = .ok (goInt (1 : Nat)) (W1.setCells N (k * 2) (gpc x)) := fun ty dc =>
    run_copy_k W1 22 ty 41 i1 2 Try.underlying22 ji jz1 N (k * 2) (n + 1 - k) dc ⟨b, 0, none⟩ 1 1 1 _ (by simp only [Nat.min_def]; split <;> omega) rfl
      (fun j u hu => by rw [Addr.add_lit, Nat.zero_add]; exact hx1.cell hu)
      (fun j hj => by rw [hB1.blk.cell (List.getElem?_eq_getElem (show k * 2 + j < cells.length by simp [gpc] at hj; omega))]; rfl)
      (fun j => hB1.blk.frozen j) (gpc_one x)
  have hB2 := hB1.sets (gpc x) (k * 2) (by show k * 2 + 2 ≤ _; omega)
  obtain ⟨W2, hW2⟩ : ∃ W2, W2 = W1.setCells N (k * 2) (gpc x) := ⟨_, rfl⟩
  have ho2 : ∀ j u, (rws gpc gs)[j]? = some u → W2.cell? ⟨g, j, none⟩ = some u := fun j u hu => by
    rw [hW2, World.cell?_setCells_out _ _ _ _ _ (fun h _ => absurd h hgN)]
    exact ho1 j u hu
  rw [← hW2] at hcpA hB2
  have hl2 : (cells.take (k * 2) ++ gpc x ++ cells.drop (k * 2 + (gpc x).length)).length = G * 2 := by
    simp only [List.length_append, List.length_take, List.length_drop, show (gpc x).length = 2 from rfl]
    omega
  generalize hcur2 : cells.take (k * 2) ++ gpc x ++ cells.drop (k * 2 + (gpc x).length) = cur2 at hB2 hl2
  have hcpB : ∀ ty (dc sc : Nat), (Builtin.copy_ #[22, 22] ty #[.slice (some ⟨N, (k + 1) * 2, none⟩) (n - k) dc, .slice (some ⟨g, k * 2, none⟩) (n - k) sc]).run Try.prog W2.drew = .ok (goInt ((n - k : Nat) : Int)) (W2.drew.setCells N ((k + 1) * 2) (rws gpc (gs.drop k))) := fun ty dc sc =>
    run_copy_k W2.drew 22 ty 41 i1 2 Try.underlying22 ji jz1 N ((k + 1) * 2) (n - k) dc ⟨g, k * 2, none⟩ (n - k) sc (n - k) _ (by simp only [Nat.min_def]; split <;> omega) hcs
      (fun j u hu => by rw [Addr.add_lit]; exact ho2 _ u (by rw [← hu, ← rws_drop gs k (gp_len gs), List.getElem?_drop]))
      (fun j hj => by rw [show W2.drew.cell? ⟨N, (k + 1) * 2 + j, none⟩ = _ from hB2.blk.cell (List.getElem?_eq_getElem (show (k + 1) * 2 + j < cur2.length by omega))]; rfl)
      (fun j => hB2.blk.frozen j) (rws_all (fun y _ => gpc_one y))
  have hB3 : BT (W2.drew.setCells N ((k + 1) * 2) (rws gpc (gs.drop k))) N _ 41 := BT.sets (w := W2.drew) hB2 (rws gpc (gs.drop k)) ((k + 1) * 2) (by omega)
  have hg3 : w.grownBy (W2.drew.setCells N ((k + 1) * 2) (rws gpc (gs.drop k))) (some g) := by
    rw [hW2]
    have hs : ∀ (W : World) (o : Nat) (vs : List Value), w.grownBy W (some g) → w.grownBy (W.setCells N o vs) (some g) := fun W o vs h => by
      have h2 := grown_sets N vs o W
      exact ⟨h2.os.trans h.os, h2.tape.trans h.tape, h2.output.trans h.output, Nat.le_trans h.size h2.size, fun j hj hne => (h2.block j (Nat.lt_of_lt_of_le hj h.size) (by intro e; injection e with e; omega)).trans (h.block j hj hne)⟩
    exact hs _ _ _ ((hs _ _ _ hg1).trans (grown_drew _ _))
  have hfin : (W2.drew.setCells N ((k + 1) * 2) (rws gpc (gs.drop k))).ownsRow base 41 2 (.slice (some ⟨N, 0, none⟩) (n + 1) G) (n + 1) (rws gpc (gs.take k ++ x :: gs.drop k)) := by
    refine ⟨by rw [rws_len _ (gp_len _)]; simp only [List.length_append, List.length_take, List.length_cons, List.length_drop]; omega, .inr ⟨N, G, _, rfl, by omega, hB3, by omega, hG2, ?_, ?_⟩⟩
    · simp only [List.size_toArray, List.length_append, List.length_take, List.length_drop]
      omega
    · rw [← hcur2]
      have h1 := ins_new cells (gpc x) (rws gpc (gs.drop k)) (k * 2) ((n - k) * 2) 2 (by omega) rfl hcs
      rw [show k * 2 + 2 + (n - k) * 2 = (n + 1) * 2 by omega, show k * 2 + 2 = (k + 1) * 2 by omega] at h1
      rw [h1, ins_rows, ← rws_drop gs k (gp_len gs), hG4]
  have HAP := Lib.hid hap
  have HCPA := Lib.hid hcpA
  have HCPB := Lib.hid hcpB
  have HFIN := Lib.hid hfin
  have HGR := Lib.hid hg3
  have HN := Lib.hid hN
  have hzn : ¬ ((k : Int) = (n : Int)) := by omega
  have hin : (k : Int) ≤ (n : Int) := by omega
  have hb1 : (c : Int) < (n : Int) + 1 := by omega
  have hb2 : ¬ (G = k + 1) := by omega
  have hb4 : ¬ (G = k) := by omega
  have hb5 : ¬ (c = k) := by omega
  have hp0 : (0 : Int) ≤ (k : Int) + 1 := by omega
  have hp2 : ((k : Int) + 1).toNat = k + 1 := by omega
  have hb3 : (k : Int) ≤ (n : Int) + 1 := by omega
  have hb7 : (k : Int) + 1 ≤ (n : Int) + 1 := by omega
  have hw1 : IntKind.i64.wrap ((k : Int) + 1) = (k : Int) + 1 := by rw [IntKind.wrap_i64]; omega
  clear hW1 hW2 hN hap hcpA hcpB hfin hg3 hB3 hB2 hB1 hx1 hl2 hcur2 ho1 ho2 hcells hcs hgl hr hrk hx hcap hg1 hG3 hG4 hgw
  go_enter Try.func34, Try.ntmps34
  go_wp2_with (first
    | (refine wpList_execx (by rfl) (.slice (some ⟨N, 0, none⟩) (n + 1) G) (exec_appz (.tmp 34) (.tmp 39) 22 3 rfl (.slice (some ⟨g, 0, none⟩) k c) (.int .i64 ((n : Int) + 1 - (k : Int))) _ rfl rfl HAP.out) ?_
       simp only [Act.put, List.setIfInBounds_toArray, List.set_cons_zero, List.set_cons_succ])
    | (refine wpList_execx (by rfl) (goInt (1 : Nat)) (exec_cpy (.tmp 43) (.tmp 44) 22 22 rfl (.slice (some ⟨N, k * 2, none⟩) (n + 1 - k) (G - k)) (.slice (some ⟨b, 0, none⟩) 1 1) _ rfl rfl (HCPA.out _ _)) ?_
       simp only [Act.put, List.setIfInBounds_toArray, List.set_cons_zero, List.set_cons_succ])
    | fail)
  go_region_law (refine step_execx rfl _ (exec_cpy (.tmp 50) (.tmp 53) 22 22 rfl (.slice (some ⟨N, (k + 1) * 2, none⟩) (n - k) (G - (k + 1))) (.slice (some ⟨g, k * 2, none⟩) (n - k) (c - k)) (goInt ((n - k : Nat) : Int)) (by simp [Act.eval, Act.put]) (by simp [Act.eval, Act.put]) (HCPB.out _ _ _)) ?_)
  go_wp2_with fail
  go_ret
  exact ⟨some ⟨N, 0, none⟩, G, rfl, HFIN.out, HGR.out, .inr (by rw [← HN.out]; rfl)⟩

/-- slices.Insert of one group at any place of a row of the call's own. -/
theorem insert_any (base : Nat) (A : Option Addr) (n c k : Nat) (gs : List Gp) (b : Nat) (x : Gp) (tb : TypeId) (w : World) (hr : w.ownsRow base 41 2 (.slice A n c) n (rws gpc gs)) (hn : gs.length = n) (hk : k ≤ n) (hz : n ≤ 65536) (hx : BT w b (gpc x) tb) (hne : (Value.slice A n c).ownBlock ≠ some b) (hbase : base ≤ w.heap.size) (r : Option Nat) (hrr : (Value.slice A n c).ownBlock = r) :
    Calls Try.prog 34 #[.slice A n c, .int .i64 (k : Int), .slice (some ⟨b, 0, none⟩) 1 1] w (GivesI w base n r (gs.take k ++ x :: gs.drop k)) := by
  by_cases hkn : k = n
  · subst hkn
    rw [List.take_of_length_le (by omega), List.drop_of_length_le (by omega)]
    exact insend_any base A k c gs b x w hr hn hz hx.blk hbase r hrr
  · have hlt : k < n := by omega
    rcases hr.2 with ⟨_, h0⟩ | ⟨g, cap, cur, e, h1, h2, h3, h4, h5, h6⟩
    · omega
    · injection e with e1 _ e3
      subst e1 e3
      have er : r = some g := by rw [← hrr]; rfl
      subst er
      by_cases hroom : n + 1 ≤ c
      · exact insmid_any base g n c k cur.toList gs b x tb w (by rw [show cur = cur.toList.toArray by simp] at h2; exact h2) (by rw [Array.length_toList]; exact h5) h6 hn hlt hroom h4 hz hx (fun e => hne (by rw [e]; rfl)) h1
      · exact insnew_any base g n c k gs b x w hr hn hlt (by omega) hz hx.blk hbase
end Go.Proofs.Ytglhgdkghddcaaa
