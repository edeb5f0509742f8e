/- What Once does for a filter: its function, its fields, its groups. -/
import Derived.Test.YtfoppjgjljellaaEvO
namespace Go.Proofs.Ytfoppjgjljellaa
set_option linter.unusedVariables false
set_option linter.unusedSimpArgs false
open Go Go.RowKit Go.Shelf BitM ValM

def fstep (s : BitVec 32) (x : Nd) : BitVec 32 := if x.1 = 3 then s ||| 256#32 else if 5 ≤ x.1 ∧ x.1 ≤ 9 then put s x.2.1 else s
def gstep (s : BitVec 32) (x : Nd) : BitVec 32 := if x.1 = 4 then put s x.2.1 else s
/-- The fields that a filter asks, and the groups. -/
def fls (l : List Nd) : BitVec 32 := l.foldl fstep 0#32
def grs (l : List Nd) : BitVec 32 := l.foldl gstep 0#32
theorem fls_succ (l : List Nd) (k : Nat) (h : k < l.length) : fls (l.take (k + 1)) = fstep (fls (l.take k)) l[k] := by
  unfold fls
  rw [List.take_succ_eq_append_getElem h, List.foldl_append]
  rfl
theorem grs_succ (l : List Nd) (k : Nat) (h : k < l.length) : grs (l.take (k + 1)) = gstep (grs (l.take k)) l[k] := by
  unfold grs
  rw [List.take_succ_eq_append_getElem h, List.foldl_append]
  rfl

/-- The cells of a filter. -/
def flt (A : Option Addr) (n c : Nat) (d m : Int) (v : Value) (f g : Int) : List Value := [.slice A n c, .int .u32 d, .int .i32 m, .int .u32 0, v, .int .u32 f, .int .u32 g]
/-- What a filter's function says, it says when a filter is written. -/
theorem Says.other {mm : Int} {w w' : World} {v : Value} {l : List Nd} {F : Nat} {cs : List Value} (h : Says mm w v l) (hF : Blk w F cs) (hf : ∀ u, cs[0]? = some u → foot u = false) (hg : w.grownBy w' (some F)) : Says mm w' v l :=
  h.keep fun k x hx hn => hg.block k (World.block_lt_of_cell? _ ⟨k, 0, none⟩ hx) (fun e => by
    injection e with e
    subst e
    obtain ⟨t, ht⟩ := hF
    have h1 : cs[0]? = some x := by
      have := hx
      simp [World.cell?, ht] at this
      simpa using this
    rw [hf x h1] at hn
    cases hn)
/-- What holds of the world when a filter's Once runs. -/
structure Run (mm : Int) (w : World) (B F : Nat) (A : Option Addr) (n c : Nat) (v : Value) (f g : BitVec 32) (l : List Nd) (w' : World) : Prop where
  blk : Blk w' F (flt A n c 0 1 v (f.toNat : Int) (g.toNat : Int))
  box : w'.cell? ⟨B, 0, none⟩ = some (.pointer (some ⟨F, 0, none⟩))
  says : Says mm w' v l
  grown : w.grownBy w' (some F)
section
variable {mm : Int} {w : World} {B F : Nat} {A : Option Addr} {n c : Nat} {v : Value} {f g : BitVec 32} {l : List Nd} {w1 w2 : World}
theorem grown_le (h : Le w w2) (row : Option Nat) : w.grownBy w2 row := ⟨h.os, h.tape, h.output, h.size, fun k hk _ => h.block k hk⟩
theorem Run.later (h : Run mm w B F A n c v f g l w1) (hl : Le w1 w2) : Run mm w B F A n c v f g l w2 :=
  ⟨h.blk.later hl, (hl.cell (p := ⟨B, 0, none⟩) (World.block_lt_of_cell? _ ⟨B, 0, none⟩ h.box)).trans h.box, h.says.later hl, h.grown.trans (grown_le hl _)⟩
theorem Run.put5 (h : Run mm w B F A n c v f g l w1) (hBF : B ≠ F) (f' : BitVec 32) : Run mm w B F A n c v f' g l (w1.setCell ⟨F, 5, none⟩ (.int .u32 (f'.toNat : Int))) := by
  have hg : w1.grownBy (w1.setCell ⟨F, 5, none⟩ (.int .u32 (f'.toNat : Int))) (some F) := grown_sets F [.int .u32 (f'.toNat : Int)] 5 w1
  exact ⟨h.blk.set 5 _, (World.cell?_setCell_other _ ⟨F, 5, none⟩ ⟨B, 0, none⟩ _ (by intro e; injection e with e; exact hBF e.symm)).trans h.box, h.says.other h.blk (fun u hu => by simp [flt] at hu; subst hu; rfl) hg, h.grown.trans hg⟩
theorem Run.put6 (h : Run mm w B F A n c v f g l w1) (hBF : B ≠ F) (g' : BitVec 32) : Run mm w B F A n c v f g' l (w1.setCell ⟨F, 6, none⟩ (.int .u32 (g'.toNat : Int))) := by
  have hg : w1.grownBy (w1.setCell ⟨F, 6, none⟩ (.int .u32 (g'.toNat : Int))) (some F) := grown_sets F [.int .u32 (g'.toNat : Int)] 6 w1
  exact ⟨h.blk.set 6 _, (World.cell?_setCell_other _ ⟨F, 6, none⟩ ⟨B, 0, none⟩ _ (by intro e; injection e with e; exact hBF e.symm)).trans h.box, h.says.other h.blk (fun u hu => by simp [flt] at hu; subst hu; rfl) hg, h.grown.trans hg⟩
theorem flt_ne {k : IntKind} {d m a b x : Int} (hk : k = .i64) (j : Nat) : (flt A n c d m v a b)[j]? = some (.int k x) → v = .nilFunc → False := by
  subst hk
  intro h hv
  subst hv
  match j with
  | 0 => simp [flt] at h
  | 1 => simp [flt] at h
  | 2 => simp [flt] at h
  | 3 => simp [flt] at h
  | 4 => simp [flt] at h
  | 5 => simp [flt] at h
  | 6 => simp [flt] at h
  | j + 7 => simp [flt] at h
theorem Blk.is {cs : List Value} {j : Nat} {u : Value} (h : Blk w F cs) (hc : w.cell? ⟨F, j, none⟩ = some u) : cs[j]? = some u := by
  obtain ⟨t, ht⟩ := h
  simp [World.cell?, ht] at hc
  simpa using hc
end
set_option maxRecDepth 100000 in
set_option maxHeartbeats 6400000 in
theorem ready1_any (mm : Int) (B F : Nat) (A : Option Addr) (n c : Nat) (l : List Nd) (w : World) (hB : w.cell? ⟨B, 0, none⟩ = some (.pointer (some ⟨F, 0, none⟩))) (hBF : B ≠ F) (hF : Blk w F (flt A n c 0 1 .nilFunc 0 0)) (hin : TreeIn mm A n c l w) :
    Calls Try.prog 40 #[.pointer (some ⟨B, 0, none⟩)] w fun e w' => e = .returned (.tuple #[]) ∧ ∃ v, Run mm w B F A n c v (fls l) (grs l) l w' := by
  have hu := Try.underlying57
  have hBlt : B < w.heap.size := World.block_lt_of_cell? _ ⟨B, 0, none⟩ hB
  have hFlt := hF.lt
  have hln := hin.len
  have hmx := hin.max
  have HIN := Lib.hid hin
  have HB := Lib.hid (fun wx (h : Le w wx) => (h.cell (p := ⟨B, 0, none⟩) hBlt).trans hB)
  have HF := Lib.hid (fun wx (h : Le w wx) => hF.later h)
  have HBF := Lib.hid hBF
  have HL := Lib.hid hln
  clear hin hF hBF hln
  go_enter Try.func40, Try.ntmps40
  go_wp2_with fail
  refine wp_region_tail [(8, relSays mm l)] 65 8 (by kernel_rfl) (by kernel_rfl) (by kernel_rfl) (by rfl) ?_
  simp only [List.take_succ_cons, List.take_zero, List.drop_succ_cons, List.drop_zero]
  refine wpG_run (by rfl) (by rfl) (.pointer (some ⟨F, 0, none⟩)) (fun wx hl => ?_) ?_
  · have kc := HB.out wx hl.1
    simp [go_sem, kc]
  simp only [Act.put, List.setIfInBounds_toArray, List.set_cons_zero, List.set_cons_succ]
  refine wpG_run (by rfl) (by rfl) (.pointer (some ⟨F, 0, none⟩)) (fun wx hl => ?_) ?_
  · have kc := HB.out wx hl.1
    simp [go_sem, kc]
  simp only [Act.put, List.setIfInBounds_toArray, List.set_cons_zero, List.set_cons_succ]
  repeat (refine wpG_quiet (by rfl) (by rfl) (by rfl) (fun K hK => ?_); go_big_quiet_op; refine hK _ ?_; clear hK K)
  refine wpG_run (by rfl) (by rfl) (.slice A n c) (fun wx hl => ?_) ?_
  · have kc := (HF.out wx hl.1).cell (j := 0) rfl
    simp [go_sem, kc]
  simp only [Act.put, List.setIfInBounds_toArray, List.set_cons_zero, List.set_cons_succ]
  refine wpG_calls (relSays mm l) (by rfl) (by rfl) 41 #[.slice A n c] (by intro _; simp [go_sem]) (fun wx hl => (tree_any mm l.length l (Nat.le_refl _) A n c wx ⟨HIN.out.len, (HIN.out.sees.below hl.1).more hl.1.size, HIN.out.cap, HIN.out.max, HIN.out.wood, HIN.out.ok, HIN.out.mem.later hl.1⟩).mono ?_) ?_
  · rintro e wy ⟨v, rfl, hs, hb⟩
    exact ⟨v, rfl, hb, hs⟩
  rintro _ ⟨_, _, _, ⟨f1, caps1, _, rfl, _⟩⟩
  simp only [Act.put, List.setIfInBounds_toArray, List.set_cons_zero, List.set_cons_succ]
  repeat (refine wpG_quiet (by rfl) (by rfl) (by rfl) (fun K hK => ?_); go_big_quiet_op; refine hK _ ?_; clear hK K)
  refine wpG_nil fun wz hl hs => ?_
  have hs1 : Says mm wz (.func (.func f1) #[] caps1) l := hs.2
  have bz := HF.out wz hl
  have cz := HB.out wz hl
  have bz1 : Blk (wz.setCell ⟨F, 4, none⟩ (.func (.func f1) #[] caps1)) F (flt A n c 0 1 (.func (.func f1) #[] caps1) 0 0) := bz.set 4 _
  have hg1 : wz.grownBy (wz.setCell ⟨F, 4, none⟩ (.func (.func f1) #[] caps1)) (some F) := grown_sets F [.func (.func f1) #[] caps1] 4 wz
  have hg0 : w.grownBy wz (some F) := ⟨hl.os, hl.tape, hl.output, hl.size, fun k hk _ => hl.block k hk⟩
  have hg2 := hg0.trans hg1
  have hs2 := hs1.other bz (fun u hu => by simp [flt] at hu; subst hu; rfl) hg1
  have cz1 : (wz.setCell ⟨F, 4, none⟩ (.func (.func f1) #[] caps1)).cell? ⟨B, 0, none⟩ = some (.pointer (some ⟨F, 0, none⟩)) := (World.cell?_setCell_other _ ⟨F, 4, none⟩ ⟨B, 0, none⟩ _ (by intro e; injection e with e; exact HBF.out e.symm)).trans cz
  have fcell := bz.cell (j := 4) rfl
  have ffz := bz.frozen 4
  have e0 : (((0#32 : BitVec 32).toNat : Nat) : Int) = 0 := rfl
  have HR : Hid (Run mm w B F A n c (.func (.func f1) #[] caps1) (fls (l.take 0)) (grs (l.take 0)) l (wz.setCell ⟨F, 4, none⟩ (.func (.func f1) #[] caps1))) := Lib.hid ⟨bz1, cz1, hs2, hg2⟩
  have k0 := bz1.cell (j := 0) rfl
  clear hs hs1 bz bz1 hg1 hg0 hg2 hs2
  have hrg0 : ∀ k (hk : k < l.length), ∃ b o, A = some ⟨b, o, none⟩ ∧ ∀ wr, w.grownBy wr (some F) → wr.rangeAt b (o + k * 5) (ncells l[k]) := fun k hk => by
    obtain ⟨b, o, e, hb, h0, _, hr⟩ := sees_node HIN.out.sees k hk
    have hbF : b ≠ F := fun e => by
      subst e
      exact flt_ne rfl _ ((HF.out w (Le.refl w)).is h0) rfl
    exact ⟨b, o, e, fun wr hg j u hj => (World.cell?_of_block (a := ⟨b, o + k * 5 + j, none⟩) (hg.block b hb (fun e => by injection e with e; exact hbF e))).trans (hr j u hj)⟩
  have HRG := Lib.hid hrg0
  clear hrg0
  go_wp2_with fail
  generalize Value.func (.func f1) #[] caps1 = v at *
  generalize wz.setCell ⟨F, 4, none⟩ v = w0 at *
  go_loopw [16] (fun i wr => ∃ k : Nat, k ≤ n ∧ i = .int .i64 k ∧ Run mm w B F A n c v (fls (l.take k)) (grs (l.take k)) l wr)
    (fun i _ => n - (intOf i).toNat)
  case atStart => exact ⟨0, Nat.zero_le _, rfl, HR.out⟩
  case round =>
    obtain ⟨k, hk, rfl, hrun⟩ := hrel
    clear HR k0 cz1 cz hl HF HB fcell ffz
    by_cases hlt : k < n
    · have hkl : k < l.length := by rw [HL.out]; exact hlt
      obtain ⟨b, o, rfl, hrg'⟩ := HRG.out k hkl
      have hrg := hrg' wr hrun.grown
      have d0 : (k : Int) < (n : Int) := by omega
      have FS := Lib.hid (fls_succ l k hkl)
      have GS := Lib.hid (grs_succ l k hkl)
      obtain ⟨x, hx⟩ : ∃ x, x = l[k] := ⟨_, rfl⟩
      rw [← hx] at hrg FS GS
      have hop := nok_op (HIN.out.ok x (by rw [hx]; exact List.getElem_mem hkl))
      obtain ⟨fs, hfs⟩ : ∃ f, f = fls (l.take k) := ⟨_, rfl⟩
      obtain ⟨gs, hgs⟩ : ∃ f, f = grs (l.take k) := ⟨_, rfl⟩
      rw [← hfs] at hrun FS
      rw [← hgs] at hrun GS
      clear hx hfs hgs hrg'
      have BN := Blk.new wr (ncells zn) 57
      have TH := BN.there 0 5 (by decide)
      have HSZ := Lib.hid (show (ncells x).length = 5 from rfl)
      have HONE := Lib.hid (show ∀ v ∈ ncells x, v.oneCell' = true from fun v hv => ncs_one [x] v (by simpa [ncs] using hv))
      have FIN : Hid (Blk ((wr.alloc (.cells (ncells zn).toArray 57)).setCells wr.heap.size 0 (ncells x)) wr.heap.size (ncells x)) := Lib.hid (by
        have h := BN.sets (ncells x) 0 (by rw [ncells_len, ncells_len]; exact Nat.le_refl 5)
        simpa [ncells] using h)
      have G1 : Hid (Below wr.heap.size wr ((wr.alloc (.cells (ncells zn).toArray 57)).setCells wr.heap.size 0 (ncells x))) := Lib.hid (by
        exact ((Below.refl wr.heap.size wr).alloc (Nat.le_refl _) _).grown (grown_sets wr.heap.size (ncells x) 0 (wr.alloc (.cells (ncells zn).toArray 57))) (by simp) (fun k e => by injection e with e; omega))
      have HFR := Lib.hid (hrun.blk.lt)
      have HRUN := Lib.hid hrun
      have SH := Lib.hid (fun wx (h : Blk wx wr.heap.size (ncells x)) => (show wx.cell? ⟨wr.heap.size, 0, none⟩ = some (.int .i64 x.1) ∧ wx.cell? ⟨wr.heap.size, 1, none⟩ = some (.int .i64 x.2.1) from ⟨h.cell (j := 0) rfl, h.cell (j := 1) rfl⟩))
      obtain ⟨nc, hnc⟩ : ∃ nc, nc = ncells x := ⟨_, rfl⟩
      rw [← hnc] at HSZ HONE FIN G1 hrg SH
      rw [znode] at TH FIN G1
      clear hnc BN hrun
      obtain ⟨op, hop0⟩ : ∃ op, op = x.1 := ⟨_, rfl⟩
      obtain ⟨nv, hnv⟩ : ∃ nv, nv = x.2.1 := ⟨_, rfl⟩
      rw [← hop0, ← hnv] at SH
      rw [← hop0] at hop
      have HOR := Lib.hid (BitM.u32_or fs 256#32)
      have e256 : (((256#32 : BitVec 32).toNat : Nat) : Int) = 256 := rfl
      rw [e256] at HOR
      have HWF := Lib.hid (fun wx : World => (with_any fs nv wx).mono (fun e w' h => (show e = .returned (.int .u32 ((put fs nv).toNat : Int)) ∧ Below wx.heap.size wx w' from ⟨h.1, h.2 ▸ Below.refl _ _⟩)))
      have HWG := Lib.hid (fun wx : World => (with_any gs nv wx).mono (fun e w' h => (show e = .returned (.int .u32 ((put gs nv).toNat : Int)) ∧ Below wx.heap.size wx w' from ⟨h.1, h.2 ▸ Below.refl _ _⟩)))
      by_cases h3 : op = 3
      · have HFS : Hid (fls (l.take (k + 1)) = fs ||| 256#32) := Lib.hid (by rw [FS.out, fstep, if_pos (by rw [← hop0]; exact h3)])
        have HGS : Hid (grs (l.take (k + 1)) = gs) := Lib.hid (by rw [GS.out, gstep, if_neg (by rw [← hop0, h3]; decide)])
        clear FS GS hop0 hnv HWF HWG
        subst h3
        have hor := HOR.out
        go_wp2_with (first
          | (refine wpList_load_mid rfl 57 (.tmp 18) rfl b (o + k * 5) rfl nc _ hrg hu rfl (by rw [HSZ.out]; exact info_node) ?_)
          | (refine wpList_store_mid rfl 57 (.tmp 2) (.tmp 19) rfl wr.heap.size 0 nc.toArray rfl rfl (by simpa [HSZ.out] using TH) (by simpa [HSZ.out] using info_node) (all_oneCell_toArray HONE.out) ?_
             clear hrg TH
             generalize (wr.alloc (.cells #[Value.int .i64 0, .int .i64 0, .int .i64 0, .int .i64 0, .string { data := #[] }] 57)).setCells wr.heap.size 0 nc = w2 at *
             obtain ⟨n0, n1⟩ := SH.out w2 FIN.out
             have HR2 := Lib.hid (HRUN.out.later G1.out)
             have kb := HR2.out.box
             have f5 := HR2.out.blk.cell (j := 5) rfl
             have z5 := HR2.out.blk.frozen 5
             have n0' : (w2.setCell ⟨F, 5, none⟩ (.int .u32 ((fs ||| 256#32).toNat : Int))).cell? ⟨wr.heap.size, 0, none⟩ = some (.int .i64 3) := (World.cell?_setCell_other _ ⟨F, 5, none⟩ ⟨wr.heap.size, 0, none⟩ _ (by intro e; injection e with e; have := HFR.out; omega)).trans n0
             have HR3 := Lib.hid (HR2.out.put5 HBF.out (fs ||| 256#32))
          )
          | fail)
        go_wp2_with fail
        go_roundw
        case rel => exact ⟨k + 1, by omega, by go_num, by rw [HFS.out, HGS.out]; exact HR3.out⟩
        case measure => (simp [intOf]; try omega)
      · by_cases h4 : op = 4
        · have HFS : Hid (fls (l.take (k + 1)) = fs) := Lib.hid (by rw [FS.out, fstep, if_neg (by rw [← hop0, h4]; decide), if_neg (by rw [← hop0, h4]; decide)])
          have HGS : Hid (grs (l.take (k + 1)) = put gs nv) := Lib.hid (by rw [GS.out, gstep, if_pos (by rw [← hop0]; exact h4), hnv])
          clear FS GS hop0 hnv HWF HOR h3
          subst h4
          go_wp2_with (first
            | (refine wpList_load_mid rfl 57 (.tmp 18) rfl b (o + k * 5) rfl nc _ hrg hu rfl (by rw [HSZ.out]; exact info_node) ?_)
            | (refine wpList_store_mid rfl 57 (.tmp 2) (.tmp 19) rfl wr.heap.size 0 nc.toArray rfl rfl (by simpa [HSZ.out] using TH) (by simpa [HSZ.out] using info_node) (all_oneCell_toArray HONE.out) ?_
               clear hrg TH
               generalize (wr.alloc (.cells #[Value.int .i64 0, .int .i64 0, .int .i64 0, .int .i64 0, .string { data := #[] }] 57)).setCells wr.heap.size 0 nc = w2 at *
               obtain ⟨n0, n1⟩ := SH.out w2 FIN.out
               have HR2 := Lib.hid (HRUN.out.later G1.out)
               have kb := HR2.out.box
            )
            | fail)
          refine wp_region_tail [] 65 10 (by kernel_rfl) (by kernel_rfl) (by kernel_rfl) (by rfl) ?_
          simp only [List.take_succ_cons, List.take_zero, List.drop_succ_cons, List.drop_zero]
          have HN1 := Lib.hid n1
          have HN0 := Lib.hid n0
          have hn1l := World.block_lt_of_cell? _ ⟨wr.heap.size, 1, none⟩ n1
          clear n0 n1 kb
          refine wpG_run (by rfl) (by rfl) (.pointer (some ⟨F, 0, none⟩)) (fun wx hl => ?_) ?_
          · have kc := (HR2.out.later hl.1).box
            simp [go_sem, kc]
          simp only [Act.put, List.setIfInBounds_toArray, List.set_cons_zero, List.set_cons_succ]
          refine wpG_run (by rfl) (by rfl) (.pointer (some ⟨F, 0, none⟩)) (fun wx hl => ?_) ?_
          · have kc := (HR2.out.later hl.1).box
            simp [go_sem, kc]
          simp only [Act.put, List.setIfInBounds_toArray, List.set_cons_zero, List.set_cons_succ]
          repeat (refine wpG_quiet (by rfl) (by rfl) (by rfl) (fun K hK => ?_); go_big_quiet_op; refine hK _ ?_; clear hK K)
          refine wpG_run (by rfl) (by rfl) (.int .u32 (gs.toNat : Int)) (fun wx hl => ?_) ?_
          · have kc := (HR2.out.later hl.1).blk.cell (j := 6) rfl
            simp [go_sem, kc]
          simp only [Act.put, List.setIfInBounds_toArray, List.set_cons_zero, List.set_cons_succ]
          repeat (refine wpG_quiet (by rfl) (by rfl) (by rfl) (fun K hK => ?_); go_big_quiet_op; refine hK _ ?_; clear hK K)
          refine wpG_run (by rfl) (by rfl) (.int .i64 nv) (fun wx hl => ?_) ?_
          · have kc := (hl.1.cell (p := ⟨wr.heap.size, 1, none⟩) hn1l).trans HN1.out
            simp [go_sem, kc]
          simp only [Act.put, List.setIfInBounds_toArray, List.set_cons_zero, List.set_cons_succ]
          refine wpG_call (by rfl) (by rfl) 42 #[.int .u32 (gs.toNat : Int), .int .i64 nv] (.int .u32 ((put gs nv).toNat : Int)) (by intro _; simp [go_sem]) (by kernel_rfl) (fun wx hl => HWG.out wx) ?_
          simp only [Act.put, List.setIfInBounds_toArray, List.set_cons_zero, List.set_cons_succ]
          repeat (refine wpG_quiet (by rfl) (by rfl) (by rfl) (fun K hK => ?_); go_big_quiet_op; refine hK _ ?_; clear hK K)
          refine wpG_nil fun wz2 hl hs => ?_
          have hr3 := HR2.out.later hl
          have f6 := hr3.blk.cell (j := 6) rfl
          have z6 := hr3.blk.frozen 6
          have HR3 := Lib.hid (hr3.put6 HBF.out (put gs nv))
          have n0' : (wz2.setCell ⟨F, 6, none⟩ (.int .u32 ((put gs nv).toNat : Int))).cell? ⟨wr.heap.size, 0, none⟩ = some (.int .i64 4) := (World.cell?_setCell_other _ ⟨F, 6, none⟩ ⟨wr.heap.size, 0, none⟩ _ (by intro e; injection e with e; have := HFR.out; omega)).trans ((hl.cell (p := ⟨wr.heap.size, 0, none⟩) hn1l).trans HN0.out)
          clear hr3 hs hl
          go_wp2_with fail
          go_roundw
          case rel => exact ⟨k + 1, by omega, by go_num, by rw [HFS.out, HGS.out]; exact HR3.out⟩
          case measure => (simp [intOf]; try omega)
        · have b3 : (op == 3) = false := by simpa using h3
          have b4 : (op == 4) = false := by simpa using h4
          by_cases h59 : 5 ≤ op ∧ op ≤ 9
          · have HFS : Hid (fls (l.take (k + 1)) = put fs nv) := Lib.hid (by rw [FS.out, fstep, if_neg (by rw [← hop0]; exact h3), if_pos (by rw [← hop0]; exact h59), hnv])
            have HGS : Hid (grs (l.take (k + 1)) = gs) := Lib.hid (by rw [GS.out, gstep, if_neg (by rw [← hop0]; exact h4)])
            have d5 : decide (5 ≤ op) = true := by simp; omega
            have d9 : decide (op ≤ 9) = true := by simp; omega
            clear FS GS hop0 hnv HWG HOR h3 h4
            go_wp2_with (first
              | (refine wpList_load_mid rfl 57 (.tmp 18) rfl b (o + k * 5) rfl nc _ hrg hu rfl (by rw [HSZ.out]; exact info_node) ?_)
              | (refine wpList_store_mid rfl 57 (.tmp 2) (.tmp 19) rfl wr.heap.size 0 nc.toArray rfl rfl (by simpa [HSZ.out] using TH) (by simpa [HSZ.out] using info_node) (all_oneCell_toArray HONE.out) ?_
                 clear hrg TH
                 generalize (wr.alloc (.cells #[Value.int .i64 0, .int .i64 0, .int .i64 0, .int .i64 0, .string { data := #[] }] 57)).setCells wr.heap.size 0 nc = w2 at *
                 obtain ⟨n0, n1⟩ := SH.out w2 FIN.out
                 have HR2 := Lib.hid (HRUN.out.later G1.out)
                 have kb := HR2.out.box
              )
              | fail)
            refine wp_region_tail [] 65 10 (by kernel_rfl) (by kernel_rfl) (by kernel_rfl) (by rfl) ?_
            simp only [List.take_succ_cons, List.take_zero, List.drop_succ_cons, List.drop_zero]
            have HN1 := Lib.hid n1
            have HN0 := Lib.hid n0
            have hn1l := World.block_lt_of_cell? _ ⟨wr.heap.size, 1, none⟩ n1
            clear n0 n1 kb
            refine wpG_run (by rfl) (by rfl) (.pointer (some ⟨F, 0, none⟩)) (fun wx hl => ?_) ?_
            · have kc := (HR2.out.later hl.1).box
              simp [go_sem, kc]
            simp only [Act.put, List.setIfInBounds_toArray, List.set_cons_zero, List.set_cons_succ]
            refine wpG_run (by rfl) (by rfl) (.pointer (some ⟨F, 0, none⟩)) (fun wx hl => ?_) ?_
            · have kc := (HR2.out.later hl.1).box
              simp [go_sem, kc]
            simp only [Act.put, List.setIfInBounds_toArray, List.set_cons_zero, List.set_cons_succ]
            repeat (refine wpG_quiet (by rfl) (by rfl) (by rfl) (fun K hK => ?_); go_big_quiet_op; refine hK _ ?_; clear hK K)
            refine wpG_run (by rfl) (by rfl) (.int .u32 (fs.toNat : Int)) (fun wx hl => ?_) ?_
            · have kc := (HR2.out.later hl.1).blk.cell (j := 5) rfl
              simp [go_sem, kc]
            simp only [Act.put, List.setIfInBounds_toArray, List.set_cons_zero, List.set_cons_succ]
            repeat (refine wpG_quiet (by rfl) (by rfl) (by rfl) (fun K hK => ?_); go_big_quiet_op; refine hK _ ?_; clear hK K)
            refine wpG_run (by rfl) (by rfl) (.int .i64 nv) (fun wx hl => ?_) ?_
            · have kc := (hl.1.cell (p := ⟨wr.heap.size, 1, none⟩) hn1l).trans HN1.out
              simp [go_sem, kc]
            simp only [Act.put, List.setIfInBounds_toArray, List.set_cons_zero, List.set_cons_succ]
            refine wpG_call (by rfl) (by rfl) 42 #[.int .u32 (fs.toNat : Int), .int .i64 nv] (.int .u32 ((put fs nv).toNat : Int)) (by intro _; simp [go_sem]) (by kernel_rfl) (fun wx hl => HWF.out wx) ?_
            simp only [Act.put, List.setIfInBounds_toArray, List.set_cons_zero, List.set_cons_succ]
            repeat (refine wpG_quiet (by rfl) (by rfl) (by rfl) (fun K hK => ?_); go_big_quiet_op; refine hK _ ?_; clear hK K)
            refine wpG_nil fun wz2 hl hs => ?_
            have hr3 := HR2.out.later hl
            have f6 := hr3.blk.cell (j := 5) rfl
            have z6 := hr3.blk.frozen 5
            have HR3 := Lib.hid (hr3.put5 HBF.out (put fs nv))
            clear hr3 hs hl
            go_wp2_with fail
            go_roundw
            case rel => exact ⟨k + 1, by omega, by go_num, by rw [HFS.out, HGS.out]; exact HR3.out⟩
            case measure => (simp [intOf]; try omega)
          · have HFS : Hid (fls (l.take (k + 1)) = fs) := Lib.hid (by rw [FS.out, fstep, if_neg (by rw [← hop0]; exact h3), if_neg (by rw [← hop0]; exact h59)])
            have HGS : Hid (grs (l.take (k + 1)) = gs) := Lib.hid (by rw [GS.out, gstep, if_neg (by rw [← hop0]; exact h4)])
            clear FS GS hop0 hnv HWG HWF HOR h3 h4
            by_cases h5 : 5 ≤ op
            · have d5 : decide (5 ≤ op) = true := by simp; omega
              have d9 : decide (op ≤ 9) = false := by simp; omega
              go_wp2_with (first
                | (refine wpList_load_mid rfl 57 (.tmp 18) rfl b (o + k * 5) rfl nc _ hrg hu rfl (by rw [HSZ.out]; exact info_node) ?_)
                | (refine wpList_store_mid rfl 57 (.tmp 2) (.tmp 19) rfl wr.heap.size 0 nc.toArray rfl rfl (by simpa [HSZ.out] using TH) (by simpa [HSZ.out] using info_node) (all_oneCell_toArray HONE.out) ?_
                   clear hrg TH
                   generalize (wr.alloc (.cells #[Value.int .i64 0, .int .i64 0, .int .i64 0, .int .i64 0, .string { data := #[] }] 57)).setCells wr.heap.size 0 nc = w2 at *
                   obtain ⟨n0, n1⟩ := SH.out w2 FIN.out
                   have HR2 := Lib.hid (HRUN.out.later G1.out)
                   have kb := HR2.out.box
                )
                | fail)
              go_roundw
              case rel => exact ⟨k + 1, by omega, by go_num, by rw [HFS.out, HGS.out]; exact HR2.out⟩
              case measure => (simp [intOf]; try omega)
            · have d5 : decide (5 ≤ op) = false := by simp; omega
              go_wp2_with (first
                | (refine wpList_load_mid rfl 57 (.tmp 18) rfl b (o + k * 5) rfl nc _ hrg hu rfl (by rw [HSZ.out]; exact info_node) ?_)
                | (refine wpList_store_mid rfl 57 (.tmp 2) (.tmp 19) rfl wr.heap.size 0 nc.toArray rfl rfl (by simpa [HSZ.out] using TH) (by simpa [HSZ.out] using info_node) (all_oneCell_toArray HONE.out) ?_
                   clear hrg TH
                   generalize (wr.alloc (.cells #[Value.int .i64 0, .int .i64 0, .int .i64 0, .int .i64 0, .string { data := #[] }] 57)).setCells wr.heap.size 0 nc = w2 at *
                   obtain ⟨n0, n1⟩ := SH.out w2 FIN.out
                   have HR2 := Lib.hid (HRUN.out.later G1.out)
                   have kb := HR2.out.box
                )
                | fail)
              go_roundw
              case rel => exact ⟨k + 1, by omega, by go_num, by rw [HFS.out, HGS.out]; exact HR2.out⟩
              case measure => (simp [intOf]; try omega)
    · have hkn : k = n := by omega
      subst hkn
      have hr := hrun
      rw [List.take_of_length_le (by rw [HL.out]; exact Nat.le_refl _)] at hr
      clear hrun HRG
      have HRR := Lib.hid hr
      clear hr
      go_wp2_with fail
      go_end0
      exact ⟨rfl, v, HRR.out⟩
end Go.Proofs.Ytfoppjgjljellaa
