/- Pieces: what pieces are joined to; the program's Join: what it returns. -/
import Derived.Test.YtgoebblcggdlgaaPieJ
import Derived.Test.YtgoebblcggdlgaaRowN
namespace Go.Proofs.Ytgoebblcggdlgaa
set_option linter.unusedVariables false
set_option linter.unusedSimpArgs false
open Go Go.RowKit OctM SumM

/-- The bytes of pieces, one behind the other. -/
def bod (l : List Pc) : List UInt8 := l.flatMap (·.2.2.2.2)
def joi (l : List Pc) : List UInt8 × Bool := match l with
  | [] => ([], false)
  | p :: l => if cutL p.1 p.2.1 (bod (p :: l)) = p :: l then (bod (p :: l), true) else ([], false)
theorem bod_snoc (l : List Pc) (p : Pc) : bod (l ++ [p]) = bod l ++ p.2.2.2.2 := by simp [bod]
theorem bod_take (l : List Pc) (k : Nat) (h : k < l.length) : bod (l.take (k + 1)) = bod (l.take k) ++ l[k].2.2.2.2 := by
  rw [List.take_succ_eq_append_getElem h, bod_snoc]
theorem bod_take_le (l : List Pc) (k : Nat) : (bod (l.take k)).length ≤ (bod l).length := by
  have : bod l = bod (l.take k) ++ bod (l.drop k) := by
    unfold bod
    rw [← List.flatMap_append, List.take_append_drop]
  rw [this, List.length_append]; omega
theorem builder_later {T e : TypeId} {B b : Nat} {bs : List Value} {w w' : World} (h : Lib.IsBuilder T e B b bs w) (hl : Le w w') : Lib.IsBuilder T e B b bs w' := by
  have key : ∀ p, Lib.BuilderAt T e B b p bs w → Lib.BuilderAt T e B b p bs w' := fun p hp => by
    have hlt := hp.lt
    obtain ⟨hB, v, hb, hown, hne⟩ := hp
    exact ⟨hB, v, (hl.block b hlt).trans hb, row_later hown hl, hne⟩
  exact h.imp (key _) (key _)
theorem bwrite (B b : Nat) (bs : List UInt8) (s : List UInt8) (w : World) (h : Lib.IsBuilder 62 5 B b (bvs bs) w) (hlen : bs.length + s.length ≤ 140737488355328) (hBw : B ≤ w.heap.size) :
    Calls Try.prog 31 #[.pointer (some ⟨b, 0, none⟩), .string (str s)] w fun e w' => e = .returned (.tuple #[.int .i64 s.length, .nilIface]) ∧ Lib.IsBuilder 62 5 B b (bvs (bs ++ s)) w' ∧ Below B w w' := by
  have H := Any.Builder_WriteString { Try.lays156 with } Try.Builder_Extra_156 B b (bvs bs) (str s) w h (by rw [bvs_length, str_size]; exact hlen) hBw
  refine H.mono fun e w' ⟨he, hb, hl⟩ => ⟨by rw [he, str_size], .inr ?_, hl⟩
  rw [bvs_append]
  exact hb
theorem bstring (B b : Nat) (bs : List UInt8) (w : World) (h : Lib.IsBuilder 62 5 B b (bvs bs) w) (hBw : B ≤ w.heap.size) :
    Calls Try.prog 32 #[.pointer (some ⟨b, 0, none⟩)] w fun e w' => e = .returned (.string (str bs)) ∧ Below B w w' :=
  Any.Builder_String_any { Try.lays156 with } Try.Builder_Extra_156 B b bs w h hBw

set_option maxRecDepth 100000 in
set_option maxHeartbeats 6400000 in
theorem join_any (A : Option Addr) (n c : Nat) (l : List Pc) (w : World) (hn : l.length = n) (hN : n ≤ 4096) (hs : Sees w w.heap.size A (rws pcel l)) (hb : (bod l).length ≤ 65536) :
    Calls Try.prog 17 #[.slice A n c] w fun e w' => e = .returned (.tuple #[.string (str (joi l).1), .bool (joi l).2]) ∧ Below w.heap.size w w' := by
  have hu := Try.underlying25
  cases l with
  | nil =>
    obtain rfl : 0 = n := hn
    clear hs hb
    go_enter Try.func17, Try.ntmps17
    go_wp2_with fail
    exact bodyPost_ret (results_tmp2 rfl _ _ _) rfl ⟨rfl, Below.refl _ _⟩
  | cons p l' =>
    obtain ⟨l, hl⟩ : ∃ l, l = p :: l' := ⟨_, rfl⟩
    rw [← hl] at hs hb hn ⊢
    obtain ⟨a, ha⟩ : ∃ a, a = p.1 := ⟨_, rfl⟩
    obtain ⟨b, hb2⟩ : ∃ b, b = p.2.1 := ⟨_, rfl⟩
    obtain ⟨R, hR⟩ : ∃ R, R = bod l := ⟨_, rfl⟩
    obtain ⟨D, hD⟩ : ∃ D, D = decide (cutL a b R = l) := ⟨_, rfl⟩
    have HJ : Hid (joi l = if D = true then (R, true) else ([], false)) := Lib.hid (by
      rw [hD, hR, ha, hb2, hl]
      simp only [decide_eq_true_eq]
      rfl)
    have hpos : 0 < n := by rw [← hn, hl]; simp
    have hk0 : 0 < l.length := by rw [hn]; exact hpos
    have hp0 : l[0] = p := by simp only [hl]; rfl
    obtain ⟨b0, o0, rfl, hb0, hr0⟩ := sees_rw (pc_len _) hs (by decide : 0 < 5) 0 hk0
    rw [hp0] at hr0
    have HR0 := Lib.hid hr0
    rw [← hR] at hb
    have HRB := Lib.hid hR
    have HN := Lib.hid hn
    have HS := Lib.hid hs
    have HLT : Hid (∀ k, (bod (l.take k)).length ≤ 65536) := Lib.hid (fun k => Nat.le_trans (bod_take_le l k) (by rw [← hR]; exact hb))
    have HC := Lib.hid (fun wx => cut_any a b R wx hb)
    have HE : Hid (∀ wx A3 c3, Sees wx wx.heap.size A3 (rws pcel (cutL a b R)) → Below w.heap.size w wx → Calls Try.prog 33 #[.slice A3 (cutL a b R).length c3, .slice (some ⟨b0, o0, none⟩) n c] wx fun e w' => e = .returned (.bool D) ∧ Below wx.heap.size wx w') := Lib.hid (fun wx A3 c3 h3 hl3 => by
      rw [hD]
      refine equal_any A3 (some ⟨b0, o0, none⟩) _ c3 n c _ l wx rfl hn ?_ (by omega) h3 ((hs.below hl3).more hl3.size)
      unfold cutL
      split
      · rw [cutU_len]
        have := mn_le R.length
        omega
      · simp)
    obtain ⟨N2, hN2⟩ : ∃ N2, N2 = (cutL a b R).length := ⟨_, rfl⟩
    obtain ⟨X, hX⟩ : ∃ X, X = rws pcel (cutL a b R) := ⟨_, rfl⟩
    rw [← hN2, ← hX] at HC HE
    clear hN2 hX
    have HA0 : Hid (p.1 = a ∧ p.2.1 = b) := Lib.hid ⟨ha.symm, hb2.symm⟩
    have HB0 := Lib.hid hb0
    clear hl hR hD ha hb2 hn hs hr0 hk0 hp0 hb hb0
    obtain ⟨l2, hl2⟩ : ∃ l2 : List UInt8, l2 = [] := ⟨_, rfl⟩
    have HI0 := Lib.hid (Lib.fresh_isBuilder 62 5 w)
    have h0 := Below.refl w.heap.size w
    have n0 : ((n : Int) == 0) = false := by rw [beq_eq_false_iff_ne]; omega
    go_enter Try.func17, Try.ntmps17
    go_wp2_with fail
    go_loopw [13] (fun i wr => ∃ k : Nat, k ≤ n ∧ i = .int .i64 (k : Int) ∧ Hid (Lib.IsBuilder 62 5 w.heap.size w.heap.size (bvs (bod (l.take k))) wr) ∧ Hid (Below w.heap.size w wr)) (fun i _ => n - (intOf i).toNat)
    case atStart =>
      exact ⟨0, by omega, rfl, Lib.hid HI0.out, Lib.hid (h0.alloc (Nat.le_refl _) _)⟩
    case round =>
      obtain ⟨k, hk, rfl, HIB, HBR⟩ := hrel
      by_cases hlt : k < n
      · have d1 : decide ((k : Int) < (n : Int)) = true := decide_eq_true (by omega)
        have hkl : k < l.length := by rw [HN.out]; exact hlt
        obtain ⟨b1, o1, e1, hb1, hr1⟩ := sees_rw (pc_len _) (HS.out.below HBR.out) (by decide : 0 < 5) k hkl
        cases e1
        have HBT := Lib.hid (bod_take l k hkl)
        obtain ⟨u, hu2⟩ : ∃ u, u = l[k] := ⟨_, rfl⟩
        rw [← hu2] at hr1 HBT
        clear hu2
        have ON := all_oneCell_toArray (pcel_one u)
        obtain ⟨uc, huc⟩ : ∃ uc, uc = pcel u := ⟨_, rfl⟩
        rw [← huc] at hr1 ON
        have HUC := Lib.hid huc
        have HSZ : Hid (uc.length = 5) := Lib.hid (by rw [huc]; rfl)
        have IN1 : (Try.prog.info? 25).map (·.size) = some uc.toArray.size := by rw [(List.size_toArray).trans HSZ.out]; exact info_pie
        obtain ⟨TH1, F1, g1, z1⟩ := new_put w.heap.size wr uc [.int .i64 0, .int .i64 0, .bool false, .bool false, .string { data := #[] }] 25 (by rw [HSZ.out]; rfl) HBR.out.size
        have D1 := Lib.hid (builder_later HIB.out g1)
        have F1 := Lib.hid F1
        have G1 := Lib.hid (HBR.out.trans (g1.mono HBR.out.size))
        clear g1 z1 huc
        go_wp2_with (first
          | (refine wpList_load_mid rfl 25 (.tmp 15) rfl b0 (o0 + k * 5) rfl uc _ hr1 hu rfl (by rw [HSZ.out]; exact info_pie) ?_)
          | (refine wpList_store_mid rfl 25 (.tmp 6) (.tmp 16) rfl wr.heap.size 0 uc.toArray rfl rfl TH1 IN1 ON ?_
             simp only [Act.put]
             generalize hw2 : World.setCells _ wr.heap.size 0 uc.toArray.toList = w2
             have B2 : Lib.IsBuilder 62 5 w.heap.size w.heap.size (bvs (bod (l.take k))) w2 := by rw [← hw2]; exact D1.out
             have F2 : Blk w2 wr.heap.size uc := by rw [← hw2]; exact F1.out
             have hb2 : Below w.heap.size w w2 := by rw [← hw2]; exact G1.out
             have c4 := F2.cell (j := 4) (v := .string (str u.2.2.2.2)) (by rw [HUC.out]; rfl)
             have B2 := Lib.hid B2
             have hb2 := Lib.hid hb2
             clear hw2 TH1 IN1 D1 F1 G1 hr1 F2)
          | fail)
        refine (bwrite w.heap.size w.heap.size (bod (l.take k)) u.2.2.2.2 w2 B2.out ?_ hb2.out.size).mono ?_
        · have h1 := HLT.out (k + 1)
          rw [HBT.out, List.length_append] at h1
          omega
        rintro e w3 ⟨rfl, hi3, hb3⟩
        rw [← HBT.out] at hi3
        have HI3 := Lib.hid hi3
        have HB3 := Lib.hid (hb2.out.trans hb3)
        clear hi3 hb3 c4
        go_wp2_with fail
        go_roundw
        case rel => exact ⟨k + 1, by omega, by go_num, HI3, HB3⟩
        case measure => simp [intOf]; omega
      · obtain rfl : k = n := by omega
        have d1 : decide ((k : Int) < (k : Int)) = false := by simp
        go_wp2_with fail
        refine (bstring w.heap.size w.heap.size (bod (l.take k)) wr HIB.out HBR.out.size).mono ?_
        rintro e W ⟨rfl, hbW⟩
        have hbW := Lib.hid (HBR.out.trans hbW)
        have HTK : Hid (bod (l.take k) = R) := Lib.hid (by rw [List.take_of_length_le (by rw [HN.out]; omega), HRB.out])
        rw [HTK.out]
        obtain ⟨sR, hsR⟩ : ∃ sR, sR = str R := ⟨_, rfl⟩
        rw [← hsR] at HC ⊢
        have HSR := Lib.hid hsR
        have r0 : ∀ kk : LW W, kk.val.cell? ⟨b0, o0, none⟩ = some (.int .i64 a) := fun kk => by
          have := (hbW.out.trans (kk.le.mono hbW.out.size)).cell (p := ⟨b0, o0, none⟩) HB0.out
          rw [this, ← HA0.out.1]
          have := HR0.out 0 _ rfl
          simpa using this
        have r1 : ∀ kk : LW W, kk.val.cell? ⟨b0, o0 + 1, none⟩ = some (.int .i64 b) := fun kk => by
          have := (hbW.out.trans (kk.le.mono hbW.out.size)).cell (p := ⟨b0, o0 + 1, none⟩) HB0.out
          rw [this, ← HA0.out.2]
          have := HR0.out 1 _ rfl
          simpa using this
        clear hsR HIB HBR
        go_wp2_with fail
        refine wp_region_steady [(31, relRowN W.heap.size 25 5 N2 X)] 36 (by kernel_rfl) (by kernel_rfl) (by kernel_rfl) (by rfl) ?_
        iterate 2 (refine wpG_quiet (by rfl) (by rfl) (by rfl) (fun K hK => ?_); go_big_quiet_op; refine hK _ ?_; clear hK K)
        iterate 2 (refine wpG_quiet (by rfl) (by rfl) (by rfl) (fun K hK => ?_); go_big_quiet_op; refine hK _ ?_; clear hK K)
        iterate 4 (refine wpG_quiet (by rfl) (by rfl) (by rfl) (fun K hK => ?_); go_big_quiet_op; refine hK _ ?_; clear hK K)
        iterate 1 (refine wpG_quiet (by rfl) (by rfl) (by rfl) (fun K hK => ?_); go_big_quiet_op; refine hK _ ?_; clear hK K)
        refine wpG_calls (relRowN W.heap.size 25 5 N2 X) (by rfl) (by rfl) 22 #[.int .i64 a, .int .i64 b, .string sR] (by intro _; simp [go_sem]) (fun wx hl => (HC.out wx).mono ?_) ?_
        · rintro e w2 ⟨A2, c2, rfl, hr2, hb2⟩
          exact ⟨_, rfl, hb2, row_lower hr2 hl.1.size⟩
        rintro _ ⟨wy, _, _, hry⟩
        obtain ⟨A3, c3, rfl⟩ := row_form hry
        clear hry
        simp only [Act.put, List.setIfInBounds_toArray, List.set_cons_zero, List.set_cons_succ]
        iterate 1 (refine wpG_quiet (by rfl) (by rfl) (by rfl) (fun K hK => ?_); go_big_quiet_op; refine hK _ ?_; clear hK K)
        refine wpG_call (by rfl) (by rfl) 33 #[.slice A3 N2 c3, .slice (some ⟨b0, o0, none⟩) k c] (.bool D) (by intro _; simp [go_sem]) (by kernel_rfl) (fun wx hl => ?_) ?_
        · have hr5 := hl.2 31 _ (by simp [Op.operands, Call.operands]) rfl (by intro h; cases h)
          exact HE.out wx A3 c3 (row_sees hr5) (hbW.out.trans (hl.1.mono hbW.out.size))
        simp only [Act.put, List.setIfInBounds_toArray, List.set_cons_zero, List.set_cons_succ]
        iterate 1 (refine wpG_quiet (by rfl) (by rfl) (by rfl) (fun K hK => ?_); go_big_quiet_op; refine hK _ ?_; clear hK K)
        refine wpG_nil fun wx hl _ => ?_
        have hb9 := Lib.hid (hbW.out.trans (hl.mono hbW.out.size))
        clear r0 r1 hl
        cases D with
        | true =>
          go_wp2_with fail
          exact bodyPost_ret (results_tmp2 rfl _ _ _) rfl ⟨by rw [HJ.out, HSR.out]; rfl, hb9.out⟩
        | false =>
          go_wp2_with fail
          exact bodyPost_ret (results_tmp2 rfl _ _ _) rfl ⟨by rw [HJ.out]; rfl, hb9.out⟩
end Go.Proofs.Ytgoebblcggdlgaa
