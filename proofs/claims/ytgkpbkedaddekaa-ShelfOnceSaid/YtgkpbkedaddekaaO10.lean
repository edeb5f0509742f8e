/- ShelfOnce: the law's walk. -/
import Derived.Test.YtgkpbkedaddekaaO9
import Derived.Test.YtgkpbkedaddekaaO4
import Derived.Test.YtgkpbkedaddekaaO1
namespace Go.Proofs.Ytgkpbkedaddekaa
set_option linter.unusedVariables false
set_option linter.unusedSimpArgs false
open Go Go.RowKit BitM

theorem wf_in {x : Int} (h : InL x) : (Lit.int .i64 x).wf = true := by
  unfold InL at h
  simp only [Lit.wf, Bool.and_eq_true, decide_eq_true_eq]
  exact ⟨by show (-9223372036854775808 : Int) ≤ x; omega, by show x ≤ (9223372036854775807 : Int); omega⟩
theorem sadd_err {s : Sh} {p : Pa} (h : (sadd s p).2.2 ≠ 0) : (sadd s p).2.1 = zcd := by
  unfold sadd at *
  split
  · rfl
  · rename_i h1
    rw [if_neg h1] at h
    split
    · rfl
    · rename_i h2
      rw [if_neg h2] at h
      exact absurd rfl h
theorem zal29 : (axl ⟨0, 0, 0, ⟨0#32, 0, zeros⟩⟩).toArray = #[Value.int .i64 0, .int .i64 0, .int .i64 0, .int .u32 0, .int .u32 0, .int .i64 0, .int .i64 0, .string { data := #[] }, .int .i64 0, .int .i64 0, .string { data := #[] }, .int .i64 0, .int .i64 0, .string { data := #[] }, .int .i64 0, .int .i64 0, .string { data := #[] }, .int .i64 0, .int .i64 0, .string { data := #[] }, .int .i64 0, .int .i64 0, .string { data := #[] }, .int .i64 0, .int .i64 0, .string { data := #[] }, .int .i64 0, .int .i64 0, .string { data := #[] }] := rfl
theorem info_act : (Try.prog.info? 38).map (·.size) = some 29 := by kernel_rfl
theorem axl_one (x : Al) : ∀ v ∈ axl x, v.oneCell' = true := by
  intro v hv
  unfold axl pal pcells at hv
  rcases List.mem_append.1 hv with h | h
  · simp at h; rcases h with rfl | rfl | rfl <;> rfl
  · rcases List.mem_append.1 h with h | h
    · simp at h; rcases h with rfl | rfl <;> rfl
    · exact fcells_one _ v h
theorem axl_drop3 {x : Al} : ((axl x).drop 3).take (pal x.p).length = pal x.p := by
  show (pal x.p).take _ = _
  rw [List.take_length]
theorem axl_drop5 {x : Al} : ((axl x).drop 5).take (fcells x.p.fs).length = fcells x.p.fs := by
  show (fcells x.p.fs).take _ = _
  rw [List.take_length]
/-- What is still there of the cards that were, behind an act. -/
def Stays (s s' : Sh) (x : Int) : Prop := ∀ t (ht : t < s.cs.length), (s.cs[t]).1 ≠ x → sget s' (s.cs[t]).1 = (s.cs[t], 0)
theorem stays_of {s s' : Sh} {x : Int} (h : ShOk s) (hk : ∀ k c, k ≠ x → kget (toKV s.cs) k = some c → kget (toKV s'.cs) k = some c) : Stays s s' x := fun t ht hne => by
  have := hk _ _ hne (get_at h.rise ht)
  unfold sget
  rw [this]
set_option maxRecDepth 100000 in
set_option maxHeartbeats 25600000 in
theorem walk_once (A : Option Addr) (n c : Nat) (l : List Al) (w : World) (h : SeesR axl w A n c l) (hw : WholeL l) :
    Calls Try.prog 5 #[.slice A n c] w fun e w' => e = .returned (.bool true) ∧ Below w.heap.size w w' := by
  have huc := Try.underlying44
  obtain ⟨Z, hZ⟩ : ∃ Z, Z = ccl zcd := ⟨_, rfl⟩
  have HZL := Lib.hid (show Z.length = 27 by rw [hZ]; rfl)
  have HZ1 := Lib.hid (show ∀ v ∈ Z, v.oneCell' = true by rw [hZ]; exact ccl_one _)
  have HZZ : Hid (Z.toArray = #[Value.int .i64 0, .int .i64 0, .int .u32 0, .int .i64 0, .int .i64 0, .string { data := #[] }, .int .i64 0, .int .i64 0, .string { data := #[] }, .int .i64 0, .int .i64 0, .string { data := #[] }, .int .i64 0, .int .i64 0, .string { data := #[] }, .int .i64 0, .int .i64 0, .string { data := #[] }, .int .i64 0, .int .i64 0, .string { data := #[] }, .int .i64 0, .int .i64 0, .string { data := #[] }, .int .i64 0, .int .i64 0, .string { data := #[] }]) := Lib.hid (by rw [hZ]; exact zc27s)
  have HZB : Hid (∀ w, (Instr.build 44 #[]).run Try.prog w = .ok (.agg Z.toArray) w) := Lib.hid (fun w => by rw [hZ]; kernel_rfl)
  have hua := Try.underlying38
  have hup := Try.underlying36
  have huf := Try.underlying34
  obtain ⟨ZB, hZB⟩ : ∃ ZB, ZB = axl ⟨0, 0, 0, ⟨0#32, 0, zeros⟩⟩ := ⟨_, rfl⟩
  have HZBL := Lib.hid (show ZB.length = 29 by rw [hZB]; rfl)
  have HZBB : Hid (ZB.toArray = #[Value.int .i64 0, .int .i64 0, .int .i64 0, .int .u32 0, .int .u32 0, .int .i64 0, .int .i64 0, .string { data := #[] }, .int .i64 0, .int .i64 0, .string { data := #[] }, .int .i64 0, .int .i64 0, .string { data := #[] }, .int .i64 0, .int .i64 0, .string { data := #[] }, .int .i64 0, .int .i64 0, .string { data := #[] }, .int .i64 0, .int .i64 0, .string { data := #[] }, .int .i64 0, .int .i64 0, .string { data := #[] }, .int .i64 0, .int .i64 0, .string { data := #[] }]) := Lib.hid (by rw [hZB]; exact zal29)
  have HN := Lib.hid h.len
  have HAW := Lib.hid sh_awake
  have HCE : Hid (∀ k (hk : k < l.length), ∃ b o, A = some ⟨b, o, none⟩ ∧ ∀ W, Below w.heap.size w W → W.rangeAt b (o + k * 29) (axl l[k])) := Lib.hid (fun k hk => by
    obtain ⟨b, o, e, _, hr⟩ := h.gets (sz := 29) (fun x hx => axl_len (hw x hx)) (by omega) (by omega)
    exact ⟨b, o, e, fun W hW => hr W hW k hk⟩)
  have HOK := Lib.hid (fun k (hk : k < l.length) => hw _ (List.getElem_mem hk))
  clear h hw hZ hZB
  go_enter Try.func5, Try.ntmps5
  go_wp2_with fail
  refine (new_any w).mono ?_
  rintro e w1 ⟨g, b, rfl, hs1, hb1⟩
  have HS1 := Lib.hid hs1
  have HB1 := Lib.hid hb1
  clear hs1 hb1
  go_wp2_with fail
  go_loopw [5, 4] (fun i v wo => ∃ (k : Nat) (last : Int) (s : Sh) (N : Nat) (r : Option Nat), k ≤ n ∧ k ≤ 200 ∧ i = .int .i64 (k : Int) ∧ v = .int .i64 last ∧ (0 ≤ last ∧ last < s.nx) ∧ N ≤ k ∧ Hid (ShOk s) ∧ Hid (SfAt wo w.heap.size g b r N s) ∧ Hid (Below w.heap.size w wo)) (fun i _ _ => n - (iOf i).toNat)
  case atStart => exact ⟨0, 0, shnew, 0, none, by omega, by omega, rfl, rfl, by decide, by omega, Lib.hid shnew_ok, HS1, HB1⟩
  case round =>
    rename World => wo
    clear HS1 HB1
    obtain ⟨k, last, s, N, r, hk, hk2, rfl, rfl, hlast, hNk, HSO, HS, HB⟩ := hrel
    by_cases hlt : k < n
    · have d0 : decide ((k : Int) < (n : Int)) = true := decide_eq_true (by omega)
      by_cases hlt2 : k < 200
      · have d1 : decide ((k : Int) < 200) = true := decide_eq_true (by omega)
        have d1' : decide (k < 200) = true := decide_eq_true hlt2
        have hkl : k < l.length := by rw [HN.out]; exact hlt
        obtain ⟨bl, ol, rfl, hcc⟩ := HCE.out k hkl
        have hrg := hcc wo HB.out
        have hokx := HOK.out k hkl
        obtain ⟨x, hx⟩ : ∃ x, x = l[k] := ⟨_, rfl⟩
        rw [← hx] at hrg hokx
        obtain ⟨AX, hAX⟩ : ∃ AX, AX = axl x := ⟨_, rfl⟩
        have HAL := Lib.hid (show AX.length = 29 by rw [hAX]; exact axl_len hokx)
        have HA1 := Lib.hid (show ∀ v ∈ AX, v.oneCell' = true by rw [hAX]; exact axl_one x)
        obtain ⟨PC, hPC⟩ : ∃ PC, PC = pal x.p := ⟨_, rfl⟩
        have HPL := Lib.hid (show PC.length = 26 by rw [hPC]; exact pcells_len _ _ hokx.1)
        obtain ⟨FC, hFC⟩ : ∃ FC, FC = fcells x.p.fs := ⟨_, rfl⟩
        have HFL := Lib.hid (show FC.length = 24 by rw [hFC, fcells_len, hokx.1])
        rw [← hAX] at hrg
        have HAC : Hid (∀ W G, Blk W G AX → (W.cell? ⟨G, 0, none⟩ = some (.int .i64 x.kd) ∧ W.cell? ⟨G, 1, none⟩ = some (.int .i64 x.id) ∧ W.cell? ⟨G, 2, none⟩ = some (.int .i64 x.sq)) ∧ W.rangeAt G 3 PC ∧ W.rangeAt G 5 FC) := Lib.hid (fun W G hB => by
          rw [hAX] at hB
          refine ⟨⟨hB.cell (j := 0) rfl, hB.cell (j := 1) rfl, hB.cell (j := 2) rfl⟩, ?_, ?_⟩
          · rw [hPC]; exact hB.range 3 _ axl_drop3
          · rw [hFC]; exact hB.range 5 _ axl_drop5)
        have HLG := Lib.hid (fun wx => show Calls Try.prog 7 #[.agg FC.toArray] wx fun e w' => e = .returned (.bool (tooLong x.p.fs)) ∧ Below wx.heap.size wx w' from by rw [hFC]; exact large_any x.p.fs wx hokx.1)
        have HOX := Lib.hid hokx
        have HPE := Lib.hid hPC
        have hbz := Blk.new wo ZB 38
        have TH1 := hbz.there 0 29 (by rw [HZBL.out]; omega)
        obtain ⟨W1, hW1⟩ : ∃ W1, W1 = (wo.alloc (.cells ZB.toArray 38)).setCells wo.heap.size 0 AX := ⟨_, rfl⟩
        have HBX := Lib.hid (show Blk W1 wo.heap.size AX by rw [hW1]; exact hbz.whole (by rw [HZBL.out, HAL.out]))
        have hb1 : Below wo.heap.size wo W1 := by rw [hW1]; exact below_sets (Nat.le_refl _) _ _ ((Below.refl wo.heap.size wo).alloc (Nat.le_refl _) _)
        have HS1 := Lib.hid (HS.out.later hb1)
        have HB1 := Lib.hid (HB.out.trans (hb1.mono HB.out.size))
        have HGX := Lib.hid (show wo.heap.size ≠ g ∧ wo.heap.size ≠ b ∧ r ≠ some wo.heap.size from by
          have h1 := HS.out.lt
          exact ⟨by omega, by omega, fun e => by have := (HS.out.row _ e).2; omega⟩)
        have HLL := Lib.hid (show w.heap.size ≤ g ∧ w.heap.size ≤ b from ⟨HS.out.Lg, HS.out.Lb⟩)
        have HW1 := Lib.hid hW1
        rw [HZBB.out] at TH1
        have rgf := (HAC.out W1 _ HBX.out).2.2
        have hinid := hokx.2.2.1
        have HWI := Lib.hid (wf_in hinid)
        have HP8 := Lib.hid hokx.1
        clear hcc hbz hW1 hb1 hAX hPC hFC hx hokx HS HB HCE HOK hinid
        obtain ⟨p, hp⟩ : ∃ p, p = x.p := ⟨_, rfl⟩
        rw [← hp] at HLG HPE HP8
        generalize x.kd = kd at HAC
        generalize x.id = id at HAC HWI
        generalize x.sq = sq at HAC
        clear hp HOX
        go_wp2_with (first
          | (refine wpList_load_mid rfl 38 (.tmp 30) rfl bl (ol + k * 29) rfl AX _ hrg hua rfl (by rw [HAL.out]; exact info_act) ?_
             simp only [Act.put, List.setIfInBounds_toArray, List.set_cons_zero, List.set_cons_succ])
          | (have RP1 := TH1
             refine wpList_store_mid rfl 38 (.tmp 6) (.tmp 31) rfl wo.heap.size 0 AX.toArray rfl rfl (by simpa [HAL.out] using TH1) (by simpa [HAL.out] using info_act) (all_oneCell_toArray HA1.out) ?_
             rw [← HZBB.out, ← HW1.out]
             clear TH1 hrg RP1)
          | (refine wpList_load_mid rfl 34 (.tmp 33) rfl wo.heap.size 5 rfl FC _ rgf huf rfl (by rw [HFL.out]; kernel_rfl) ?_
             simp only [Act.put, List.setIfInBounds_toArray, List.set_cons_zero, List.set_cons_succ])
          | fail)
        refine (HLG.out W1).mono ?_
        rintro e w2 ⟨rfl, hb2⟩
        have HS2 := Lib.hid (HS1.out.later hb2)
        have HB2 := Lib.hid (HB1.out.trans (hb2.mono HB1.out.size))
        have HBX2 := Lib.hid (HBX.out.later hb2)
        clear hb2 HLG HS1 HB1 HBX rgf
        generalize tooLong p.fs = tl
        cases tl with
        | true =>
          go_wp2_with fail
          refine (HAW.out _).mono ?_
          rintro e w29 ⟨rfl, hb⟩
          have HB29 := Lib.hid (HB2.out.trans (hb.mono HB2.out.size))
          clear hb
          go_wp2_with fail
          go_ret
          exact ⟨rfl, HB29.out⟩
        | false =>
          go_wp2_with fail
          refine (cards_any _ g b r N s w2 HS2.out HSO.out).mono ?_
          rintro e w3 ⟨A7, c7, rfl, hs7, hb7, hb3⟩
          have HS3 := Lib.hid (HS2.out.later hb3)
          have HB3 := Lib.hid (HB2.out.trans (hb3.mono HB2.out.size))
          have HBX3 := Lib.hid (HBX2.out.later hb3)
          have HS7 := Lib.hid hs7
          have HF7 : Hid (bof A7 ≠ some g ∧ bof A7 ≠ some b ∧ ∀ q, r = some q → bof A7 ≠ some q) := Lib.hid (by
            have h1 := HS2.out.lt
            exact ⟨fun e => by have := hb7 _ e; omega, fun e => by have := hb7 _ e; omega, fun q hq e => by have := hb7 _ e; have := (HS2.out.row _ hq).2; omega⟩)
          have HTW : Hid (∀ W1 W2, Below w3.heap.size w3 W1 → TurnS W1 W2 g b r → SeesR ccl W2 A7 s.cs.length c7 s.cs) := Lib.hid (fun W1 W2 h1 T => (HS7.out.later h1).same T.size (fun q hq hl => T.block q hl (fun e => HF7.out.1 (by rw [hq, e])) (fun e => HF7.out.2.1 (by rw [hq, e])) (fun e => HF7.out.2.2 q e.symm hq)))
          obtain ⟨m, hm⟩ : ∃ m, m = s.cs.length := ⟨_, rfl⟩
          rw [← hm] at HTW
          have HM := Lib.hid hm
          have hm48 : m ≤ 48 := by rw [hm]; exact HSO.out.few
          rw [← hm]
          obtain ⟨⟨ak, ai, aq⟩, rgp, _⟩ := HAC.out w3 _ HBX3.out
          have HADD := Lib.hid (fun W (hW : SfAt W w.heap.size g b r N s) => show Calls Try.prog 12 #[.pointer (some ⟨g, 0, none⟩), .agg PC.toArray] W fun e w' => e = .returned (.tuple #[.agg (ccl (sadd s p).2.1).toArray, .int .i64 (sadd s p).2.2]) ∧ ∃ N', SfAt w' w.heap.size g b r N' (sadd s p).1 ∧ N' ≤ N + 1 ∧ TurnS W w' g b r from by rw [HPE.out]; exact sadd_any _ g b r N s W hW p HP8.out HSO.out (by omega))
          have HWRI := Lib.hid (fun W (hW : SfAt W w.heap.size g b r N s) => show Calls Try.prog 13 #[.pointer (some ⟨g, 0, none⟩), .int .i64 id, .agg PC.toArray] W fun e w' => e = .returned (.tuple #[.agg (ccl (swrite s id p).2.1).toArray, .int .i64 (swrite s id p).2.2]) ∧ ∃ N', SfAt w' w.heap.size g b r N' (swrite s id p).1 ∧ N' ≤ N + 1 ∧ TurnS W w' g b r from by rw [HPE.out]; exact swrite_any _ g b r N s W hW id p HWI.out HP8.out HSO.out (by omega))
          clear hs7 hb7 hb3 HS2 HB2 HBX2 hm HS7 HF7
          by_cases h0 : kd = 0
          · subst h0
            clear HWRI
            obtain ⟨V, hV⟩ : ∃ V, V = ccl (sadd s p).2.1 := ⟨_, rfl⟩
            have hvok : okCd (sadd s p).2.1 := by
              unfold sadd
              split
              · rfl
              · split
                · rfl
                · exact mix_len _ _ _
            have HVL := Lib.hid (show V.length = 27 by rw [hV]; exact ccl_len hvok)
            have HV1 := Lib.hid (show ∀ v ∈ V, v.oneCell' = true by rw [hV]; exact ccl_one _)
            have HVC : Hid (∀ W G, Blk W G V → W.cell? ⟨G, 0, none⟩ = some (.int .i64 (sadd s p).2.1.1) ∧ W.cell? ⟨G, 1, none⟩ = some (.int .i64 (sadd s p).2.1.2.1)) := Lib.hid (fun W G hB => by rw [hV] at hB; exact ⟨hB.cell (j := 0) rfl, hB.cell (j := 1) rfl⟩)
            have HNEW : Hid ((sadd s p).2.2 = 0 → (sadd s p).2.1.1 = s.nx ∧ (sadd s p).2.1.2.1 = 1 ∧ (sadd s p).1.nx = s.nx + 1) := Lib.hid (fun e => sadd_new HSO.out e)
            have HERR : Hid ((sadd s p).2.2 ≠ 0 → (sadd s p).2.1.1 = 0 ∧ (sadd s p).2.1.2.1 = 0) := Lib.hid (fun e => by rw [sadd_err e]; exact ⟨rfl, rfl⟩)
            have HNXT := Lib.hid (sadd_nx s p)
            have HST : Hid (Stays s (sadd s p).1 id) := Lib.hid (stays_of HSO.out (fun q y _ hq => sadd_get HSO.out p hq))
            have HSO' := Lib.hid (sadd_ok HSO.out p)
            rw [← hV] at HADD
            have hnxlo := HSO'.out.lo
            have hnxhi := HSO.out.hi
            generalize hsn : (sadd s p).1 = s' at HADD HNEW HNXT HST HSO' hnxlo
            generalize (sadd s p).2.2 = e8 at HADD HNEW HERR
            generalize (sadd s p).2.1.1 = i8 at HVC HNEW HERR
            generalize (sadd s p).2.1.2.1 = v8 at HVC HNEW HERR
            clear hV hvok hsn
            go_wp2_with (first
              | (refine wpList_load_mid rfl 36 (.tmp 51) rfl wo.heap.size 3 rfl PC _ rgp hup rfl (by rw [HPL.out]; exact info_patch) ?_
                 simp only [Act.put, List.setIfInBounds_toArray, List.set_cons_zero, List.set_cons_succ])
              | fail)
            refine (HADD.out w3 HS3.out).mono ?_
            rintro e w4 ⟨rfl, N', hs4, hn4, ht4⟩
            have HS4 := Lib.hid hs4
            have HB4 := Lib.hid (HB3.out.trans (ht4.below HLL.out.1 HLL.out.2 (fun q hq => (HS3.out.row q hq).1) HB3.out.size))
            have HBX4 := Lib.hid (ht4.blk HBX3.out HGX.out.1 HGX.out.2.1 HGX.out.2.2)
            have HW7 := Lib.hid (HTW.out w3 w4 (Below.refl _ _) ht4)
            clear hs4 ht4 HADD HS3 HB3 HBX3 HTW rgp ak ai aq
            have hbz := Blk.new w4 Z 44
            have TH5 := hbz.there 0 27 (by rw [HZL.out]; omega)
            obtain ⟨W5, hw5⟩ : ∃ W, W = (w4.alloc (.cells Z.toArray 44)).setCells w4.heap.size 0 V := ⟨_, rfl⟩
            have HK5 := Lib.hid (show Blk W5 w4.heap.size V by rw [hw5]; exact hbz.whole (by rw [HZL.out, HVL.out]))
            have HL5 := Lib.hid (show Below w4.heap.size w4 W5 by rw [hw5]; exact below_sets (Nat.le_refl _) _ _ ((Below.refl w4.heap.size w4).alloc (Nat.le_refl _) _))
            have HW5 := Lib.hid hw5
            rw [HZZ.out] at TH5
            clear hw5 hbz
            obtain ⟨ci0, cv0⟩ := HVC.out W5 _ HK5.out
            have HS5 := Lib.hid (HS4.out.later HL5.out)
            have HB5 := Lib.hid (HB4.out.trans (HL5.out.mono HB4.out.size))
            have HBX5 := Lib.hid (HBX4.out.later HL5.out)
            have HWAS := Lib.hid (HW7.out.later HL5.out)
            clear HS4 HB4 HBX4 HW7 HVC HK5 HL5
            by_cases he : e8 = 0
            · obtain ⟨hi, hv, hnn⟩ := HNEW.out he
              subst he hi hv
              have f1 : decide (s.nx ≤ last) = false := decide_eq_false (by omega)
              have HLAST : Hid (0 ≤ s.nx ∧ s.nx < s'.nx) := Lib.hid (by omega)
              clear HNEW HERR HNXT hnn hnxlo
              go_wp2_with (first
                | (have RP1 := TH5
                   refine wpList_store_mid rfl 44 (.tmp 8) (.tmp 54) rfl w4.heap.size 0 V.toArray rfl rfl (by simpa [HVL.out] using TH5) (by simpa [HVL.out] using info_card) (all_oneCell_toArray HV1.out) ?_
                   rw [← HZZ.out, ← HW5.out]
                   clear TH5 RP1)
                | fail)
              obtain ⟨Ws, hWs⟩ : ∃ Ws : World, Hid (SfAt Ws w.heap.size g b r N' s' ∧ Below w.heap.size w Ws ∧ Blk Ws wo.heap.size AX ∧ SeesR ccl Ws A7 m c7 s.cs) := ⟨_, Lib.hid ⟨HS5.out, HB5.out, HBX5.out, HWAS.out⟩⟩
              clear hWs Ws
              have HCW : Hid (∀ t (ht : t < s.cs.length), ∃ b7 o7, A7 = some ⟨b7, o7, none⟩ ∧ ∀ W, Below W5.heap.size W5 W → W.cell? ⟨b7, o7 + t * 27, none⟩ = some (.int .i64 (s.cs[t]).1) ∧ W.rangeAt b7 (o7 + t * 27) (ccl s.cs[t])) := Lib.hid (fun t ht => by
                obtain ⟨b7, o7, e, hc⟩ := card_cell0 HWAS.out HSO.out.len (by omega)
                exact ⟨b7, o7, e, fun W hW => hc W hW t ht⟩)
              go_loopw [14] (fun j wq => ∃ t : Nat, t ≤ m ∧ j = .int .i64 (t : Int) ∧ Hid (Below W5.heap.size W5 wq)) (fun j _ => m - (iOf j).toNat)
              case atStart => exact ⟨0, by omega, rfl, Lib.hid (Below.refl _ _)⟩
              case round =>
                obtain ⟨t, ht, rfl, HBQ⟩ := hrel
                by_cases htm : t < m
                · have dt : decide ((t : Int) < (m : Int)) = true := decide_eq_true (by omega)
                  have htl : t < s.cs.length := by rw [← HM.out]; exact htm
                  obtain ⟨b7, o7, rfl, hcc7⟩ := HCW.out t htl
                  have HCC7 := Lib.hid hcc7
                  have k7 := (hcc7 wr HBQ.out).1
                  have hyl := HSO.out.len _ (List.getElem_mem htl)
                  have hym := ckc_lo (HSO.out.may _ (List.getElem_mem htl))
                  have HGT := Lib.hid (get_any _ g b r N' s' wr (HS5.out.later HBQ.out) (s.cs[t]).1 (wf_small (by omega)) HSO'.out.len (by have := HSO'.out.dead; omega))
                  have HSTT := Lib.hid (HST.out t htl)
                  have hgok := sget_ok HSO'.out (s.cs[t]).1
                  obtain ⟨y, hy⟩ : ∃ y, y = s.cs[t] := ⟨_, rfl⟩
                  rw [← hy] at HCC7 k7 hyl HGT HSTT hgok
                  obtain ⟨X, hX⟩ : ∃ X, X = ccl (sget s' y.1).1 := ⟨_, rfl⟩
                  have HXL := Lib.hid (show X.length = 27 by rw [hX]; exact ccl_len hgok)
                  have HX1 := Lib.hid (show ∀ v ∈ X, v.oneCell' = true by rw [hX]; exact ccl_one _)
                  rw [← hX] at HGT
                  have HXE := Lib.hid hX
                  generalize hec : (sget s' y.1).2 = ec at HGT
                  have HEC := Lib.hid hec
                  have HYL := Lib.hid (ccl_len hyl)
                  have HQ := Lib.hid (fun wx : World => show (Op.equalIn 10000 44 (.agg (ccl y).toArray) (.agg (ccl y).toArray)).run Try.prog wx = .ok true wx from by
                    have := eq_ccl y y hyl hyl wx
                    rwa [decide_eq_true rfl] at this)
                  obtain ⟨Y, hY⟩ : ∃ Y, Y = ccl y := ⟨_, rfl⟩
                  rw [← hY] at HCC7 HYL HQ
                  have HYE := Lib.hid hY
                  clear hcc7 hy hX hec hyl hym hgok HCW HST hY
                  go_wp2_with fail
                  refine HGT.out.mono ?_
                  rintro e wg ⟨rfl, hbg⟩
                  have HBG := Lib.hid (HBQ.out.trans (hbg.mono HBQ.out.size))
                  clear hbg HGT HBQ k7
                  have hbz := Blk.new wg Z 44
                  have THG := hbz.there 0 27 (by rw [HZL.out]; omega)
                  obtain ⟨WG, hwg⟩ : ∃ W, W = (wg.alloc (.cells Z.toArray 44)).setCells wg.heap.size 0 X := ⟨_, rfl⟩
                  have HKG := Lib.hid (show Blk WG wg.heap.size X by rw [hwg]; exact hbz.whole (by rw [HZL.out, HXL.out]))
                  have HLG2 := Lib.hid (show Below wg.heap.size wg WG by rw [hwg]; exact below_sets (Nat.le_refl _) _ _ ((Below.refl wg.heap.size wg).alloc (Nat.le_refl _) _))
                  have HWG := Lib.hid hwg
                  rw [HZZ.out] at THG
                  clear hwg hbz
                  have HBH := Lib.hid (HBG.out.trans (HLG2.out.mono HBG.out.size))
                  have HBV : Hid (∀ W, Le WG W → Below W5.heap.size W5 W) := Lib.hid (fun W hl => HBH.out.trans (hl.mono HBH.out.size))
                  have c7k : ∀ kk : LW WG, kk.val.cell? ⟨b7, o7 + t * 27, none⟩ = some (.int .i64 y.1) := fun kk => (HCC7.out _ (HBV.out _ kk.le)).1
                  have ca1 : ∀ kk : LW WG, kk.val.cell? ⟨wo.heap.size, 1, none⟩ = some (.int .i64 id) := fun kk => (HAC.out _ _ (HBX5.out.later (HBV.out _ kk.le))).1.2.1
                  clear HLG2 HBG HBH
                  by_cases hyi : y.1 = id
                  · have b1 : (y.1 != id) = false := by rw [hyi]; simp
                    have b2 : (y.1 == id) = true := beq_iff_eq.2 hyi
                    clear hyi HSTT HXE HEC HYE HQ
                    generalize y.1 = yi at *
                    go_wp2_with (first
                      | (have RP1 := THG
                         refine wpList_store_mid rfl 44 (.tmp 15) (.tmp 134) rfl wg.heap.size 0 X.toArray rfl rfl (by simpa [HXL.out] using THG) (by simpa [HXL.out] using info_card) (all_oneCell_toArray HX1.out) ?_
                         rw [← HZZ.out, ← HWG.out]
                         clear THG RP1)
                      | fail)
                    refine wp_region_steady [] 157 (by kernel_rfl) (by kernel_rfl) (by kernel_rfl) (by rfl) ?_
                    iterate 9 (refine wpG_quiet (by rfl) (by rfl) (by rfl) (fun K hK => ?_); go_big_quiet_op; refine hK _ ?_; clear hK K)
                    iterate 10 (refine wpG_skip (by rfl) ?_; simp only [Act.put, List.setIfInBounds_toArray, List.set_cons_zero, List.set_cons_succ])
                    iterate 1 (refine wpG_quiet (by rfl) (by rfl) (by rfl) (fun K hK => ?_); go_big_quiet_op; refine hK _ ?_; clear hK K)
                    refine wpG_nil fun w8 hl _ => ?_
                    have HB8 := Lib.hid (HBV.out w8 hl)
                    clear c7k ca1 hl HBV
                    go_wp2_with fail
                    go_roundw
                    case rel => exact ⟨t + 1, by omega, by go_num, HB8⟩
                    case measure => simp [iOf]; omega
                  · have b1 : (y.1 != id) = true := bne_iff_ne.2 hyi
                    have b2 : (y.1 == id) = false := beq_eq_false_iff_ne.2 hyi
                    have hsg := HSTT.out hyi
                    have hXY : X = Y := by rw [HXE.out, HYE.out, hsg]
                    have hec0 : ec = 0 := by rw [← HEC.out, hsg]
                    subst hXY hec0
                    clear hyi HSTT HXE HEC HYE hsg
                    generalize y.1 = yi at *
                    go_wp2_with (first
                      | (have RP1 := THG
                         refine wpList_store_mid rfl 44 (.tmp 15) (.tmp 134) rfl wg.heap.size 0 X.toArray rfl rfl (by simpa [HXL.out] using THG) (by simpa [HXL.out] using info_card) (all_oneCell_toArray HX1.out) ?_
                         rw [← HZZ.out, ← HWG.out]
                         clear THG RP1)
                      | fail)
                    refine wp_region_steady [] 157 (by kernel_rfl) (by kernel_rfl) (by kernel_rfl) (by rfl) ?_
                    iterate 12 (refine wpG_quiet (by rfl) (by rfl) (by rfl) (fun K hK => ?_); go_big_quiet_op; refine hK _ ?_; clear hK K)
                    refine wpG_run (by rfl) (by rfl) (.agg X.toArray) (fun wx hl => exec_load 44 (.tmp 15) rfl wg.heap.size 0 rfl X _ ((HKG.out.later hl.1).wholeC) huc rfl (by rw [HXL.out]; exact info_card)) ?_
                    simp only [Act.put, List.setIfInBounds_toArray, List.set_cons_zero, List.set_cons_succ]
                    iterate 3 (refine wpG_quiet (by rfl) (by rfl) (by rfl) (fun K hK => ?_); go_big_quiet_op; refine hK _ ?_; clear hK K)
                    refine wpG_run (by rfl) (by rfl) (.agg X.toArray) (fun wx hl => exec_load 44 (.tmp 151) rfl b7 (o7 + t * 27) rfl X _ (HCC7.out wx (HBV.out wx hl.1)).2 huc rfl (by rw [HXL.out]; exact info_card)) ?_
                    simp only [Act.put, List.setIfInBounds_toArray, List.set_cons_zero, List.set_cons_succ]
                    refine wpG_run (by rfl) (by rfl) (.bool false) (fun wx hl => exec_neq 44 _ (.tmp 148) (.tmp 152) rfl _ _ rfl rfl guard_card true (HQ.out wx)) ?_
                    simp only [Act.put, List.setIfInBounds_toArray, List.set_cons_zero, List.set_cons_succ]
                    iterate 2 (refine wpG_quiet (by rfl) (by rfl) (by rfl) (fun K hK => ?_); go_big_quiet_op; refine hK _ ?_; clear hK K)
                    refine wpG_nil fun w8 hl _ => ?_
                    have HB8 := Lib.hid (HBV.out w8 hl)
                    clear c7k ca1 hl HBV
                    go_wp2_with fail
                    go_roundw
                    case rel => exact ⟨t + 1, by omega, by go_num, HB8⟩
                    case measure => simp [iOf]; omega
                · have dt : decide ((t : Int) < (m : Int)) = false := decide_eq_false (by omega)
                  have HSF := Lib.hid (HS5.out.later HBQ.out)
                  have HBF := Lib.hid (HB5.out.trans (HBQ.out.mono HB5.out.size))
                  clear HCW HST
                  go_wp2_with fail
                  go_roundw
                  case rel => exact ⟨k + 1, s.nx, s', N', r, by omega, by omega, by go_num, (by first | rfl | (congr 1; omega) | (have h9 := HL0.out; congr 1; omega)), HLAST.out, by omega, HSO', HSF, HBF⟩
                  case measure => simp [iOf]; omega
            · have e1 : (e8 == 0) = false := beq_eq_false_iff_ne.2 he
              obtain ⟨hi, hv⟩ := HERR.out he
              subst hi hv
              have HLAST : Hid (0 ≤ last ∧ last < s'.nx) := Lib.hid (by have := HNXT.out; omega)
              have HL0 := Lib.hid hlast
              clear HNEW HERR HNXT he hlast
              go_wp2_with (first
                | (have RP1 := TH5
                   refine wpList_store_mid rfl 44 (.tmp 8) (.tmp 54) rfl w4.heap.size 0 V.toArray rfl rfl (by simpa [HVL.out] using TH5) (by simpa [HVL.out] using info_card) (all_oneCell_toArray HV1.out) ?_
                   rw [← HZZ.out, ← HW5.out]
                   clear TH5 RP1)
                | fail)
              obtain ⟨Ws, hWs⟩ : ∃ Ws : World, Hid (SfAt Ws w.heap.size g b r N' s' ∧ Below w.heap.size w Ws ∧ Blk Ws wo.heap.size AX ∧ SeesR ccl Ws A7 m c7 s.cs) := ⟨_, Lib.hid ⟨HS5.out, HB5.out, HBX5.out, HWAS.out⟩⟩
              clear hWs Ws
              have HCW : Hid (∀ t (ht : t < s.cs.length), ∃ b7 o7, A7 = some ⟨b7, o7, none⟩ ∧ ∀ W, Below W5.heap.size W5 W → W.cell? ⟨b7, o7 + t * 27, none⟩ = some (.int .i64 (s.cs[t]).1) ∧ W.rangeAt b7 (o7 + t * 27) (ccl s.cs[t])) := Lib.hid (fun t ht => by
                obtain ⟨b7, o7, e, hc⟩ := card_cell0 HWAS.out HSO.out.len (by omega)
                exact ⟨b7, o7, e, fun W hW => hc W hW t ht⟩)
              go_loopw [14] (fun j wq => ∃ t : Nat, t ≤ m ∧ j = .int .i64 (t : Int) ∧ Hid (Below W5.heap.size W5 wq)) (fun j _ => m - (iOf j).toNat)
              case atStart => exact ⟨0, by omega, rfl, Lib.hid (Below.refl _ _)⟩
              case round =>
                obtain ⟨t, ht, rfl, HBQ⟩ := hrel
                by_cases htm : t < m
                · have dt : decide ((t : Int) < (m : Int)) = true := decide_eq_true (by omega)
                  have htl : t < s.cs.length := by rw [← HM.out]; exact htm
                  obtain ⟨b7, o7, rfl, hcc7⟩ := HCW.out t htl
                  have HCC7 := Lib.hid hcc7
                  have k7 := (hcc7 wr HBQ.out).1
                  have hyl := HSO.out.len _ (List.getElem_mem htl)
                  have hym := ckc_lo (HSO.out.may _ (List.getElem_mem htl))
                  have HGT := Lib.hid (get_any _ g b r N' s' wr (HS5.out.later HBQ.out) (s.cs[t]).1 (wf_small (by omega)) HSO'.out.len (by have := HSO'.out.dead; omega))
                  have HSTT := Lib.hid (HST.out t htl)
                  have hgok := sget_ok HSO'.out (s.cs[t]).1
                  obtain ⟨y, hy⟩ : ∃ y, y = s.cs[t] := ⟨_, rfl⟩
                  rw [← hy] at HCC7 k7 hyl HGT HSTT hgok
                  obtain ⟨X, hX⟩ : ∃ X, X = ccl (sget s' y.1).1 := ⟨_, rfl⟩
                  have HXL := Lib.hid (show X.length = 27 by rw [hX]; exact ccl_len hgok)
                  have HX1 := Lib.hid (show ∀ v ∈ X, v.oneCell' = true by rw [hX]; exact ccl_one _)
                  rw [← hX] at HGT
                  have HXE := Lib.hid hX
                  generalize hec : (sget s' y.1).2 = ec at HGT
                  have HEC := Lib.hid hec
                  have HYL := Lib.hid (ccl_len hyl)
                  have HQ := Lib.hid (fun wx : World => show (Op.equalIn 10000 44 (.agg (ccl y).toArray) (.agg (ccl y).toArray)).run Try.prog wx = .ok true wx from by
                    have := eq_ccl y y hyl hyl wx
                    rwa [decide_eq_true rfl] at this)
                  obtain ⟨Y, hY⟩ : ∃ Y, Y = ccl y := ⟨_, rfl⟩
                  rw [← hY] at HCC7 HYL HQ
                  have HYE := Lib.hid hY
                  clear hcc7 hy hX hec hyl hym hgok HCW HST hY
                  go_wp2_with fail
                  refine HGT.out.mono ?_
                  rintro e wg ⟨rfl, hbg⟩
                  have HBG := Lib.hid (HBQ.out.trans (hbg.mono HBQ.out.size))
                  clear hbg HGT HBQ k7
                  have hbz := Blk.new wg Z 44
                  have THG := hbz.there 0 27 (by rw [HZL.out]; omega)
                  obtain ⟨WG, hwg⟩ : ∃ W, W = (wg.alloc (.cells Z.toArray 44)).setCells wg.heap.size 0 X := ⟨_, rfl⟩
                  have HKG := Lib.hid (show Blk WG wg.heap.size X by rw [hwg]; exact hbz.whole (by rw [HZL.out, HXL.out]))
                  have HLG2 := Lib.hid (show Below wg.heap.size wg WG by rw [hwg]; exact below_sets (Nat.le_refl _) _ _ ((Below.refl wg.heap.size wg).alloc (Nat.le_refl _) _))
                  have HWG := Lib.hid hwg
                  rw [HZZ.out] at THG
                  clear hwg hbz
                  have HBH := Lib.hid (HBG.out.trans (HLG2.out.mono HBG.out.size))
                  have HBV : Hid (∀ W, Le WG W → Below W5.heap.size W5 W) := Lib.hid (fun W hl => HBH.out.trans (hl.mono HBH.out.size))
                  have c7k : ∀ kk : LW WG, kk.val.cell? ⟨b7, o7 + t * 27, none⟩ = some (.int .i64 y.1) := fun kk => (HCC7.out _ (HBV.out _ kk.le)).1
                  have ca1 : ∀ kk : LW WG, kk.val.cell? ⟨wo.heap.size, 1, none⟩ = some (.int .i64 id) := fun kk => (HAC.out _ _ (HBX5.out.later (HBV.out _ kk.le))).1.2.1
                  clear HLG2 HBG HBH
                  by_cases hyi : y.1 = id
                  · have b1 : (y.1 != id) = false := by rw [hyi]; simp
                    have b2 : (y.1 == id) = true := beq_iff_eq.2 hyi
                    clear hyi HSTT HXE HEC HYE HQ
                    generalize y.1 = yi at *
                    go_wp2_with (first
                      | (have RP1 := THG
                         refine wpList_store_mid rfl 44 (.tmp 15) (.tmp 134) rfl wg.heap.size 0 X.toArray rfl rfl (by simpa [HXL.out] using THG) (by simpa [HXL.out] using info_card) (all_oneCell_toArray HX1.out) ?_
                         rw [← HZZ.out, ← HWG.out]
                         clear THG RP1)
                      | fail)
                    refine wp_region_steady [] 157 (by kernel_rfl) (by kernel_rfl) (by kernel_rfl) (by rfl) ?_
                    iterate 9 (refine wpG_quiet (by rfl) (by rfl) (by rfl) (fun K hK => ?_); go_big_quiet_op; refine hK _ ?_; clear hK K)
                    iterate 10 (refine wpG_skip (by rfl) ?_; simp only [Act.put, List.setIfInBounds_toArray, List.set_cons_zero, List.set_cons_succ])
                    iterate 1 (refine wpG_quiet (by rfl) (by rfl) (by rfl) (fun K hK => ?_); go_big_quiet_op; refine hK _ ?_; clear hK K)
                    refine wpG_nil fun w8 hl _ => ?_
                    have HB8 := Lib.hid (HBV.out w8 hl)
                    clear c7k ca1 hl HBV
                    go_wp2_with fail
                    go_roundw
                    case rel => exact ⟨t + 1, by omega, by go_num, HB8⟩
                    case measure => simp [iOf]; omega
                  · have b1 : (y.1 != id) = true := bne_iff_ne.2 hyi
                    have b2 : (y.1 == id) = false := beq_eq_false_iff_ne.2 hyi
                    have hsg := HSTT.out hyi
                    have hXY : X = Y := by rw [HXE.out, HYE.out, hsg]
                    have hec0 : ec = 0 := by rw [← HEC.out, hsg]
                    subst hXY hec0
                    clear hyi HSTT HXE HEC HYE hsg
                    generalize y.1 = yi at *
                    go_wp2_with (first
                      | (have RP1 := THG
                         refine wpList_store_mid rfl 44 (.tmp 15) (.tmp 134) rfl wg.heap.size 0 X.toArray rfl rfl (by simpa [HXL.out] using THG) (by simpa [HXL.out] using info_card) (all_oneCell_toArray HX1.out) ?_
                         rw [← HZZ.out, ← HWG.out]
                         clear THG RP1)
                      | fail)
                    refine wp_region_steady [] 157 (by kernel_rfl) (by kernel_rfl) (by kernel_rfl) (by rfl) ?_
                    iterate 12 (refine wpG_quiet (by rfl) (by rfl) (by rfl) (fun K hK => ?_); go_big_quiet_op; refine hK _ ?_; clear hK K)
                    refine wpG_run (by rfl) (by rfl) (.agg X.toArray) (fun wx hl => exec_load 44 (.tmp 15) rfl wg.heap.size 0 rfl X _ ((HKG.out.later hl.1).wholeC) huc rfl (by rw [HXL.out]; exact info_card)) ?_
                    simp only [Act.put, List.setIfInBounds_toArray, List.set_cons_zero, List.set_cons_succ]
                    iterate 3 (refine wpG_quiet (by rfl) (by rfl) (by rfl) (fun K hK => ?_); go_big_quiet_op; refine hK _ ?_; clear hK K)
                    refine wpG_run (by rfl) (by rfl) (.agg X.toArray) (fun wx hl => exec_load 44 (.tmp 151) rfl b7 (o7 + t * 27) rfl X _ (HCC7.out wx (HBV.out wx hl.1)).2 huc rfl (by rw [HXL.out]; exact info_card)) ?_
                    simp only [Act.put, List.setIfInBounds_toArray, List.set_cons_zero, List.set_cons_succ]
                    refine wpG_run (by rfl) (by rfl) (.bool false) (fun wx hl => exec_neq 44 _ (.tmp 148) (.tmp 152) rfl _ _ rfl rfl guard_card true (HQ.out wx)) ?_
                    simp only [Act.put, List.setIfInBounds_toArray, List.set_cons_zero, List.set_cons_succ]
                    iterate 2 (refine wpG_quiet (by rfl) (by rfl) (by rfl) (fun K hK => ?_); go_big_quiet_op; refine hK _ ?_; clear hK K)
                    refine wpG_nil fun w8 hl _ => ?_
                    have HB8 := Lib.hid (HBV.out w8 hl)
                    clear c7k ca1 hl HBV
                    go_wp2_with fail
                    go_roundw
                    case rel => exact ⟨t + 1, by omega, by go_num, HB8⟩
                    case measure => simp [iOf]; omega
                · have dt : decide ((t : Int) < (m : Int)) = false := decide_eq_false (by omega)
                  have HSF := Lib.hid (HS5.out.later HBQ.out)
                  have HBF := Lib.hid (HB5.out.trans (HBQ.out.mono HB5.out.size))
                  clear HCW HST
                  go_wp2_with fail
                  go_roundw
                  case rel => exact ⟨k + 1, last, s', N', r, by omega, by omega, by go_num, (by first | rfl | (congr 1; omega) | (have h9 := HL0.out; congr 1; omega)), HLAST.out, by omega, HSO', HSF, HBF⟩
                  case measure => simp [iOf]; omega
          · by_cases h1 : kd = 1
            · subst h1
              clear HADD
              have HST : Hid (Stays s (swrite s id p).1 id) := Lib.hid (stays_of HSO.out (fun q y hne hq => by rw [swrite_get HSO.out id p hne]; exact hq))
              have HSO' := Lib.hid (swrite_ok HSO.out id p)
              have HLAST : Hid (0 ≤ last ∧ last < (swrite s id p).1.nx) := Lib.hid (by rw [swrite_nx]; exact hlast)
              have HNEW := Lib.hid (fun e => swrite_new (s := s) (id := id) (p := p) e)
              have HGET := Lib.hid (fun W (hW : SfAt W w.heap.size g b r N s) => get_any _ g b r N s W hW id HWI.out HSO.out.len (by have := HSO.out.dead; omega))
              obtain ⟨U, hU⟩ : ∃ U, U = ccl (sget s id).1 := ⟨_, rfl⟩
              have HUL := Lib.hid (show U.length = 27 by rw [hU]; exact ccl_len (sget_ok HSO.out id))
              have HU1 := Lib.hid (show ∀ v ∈ U, v.oneCell' = true by rw [hU]; exact ccl_one _)
              obtain ⟨V, hV⟩ : ∃ V, V = ccl (swrite s id p).2.1 := ⟨_, rfl⟩
              have hvok : okCd (swrite s id p).2.1 := by
                unfold swrite
                split
                · rfl
                · split
                  · rfl
                  · split
                    · rfl
                    · exact mix_len _ _ _
              have HVL := Lib.hid (show V.length = 27 by rw [hV]; exact ccl_len hvok)
              have HV1 := Lib.hid (show ∀ v ∈ V, v.oneCell' = true by rw [hV]; exact ccl_one _)
              rw [← hU] at HGET
              rw [← hV] at HWRI
              have HUE := Lib.hid hU
              have HVE := Lib.hid hV
              generalize he10 : (sget s id).2 = e10 at HGET
              have HE10 := Lib.hid he10
              generalize hsn : (swrite s id p).1 = s' at HWRI HST HSO' HLAST
              generalize he12 : (swrite s id p).2.2 = e12 at HWRI HNEW
              clear hU hV hvok hsn he10
              go_wp2_with fail
              refine (HGET.out w3 HS3.out).mono ?_
              rintro e w4 ⟨rfl, hb4⟩
              have HS4 := Lib.hid (HS3.out.later hb4)
              have HB4 := Lib.hid (HB3.out.trans (hb4.mono HB3.out.size))
              have HBX4 := Lib.hid (HBX3.out.later hb4)
              have HB34 := Lib.hid hb4
              clear hb4 HGET HS3 HB3 HBX3 rgp ak ai aq
              have hbz := Blk.new w4 Z 44
              have TH5 := hbz.there 0 27 (by rw [HZL.out]; omega)
              obtain ⟨W5, hw5⟩ : ∃ W, W = (w4.alloc (.cells Z.toArray 44)).setCells w4.heap.size 0 U := ⟨_, rfl⟩
              have HK5 := Lib.hid (show Blk W5 w4.heap.size U by rw [hw5]; exact hbz.whole (by rw [HZL.out, HUL.out]))
              have HL5 := Lib.hid (show Below w4.heap.size w4 W5 by rw [hw5]; exact below_sets (Nat.le_refl _) _ _ ((Below.refl w4.heap.size w4).alloc (Nat.le_refl _) _))
              have HW5 := Lib.hid hw5
              rw [HZZ.out] at TH5
              clear hw5 hbz
              have HS5 := Lib.hid (HS4.out.later HL5.out)
              have HB5 := Lib.hid (HB4.out.trans (HL5.out.mono HB4.out.size))
              have HBX5 := Lib.hid (HBX4.out.later HL5.out)
              have HB35 := Lib.hid (HB34.out.trans (HL5.out.mono HB34.out.size))
              have HG10 := Lib.hid (show w4.heap.size ≠ g ∧ w4.heap.size ≠ b ∧ r ≠ some w4.heap.size from by
                have h1 := HS4.out.lt
                exact ⟨by omega, by omega, fun e => by have := (HS4.out.row _ e).2; omega⟩)
              obtain ⟨⟨ak, ai, aq⟩, rgp, _⟩ := HAC.out W5 _ HBX5.out
              clear HS4 HB4 HBX4 HL5 HB34
              go_wp2_with (first
                | (have RP1 := TH5
                   refine wpList_store_mid rfl 44 (.tmp 10) (.tmp 80) rfl w4.heap.size 0 U.toArray rfl rfl (by simpa [HUL.out] using TH5) (by simpa [HUL.out] using info_card) (all_oneCell_toArray HU1.out) ?_
                   rw [← HZZ.out, ← HW5.out]
                   clear TH5 RP1)
                | (refine wpList_load_mid rfl 36 (.tmp 86) rfl wo.heap.size 3 rfl PC _ rgp hup rfl (by rw [HPL.out]; exact info_patch) ?_
                   simp only [Act.put, List.setIfInBounds_toArray, List.set_cons_zero, List.set_cons_succ])
                | fail)
              refine (HWRI.out W5 HS5.out).mono ?_
              rintro e w6 ⟨rfl, N', hs6, hn4, ht6⟩
              have HS6 := Lib.hid hs6
              have HB6 := Lib.hid (HB5.out.trans (ht6.below HLL.out.1 HLL.out.2 (fun q hq => (HS5.out.row q hq).1) HB5.out.size))
              have HBX6 := Lib.hid (ht6.blk HBX5.out HGX.out.1 HGX.out.2.1 HGX.out.2.2)
              have HK6 := Lib.hid (ht6.blk HK5.out HG10.out.1 HG10.out.2.1 HG10.out.2.2)
              have HW7 := Lib.hid (HTW.out W5 w6 HB35.out ht6)
              clear hs6 ht6 HWRI HS5 HB5 HBX5 HTW rgp ak ai aq HB35 HK5
              have hbz := Blk.new w6 Z 44
              have TH7 := hbz.there 0 27 (by rw [HZL.out]; omega)
              obtain ⟨W7, hww⟩ : ∃ W, W = (w6.alloc (.cells Z.toArray 44)).setCells w6.heap.size 0 V := ⟨_, rfl⟩
              have HK7 := Lib.hid (show Blk W7 w6.heap.size V by rw [hww]; exact hbz.whole (by rw [HZL.out, HVL.out]))
              have HL7 := Lib.hid (show Below w6.heap.size w6 W7 by rw [hww]; exact below_sets (Nat.le_refl _) _ _ ((Below.refl w6.heap.size w6).alloc (Nat.le_refl _) _))
              have HWW := Lib.hid hww
              rw [HZZ.out] at TH7
              clear hww hbz
              have HS7 := Lib.hid (HS6.out.later HL7.out)
              have HB7 := Lib.hid (HB6.out.trans (HL7.out.mono HB6.out.size))
              have HBX7 := Lib.hid (HBX6.out.later HL7.out)
              have HK67 := Lib.hid (HK6.out.later HL7.out)
              have HW77 := Lib.hid (HW7.out.later HL7.out)
              clear HS6 HB6 HBX6 HW7 HK6 HL7
              by_cases he : e12 = 0
              · obtain ⟨y, hg1, hg2, hg3, hg4⟩ := HNEW.out he
                have hye : e10 = 0 := by rw [← HE10.out, hg1]
                have hUy : U = ccl y := by rw [HUE.out, hg1]
                have hVy : V = ccl (mrg y p) := by rw [HVE.out, hg3]
                have hyk : kget (toKV s.cs) id = some y := by
                  cases hk : kget (toKV s.cs) id with
                  | none =>
                    have : (sget s id).2 = sgone s id := by unfold sget; rw [hk]
                    rw [hg1] at this
                    unfold sgone at this
                    split at this <;> cases this
                  | some z =>
                    have : (sget s id).1 = z := by unfold sget; rw [hk]
                    rw [hg1] at this
                    rw [← this]
                have hym := HSO.out.may y (get_own hyk).2
                have hyl := HSO.out.len y (get_own hyk).2
                have hylo := ckc_lo hym
                have HMG := Lib.hid (fun wx => show Calls Try.prog 21 #[.agg U.toArray, .agg PC.toArray] wx fun e w' => e = .returned (.agg V.toArray) ∧ Below wx.heap.size wx w' from by
                  have := rmerge_any y.1 y.2.1 y.2.2.1 p.lb p.ms y.2.2.2 p.fs wx hyl HP8.out (by omega) (by omega)
                  rw [hUy, hVy, HPE.out]
                  exact this)
                have HQ := Lib.hid (fun wx : World => show (Op.equalIn 10000 44 (.agg V.toArray) (.agg V.toArray)).run Try.prog wx = .ok true wx from by
                  rw [hVy]
                  have := eq_ccl (mrg y p) (mrg y p) (mix_len _ _ _) (mix_len _ _ _) wx
                  rwa [decide_eq_true rfl] at this)
                have HBW : Hid (∀ W, Le W7 W → Below w.heap.size w W) := Lib.hid (fun W hl => HB7.out.trans (hl.mono HB7.out.size))
                have cu1 : ∀ kk : LW W7, kk.val.cell? ⟨w4.heap.size, 1, none⟩ = some (.int .i64 y.2.1) := fun kk => (HK67.out.later kk.le).cell (j := 1) (by rw [hUy]; rfl)
                have cv0 : ∀ kk : LW W7, kk.val.cell? ⟨w6.heap.size, 0, none⟩ = some (.int .i64 id) := fun kk => (HK7.out.later kk.le).cell (j := 0) (by rw [hVy]; show some (Value.int .i64 y.1) = _; rw [hg2])
                have cv1 : ∀ kk : LW W7, kk.val.cell? ⟨w6.heap.size, 1, none⟩ = some (.int .i64 (y.2.1 + 1)) := fun kk => (HK7.out.later kk.le).cell (j := 1) (by rw [hVy]; show some (Value.int .i64 (mrg y p).2.1) = _; rw [hg4])
                have ca1 : ∀ kk : LW W7, kk.val.cell? ⟨wo.heap.size, 1, none⟩ = some (.int .i64 id) := fun kk => (HAC.out _ _ (HBX7.out.later kk.le)).1.2.1
                have hylo2 := hylo.2.2.1
                have hylo3 := hylo.2.2.2.1
                generalize y.2.1 = yv at cu1 cv1 hylo2 hylo3
                subst he hye
                clear hg1 hg2 hg3 hg4 hUy hVy hyk hym hyl hylo HUE HVE HE10 HNEW he12
                go_wp2_with (first
                  | (have RP1 := TH7
                     refine wpList_store_mid rfl 44 (.tmp 12) (.tmp 89) rfl w6.heap.size 0 V.toArray rfl rfl (by simpa [HVL.out] using TH7) (by simpa [HVL.out] using info_card) (all_oneCell_toArray HV1.out) ?_
                     rw [← HZZ.out, ← HWW.out]
                     clear TH7 RP1)
                  | fail)
                refine wp_region_steady [] 157 (by kernel_rfl) (by kernel_rfl) (by kernel_rfl) (by rfl) ?_
                iterate 21 (refine wpG_quiet (by rfl) (by rfl) (by rfl) (fun K hK => ?_); go_big_quiet_op; refine hK _ ?_; clear hK K)
                refine wpG_run (by rfl) (by rfl) (.agg V.toArray) (fun wx hl => exec_load 44 (.tmp 12) rfl w6.heap.size 0 rfl V _ ((HK7.out.later hl.1).wholeC) huc rfl (by rw [HVL.out]; exact info_card)) ?_
                simp only [Act.put, List.setIfInBounds_toArray, List.set_cons_zero, List.set_cons_succ]
                refine wpG_run (by rfl) (by rfl) (.agg U.toArray) (fun wx hl => exec_load 44 (.tmp 10) rfl w4.heap.size 0 rfl U _ ((HK67.out.later hl.1).wholeC) huc rfl (by rw [HUL.out]; exact info_card)) ?_
                simp only [Act.put, List.setIfInBounds_toArray, List.set_cons_zero, List.set_cons_succ]
                iterate 1 (refine wpG_quiet (by rfl) (by rfl) (by rfl) (fun K hK => ?_); go_big_quiet_op; refine hK _ ?_; clear hK K)
                refine wpG_run (by rfl) (by rfl) (.agg PC.toArray) (fun wx hl => exec_load 36 (.tmp 114) rfl wo.heap.size 3 rfl PC _ (HAC.out _ _ (HBX7.out.later hl.1)).2.1 hup rfl (by rw [HPL.out]; exact info_patch)) ?_
                simp only [Act.put, List.setIfInBounds_toArray, List.set_cons_zero, List.set_cons_succ]
                refine wpG_call (by rfl) (by rfl) 21 #[.agg U.toArray, .agg PC.toArray] (.agg V.toArray) (by intro _; simp [go_sem]) (by kernel_rfl) (fun wx hl => HMG.out wx) ?_
                simp only [Act.put, List.setIfInBounds_toArray, List.set_cons_zero, List.set_cons_succ]
                refine wpG_run (by rfl) (by rfl) (.bool false) (fun wx hl => exec_neq 44 _ (.tmp 112) (.tmp 116) rfl _ _ rfl rfl guard_card true (HQ.out wx)) ?_
                simp only [Act.put, List.setIfInBounds_toArray, List.set_cons_zero, List.set_cons_succ]
                iterate 2 (refine wpG_quiet (by rfl) (by rfl) (by rfl) (fun K hK => ?_); go_big_quiet_op; refine hK _ ?_; clear hK K)
                refine wpG_nil fun w8 hl _ => ?_
                have HS5 := Lib.hid (HS7.out.later hl)
                have HB5 := Lib.hid (HBW.out w8 hl)
                have HBX5 := Lib.hid (HBX7.out.later hl)
                have HWAS := Lib.hid (HW77.out.later hl)
                clear cu1 cv0 cv1 ca1 hl HBW HS7 HB7 HBX7 HW77 HK67 HK7 HMG HQ
                go_wp2_with fail
                generalize yv + 1 = yw
                clear hylo2 hylo3
                obtain ⟨Ws, hWs⟩ : ∃ Ws : World, Hid (SfAt Ws w.heap.size g b r N' s' ∧ Below w.heap.size w Ws ∧ Blk Ws wo.heap.size AX ∧ SeesR ccl Ws A7 m c7 s.cs) := ⟨_, Lib.hid ⟨HS5.out, HB5.out, HBX5.out, HWAS.out⟩⟩
                clear hWs Ws
                have HCW : Hid (∀ t (ht : t < s.cs.length), ∃ b7 o7, A7 = some ⟨b7, o7, none⟩ ∧ ∀ W, Below w8.heap.size w8 W → W.cell? ⟨b7, o7 + t * 27, none⟩ = some (.int .i64 (s.cs[t]).1) ∧ W.rangeAt b7 (o7 + t * 27) (ccl s.cs[t])) := Lib.hid (fun t ht => by
                  obtain ⟨b7, o7, e, hc⟩ := card_cell0 HWAS.out HSO.out.len (by omega)
                  exact ⟨b7, o7, e, fun W hW => hc W hW t ht⟩)
                go_loopw [14] (fun j wq => ∃ t : Nat, t ≤ m ∧ j = .int .i64 (t : Int) ∧ Hid (Below w8.heap.size w8 wq)) (fun j _ => m - (iOf j).toNat)
                case atStart => exact ⟨0, by omega, rfl, Lib.hid (Below.refl _ _)⟩
                case round =>
                  obtain ⟨t, ht, rfl, HBQ⟩ := hrel
                  by_cases htm : t < m
                  · have dt : decide ((t : Int) < (m : Int)) = true := decide_eq_true (by omega)
                    have htl : t < s.cs.length := by rw [← HM.out]; exact htm
                    obtain ⟨b7, o7, rfl, hcc7⟩ := HCW.out t htl
                    have HCC7 := Lib.hid hcc7
                    have k7 := (hcc7 wr HBQ.out).1
                    have hyl := HSO.out.len _ (List.getElem_mem htl)
                    have hym := ckc_lo (HSO.out.may _ (List.getElem_mem htl))
                    have HGT := Lib.hid (get_any _ g b r N' s' wr (HS5.out.later HBQ.out) (s.cs[t]).1 (wf_small (by omega)) HSO'.out.len (by have := HSO'.out.dead; omega))
                    have HSTT := Lib.hid (HST.out t htl)
                    have hgok := sget_ok HSO'.out (s.cs[t]).1
                    obtain ⟨y, hy⟩ : ∃ y, y = s.cs[t] := ⟨_, rfl⟩
                    rw [← hy] at HCC7 k7 hyl HGT HSTT hgok
                    obtain ⟨X, hX⟩ : ∃ X, X = ccl (sget s' y.1).1 := ⟨_, rfl⟩
                    have HXL := Lib.hid (show X.length = 27 by rw [hX]; exact ccl_len hgok)
                    have HX1 := Lib.hid (show ∀ v ∈ X, v.oneCell' = true by rw [hX]; exact ccl_one _)
                    rw [← hX] at HGT
                    have HXE := Lib.hid hX
                    generalize hec : (sget s' y.1).2 = ec at HGT
                    have HEC := Lib.hid hec
                    have HYL := Lib.hid (ccl_len hyl)
                    have HQ := Lib.hid (fun wx : World => show (Op.equalIn 10000 44 (.agg (ccl y).toArray) (.agg (ccl y).toArray)).run Try.prog wx = .ok true wx from by
                      have := eq_ccl y y hyl hyl wx
                      rwa [decide_eq_true rfl] at this)
                    obtain ⟨Y, hY⟩ : ∃ Y, Y = ccl y := ⟨_, rfl⟩
                    rw [← hY] at HCC7 HYL HQ
                    have HYE := Lib.hid hY
                    clear hcc7 hy hX hec hyl hym hgok HCW HST hY
                    go_wp2_with fail
                    refine HGT.out.mono ?_
                    rintro e wg ⟨rfl, hbg⟩
                    have HBG := Lib.hid (HBQ.out.trans (hbg.mono HBQ.out.size))
                    clear hbg HGT HBQ k7
                    have hbz := Blk.new wg Z 44
                    have THG := hbz.there 0 27 (by rw [HZL.out]; omega)
                    obtain ⟨WG, hwg⟩ : ∃ W, W = (wg.alloc (.cells Z.toArray 44)).setCells wg.heap.size 0 X := ⟨_, rfl⟩
                    have HKG := Lib.hid (show Blk WG wg.heap.size X by rw [hwg]; exact hbz.whole (by rw [HZL.out, HXL.out]))
                    have HLG2 := Lib.hid (show Below wg.heap.size wg WG by rw [hwg]; exact below_sets (Nat.le_refl _) _ _ ((Below.refl wg.heap.size wg).alloc (Nat.le_refl _) _))
                    have HWG := Lib.hid hwg
                    rw [HZZ.out] at THG
                    clear hwg hbz
                    have HBH := Lib.hid (HBG.out.trans (HLG2.out.mono HBG.out.size))
                    have HBV : Hid (∀ W, Le WG W → Below w8.heap.size w8 W) := Lib.hid (fun W hl => HBH.out.trans (hl.mono HBH.out.size))
                    have c7k : ∀ kk : LW WG, kk.val.cell? ⟨b7, o7 + t * 27, none⟩ = some (.int .i64 y.1) := fun kk => (HCC7.out _ (HBV.out _ kk.le)).1
                    have ca1 : ∀ kk : LW WG, kk.val.cell? ⟨wo.heap.size, 1, none⟩ = some (.int .i64 id) := fun kk => (HAC.out _ _ (HBX5.out.later (HBV.out _ kk.le))).1.2.1
                    clear HLG2 HBG HBH
                    by_cases hyi : y.1 = id
                    · have b1 : (y.1 != id) = false := by rw [hyi]; simp
                      have b2 : (y.1 == id) = true := beq_iff_eq.2 hyi
                      clear hyi HSTT HXE HEC HYE HQ
                      generalize y.1 = yi at *
                      go_wp2_with (first
                        | (have RP1 := THG
                           refine wpList_store_mid rfl 44 (.tmp 15) (.tmp 134) rfl wg.heap.size 0 X.toArray rfl rfl (by simpa [HXL.out] using THG) (by simpa [HXL.out] using info_card) (all_oneCell_toArray HX1.out) ?_
                           rw [← HZZ.out, ← HWG.out]
                           clear THG RP1)
                        | fail)
                      refine wp_region_steady [] 157 (by kernel_rfl) (by kernel_rfl) (by kernel_rfl) (by rfl) ?_
                      iterate 9 (refine wpG_quiet (by rfl) (by rfl) (by rfl) (fun K hK => ?_); go_big_quiet_op; refine hK _ ?_; clear hK K)
                      iterate 10 (refine wpG_skip (by rfl) ?_; simp only [Act.put, List.setIfInBounds_toArray, List.set_cons_zero, List.set_cons_succ])
                      iterate 1 (refine wpG_quiet (by rfl) (by rfl) (by rfl) (fun K hK => ?_); go_big_quiet_op; refine hK _ ?_; clear hK K)
                      refine wpG_nil fun w8 hl _ => ?_
                      have HB8 := Lib.hid (HBV.out w8 hl)
                      clear c7k ca1 hl HBV
                      go_wp2_with fail
                      go_roundw
                      case rel => exact ⟨t + 1, by omega, by go_num, HB8⟩
                      case measure => simp [iOf]; omega
                    · have b1 : (y.1 != id) = true := bne_iff_ne.2 hyi
                      have b2 : (y.1 == id) = false := beq_eq_false_iff_ne.2 hyi
                      have hsg := HSTT.out hyi
                      have hXY : X = Y := by rw [HXE.out, HYE.out, hsg]
                      have hec0 : ec = 0 := by rw [← HEC.out, hsg]
                      subst hXY hec0
                      clear hyi HSTT HXE HEC HYE hsg
                      generalize y.1 = yi at *
                      go_wp2_with (first
                        | (have RP1 := THG
                           refine wpList_store_mid rfl 44 (.tmp 15) (.tmp 134) rfl wg.heap.size 0 X.toArray rfl rfl (by simpa [HXL.out] using THG) (by simpa [HXL.out] using info_card) (all_oneCell_toArray HX1.out) ?_
                           rw [← HZZ.out, ← HWG.out]
                           clear THG RP1)
                        | fail)
                      refine wp_region_steady [] 157 (by kernel_rfl) (by kernel_rfl) (by kernel_rfl) (by rfl) ?_
                      iterate 12 (refine wpG_quiet (by rfl) (by rfl) (by rfl) (fun K hK => ?_); go_big_quiet_op; refine hK _ ?_; clear hK K)
                      refine wpG_run (by rfl) (by rfl) (.agg X.toArray) (fun wx hl => exec_load 44 (.tmp 15) rfl wg.heap.size 0 rfl X _ ((HKG.out.later hl.1).wholeC) huc rfl (by rw [HXL.out]; exact info_card)) ?_
                      simp only [Act.put, List.setIfInBounds_toArray, List.set_cons_zero, List.set_cons_succ]
                      iterate 3 (refine wpG_quiet (by rfl) (by rfl) (by rfl) (fun K hK => ?_); go_big_quiet_op; refine hK _ ?_; clear hK K)
                      refine wpG_run (by rfl) (by rfl) (.agg X.toArray) (fun wx hl => exec_load 44 (.tmp 151) rfl b7 (o7 + t * 27) rfl X _ (HCC7.out wx (HBV.out wx hl.1)).2 huc rfl (by rw [HXL.out]; exact info_card)) ?_
                      simp only [Act.put, List.setIfInBounds_toArray, List.set_cons_zero, List.set_cons_succ]
                      refine wpG_run (by rfl) (by rfl) (.bool false) (fun wx hl => exec_neq 44 _ (.tmp 148) (.tmp 152) rfl _ _ rfl rfl guard_card true (HQ.out wx)) ?_
                      simp only [Act.put, List.setIfInBounds_toArray, List.set_cons_zero, List.set_cons_succ]
                      iterate 2 (refine wpG_quiet (by rfl) (by rfl) (by rfl) (fun K hK => ?_); go_big_quiet_op; refine hK _ ?_; clear hK K)
                      refine wpG_nil fun w8 hl _ => ?_
                      have HB8 := Lib.hid (HBV.out w8 hl)
                      clear c7k ca1 hl HBV
                      go_wp2_with fail
                      go_roundw
                      case rel => exact ⟨t + 1, by omega, by go_num, HB8⟩
                      case measure => simp [iOf]; omega
                  · have dt : decide ((t : Int) < (m : Int)) = false := decide_eq_false (by omega)
                    have HSF := Lib.hid (HS5.out.later HBQ.out)
                    have HBF := Lib.hid (HB5.out.trans (HBQ.out.mono HB5.out.size))
                    clear HCW HST
                    go_wp2_with fail
                    go_roundw
                    case rel => exact ⟨k + 1, last, s', N', r, by omega, by omega, by go_num, (by first | rfl | (congr 1; omega) | (have h9 := HL0.out; congr 1; omega)), HLAST.out, by omega, HSO', HSF, HBF⟩
                    case measure => simp [iOf]; omega
              · have e1 : (e12 == 0) = false := beq_eq_false_iff_ne.2 he
                have HBW : Hid (∀ W, Le W7 W → Below w.heap.size w W) := Lib.hid (fun W hl => HB7.out.trans (hl.mono HB7.out.size))
                clear HNEW HUE HVE HE10 he12 he
                go_wp2_with (first
                  | (have RP1 := TH7
                     refine wpList_store_mid rfl 44 (.tmp 12) (.tmp 89) rfl w6.heap.size 0 V.toArray rfl rfl (by simpa [HVL.out] using TH7) (by simpa [HVL.out] using info_card) (all_oneCell_toArray HV1.out) ?_
                     rw [← HZZ.out, ← HWW.out]
                     clear TH7 RP1)
                  | fail)
                refine wp_region_steady [] 157 (by kernel_rfl) (by kernel_rfl) (by kernel_rfl) (by rfl) ?_
                iterate 3 (refine wpG_quiet (by rfl) (by rfl) (by rfl) (fun K hK => ?_); go_big_quiet_op; refine hK _ ?_; clear hK K)
                iterate 25 (refine wpG_skip (by rfl) ?_; simp only [Act.put, List.setIfInBounds_toArray, List.set_cons_zero, List.set_cons_succ])
                iterate 1 (refine wpG_quiet (by rfl) (by rfl) (by rfl) (fun K hK => ?_); go_big_quiet_op; refine hK _ ?_; clear hK K)
                refine wpG_nil fun w8 hl _ => ?_
                have HS5 := Lib.hid (HS7.out.later hl)
                have HB5 := Lib.hid (HBW.out w8 hl)
                have HBX5 := Lib.hid (HBX7.out.later hl)
                have HWAS := Lib.hid (HW77.out.later hl)
                clear hl HBW HS7 HB7 HBX7 HW77 HK67 HK7
                go_wp2_with fail
                obtain ⟨Ws, hWs⟩ : ∃ Ws : World, Hid (SfAt Ws w.heap.size g b r N' s' ∧ Below w.heap.size w Ws ∧ Blk Ws wo.heap.size AX ∧ SeesR ccl Ws A7 m c7 s.cs) := ⟨_, Lib.hid ⟨HS5.out, HB5.out, HBX5.out, HWAS.out⟩⟩
                clear hWs Ws
                have HCW : Hid (∀ t (ht : t < s.cs.length), ∃ b7 o7, A7 = some ⟨b7, o7, none⟩ ∧ ∀ W, Below w8.heap.size w8 W → W.cell? ⟨b7, o7 + t * 27, none⟩ = some (.int .i64 (s.cs[t]).1) ∧ W.rangeAt b7 (o7 + t * 27) (ccl s.cs[t])) := Lib.hid (fun t ht => by
                  obtain ⟨b7, o7, e, hc⟩ := card_cell0 HWAS.out HSO.out.len (by omega)
                  exact ⟨b7, o7, e, fun W hW => hc W hW t ht⟩)
                go_loopw [14] (fun j wq => ∃ t : Nat, t ≤ m ∧ j = .int .i64 (t : Int) ∧ Hid (Below w8.heap.size w8 wq)) (fun j _ => m - (iOf j).toNat)
                case atStart => exact ⟨0, by omega, rfl, Lib.hid (Below.refl _ _)⟩
                case round =>
                  obtain ⟨t, ht, rfl, HBQ⟩ := hrel
                  by_cases htm : t < m
                  · have dt : decide ((t : Int) < (m : Int)) = true := decide_eq_true (by omega)
                    have htl : t < s.cs.length := by rw [← HM.out]; exact htm
                    obtain ⟨b7, o7, rfl, hcc7⟩ := HCW.out t htl
                    have HCC7 := Lib.hid hcc7
                    have k7 := (hcc7 wr HBQ.out).1
                    have hyl := HSO.out.len _ (List.getElem_mem htl)
                    have hym := ckc_lo (HSO.out.may _ (List.getElem_mem htl))
                    have HGT := Lib.hid (get_any _ g b r N' s' wr (HS5.out.later HBQ.out) (s.cs[t]).1 (wf_small (by omega)) HSO'.out.len (by have := HSO'.out.dead; omega))
                    have HSTT := Lib.hid (HST.out t htl)
                    have hgok := sget_ok HSO'.out (s.cs[t]).1
                    obtain ⟨y, hy⟩ : ∃ y, y = s.cs[t] := ⟨_, rfl⟩
                    rw [← hy] at HCC7 k7 hyl HGT HSTT hgok
                    obtain ⟨X, hX⟩ : ∃ X, X = ccl (sget s' y.1).1 := ⟨_, rfl⟩
                    have HXL := Lib.hid (show X.length = 27 by rw [hX]; exact ccl_len hgok)
                    have HX1 := Lib.hid (show ∀ v ∈ X, v.oneCell' = true by rw [hX]; exact ccl_one _)
                    rw [← hX] at HGT
                    have HXE := Lib.hid hX
                    generalize hec : (sget s' y.1).2 = ec at HGT
                    have HEC := Lib.hid hec
                    have HYL := Lib.hid (ccl_len hyl)
                    have HQ := Lib.hid (fun wx : World => show (Op.equalIn 10000 44 (.agg (ccl y).toArray) (.agg (ccl y).toArray)).run Try.prog wx = .ok true wx from by
                      have := eq_ccl y y hyl hyl wx
                      rwa [decide_eq_true rfl] at this)
                    obtain ⟨Y, hY⟩ : ∃ Y, Y = ccl y := ⟨_, rfl⟩
                    rw [← hY] at HCC7 HYL HQ
                    have HYE := Lib.hid hY
                    clear hcc7 hy hX hec hyl hym hgok HCW HST hY
                    go_wp2_with fail
                    refine HGT.out.mono ?_
                    rintro e wg ⟨rfl, hbg⟩
                    have HBG := Lib.hid (HBQ.out.trans (hbg.mono HBQ.out.size))
                    clear hbg HGT HBQ k7
                    have hbz := Blk.new wg Z 44
                    have THG := hbz.there 0 27 (by rw [HZL.out]; omega)
                    obtain ⟨WG, hwg⟩ : ∃ W, W = (wg.alloc (.cells Z.toArray 44)).setCells wg.heap.size 0 X := ⟨_, rfl⟩
                    have HKG := Lib.hid (show Blk WG wg.heap.size X by rw [hwg]; exact hbz.whole (by rw [HZL.out, HXL.out]))
                    have HLG2 := Lib.hid (show Below wg.heap.size wg WG by rw [hwg]; exact below_sets (Nat.le_refl _) _ _ ((Below.refl wg.heap.size wg).alloc (Nat.le_refl _) _))
                    have HWG := Lib.hid hwg
                    rw [HZZ.out] at THG
                    clear hwg hbz
                    have HBH := Lib.hid (HBG.out.trans (HLG2.out.mono HBG.out.size))
                    have HBV : Hid (∀ W, Le WG W → Below w8.heap.size w8 W) := Lib.hid (fun W hl => HBH.out.trans (hl.mono HBH.out.size))
                    have c7k : ∀ kk : LW WG, kk.val.cell? ⟨b7, o7 + t * 27, none⟩ = some (.int .i64 y.1) := fun kk => (HCC7.out _ (HBV.out _ kk.le)).1
                    have ca1 : ∀ kk : LW WG, kk.val.cell? ⟨wo.heap.size, 1, none⟩ = some (.int .i64 id) := fun kk => (HAC.out _ _ (HBX5.out.later (HBV.out _ kk.le))).1.2.1
                    clear HLG2 HBG HBH
                    by_cases hyi : y.1 = id
                    · have b1 : (y.1 != id) = false := by rw [hyi]; simp
                      have b2 : (y.1 == id) = true := beq_iff_eq.2 hyi
                      clear hyi HSTT HXE HEC HYE HQ
                      generalize y.1 = yi at *
                      go_wp2_with (first
                        | (have RP1 := THG
                           refine wpList_store_mid rfl 44 (.tmp 15) (.tmp 134) rfl wg.heap.size 0 X.toArray rfl rfl (by simpa [HXL.out] using THG) (by simpa [HXL.out] using info_card) (all_oneCell_toArray HX1.out) ?_
                           rw [← HZZ.out, ← HWG.out]
                           clear THG RP1)
                        | fail)
                      refine wp_region_steady [] 157 (by kernel_rfl) (by kernel_rfl) (by kernel_rfl) (by rfl) ?_
                      iterate 9 (refine wpG_quiet (by rfl) (by rfl) (by rfl) (fun K hK => ?_); go_big_quiet_op; refine hK _ ?_; clear hK K)
                      iterate 10 (refine wpG_skip (by rfl) ?_; simp only [Act.put, List.setIfInBounds_toArray, List.set_cons_zero, List.set_cons_succ])
                      iterate 1 (refine wpG_quiet (by rfl) (by rfl) (by rfl) (fun K hK => ?_); go_big_quiet_op; refine hK _ ?_; clear hK K)
                      refine wpG_nil fun w8 hl _ => ?_
                      have HB8 := Lib.hid (HBV.out w8 hl)
                      clear c7k ca1 hl HBV
                      go_wp2_with fail
                      go_roundw
                      case rel => exact ⟨t + 1, by omega, by go_num, HB8⟩
                      case measure => simp [iOf]; omega
                    · have b1 : (y.1 != id) = true := bne_iff_ne.2 hyi
                      have b2 : (y.1 == id) = false := beq_eq_false_iff_ne.2 hyi
                      have hsg := HSTT.out hyi
                      have hXY : X = Y := by rw [HXE.out, HYE.out, hsg]
                      have hec0 : ec = 0 := by rw [← HEC.out, hsg]
                      subst hXY hec0
                      clear hyi HSTT HXE HEC HYE hsg
                      generalize y.1 = yi at *
                      go_wp2_with (first
                        | (have RP1 := THG
                           refine wpList_store_mid rfl 44 (.tmp 15) (.tmp 134) rfl wg.heap.size 0 X.toArray rfl rfl (by simpa [HXL.out] using THG) (by simpa [HXL.out] using info_card) (all_oneCell_toArray HX1.out) ?_
                           rw [← HZZ.out, ← HWG.out]
                           clear THG RP1)
                        | fail)
                      refine wp_region_steady [] 157 (by kernel_rfl) (by kernel_rfl) (by kernel_rfl) (by rfl) ?_
                      iterate 12 (refine wpG_quiet (by rfl) (by rfl) (by rfl) (fun K hK => ?_); go_big_quiet_op; refine hK _ ?_; clear hK K)
                      refine wpG_run (by rfl) (by rfl) (.agg X.toArray) (fun wx hl => exec_load 44 (.tmp 15) rfl wg.heap.size 0 rfl X _ ((HKG.out.later hl.1).wholeC) huc rfl (by rw [HXL.out]; exact info_card)) ?_
                      simp only [Act.put, List.setIfInBounds_toArray, List.set_cons_zero, List.set_cons_succ]
                      iterate 3 (refine wpG_quiet (by rfl) (by rfl) (by rfl) (fun K hK => ?_); go_big_quiet_op; refine hK _ ?_; clear hK K)
                      refine wpG_run (by rfl) (by rfl) (.agg X.toArray) (fun wx hl => exec_load 44 (.tmp 151) rfl b7 (o7 + t * 27) rfl X _ (HCC7.out wx (HBV.out wx hl.1)).2 huc rfl (by rw [HXL.out]; exact info_card)) ?_
                      simp only [Act.put, List.setIfInBounds_toArray, List.set_cons_zero, List.set_cons_succ]
                      refine wpG_run (by rfl) (by rfl) (.bool false) (fun wx hl => exec_neq 44 _ (.tmp 148) (.tmp 152) rfl _ _ rfl rfl guard_card true (HQ.out wx)) ?_
                      simp only [Act.put, List.setIfInBounds_toArray, List.set_cons_zero, List.set_cons_succ]
                      iterate 2 (refine wpG_quiet (by rfl) (by rfl) (by rfl) (fun K hK => ?_); go_big_quiet_op; refine hK _ ?_; clear hK K)
                      refine wpG_nil fun w8 hl _ => ?_
                      have HB8 := Lib.hid (HBV.out w8 hl)
                      clear c7k ca1 hl HBV
                      go_wp2_with fail
                      go_roundw
                      case rel => exact ⟨t + 1, by omega, by go_num, HB8⟩
                      case measure => simp [iOf]; omega
                  · have dt : decide ((t : Int) < (m : Int)) = false := decide_eq_false (by omega)
                    have HSF := Lib.hid (HS5.out.later HBQ.out)
                    have HBF := Lib.hid (HB5.out.trans (HBQ.out.mono HB5.out.size))
                    clear HCW HST
                    go_wp2_with fail
                    go_roundw
                    case rel => exact ⟨k + 1, last, s', N', r, by omega, by omega, by go_num, (by first | rfl | (congr 1; omega) | (have h9 := HL0.out; congr 1; omega)), HLAST.out, by omega, HSO', HSF, HBF⟩
                    case measure => simp [iOf]; omega
            · have e0 : (kd == 0) = false := beq_eq_false_iff_ne.2 h0
              have e1 : (kd == 1) = false := beq_eq_false_iff_ne.2 h1
              have HST : Hid (Stays s (sdrop s id sq).1 id) := Lib.hid (stays_of HSO.out (fun q y hne hq => by rw [sdrop_get HSO.out id sq hne]; exact hq))
              have HSO' := Lib.hid (sdrop_ok HSO.out id sq)
              have HLAST : Hid (0 ≤ last ∧ last < (sdrop s id sq).1.nx) := Lib.hid (by rw [sdrop_nx]; exact hlast)
              have HDR := Lib.hid (fun W (hW : SfAt W w.heap.size g b r N s) (hL : w.heap.size ≤ W.heap.size) => sdrop_any _ g b r N s W hW id sq HWI.out HSO.out hL)
              generalize hsn : (sdrop s id sq).1 = s' at HDR HST HSO' HLAST
              generalize (sdrop s id sq).2 = ed at HDR
              clear HADD HWRI h0 h1 hsn
              go_wp2_with fail
              refine (HDR.out w3 HS3.out HB3.out.size).mono ?_
              rintro e w4 ⟨rfl, r', hs4, ht4, hr4⟩
              obtain ⟨N', hN', hn4⟩ : ∃ N', N' = N ∧ N' ≤ N + 1 := ⟨N, rfl, by omega⟩
              have HS5 : Hid (SfAt w4 w.heap.size g b r' N' s') := Lib.hid (by rw [hN']; exact hs4)
              have HB5 := Lib.hid (HB3.out.trans (ht4.below HLL.out.1 HLL.out.2 (fun q hq => (HS3.out.row q hq).1) HB3.out.size))
              have HBX5 := Lib.hid (ht4.blk HBX3.out HGX.out.1 HGX.out.2.1 HGX.out.2.2)
              have HWAS := Lib.hid (HTW.out w3 w4 (Below.refl _ _) ht4)
              clear hs4 ht4 hr4 hN' HDR HS3 HB3 HBX3 HTW rgp ak ai aq
              go_wp2_with fail
              obtain ⟨Ws, hWs⟩ : ∃ Ws : World, Hid (SfAt Ws w.heap.size g b r' N' s' ∧ Below w.heap.size w Ws ∧ Blk Ws wo.heap.size AX ∧ SeesR ccl Ws A7 m c7 s.cs) := ⟨_, Lib.hid ⟨HS5.out, HB5.out, HBX5.out, HWAS.out⟩⟩
              clear hWs Ws
              have HCW : Hid (∀ t (ht : t < s.cs.length), ∃ b7 o7, A7 = some ⟨b7, o7, none⟩ ∧ ∀ W, Below w4.heap.size w4 W → W.cell? ⟨b7, o7 + t * 27, none⟩ = some (.int .i64 (s.cs[t]).1) ∧ W.rangeAt b7 (o7 + t * 27) (ccl s.cs[t])) := Lib.hid (fun t ht => by
                obtain ⟨b7, o7, e, hc⟩ := card_cell0 HWAS.out HSO.out.len (by omega)
                exact ⟨b7, o7, e, fun W hW => hc W hW t ht⟩)
              go_loopw [14] (fun j wq => ∃ t : Nat, t ≤ m ∧ j = .int .i64 (t : Int) ∧ Hid (Below w4.heap.size w4 wq)) (fun j _ => m - (iOf j).toNat)
              case atStart => exact ⟨0, by omega, rfl, Lib.hid (Below.refl _ _)⟩
              case round =>
                obtain ⟨t, ht, rfl, HBQ⟩ := hrel
                by_cases htm : t < m
                · have dt : decide ((t : Int) < (m : Int)) = true := decide_eq_true (by omega)
                  have htl : t < s.cs.length := by rw [← HM.out]; exact htm
                  obtain ⟨b7, o7, rfl, hcc7⟩ := HCW.out t htl
                  have HCC7 := Lib.hid hcc7
                  have k7 := (hcc7 wr HBQ.out).1
                  have hyl := HSO.out.len _ (List.getElem_mem htl)
                  have hym := ckc_lo (HSO.out.may _ (List.getElem_mem htl))
                  have HGT := Lib.hid (get_any _ g b r' N' s' wr (HS5.out.later HBQ.out) (s.cs[t]).1 (wf_small (by omega)) HSO'.out.len (by have := HSO'.out.dead; omega))
                  have HSTT := Lib.hid (HST.out t htl)
                  have hgok := sget_ok HSO'.out (s.cs[t]).1
                  obtain ⟨y, hy⟩ : ∃ y, y = s.cs[t] := ⟨_, rfl⟩
                  rw [← hy] at HCC7 k7 hyl HGT HSTT hgok
                  obtain ⟨X, hX⟩ : ∃ X, X = ccl (sget s' y.1).1 := ⟨_, rfl⟩
                  have HXL := Lib.hid (show X.length = 27 by rw [hX]; exact ccl_len hgok)
                  have HX1 := Lib.hid (show ∀ v ∈ X, v.oneCell' = true by rw [hX]; exact ccl_one _)
                  rw [← hX] at HGT
                  have HXE := Lib.hid hX
                  generalize hec : (sget s' y.1).2 = ec at HGT
                  have HEC := Lib.hid hec
                  have HYL := Lib.hid (ccl_len hyl)
                  have HQ := Lib.hid (fun wx : World => show (Op.equalIn 10000 44 (.agg (ccl y).toArray) (.agg (ccl y).toArray)).run Try.prog wx = .ok true wx from by
                    have := eq_ccl y y hyl hyl wx
                    rwa [decide_eq_true rfl] at this)
                  obtain ⟨Y, hY⟩ : ∃ Y, Y = ccl y := ⟨_, rfl⟩
                  rw [← hY] at HCC7 HYL HQ
                  have HYE := Lib.hid hY
                  clear hcc7 hy hX hec hyl hym hgok HCW HST hY
                  go_wp2_with fail
                  refine HGT.out.mono ?_
                  rintro e wg ⟨rfl, hbg⟩
                  have HBG := Lib.hid (HBQ.out.trans (hbg.mono HBQ.out.size))
                  clear hbg HGT HBQ k7
                  have hbz := Blk.new wg Z 44
                  have THG := hbz.there 0 27 (by rw [HZL.out]; omega)
                  obtain ⟨WG, hwg⟩ : ∃ W, W = (wg.alloc (.cells Z.toArray 44)).setCells wg.heap.size 0 X := ⟨_, rfl⟩
                  have HKG := Lib.hid (show Blk WG wg.heap.size X by rw [hwg]; exact hbz.whole (by rw [HZL.out, HXL.out]))
                  have HLG2 := Lib.hid (show Below wg.heap.size wg WG by rw [hwg]; exact below_sets (Nat.le_refl _) _ _ ((Below.refl wg.heap.size wg).alloc (Nat.le_refl _) _))
                  have HWG := Lib.hid hwg
                  rw [HZZ.out] at THG
                  clear hwg hbz
                  have HBH := Lib.hid (HBG.out.trans (HLG2.out.mono HBG.out.size))
                  have HBV : Hid (∀ W, Le WG W → Below w4.heap.size w4 W) := Lib.hid (fun W hl => HBH.out.trans (hl.mono HBH.out.size))
                  have c7k : ∀ kk : LW WG, kk.val.cell? ⟨b7, o7 + t * 27, none⟩ = some (.int .i64 y.1) := fun kk => (HCC7.out _ (HBV.out _ kk.le)).1
                  have ca1 : ∀ kk : LW WG, kk.val.cell? ⟨wo.heap.size, 1, none⟩ = some (.int .i64 id) := fun kk => (HAC.out _ _ (HBX5.out.later (HBV.out _ kk.le))).1.2.1
                  clear HLG2 HBG HBH
                  by_cases hyi : y.1 = id
                  · have b1 : (y.1 != id) = false := by rw [hyi]; simp
                    have b2 : (y.1 == id) = true := beq_iff_eq.2 hyi
                    clear hyi HSTT HXE HEC HYE HQ
                    generalize y.1 = yi at *
                    go_wp2_with (first
                      | (have RP1 := THG
                         refine wpList_store_mid rfl 44 (.tmp 15) (.tmp 134) rfl wg.heap.size 0 X.toArray rfl rfl (by simpa [HXL.out] using THG) (by simpa [HXL.out] using info_card) (all_oneCell_toArray HX1.out) ?_
                         rw [← HZZ.out, ← HWG.out]
                         clear THG RP1)
                      | fail)
                    refine wp_region_steady [] 157 (by kernel_rfl) (by kernel_rfl) (by kernel_rfl) (by rfl) ?_
                    iterate 9 (refine wpG_quiet (by rfl) (by rfl) (by rfl) (fun K hK => ?_); go_big_quiet_op; refine hK _ ?_; clear hK K)
                    iterate 10 (refine wpG_skip (by rfl) ?_; simp only [Act.put, List.setIfInBounds_toArray, List.set_cons_zero, List.set_cons_succ])
                    iterate 1 (refine wpG_quiet (by rfl) (by rfl) (by rfl) (fun K hK => ?_); go_big_quiet_op; refine hK _ ?_; clear hK K)
                    refine wpG_nil fun w8 hl _ => ?_
                    have HB8 := Lib.hid (HBV.out w8 hl)
                    clear c7k ca1 hl HBV
                    go_wp2_with fail
                    go_roundw
                    case rel => exact ⟨t + 1, by omega, by go_num, HB8⟩
                    case measure => simp [iOf]; omega
                  · have b1 : (y.1 != id) = true := bne_iff_ne.2 hyi
                    have b2 : (y.1 == id) = false := beq_eq_false_iff_ne.2 hyi
                    have hsg := HSTT.out hyi
                    have hXY : X = Y := by rw [HXE.out, HYE.out, hsg]
                    have hec0 : ec = 0 := by rw [← HEC.out, hsg]
                    subst hXY hec0
                    clear hyi HSTT HXE HEC HYE hsg
                    generalize y.1 = yi at *
                    go_wp2_with (first
                      | (have RP1 := THG
                         refine wpList_store_mid rfl 44 (.tmp 15) (.tmp 134) rfl wg.heap.size 0 X.toArray rfl rfl (by simpa [HXL.out] using THG) (by simpa [HXL.out] using info_card) (all_oneCell_toArray HX1.out) ?_
                         rw [← HZZ.out, ← HWG.out]
                         clear THG RP1)
                      | fail)
                    refine wp_region_steady [] 157 (by kernel_rfl) (by kernel_rfl) (by kernel_rfl) (by rfl) ?_
                    iterate 12 (refine wpG_quiet (by rfl) (by rfl) (by rfl) (fun K hK => ?_); go_big_quiet_op; refine hK _ ?_; clear hK K)
                    refine wpG_run (by rfl) (by rfl) (.agg X.toArray) (fun wx hl => exec_load 44 (.tmp 15) rfl wg.heap.size 0 rfl X _ ((HKG.out.later hl.1).wholeC) huc rfl (by rw [HXL.out]; exact info_card)) ?_
                    simp only [Act.put, List.setIfInBounds_toArray, List.set_cons_zero, List.set_cons_succ]
                    iterate 3 (refine wpG_quiet (by rfl) (by rfl) (by rfl) (fun K hK => ?_); go_big_quiet_op; refine hK _ ?_; clear hK K)
                    refine wpG_run (by rfl) (by rfl) (.agg X.toArray) (fun wx hl => exec_load 44 (.tmp 151) rfl b7 (o7 + t * 27) rfl X _ (HCC7.out wx (HBV.out wx hl.1)).2 huc rfl (by rw [HXL.out]; exact info_card)) ?_
                    simp only [Act.put, List.setIfInBounds_toArray, List.set_cons_zero, List.set_cons_succ]
                    refine wpG_run (by rfl) (by rfl) (.bool false) (fun wx hl => exec_neq 44 _ (.tmp 148) (.tmp 152) rfl _ _ rfl rfl guard_card true (HQ.out wx)) ?_
                    simp only [Act.put, List.setIfInBounds_toArray, List.set_cons_zero, List.set_cons_succ]
                    iterate 2 (refine wpG_quiet (by rfl) (by rfl) (by rfl) (fun K hK => ?_); go_big_quiet_op; refine hK _ ?_; clear hK K)
                    refine wpG_nil fun w8 hl _ => ?_
                    have HB8 := Lib.hid (HBV.out w8 hl)
                    clear c7k ca1 hl HBV
                    go_wp2_with fail
                    go_roundw
                    case rel => exact ⟨t + 1, by omega, by go_num, HB8⟩
                    case measure => simp [iOf]; omega
                · have dt : decide ((t : Int) < (m : Int)) = false := decide_eq_false (by omega)
                  have HSF := Lib.hid (HS5.out.later HBQ.out)
                  have HBF := Lib.hid (HB5.out.trans (HBQ.out.mono HB5.out.size))
                  clear HCW HST
                  go_wp2_with fail
                  go_roundw
                  case rel => exact ⟨k + 1, last, s', N', r', by omega, by omega, by go_num, (by first | rfl | (congr 1; omega) | (have h9 := HL0.out; congr 1; omega)), HLAST.out, by omega, HSO', HSF, HBF⟩
                  case measure => simp [iOf]; omega
      · have d1 : decide ((k : Int) < 200) = false := decide_eq_false (by omega)
        have d1' : decide (k < 200) = false := decide_eq_false hlt2
        clear HCE HOK HSO HS
        go_wp2_with fail
        refine (HAW.out _).mono ?_
        rintro e w29 ⟨rfl, hb⟩
        have HB29 := Lib.hid (HB.out.trans (hb.mono HB.out.size))
        clear hb
        go_wp2_with fail
        go_ret
        exact ⟨rfl, HB29.out⟩
    · have d0 : decide ((k : Int) < (n : Int)) = false := decide_eq_false (by omega)
      clear HCE HOK HSO HS
      go_wp2_with fail
      refine (HAW.out _).mono ?_
      rintro e w29 ⟨rfl, hb⟩
      have HB29 := Lib.hid (HB.out.trans (hb.mono HB.out.size))
      clear hb
      go_wp2_with fail
      go_ret
      exact ⟨rfl, HB29.out⟩
end Go.Proofs.Ytgkpbkedaddekaa
