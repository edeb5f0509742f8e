/- TokenBack: the walk. -/
import Derived.Test.YticdpfjajkfheaaDoorM11
namespace Go.Proofs.YticdpfjajkfheaaDoor
set_option linter.unusedVariables false
set_option linter.unusedSimpArgs false
open Go Go.RowKit BitM MskM OctM

theorem three_ranges {w : World} {g : Nat} (a b c : List Value) (ha : a.length = 4) (hb : b.length = 4) (hc : c.length = 4) (h : Blk w g (a ++ b ++ c)) : w.rangeAt g 0 a ∧ w.rangeAt g 4 b ∧ w.rangeAt g 8 c := by
  refine ⟨h.range 0 a ?_, h.range 4 b ?_, h.range 8 c ?_⟩
  · rw [List.append_assoc, List.drop_zero, List.take_left' rfl]
  · rw [List.append_assoc, List.drop_left' ha, List.take_left' rfl]
  · rw [List.drop_left' (by rw [List.length_append, ha, hb]), List.take_of_length_le (by omega)]

set_option maxRecDepth 100000 in
set_option maxHeartbeats 6400000 in
theorem walk_tokback (a b c d e f g i j k l m : Int) (mm : Int) (w : World) (hmm : w.cell? ⟨0, 0, none⟩ = some (.int .i64 mm)) (ht : Tab w) :
    Calls Tryd.prog 7 #[.agg (tks a b c d ++ tks e f g i ++ tks j k l m).toArray] w fun e w' => e = .returned (.bool true) ∧ Below w.heap.size w w' := by
  have HAW := Lib.hid (fun (wx : World) (hb : Below w.heap.size w wx) => tok_awake wx (ht.later hb))
  have hu := Tryd.underlying42
  have B := Blk.new w (tks a b c d ++ tks e f g i ++ tks j k l m) 62
  have hb := (Below.refl w.heap.size w).alloc (Nat.le_refl _) (.cells (tks a b c d ++ tks e f g i ++ tks j k l m).toArray 62)
  have G01 := Lib.hid (fun wx : World => tgoes_any a b c d e f g i wx)
  have G12 := Lib.hid (fun wx : World => tgoes_any e f g i j k l m wx)
  have G02 := Lib.hid (fun wx : World => tgoes_any a b c d j k l m wx)
  have G00 := Lib.hid (fun wx : World => tgoes_any a b c d a b c d wx)
  have HRC := Lib.hid (fun wx : World => rtcheck_any a b c d wx)
  have HS := Lib.hid (fun (wx : World) (hx : Below w.heap.size w wx) => tshow_any a b c d wx (ht.later hx))
  have HPU := Lib.hid (fun (wx : World) => tput_any a b c d none 0 0 [] wx rfl Sees.nil_ (by omega))
  have HPA := Lib.hid (fun (wx : World) (hx : Below w.heap.size w wx) => tparse_any (str (tsh a b c d)) mm wx (by
    by_cases hk : tchk a b c d = true
    · have := tsh_len a b c d hk
      unfold tsh
      rw [if_neg (by rw [hk]; simp), str_size]
      omega
    · rw [tsh_off (by simpa using hk), str_size]; simp) (max_later (B := 0) hmm hx) (ht.later hx))
  have HTR : Hid (tgo a b c d e f g i = true → tgo e f g i j k l m = true → tgo a b c d j k l m = true) := Lib.hid tgo_trans
  obtain ⟨g01, hg01⟩ : ∃ z, z = tgo a b c d e f g i := ⟨_, rfl⟩
  obtain ⟨g12, hg12⟩ : ∃ z, z = tgo e f g i j k l m := ⟨_, rfl⟩
  obtain ⟨g02, hg02⟩ : ∃ z, z = tgo a b c d j k l m := ⟨_, rfl⟩
  obtain ⟨g00, hg00⟩ : ∃ z, z = tgo a b c d a b c d := ⟨_, rfl⟩
  obtain ⟨ok, hok⟩ : ∃ z, z = tchk a b c d := ⟨_, rfl⟩
  rw [← hg01] at G01 HTR
  rw [← hg12] at G12 HTR
  rw [← hg02] at G02 HTR
  rw [← hg00] at G00
  rw [← hok] at HRC
  have HOF : Hid (ok = false → str (tsh a b c d) = ⟨#[]⟩ ∧ tbs a b c d = []) := Lib.hid (fun h => ⟨by rw [tsh_off (by rw [← hok]; exact h)]; rfl, by unfold tbs; rw [if_pos (by rw [← hok]; exact h)]⟩)
  have HOT : Hid (ok = true → g00 = true ∧ tokOut (tbs a b c d) 0 0 = ((a.toNat, b.toNat, c.toNat, d.toNat), (tbs a b c d).length, 0) ∧ tk4 (a.toNat, b.toNat, c.toNat, d.toNat) = tks a b c d ∧ tpv (tsh a b c d) = ((a, b, c, d), true)) := Lib.hid (fun h => by
    have hk : tchk a b c d = true := by rw [← hok]; exact h
    exact ⟨by rw [hg00]; exact tgo_self hk, tokOut_tbs hk, tk4_nat hk, tpv_tsh hk⟩)
  have hlb := tbs_len a b c d
  have HRD := Lib.hid (fun (gr : Nat) (base : Nat) (wx : World) (h : Rd wx base gr (tbs a b c d) 0 0) => rd_tok base gr (tbs a b c d) 0 0 wx h (Nat.zero_le _) (by omega))
  have hdata : (str (tsh a b c d)).data.toList = tsh a b c d := rfl
  rw [hdata] at HPA
  obtain ⟨sh, hsh⟩ : ∃ z, z = str (tsh a b c d) := ⟨_, rfl⟩
  rw [← hsh] at HS HPA HOF
  obtain ⟨p0, hp0⟩ : ∃ z, z = tks a b c d := ⟨_, rfl⟩
  obtain ⟨p1, hp1⟩ : ∃ z, z = tks e f g i := ⟨_, rfl⟩
  obtain ⟨p2, hp2⟩ : ∃ z, z = tks j k l m := ⟨_, rfl⟩
  have HP0 := Lib.hid hp0
  rw [← hp0] at B hb G01 G02 G00 HRC HS HPU ⊢
  rw [← hp1] at B hb G01 G12 ⊢
  rw [← hp2] at B hb G12 G02 ⊢
  have H0 : Hid (p0.length = 4) := Lib.hid (by rw [hp0]; rfl)
  have H1 : Hid (p1.length = 4) := Lib.hid (by rw [hp1]; rfl)
  have H2 : Hid (p2.length = 4) := Lib.hid (by rw [hp2]; rfl)
  obtain ⟨pc, hpc⟩ : ∃ z, z = p0 ++ p1 ++ p2 := ⟨_, rfl⟩
  rw [← hpc] at B hb ⊢
  have RNG : Hid (∀ wx, Blk wx w.heap.size pc → wx.rangeAt w.heap.size 0 p0 ∧ wx.rangeAt w.heap.size 4 p1 ∧ wx.rangeAt w.heap.size 8 p2) := Lib.hid (fun wx h => three_ranges p0 p1 p2 H0.out H1.out H2.out (hpc ▸ h))
  obtain ⟨bt, hbt⟩ : ∃ z, z = tbs a b c d := ⟨_, rfl⟩
  rw [← hbt] at HPU HOF HOT HRD hlb
  obtain ⟨nb, hnb⟩ : ∃ z, z = bt.length := ⟨_, rfl⟩
  have HPU2 : Hid (∀ wx : World, Calls Tryd.prog 23 #[.slice none 0 0, .agg p0.toArray] wx fun e w' => ∃ A c, e = .returned (.slice A nb c) ∧ Sees w' w'.heap.size A (bvs bt) ∧ Below wx.heap.size wx w') := Lib.hid (fun wx => by
    have h := HPU.out wx
    rw [List.nil_append] at h
    rw [hnb]
    exact h)
  have HNW : Hid (∀ (A : Option Addr) (c : Nat) (wx : World), Sees wx wx.heap.size A (bvs bt) → Calls Tryd.prog 27 #[.slice A nb c] wx fun e w' => ∃ g, e = .returned (.pointer (some ⟨g, 0, none⟩)) ∧ Rd w' wx.heap.size g bt 0 0 ∧ Below wx.heap.size wx w') := Lib.hid (fun A c wx hs => rd_new A nb c bt wx hnb.symm hs (by omega))
  have HRD2 : Hid (ok = true → ∀ (gr base : Nat) (wx : World), Rd wx base gr bt 0 0 → Calls Tryd.prog 28 #[.pointer (some ⟨gr, 0, none⟩)] wx fun x w' => x = .returned (.agg p0.toArray) ∧ Rd w' base gr bt nb 0 ∧ wx.grownBy w' (some gr)) := Lib.hid (fun h gr base wx hr => by
    have h1 := HRD.out gr base wx hr
    rw [(HOT.out h).2.1] at h1
    simp only at h1
    rw [(HOT.out h).2.2.1, ← HP0.out, ← hnb] at h1
    exact h1)
  have HEN : Hid (∀ (gr base : Nat) (wx : World), Rd wx base gr bt nb 0 → Calls Tryd.prog 32 #[.pointer (some ⟨gr, 0, none⟩)] wx fun x w' => x = .returned (.int .i64 0) ∧ ∃ k, w' = wx.drewN k) := Lib.hid (fun gr base wx hr => by
    have h1 := rd_end base gr bt nb 0 wx hr (by omega) (by omega)
    have e : endOut bt.length nb 0 = 0 := by unfold endOut; rw [if_neg (by simp), if_neg (by omega)]
    rw [e] at h1
    exact h1)
  have HPA2 : Hid (ok = true → ∀ wx : World, Below w.heap.size w wx → Calls Tryd.prog 15 #[.string sh] wx fun e w' => e = .returned (.tuple #[.agg p0.toArray, .bool true]) ∧ Below wx.heap.size wx w') := Lib.hid (fun h wx hx => by
    have h1 := HPA.out wx hx
    rw [(HOT.out h).2.2.2] at h1
    rw [HP0.out]
    exact h1)
  have HB0 : Hid (ok = false → sh = ⟨#[]⟩ ∧ nb = 0) := Lib.hid (fun h => ⟨(HOF.out h).1, by rw [hnb, (HOF.out h).2]; rfl⟩)
  have HG0 : Hid (ok = true → g00 = true) := Lib.hid (fun h => (HOT.out h).1)
  have O0 : p0.toArray.all (·.oneCell') = true := by rw [HP0.out]; exact tks_one a b c d
  clear HPU HRD HPA HOF HOT hlb hnb
  clear hpc hp0 hp1 hp2 hg01 hg12 hg02 hg00 hok hsh hdata hbt ht hmm
  obtain ⟨R0, R1, R2⟩ := RNG.out _ B
  cases g01
  · skip
    cases ok
    · skip
      obtain ⟨rfl, rfl⟩ := HB0.out rfl
      go_enter Tryd.func7, Tryd.ntmps7
      go_wp2_with (first
        | (refine wpList_load_g (by rfl) 42 (.tmp 7) rfl w.heap.size 0 rfl p0 _ R0 hu rfl (by rw [H0.out]; exact info_tok) ?_)
        | (refine wpList_load_g (by rfl) 42 (.tmp 9) rfl w.heap.size 4 rfl p1 _ R1 hu rfl (by rw [H1.out]; exact info_tok) ?_)
        | fail)
      refine (G01.out _).mono ?_
      rintro e w1 ⟨rfl, hb1⟩
      replace B := B.later hb1
      replace hb := hb.trans (hb1.mono hb.size)
      clear R0 R1 R2
      obtain ⟨R0, R1, R2⟩ := RNG.out _ B
      go_wp2_with (first
        | (refine wpList_load_g (by rfl) 42 (.tmp 27) rfl w.heap.size 0 rfl p0 _ R0 hu rfl (by rw [H0.out]; exact info_tok) ?_)
        | fail)
      refine (HRC.out _).mono ?_
      rintro e w4 ⟨rfl, hb4⟩
      replace B := B.later hb4
      replace hb := hb.trans (hb4.mono hb.size)
      clear R0 R1 R2
      obtain ⟨R0, R1, R2⟩ := RNG.out _ B
      go_wp2_with (first
        | (refine wpList_load_g (by rfl) 42 (.tmp 31) rfl w.heap.size 0 rfl p0 _ R0 hu rfl (by rw [H0.out]; exact info_tok) ?_)
        | fail)
      refine (HS.out _ hb).mono ?_
      rintro e w5 ⟨rfl, hb5⟩
      replace B := B.later hb5
      replace hb := hb.trans (hb5.mono hb.size)
      clear R0 R1 R2
      obtain ⟨R0, R1, R2⟩ := RNG.out _ B
      go_wp2_with (first
        | (refine wpList_load_g (by rfl) 42 (.tmp 36) rfl w.heap.size 0 rfl p0 _ R0 hu rfl (by rw [H0.out]; exact info_tok) ?_)
        | fail)
      refine (HPU2.out _).mono ?_
      rintro e w6 ⟨A6, c6, rfl, s6, hb6⟩
      replace hb := hb.trans (hb6.mono hb.size)
      clear R0 R1 R2 s6
      go_wp2_with fail
      refine (HAW.out _ hb).mono ?_
      rintro e w7 ⟨rfl, hb7⟩
      replace hb := hb.trans (hb7.mono hb.size)
      go_wp2_with fail
      go_ret
      exact ⟨rfl, hb⟩
    · skip
      obtain rfl := HG0.out rfl
      go_enter Tryd.func7, Tryd.ntmps7
      go_wp2_with (first
        | (refine wpList_load_g (by rfl) 42 (.tmp 7) rfl w.heap.size 0 rfl p0 _ R0 hu rfl (by rw [H0.out]; exact info_tok) ?_)
        | (refine wpList_load_g (by rfl) 42 (.tmp 9) rfl w.heap.size 4 rfl p1 _ R1 hu rfl (by rw [H1.out]; exact info_tok) ?_)
        | fail)
      refine (G01.out _).mono ?_
      rintro e w1 ⟨rfl, hb1⟩
      replace B := B.later hb1
      replace hb := hb.trans (hb1.mono hb.size)
      clear R0 R1 R2
      obtain ⟨R0, R1, R2⟩ := RNG.out _ B
      go_wp2_with (first
        | (refine wpList_load_g (by rfl) 42 (.tmp 27) rfl w.heap.size 0 rfl p0 _ R0 hu rfl (by rw [H0.out]; exact info_tok) ?_)
        | fail)
      refine (HRC.out _).mono ?_
      rintro e w4 ⟨rfl, hb4⟩
      replace B := B.later hb4
      replace hb := hb.trans (hb4.mono hb.size)
      clear R0 R1 R2
      obtain ⟨R0, R1, R2⟩ := RNG.out _ B
      go_wp2_with (first
        | (refine wpList_load_g (by rfl) 42 (.tmp 45) rfl w.heap.size 0 rfl p0 _ R0 hu rfl (by rw [H0.out]; exact info_tok) ?_)
        | fail)
      refine (HPU2.out _).mono ?_
      rintro e w5 ⟨A5, c5, rfl, s5, hb5⟩
      replace B := B.later hb5
      replace hb := hb.trans (hb5.mono hb.size)
      clear R0 R1 R2
      go_wp2_with fail
      refine (HNW.out _ _ _ s5).mono ?_
      rintro e w6 ⟨gr, rfl, RD, hb6⟩
      have hgr := RD.block
      have hgw : w.heap.size < gr := by have := B.lt; omega
      replace B := B.later hb6
      replace hb := hb.trans (hb6.mono hb.size)
      clear s5 hgr
      go_wp2_with fail
      refine (HRD2.out (by first | rfl | trivial) _ _ _ RD).mono ?_
      rintro e w7 ⟨rfl, RD7, gb7⟩
      replace B := B.kept gb7 (by simp; omega)
      replace hb := hb.grown gb7 hb.size (fun k hk => by cases hk; omega)
      obtain ⟨g4, hg4⟩ : ∃ z, z = w7.heap.size := ⟨_, rfl⟩
      have hx4 := hb.size
      have N4 := Blk.new w7 (tks 0 0 0 0) 42
      rw [← hg4] at N4
      have T4 := N4.there 0 p0.length (by rw [H0.out]; exact Nat.le_refl _)
      replace N4 := N4.wholeT (ds := p0) (by rw [H0.out]; rfl)
      have ngb4 : g4 ≠ w.heap.size := by have := B.lt; omega
      have MB4 := (B.alloc (.cells (tks 0 0 0 0).toArray 42)).setsOther (b := g4) ngb4 p0 0
      have ML4 : Le w7 (World.setCells (w7.alloc (.cells (tks 0 0 0 0).toArray 42)) g4 0 p0) := below_sets (by omega) _ 0 ((Below.refl w7.heap.size w7).alloc (Nat.le_refl _) _)
      have HG4 := Lib.hid hg4
      clear hg4 hx4
      go_wp2_with (first
        | (rw [← HG4.out]
           refine wpList_store_mid rfl 42 (.tmp 4) (.tmp 50) rfl g4 0 p0.toArray rfl rfl T4 (by rw [List.size_toArray, H0.out]; exact info_tok) O0 ?_
           simp only [Act.put]
           generalize hw4 : World.setCells _ g4 0 p0.toArray.toList = u4
           have B4 : Blk u4 g4 p0 := hw4 ▸ N4
           have B' : Blk u4 w.heap.size pc := hw4 ▸ MB4
           have hl4 : Le w7 u4 := hw4 ▸ ML4
           have hb' := hb.trans (hl4.mono hb.size)
           have RD' := RD7.later hl4
           obtain ⟨R0, R1, R2⟩ := RNG.out _ B'
           clear MB4 ML4
           clear hw4 N4 T4)
        | (refine wpList_load_g (by rfl) 42 (.tmp 52) rfl w.heap.size 0 rfl p0 _ R0 hu rfl (by rw [H0.out]; exact info_tok) ?_)
        | fail)
      refine (HS.out _ hb').mono ?_
      rintro e w8 ⟨rfl, hb8⟩
      have B := B'.later hb8
      have hb := hb'.trans (hb8.mono hb'.size)
      have RD := RD'.later hb8
      replace B4 := B4.later hb8
      clear R0 R1 R2
      go_wp2_with fail
      refine (HPA2.out (by first | rfl | trivial) _ hb).mono ?_
      rintro e w9 ⟨rfl, hb9⟩
      replace B := B.later hb9
      replace hb := hb.trans (hb9.mono hb.size)
      replace RD := RD.later hb9
      replace B4 := B4.later hb9
      obtain ⟨g5, hg5⟩ : ∃ z, z = w9.heap.size := ⟨_, rfl⟩
      have hx5 := hb.size
      have N5 := Blk.new w9 (tks 0 0 0 0) 42
      rw [← hg5] at N5
      have T5 := N5.there 0 p0.length (by rw [H0.out]; exact Nat.le_refl _)
      replace N5 := N5.wholeT (ds := p0) (by rw [H0.out]; rfl)
      have ngb5 : g5 ≠ w.heap.size := by have := B.lt; omega
      have MB5 := (B.alloc (.cells (tks 0 0 0 0).toArray 42)).setsOther (b := g5) ngb5 p0 0
      have ML5 : Le w9 (World.setCells (w9.alloc (.cells (tks 0 0 0 0).toArray 42)) g5 0 p0) := below_sets (by omega) _ 0 ((Below.refl w9.heap.size w9).alloc (Nat.le_refl _) _)
      have HG5 := Lib.hid hg5
      clear hg5 hx5
      have hl4 := B4.lt
      have n45 : g5 ≠ g4 := by have := HG5.out; omega
      have MD5 := (B4.alloc (.cells (tks 0 0 0 0).toArray 42)).setsOther (b := g5) n45 p0 0
      go_wp2_with (first
        | (rw [← HG5.out]
           refine wpList_store_mid rfl 42 (.tmp 5) (.tmp 56) rfl g5 0 p0.toArray rfl rfl T5 (by rw [List.size_toArray, H0.out]; exact info_tok) O0 ?_
           simp only [Act.put]
           generalize hw5 : World.setCells _ g5 0 p0.toArray.toList = u5
           have B5 : Blk u5 g5 p0 := hw5 ▸ N5
           have B'' : Blk u5 w.heap.size pc := hw5 ▸ MB5
           have B4' : Blk u5 g4 p0 := hw5 ▸ MD5
           have hl5 : Le w9 u5 := hw5 ▸ ML5
           have hb'' := hb.trans (hl5.mono hb.size)
           have RD'' := RD.later hl5
           obtain ⟨R0, R1, R2⟩ := RNG.out _ B''
           have R4 := B4'.range 0 p0 (by rw [List.drop_zero, List.take_length])
           clear MB5 ML5 MD5
           clear hw5 N5 T5)
        | (refine wpList_load_g (by rfl) 42 (.tmp 4) rfl g4 0 rfl p0 _ R4 hu rfl (by rw [H0.out]; exact info_tok) ?_)
        | (refine wpList_load_g (by rfl) 42 (.tmp 59) rfl w.heap.size 0 rfl p0 _ R0 hu rfl (by rw [H0.out]; exact info_tok) ?_)
        | (refine wpList_exec (by rfl) (.bool true) (exec_eql 42 _ (.tmp 58) (.tmp 60) rfl _ _ rfl rfl guard_tok true (by rw [HP0.out]; exact eq_tok 9998 a b c d _)) ?_)
        | fail)
      refine (HEN.out _ _ _ RD'').mono ?_
      rintro e w10 ⟨rfl, ⟨k10, rfl⟩⟩
      have BX := B''.drewN k10
      have B5X := B5.drewN k10
      have hbX : Below w.heap.size w (u5.drewN k10) := below_drewN hb'' k10
      clear R0 R1 R2 R4
      obtain ⟨R0, R1, R2⟩ := RNG.out _ BX
      have R5 := B5X.range 0 p0 (by rw [List.drop_zero, List.take_length])
      go_wp2_with (first
        | (refine wpList_load_g (by rfl) 42 (.tmp 5) rfl g5 0 rfl p0 _ R5 hu rfl (by rw [H0.out]; exact info_tok) ?_)
        | (refine wpList_load_g (by rfl) 42 (.tmp 69) rfl w.heap.size 0 rfl p0 _ R0 hu rfl (by rw [H0.out]; exact info_tok) ?_)
        | (refine wpList_exec (by rfl) (.bool true) (exec_eql 42 _ (.tmp 68) (.tmp 70) rfl _ _ rfl rfl guard_tok true (by rw [HP0.out]; exact eq_tok 9998 a b c d _)) ?_)
        | (refine wpList_load_g (by rfl) 42 (.tmp 77) rfl w.heap.size 0 rfl p0 _ R0 hu rfl (by rw [H0.out]; exact info_tok) ?_)
        | (refine wpList_load_g (by rfl) 42 (.tmp 79) rfl w.heap.size 0 rfl p0 _ R0 hu rfl (by rw [H0.out]; exact info_tok) ?_)
        | fail)
      refine (G00.out _).mono ?_
      rintro e w11 ⟨rfl, hb11⟩
      have hbY := hbX.trans (hb11.mono hbX.size)
      go_wp2_with fail
      refine (HAW.out _ hbY).mono ?_
      rintro e w12 ⟨rfl, hb12⟩
      have hbZ := hbY.trans (hb12.mono hbY.size)
      go_wp2_with fail
      go_ret
      exact ⟨rfl, hbZ⟩
  · cases g12
    · skip
      cases ok
      · skip
        obtain ⟨rfl, rfl⟩ := HB0.out rfl
        go_enter Tryd.func7, Tryd.ntmps7
        go_wp2_with (first
          | (refine wpList_load_g (by rfl) 42 (.tmp 7) rfl w.heap.size 0 rfl p0 _ R0 hu rfl (by rw [H0.out]; exact info_tok) ?_)
          | (refine wpList_load_g (by rfl) 42 (.tmp 9) rfl w.heap.size 4 rfl p1 _ R1 hu rfl (by rw [H1.out]; exact info_tok) ?_)
          | fail)
        refine (G01.out _).mono ?_
        rintro e w1 ⟨rfl, hb1⟩
        replace B := B.later hb1
        replace hb := hb.trans (hb1.mono hb.size)
        clear R0 R1 R2
        obtain ⟨R0, R1, R2⟩ := RNG.out _ B
        go_wp2_with (first
          | (refine wpList_load_g (by rfl) 42 (.tmp 13) rfl w.heap.size 4 rfl p1 _ R1 hu rfl (by rw [H1.out]; exact info_tok) ?_)
          | (refine wpList_load_g (by rfl) 42 (.tmp 15) rfl w.heap.size 8 rfl p2 _ R2 hu rfl (by rw [H2.out]; exact info_tok) ?_)
          | fail)
        refine (G12.out _).mono ?_
        rintro e w2 ⟨rfl, hb2⟩
        replace B := B.later hb2
        replace hb := hb.trans (hb2.mono hb.size)
        clear R0 R1 R2
        obtain ⟨R0, R1, R2⟩ := RNG.out _ B
        go_wp2_with (first
          | (refine wpList_load_g (by rfl) 42 (.tmp 27) rfl w.heap.size 0 rfl p0 _ R0 hu rfl (by rw [H0.out]; exact info_tok) ?_)
          | fail)
        refine (HRC.out _).mono ?_
        rintro e w4 ⟨rfl, hb4⟩
        replace B := B.later hb4
        replace hb := hb.trans (hb4.mono hb.size)
        clear R0 R1 R2
        obtain ⟨R0, R1, R2⟩ := RNG.out _ B
        go_wp2_with (first
          | (refine wpList_load_g (by rfl) 42 (.tmp 31) rfl w.heap.size 0 rfl p0 _ R0 hu rfl (by rw [H0.out]; exact info_tok) ?_)
          | fail)
        refine (HS.out _ hb).mono ?_
        rintro e w5 ⟨rfl, hb5⟩
        replace B := B.later hb5
        replace hb := hb.trans (hb5.mono hb.size)
        clear R0 R1 R2
        obtain ⟨R0, R1, R2⟩ := RNG.out _ B
        go_wp2_with (first
          | (refine wpList_load_g (by rfl) 42 (.tmp 36) rfl w.heap.size 0 rfl p0 _ R0 hu rfl (by rw [H0.out]; exact info_tok) ?_)
          | fail)
        refine (HPU2.out _).mono ?_
        rintro e w6 ⟨A6, c6, rfl, s6, hb6⟩
        replace hb := hb.trans (hb6.mono hb.size)
        clear R0 R1 R2 s6
        go_wp2_with fail
        refine (HAW.out _ hb).mono ?_
        rintro e w7 ⟨rfl, hb7⟩
        replace hb := hb.trans (hb7.mono hb.size)
        go_wp2_with fail
        go_ret
        exact ⟨rfl, hb⟩
      · skip
        obtain rfl := HG0.out rfl
        go_enter Tryd.func7, Tryd.ntmps7
        go_wp2_with (first
          | (refine wpList_load_g (by rfl) 42 (.tmp 7) rfl w.heap.size 0 rfl p0 _ R0 hu rfl (by rw [H0.out]; exact info_tok) ?_)
          | (refine wpList_load_g (by rfl) 42 (.tmp 9) rfl w.heap.size 4 rfl p1 _ R1 hu rfl (by rw [H1.out]; exact info_tok) ?_)
          | fail)
        refine (G01.out _).mono ?_
        rintro e w1 ⟨rfl, hb1⟩
        replace B := B.later hb1
        replace hb := hb.trans (hb1.mono hb.size)
        clear R0 R1 R2
        obtain ⟨R0, R1, R2⟩ := RNG.out _ B
        go_wp2_with (first
          | (refine wpList_load_g (by rfl) 42 (.tmp 13) rfl w.heap.size 4 rfl p1 _ R1 hu rfl (by rw [H1.out]; exact info_tok) ?_)
          | (refine wpList_load_g (by rfl) 42 (.tmp 15) rfl w.heap.size 8 rfl p2 _ R2 hu rfl (by rw [H2.out]; exact info_tok) ?_)
          | fail)
        refine (G12.out _).mono ?_
        rintro e w2 ⟨rfl, hb2⟩
        replace B := B.later hb2
        replace hb := hb.trans (hb2.mono hb.size)
        clear R0 R1 R2
        obtain ⟨R0, R1, R2⟩ := RNG.out _ B
        go_wp2_with (first
          | (refine wpList_load_g (by rfl) 42 (.tmp 27) rfl w.heap.size 0 rfl p0 _ R0 hu rfl (by rw [H0.out]; exact info_tok) ?_)
          | fail)
        refine (HRC.out _).mono ?_
        rintro e w4 ⟨rfl, hb4⟩
        replace B := B.later hb4
        replace hb := hb.trans (hb4.mono hb.size)
        clear R0 R1 R2
        obtain ⟨R0, R1, R2⟩ := RNG.out _ B
        go_wp2_with (first
          | (refine wpList_load_g (by rfl) 42 (.tmp 45) rfl w.heap.size 0 rfl p0 _ R0 hu rfl (by rw [H0.out]; exact info_tok) ?_)
          | fail)
        refine (HPU2.out _).mono ?_
        rintro e w5 ⟨A5, c5, rfl, s5, hb5⟩
        replace B := B.later hb5
        replace hb := hb.trans (hb5.mono hb.size)
        clear R0 R1 R2
        go_wp2_with fail
        refine (HNW.out _ _ _ s5).mono ?_
        rintro e w6 ⟨gr, rfl, RD, hb6⟩
        have hgr := RD.block
        have hgw : w.heap.size < gr := by have := B.lt; omega
        replace B := B.later hb6
        replace hb := hb.trans (hb6.mono hb.size)
        clear s5 hgr
        go_wp2_with fail
        refine (HRD2.out (by first | rfl | trivial) _ _ _ RD).mono ?_
        rintro e w7 ⟨rfl, RD7, gb7⟩
        replace B := B.kept gb7 (by simp; omega)
        replace hb := hb.grown gb7 hb.size (fun k hk => by cases hk; omega)
        obtain ⟨g4, hg4⟩ : ∃ z, z = w7.heap.size := ⟨_, rfl⟩
        have hx4 := hb.size
        have N4 := Blk.new w7 (tks 0 0 0 0) 42
        rw [← hg4] at N4
        have T4 := N4.there 0 p0.length (by rw [H0.out]; exact Nat.le_refl _)
        replace N4 := N4.wholeT (ds := p0) (by rw [H0.out]; rfl)
        have ngb4 : g4 ≠ w.heap.size := by have := B.lt; omega
        have MB4 := (B.alloc (.cells (tks 0 0 0 0).toArray 42)).setsOther (b := g4) ngb4 p0 0
        have ML4 : Le w7 (World.setCells (w7.alloc (.cells (tks 0 0 0 0).toArray 42)) g4 0 p0) := below_sets (by omega) _ 0 ((Below.refl w7.heap.size w7).alloc (Nat.le_refl _) _)
        have HG4 := Lib.hid hg4
        clear hg4 hx4
        go_wp2_with (first
          | (rw [← HG4.out]
             refine wpList_store_mid rfl 42 (.tmp 4) (.tmp 50) rfl g4 0 p0.toArray rfl rfl T4 (by rw [List.size_toArray, H0.out]; exact info_tok) O0 ?_
             simp only [Act.put]
             generalize hw4 : World.setCells _ g4 0 p0.toArray.toList = u4
             have B4 : Blk u4 g4 p0 := hw4 ▸ N4
             have B' : Blk u4 w.heap.size pc := hw4 ▸ MB4
             have hl4 : Le w7 u4 := hw4 ▸ ML4
             have hb' := hb.trans (hl4.mono hb.size)
             have RD' := RD7.later hl4
             obtain ⟨R0, R1, R2⟩ := RNG.out _ B'
             clear MB4 ML4
             clear hw4 N4 T4)
          | (refine wpList_load_g (by rfl) 42 (.tmp 52) rfl w.heap.size 0 rfl p0 _ R0 hu rfl (by rw [H0.out]; exact info_tok) ?_)
          | fail)
        refine (HS.out _ hb').mono ?_
        rintro e w8 ⟨rfl, hb8⟩
        have B := B'.later hb8
        have hb := hb'.trans (hb8.mono hb'.size)
        have RD := RD'.later hb8
        replace B4 := B4.later hb8
        clear R0 R1 R2
        go_wp2_with fail
        refine (HPA2.out (by first | rfl | trivial) _ hb).mono ?_
        rintro e w9 ⟨rfl, hb9⟩
        replace B := B.later hb9
        replace hb := hb.trans (hb9.mono hb.size)
        replace RD := RD.later hb9
        replace B4 := B4.later hb9
        obtain ⟨g5, hg5⟩ : ∃ z, z = w9.heap.size := ⟨_, rfl⟩
        have hx5 := hb.size
        have N5 := Blk.new w9 (tks 0 0 0 0) 42
        rw [← hg5] at N5
        have T5 := N5.there 0 p0.length (by rw [H0.out]; exact Nat.le_refl _)
        replace N5 := N5.wholeT (ds := p0) (by rw [H0.out]; rfl)
        have ngb5 : g5 ≠ w.heap.size := by have := B.lt; omega
        have MB5 := (B.alloc (.cells (tks 0 0 0 0).toArray 42)).setsOther (b := g5) ngb5 p0 0
        have ML5 : Le w9 (World.setCells (w9.alloc (.cells (tks 0 0 0 0).toArray 42)) g5 0 p0) := below_sets (by omega) _ 0 ((Below.refl w9.heap.size w9).alloc (Nat.le_refl _) _)
        have HG5 := Lib.hid hg5
        clear hg5 hx5
        have hl4 := B4.lt
        have n45 : g5 ≠ g4 := by have := HG5.out; omega
        have MD5 := (B4.alloc (.cells (tks 0 0 0 0).toArray 42)).setsOther (b := g5) n45 p0 0
        go_wp2_with (first
          | (rw [← HG5.out]
             refine wpList_store_mid rfl 42 (.tmp 5) (.tmp 56) rfl g5 0 p0.toArray rfl rfl T5 (by rw [List.size_toArray, H0.out]; exact info_tok) O0 ?_
             simp only [Act.put]
             generalize hw5 : World.setCells _ g5 0 p0.toArray.toList = u5
             have B5 : Blk u5 g5 p0 := hw5 ▸ N5
             have B'' : Blk u5 w.heap.size pc := hw5 ▸ MB5
             have B4' : Blk u5 g4 p0 := hw5 ▸ MD5
             have hl5 : Le w9 u5 := hw5 ▸ ML5
             have hb'' := hb.trans (hl5.mono hb.size)
             have RD'' := RD.later hl5
             obtain ⟨R0, R1, R2⟩ := RNG.out _ B''
             have R4 := B4'.range 0 p0 (by rw [List.drop_zero, List.take_length])
             clear MB5 ML5 MD5
             clear hw5 N5 T5)
          | (refine wpList_load_g (by rfl) 42 (.tmp 4) rfl g4 0 rfl p0 _ R4 hu rfl (by rw [H0.out]; exact info_tok) ?_)
          | (refine wpList_load_g (by rfl) 42 (.tmp 59) rfl w.heap.size 0 rfl p0 _ R0 hu rfl (by rw [H0.out]; exact info_tok) ?_)
          | (refine wpList_exec (by rfl) (.bool true) (exec_eql 42 _ (.tmp 58) (.tmp 60) rfl _ _ rfl rfl guard_tok true (by rw [HP0.out]; exact eq_tok 9998 a b c d _)) ?_)
          | fail)
        refine (HEN.out _ _ _ RD'').mono ?_
        rintro e w10 ⟨rfl, ⟨k10, rfl⟩⟩
        have BX := B''.drewN k10
        have B5X := B5.drewN k10
        have hbX : Below w.heap.size w (u5.drewN k10) := below_drewN hb'' k10
        clear R0 R1 R2 R4
        obtain ⟨R0, R1, R2⟩ := RNG.out _ BX
        have R5 := B5X.range 0 p0 (by rw [List.drop_zero, List.take_length])
        go_wp2_with (first
          | (refine wpList_load_g (by rfl) 42 (.tmp 5) rfl g5 0 rfl p0 _ R5 hu rfl (by rw [H0.out]; exact info_tok) ?_)
          | (refine wpList_load_g (by rfl) 42 (.tmp 69) rfl w.heap.size 0 rfl p0 _ R0 hu rfl (by rw [H0.out]; exact info_tok) ?_)
          | (refine wpList_exec (by rfl) (.bool true) (exec_eql 42 _ (.tmp 68) (.tmp 70) rfl _ _ rfl rfl guard_tok true (by rw [HP0.out]; exact eq_tok 9998 a b c d _)) ?_)
          | (refine wpList_load_g (by rfl) 42 (.tmp 77) rfl w.heap.size 0 rfl p0 _ R0 hu rfl (by rw [H0.out]; exact info_tok) ?_)
          | (refine wpList_load_g (by rfl) 42 (.tmp 79) rfl w.heap.size 0 rfl p0 _ R0 hu rfl (by rw [H0.out]; exact info_tok) ?_)
          | fail)
        refine (G00.out _).mono ?_
        rintro e w11 ⟨rfl, hb11⟩
        have hbY := hbX.trans (hb11.mono hbX.size)
        go_wp2_with fail
        refine (HAW.out _ hbY).mono ?_
        rintro e w12 ⟨rfl, hb12⟩
        have hbZ := hbY.trans (hb12.mono hbY.size)
        go_wp2_with fail
        go_ret
        exact ⟨rfl, hbZ⟩
    · obtain rfl := HTR.out rfl rfl
      cases ok
      · skip
        obtain ⟨rfl, rfl⟩ := HB0.out rfl
        go_enter Tryd.func7, Tryd.ntmps7
        go_wp2_with (first
          | (refine wpList_load_g (by rfl) 42 (.tmp 7) rfl w.heap.size 0 rfl p0 _ R0 hu rfl (by rw [H0.out]; exact info_tok) ?_)
          | (refine wpList_load_g (by rfl) 42 (.tmp 9) rfl w.heap.size 4 rfl p1 _ R1 hu rfl (by rw [H1.out]; exact info_tok) ?_)
          | fail)
        refine (G01.out _).mono ?_
        rintro e w1 ⟨rfl, hb1⟩
        replace B := B.later hb1
        replace hb := hb.trans (hb1.mono hb.size)
        clear R0 R1 R2
        obtain ⟨R0, R1, R2⟩ := RNG.out _ B
        go_wp2_with (first
          | (refine wpList_load_g (by rfl) 42 (.tmp 13) rfl w.heap.size 4 rfl p1 _ R1 hu rfl (by rw [H1.out]; exact info_tok) ?_)
          | (refine wpList_load_g (by rfl) 42 (.tmp 15) rfl w.heap.size 8 rfl p2 _ R2 hu rfl (by rw [H2.out]; exact info_tok) ?_)
          | fail)
        refine (G12.out _).mono ?_
        rintro e w2 ⟨rfl, hb2⟩
        replace B := B.later hb2
        replace hb := hb.trans (hb2.mono hb.size)
        clear R0 R1 R2
        obtain ⟨R0, R1, R2⟩ := RNG.out _ B
        go_wp2_with (first
          | (refine wpList_load_g (by rfl) 42 (.tmp 20) rfl w.heap.size 0 rfl p0 _ R0 hu rfl (by rw [H0.out]; exact info_tok) ?_)
          | (refine wpList_load_g (by rfl) 42 (.tmp 22) rfl w.heap.size 8 rfl p2 _ R2 hu rfl (by rw [H2.out]; exact info_tok) ?_)
          | fail)
        refine (G02.out _).mono ?_
        rintro e w3 ⟨rfl, hb3⟩
        replace B := B.later hb3
        replace hb := hb.trans (hb3.mono hb.size)
        clear R0 R1 R2
        obtain ⟨R0, R1, R2⟩ := RNG.out _ B
        go_wp2_with (first
          | (refine wpList_load_g (by rfl) 42 (.tmp 27) rfl w.heap.size 0 rfl p0 _ R0 hu rfl (by rw [H0.out]; exact info_tok) ?_)
          | fail)
        refine (HRC.out _).mono ?_
        rintro e w4 ⟨rfl, hb4⟩
        replace B := B.later hb4
        replace hb := hb.trans (hb4.mono hb.size)
        clear R0 R1 R2
        obtain ⟨R0, R1, R2⟩ := RNG.out _ B
        go_wp2_with (first
          | (refine wpList_load_g (by rfl) 42 (.tmp 31) rfl w.heap.size 0 rfl p0 _ R0 hu rfl (by rw [H0.out]; exact info_tok) ?_)
          | fail)
        refine (HS.out _ hb).mono ?_
        rintro e w5 ⟨rfl, hb5⟩
        replace B := B.later hb5
        replace hb := hb.trans (hb5.mono hb.size)
        clear R0 R1 R2
        obtain ⟨R0, R1, R2⟩ := RNG.out _ B
        go_wp2_with (first
          | (refine wpList_load_g (by rfl) 42 (.tmp 36) rfl w.heap.size 0 rfl p0 _ R0 hu rfl (by rw [H0.out]; exact info_tok) ?_)
          | fail)
        refine (HPU2.out _).mono ?_
        rintro e w6 ⟨A6, c6, rfl, s6, hb6⟩
        replace hb := hb.trans (hb6.mono hb.size)
        clear R0 R1 R2 s6
        go_wp2_with fail
        refine (HAW.out _ hb).mono ?_
        rintro e w7 ⟨rfl, hb7⟩
        replace hb := hb.trans (hb7.mono hb.size)
        go_wp2_with fail
        go_ret
        exact ⟨rfl, hb⟩
      · skip
        obtain rfl := HG0.out rfl
        go_enter Tryd.func7, Tryd.ntmps7
        go_wp2_with (first
          | (refine wpList_load_g (by rfl) 42 (.tmp 7) rfl w.heap.size 0 rfl p0 _ R0 hu rfl (by rw [H0.out]; exact info_tok) ?_)
          | (refine wpList_load_g (by rfl) 42 (.tmp 9) rfl w.heap.size 4 rfl p1 _ R1 hu rfl (by rw [H1.out]; exact info_tok) ?_)
          | fail)
        refine (G01.out _).mono ?_
        rintro e w1 ⟨rfl, hb1⟩
        replace B := B.later hb1
        replace hb := hb.trans (hb1.mono hb.size)
        clear R0 R1 R2
        obtain ⟨R0, R1, R2⟩ := RNG.out _ B
        go_wp2_with (first
          | (refine wpList_load_g (by rfl) 42 (.tmp 13) rfl w.heap.size 4 rfl p1 _ R1 hu rfl (by rw [H1.out]; exact info_tok) ?_)
          | (refine wpList_load_g (by rfl) 42 (.tmp 15) rfl w.heap.size 8 rfl p2 _ R2 hu rfl (by rw [H2.out]; exact info_tok) ?_)
          | fail)
        refine (G12.out _).mono ?_
        rintro e w2 ⟨rfl, hb2⟩
        replace B := B.later hb2
        replace hb := hb.trans (hb2.mono hb.size)
        clear R0 R1 R2
        obtain ⟨R0, R1, R2⟩ := RNG.out _ B
        go_wp2_with (first
          | (refine wpList_load_g (by rfl) 42 (.tmp 20) rfl w.heap.size 0 rfl p0 _ R0 hu rfl (by rw [H0.out]; exact info_tok) ?_)
          | (refine wpList_load_g (by rfl) 42 (.tmp 22) rfl w.heap.size 8 rfl p2 _ R2 hu rfl (by rw [H2.out]; exact info_tok) ?_)
          | fail)
        refine (G02.out _).mono ?_
        rintro e w3 ⟨rfl, hb3⟩
        replace B := B.later hb3
        replace hb := hb.trans (hb3.mono hb.size)
        clear R0 R1 R2
        obtain ⟨R0, R1, R2⟩ := RNG.out _ B
        go_wp2_with (first
          | (refine wpList_load_g (by rfl) 42 (.tmp 27) rfl w.heap.size 0 rfl p0 _ R0 hu rfl (by rw [H0.out]; exact info_tok) ?_)
          | fail)
        refine (HRC.out _).mono ?_
        rintro e w4 ⟨rfl, hb4⟩
        replace B := B.later hb4
        replace hb := hb.trans (hb4.mono hb.size)
        clear R0 R1 R2
        obtain ⟨R0, R1, R2⟩ := RNG.out _ B
        go_wp2_with (first
          | (refine wpList_load_g (by rfl) 42 (.tmp 45) rfl w.heap.size 0 rfl p0 _ R0 hu rfl (by rw [H0.out]; exact info_tok) ?_)
          | fail)
        refine (HPU2.out _).mono ?_
        rintro e w5 ⟨A5, c5, rfl, s5, hb5⟩
        replace B := B.later hb5
        replace hb := hb.trans (hb5.mono hb.size)
        clear R0 R1 R2
        go_wp2_with fail
        refine (HNW.out _ _ _ s5).mono ?_
        rintro e w6 ⟨gr, rfl, RD, hb6⟩
        have hgr := RD.block
        have hgw : w.heap.size < gr := by have := B.lt; omega
        replace B := B.later hb6
        replace hb := hb.trans (hb6.mono hb.size)
        clear s5 hgr
        go_wp2_with fail
        refine (HRD2.out (by first | rfl | trivial) _ _ _ RD).mono ?_
        rintro e w7 ⟨rfl, RD7, gb7⟩
        replace B := B.kept gb7 (by simp; omega)
        replace hb := hb.grown gb7 hb.size (fun k hk => by cases hk; omega)
        obtain ⟨g4, hg4⟩ : ∃ z, z = w7.heap.size := ⟨_, rfl⟩
        have hx4 := hb.size
        have N4 := Blk.new w7 (tks 0 0 0 0) 42
        rw [← hg4] at N4
        have T4 := N4.there 0 p0.length (by rw [H0.out]; exact Nat.le_refl _)
        replace N4 := N4.wholeT (ds := p0) (by rw [H0.out]; rfl)
        have ngb4 : g4 ≠ w.heap.size := by have := B.lt; omega
        have MB4 := (B.alloc (.cells (tks 0 0 0 0).toArray 42)).setsOther (b := g4) ngb4 p0 0
        have ML4 : Le w7 (World.setCells (w7.alloc (.cells (tks 0 0 0 0).toArray 42)) g4 0 p0) := below_sets (by omega) _ 0 ((Below.refl w7.heap.size w7).alloc (Nat.le_refl _) _)
        have HG4 := Lib.hid hg4
        clear hg4 hx4
        go_wp2_with (first
          | (rw [← HG4.out]
             refine wpList_store_mid rfl 42 (.tmp 4) (.tmp 50) rfl g4 0 p0.toArray rfl rfl T4 (by rw [List.size_toArray, H0.out]; exact info_tok) O0 ?_
             simp only [Act.put]
             generalize hw4 : World.setCells _ g4 0 p0.toArray.toList = u4
             have B4 : Blk u4 g4 p0 := hw4 ▸ N4
             have B' : Blk u4 w.heap.size pc := hw4 ▸ MB4
             have hl4 : Le w7 u4 := hw4 ▸ ML4
             have hb' := hb.trans (hl4.mono hb.size)
             have RD' := RD7.later hl4
             obtain ⟨R0, R1, R2⟩ := RNG.out _ B'
             clear MB4 ML4
             clear hw4 N4 T4)
          | (refine wpList_load_g (by rfl) 42 (.tmp 52) rfl w.heap.size 0 rfl p0 _ R0 hu rfl (by rw [H0.out]; exact info_tok) ?_)
          | fail)
        refine (HS.out _ hb').mono ?_
        rintro e w8 ⟨rfl, hb8⟩
        have B := B'.later hb8
        have hb := hb'.trans (hb8.mono hb'.size)
        have RD := RD'.later hb8
        replace B4 := B4.later hb8
        clear R0 R1 R2
        go_wp2_with fail
        refine (HPA2.out (by first | rfl | trivial) _ hb).mono ?_
        rintro e w9 ⟨rfl, hb9⟩
        replace B := B.later hb9
        replace hb := hb.trans (hb9.mono hb.size)
        replace RD := RD.later hb9
        replace B4 := B4.later hb9
        obtain ⟨g5, hg5⟩ : ∃ z, z = w9.heap.size := ⟨_, rfl⟩
        have hx5 := hb.size
        have N5 := Blk.new w9 (tks 0 0 0 0) 42
        rw [← hg5] at N5
        have T5 := N5.there 0 p0.length (by rw [H0.out]; exact Nat.le_refl _)
        replace N5 := N5.wholeT (ds := p0) (by rw [H0.out]; rfl)
        have ngb5 : g5 ≠ w.heap.size := by have := B.lt; omega
        have MB5 := (B.alloc (.cells (tks 0 0 0 0).toArray 42)).setsOther (b := g5) ngb5 p0 0
        have ML5 : Le w9 (World.setCells (w9.alloc (.cells (tks 0 0 0 0).toArray 42)) g5 0 p0) := below_sets (by omega) _ 0 ((Below.refl w9.heap.size w9).alloc (Nat.le_refl _) _)
        have HG5 := Lib.hid hg5
        clear hg5 hx5
        have hl4 := B4.lt
        have n45 : g5 ≠ g4 := by have := HG5.out; omega
        have MD5 := (B4.alloc (.cells (tks 0 0 0 0).toArray 42)).setsOther (b := g5) n45 p0 0
        go_wp2_with (first
          | (rw [← HG5.out]
             refine wpList_store_mid rfl 42 (.tmp 5) (.tmp 56) rfl g5 0 p0.toArray rfl rfl T5 (by rw [List.size_toArray, H0.out]; exact info_tok) O0 ?_
             simp only [Act.put]
             generalize hw5 : World.setCells _ g5 0 p0.toArray.toList = u5
             have B5 : Blk u5 g5 p0 := hw5 ▸ N5
             have B'' : Blk u5 w.heap.size pc := hw5 ▸ MB5
             have B4' : Blk u5 g4 p0 := hw5 ▸ MD5
             have hl5 : Le w9 u5 := hw5 ▸ ML5
             have hb'' := hb.trans (hl5.mono hb.size)
             have RD'' := RD.later hl5
             obtain ⟨R0, R1, R2⟩ := RNG.out _ B''
             have R4 := B4'.range 0 p0 (by rw [List.drop_zero, List.take_length])
             clear MB5 ML5 MD5
             clear hw5 N5 T5)
          | (refine wpList_load_g (by rfl) 42 (.tmp 4) rfl g4 0 rfl p0 _ R4 hu rfl (by rw [H0.out]; exact info_tok) ?_)
          | (refine wpList_load_g (by rfl) 42 (.tmp 59) rfl w.heap.size 0 rfl p0 _ R0 hu rfl (by rw [H0.out]; exact info_tok) ?_)
          | (refine wpList_exec (by rfl) (.bool true) (exec_eql 42 _ (.tmp 58) (.tmp 60) rfl _ _ rfl rfl guard_tok true (by rw [HP0.out]; exact eq_tok 9998 a b c d _)) ?_)
          | fail)
        refine (HEN.out _ _ _ RD'').mono ?_
        rintro e w10 ⟨rfl, ⟨k10, rfl⟩⟩
        have BX := B''.drewN k10
        have B5X := B5.drewN k10
        have hbX : Below w.heap.size w (u5.drewN k10) := below_drewN hb'' k10
        clear R0 R1 R2 R4
        obtain ⟨R0, R1, R2⟩ := RNG.out _ BX
        have R5 := B5X.range 0 p0 (by rw [List.drop_zero, List.take_length])
        go_wp2_with (first
          | (refine wpList_load_g (by rfl) 42 (.tmp 5) rfl g5 0 rfl p0 _ R5 hu rfl (by rw [H0.out]; exact info_tok) ?_)
          | (refine wpList_load_g (by rfl) 42 (.tmp 69) rfl w.heap.size 0 rfl p0 _ R0 hu rfl (by rw [H0.out]; exact info_tok) ?_)
          | (refine wpList_exec (by rfl) (.bool true) (exec_eql 42 _ (.tmp 68) (.tmp 70) rfl _ _ rfl rfl guard_tok true (by rw [HP0.out]; exact eq_tok 9998 a b c d _)) ?_)
          | (refine wpList_load_g (by rfl) 42 (.tmp 77) rfl w.heap.size 0 rfl p0 _ R0 hu rfl (by rw [H0.out]; exact info_tok) ?_)
          | (refine wpList_load_g (by rfl) 42 (.tmp 79) rfl w.heap.size 0 rfl p0 _ R0 hu rfl (by rw [H0.out]; exact info_tok) ?_)
          | fail)
        refine (G00.out _).mono ?_
        rintro e w11 ⟨rfl, hb11⟩
        have hbY := hbX.trans (hb11.mono hbX.size)
        go_wp2_with fail
        refine (HAW.out _ hbY).mono ?_
        rintro e w12 ⟨rfl, hb12⟩
        have hbZ := hbY.trans (hb12.mono hbY.size)
        go_wp2_with fail
        go_ret
        exact ⟨rfl, hbZ⟩
end Go.Proofs.YticdpfjajkfheaaDoor
