/- QueueChains: the walk. -/
import Derived.Test.YtjlpccdlpgkgoaaQeG
import Derived.Test.YtjlpccdlpgkgoaaCardI
namespace Go.Proofs.Ytjlpccdlpgkgoaa
set_option linter.unusedVariables false
set_option linter.unusedSimpArgs false
open Go Go.RowKit Go.Shelf BitM

def relPush (B n : Nat) (E : Int) (l' : List Wr) : Rel where
  rel x w := (E ≠ 0 ∧ x = .tuple #[.slice none 0 0, .int .i64 E]) ∨ (E = 0 ∧ 12 ≤ n ∧ x = .tuple #[.slice none 0 0, .int .i64 8]) ∨
    (E = 0 ∧ n < 12 ∧ ∃ A c, x = .tuple #[.slice A (n + 1) c, .int .i64 0] ∧ w.ownsRow B 55 28 (.slice A (n + 1) c) (n + 1) (wrs l'))
  mono := fun x w w' h hs => hs.imp id (fun hs => hs.imp id (fun ⟨h1, h2, A, c, e, hr⟩ => ⟨h1, h2, A, c, e, row_later hr h⟩))
  real := fun w h => by
    rcases h with ⟨_, e⟩ | ⟨_, _, e⟩ | ⟨_, _, A, c, e, _⟩ <;> cases e
theorem GivesPush.rel {B n : Nat} {E : Int} {l' : List Wr} {w w' : World} {e : Ending} (h : GivesPush w 55 n E l' e w') (hB : B ≤ w.heap.size) : ∃ v, e = .returned v ∧ Below w.heap.size w w' ∧ (relPush B n E l').rel v w' := by
  obtain ⟨hb, ⟨h1, rfl⟩ | ⟨h1, h2, rfl⟩ | ⟨h1, h2, A, c, rfl, hr⟩⟩ := h
  · exact ⟨_, rfl, hb, .inl ⟨h1, rfl⟩⟩
  · exact ⟨_, rfl, hb, .inr (.inl ⟨h1, h2, rfl⟩)⟩
  · exact ⟨_, rfl, hb, .inr (.inr ⟨h1, h2, A, c, rfl, row_lower hr hB⟩)⟩
/-- What stands once the first write was done, or not. -/
structure QW (w : World) (F : Nat) (Aq : Option Addr) (a cq : Nat) (q : List Wr) (Al : Option Addr) (m cl : Nat) (left : List Wr) (Ag : Option Addr) (g cg : Nat) (gone : List Wr) (x : Wr) (wr : World) : Prop where
  q : wr.ownsRow w.heap.size 55 28 (.slice Aq a cq) a (wrs q)
  l : wr.ownsRow w.heap.size 55 28 (.slice Al m cl) m (wrs left)
  g : wr.ownsRow w.heap.size 55 28 (.slice Ag g cg) g (wrs gone)
  f : Blk wr F (wrc x)
  be : Below w.heap.size w wr
theorem QW.later {w : World} {F : Nat} {Aq : Option Addr} {a cq : Nat} {q : List Wr} {Al : Option Addr} {m cl : Nat} {left : List Wr} {Ag : Option Addr} {g cg : Nat} {gone : List Wr} {x : Wr} {wr wx : World} (h : QW w F Aq a cq q Al m cl left Ag g cg gone x wr) (hl : Le wr wx) : QW w F Aq a cq q Al m cl left Ag g cg gone x wx :=
  ⟨row_later h.q hl, row_later h.l hl, row_later h.g hl, h.f.later hl, h.be.trans (Below.mono hl h.be.size)⟩
theorem at_row {w : World} {base : Nat} {A : Option Addr} {n c : Nat} {l : List Wr} (h : w.ownsRow base 55 28 (.slice A n c) n (wrs l)) (hw : Whole l) (k : Nat) (hk : k < l.length) : ∃ b o, A = some ⟨b, o, none⟩ ∧ w.rangeAt b (o + k * 28) (wrc l[k]) ∧ w.cell? ⟨b, o + k * 28, none⟩ = some (.int .i64 l[k].1) ∧ w.cell? ⟨b, o + k * 28 + 1, none⟩ = some (.int .i64 l[k].2.1) := by
  obtain ⟨b, o, e, _, h1, h2, h3⟩ := sees_wr (row_sees h) hw k hk
  exact ⟨b, o, e, h1, h2, h3⟩
theorem at_row_of {w : World} {base b o : Nat} {n c : Nat} {l : List Wr} (h : w.ownsRow base 55 28 (.slice (some ⟨b, o, none⟩) n c) n (wrs l)) (hw : Whole l) (k : Nat) (hk : k < l.length) : w.rangeAt b (o + k * 28) (wrc l[k]) ∧ w.cell? ⟨b, o + k * 28, none⟩ = some (.int .i64 l[k].1) ∧ w.cell? ⟨b, o + k * 28 + 1, none⟩ = some (.int .i64 l[k].2.1) := by
  obtain ⟨b', o', e, h1, h2, h3⟩ := at_row h hw k hk
  injection e with e
  injection e with e1 e2
  subst e1
  subst e2
  exact ⟨h1, h2, h3⟩
theorem rowcap {w : World} {base : Nat} {e : TypeId} {size n : Nat} {A : Option Addr} {c : Nat} {xs : List Value} (h : w.ownsRow base e size (.slice A n c) n xs) : n ≤ c := by
  rcases h.2 with ⟨e, h0⟩ | ⟨g, cap, cur, e, _, _, h1, _⟩
  · rw [h0]; exact Nat.zero_le _
  · injection e with _ _ e3
    rw [e3]
    exact h1
theorem find_at {l : List Wr} {id : Int} {k : Nat} (hk : k < l.length) (h : ∀ y ∈ l.take k, y.1 ≠ id) (hp : l[k].1 = id) : l.find? (fun z => decide (z.1 = id)) = some l[k] := by
  conv => lhs; rw [← List.take_append_drop k l]
  rw [List.find?_append, List.find?_eq_none.2 (fun z hz => by
    simpa using h z hz), List.drop_eq_getElem_cons hk, List.find?_cons_of_pos (by simpa using hp)]
  rfl
set_option maxRecDepth 100000 in
set_option maxHeartbeats 16000000 in
theorem walk_chains (A : Option Addr) (n c : Nat) (l : List Ac) (ok : Bool) (w : World) (hn : l.length = n) (hw : WholeA l) (hs : Sees w w.heap.size A (acs l)) :
    Calls Try.prog 4 #[.slice A n c, .bool ok] w fun e w' => e = .returned (.bool true) ∧ Below w.heap.size w w' := by
  have hu := Try.underlying55
  have huc := Try.underlying32
  have hup := Try.underlying34
  have HSK := Lib.hid (skip_any A n c l w hn hw hs)
  have HAW := Lib.hid (fun wx => awake_any wx)
  have HN := Lib.hid hn
  have HW := Lib.hid hw
  have HS := Lib.hid (fun wx (h : Below w.heap.size w wx) => sees_ac (hs.below h) hw)
  clear hn hw hs
  go_enter Try.func4, Try.ntmps4
  go_wp2_with fail
  refine HSK.out.mono ?_
  rintro e w1 ⟨rfl, hb1⟩
  cases hsk : skipv l
  · obtain ⟨hn60, hver⟩ := skipv_no hsk
    rw [HN.out] at hn60
    have HV := Lib.hid hver
    have HB1 := Lib.hid hb1
    have hrow0 := row_lit w1 w.heap.size 55 28 0 #[] hb1.size (by simp [maxLen]) rfl
    have HR0 := Lib.hid hrow0
    have HB2 := Lib.hid (hb1.alloc hb1.size (.cells #[] 55))
    clear hsk hver hb1 hrow0 HSK
    go_wp2_with fail
    go_loopw [5, 6] (fun qv i wr => ∃ (k a cq : Nat) (Aq : Option Addr) (q : List Wr), k ≤ n ∧ i = .int .i64 k ∧ qv = .slice Aq a cq ∧ Hid (q.length = a) ∧ a ≤ 12 ∧ Hid (Whole q) ∧ Hid (Low (1099511627776 + k) q) ∧ Hid (Next q) ∧
      Hid (wr.ownsRow w.heap.size 55 28 (.slice Aq a cq) a (wrs q)) ∧ Hid (Below w.heap.size w wr)) (fun _ i _ => n - (intOf i).toNat)
    case atStart => exact ⟨0, 0, 0, _, [], Nat.zero_le _, rfl, rfl, Lib.hid rfl, by omega, Lib.hid (fun x hx => by cases hx), Lib.hid (fun x hx => by cases hx), Lib.hid next_nil, HR0, HB2⟩
    case round =>
      obtain ⟨k, a, cq, Aq, q, hk, rfl, rfl, HQL, ha12, HQW, HLO, HNX, HR, HB⟩ := hrel
      clear HR0 HB2 HB1
      by_cases hlt : k < n
      · have d1 : decide ((k : Int) < (n : Int)) = true := by simp; omega
        have hki : (k : Int) < (n : Int) := by omega
        have hkl : k < l.length := by rw [HN.out]; exact hlt
        obtain ⟨b, o, rfl, _, hat⟩ := HS.out wr HB.out k hkl
        have HAT := Lib.hid (fun wx (h : Below w.heap.size w wx) => HS.out wx h k hkl)
        obtain ⟨hcf, hpf⟩ := HW.out _ (List.getElem_mem hkl)
        obtain ⟨hv0, hv1⟩ := HV.out _ (List.getElem_mem hkl)
        obtain ⟨⟨kd, id, ver, lab, cf, pm, pl, f⟩, hx⟩ : ∃ x, x = l[k] := ⟨_, rfl⟩
        rw [← hx] at hat hcf hpf hv0 hv1 HAT
        dsimp only at hcf hpf hv0 hv1
        have HAC : Hid (∀ wx, Below w.heap.size w wx → wx.rangeAt b (o + k * 54 + 1) (ccells id ver (lab.toNat : Int) cf) ∧ wx.rangeAt b (o + k * 54 + 28) (pcells (pm.toNat : Int) (pl.toNat : Int) f)) := Lib.hid (fun wx h => by
          obtain ⟨b2, o2, e2, _, hat⟩ := HAT.out wx h
          injection e2 with e2
          injection e2 with e2 e3
          subst e2
          subst e3
          exact ⟨hat.card, hat.patch⟩)
        have HPU := Lib.hid (fun wx (h : Sees wx wx.heap.size Aq (wrs q)) => push_any Aq a cq q wx id ver (lab.toNat : Int) cf pm pl f hcf hpf HQL.out HQW.out h (1099511627776 + k) HLO.out (by omega) hv0 (by omega))
        have HQB := Lib.hid (qbase_low (id := id) (ver := ver) HLO.out hv0 (by omega))
        have HNP := Lib.hid (next_push HNX.out ver (id, qbase q id ver, pm, pl, f) rfl)
        have HWS : Hid (Whole (q ++ [(id, qbase q id ver, pm, pl, f)])) := Lib.hid (HQW.out.snoc hpf)
        obtain ⟨E, hE⟩ : ∃ E, E = pchk pm (pl.toNat : Int) f := ⟨_, rfl⟩
        rw [← hE] at HPU
        obtain ⟨q', hq'⟩ : ∃ q', q' = q ++ [(id, qbase q id ver, pm, pl, f)] := ⟨_, rfl⟩
        have HLS : Hid (Low (1099511627776 + (k + 1 : Nat)) q') := Lib.hid (by
          rw [hq']
          intro y hy
          rcases List.mem_append.1 hy with hy | hy
          · have := HLO.out y hy; omega
          · simp at hy; subst hy; have := HQB.out; dsimp only; omega)
        have HLL : Hid (q'.length = a + 1) := Lib.hid (by rw [hq', List.length_append, HQL.out]; rfl)
        rw [← hq'] at HPU HNP HWS
        have HCL := Lib.hid (ccells_len id ver (lab.toNat : Int) hcf)
        have HPL := Lib.hid (pcells_len (pm.toNat : Int) (pl.toNat : Int) hpf)
        have HLO2 : Hid (Low (1099511627776 + (k + 1 : Nat)) q) := Lib.hid (fun y hy => by have := HLO.out y hy; omega)
        obtain ⟨cc, hcc⟩ : ∃ cc, cc = ccells id ver (lab.toNat : Int) cf := ⟨_, rfl⟩
        rw [← hcc] at HAC HPU HCL
        obtain ⟨pc, hpc⟩ : ∃ pc, pc = pcells (pm.toNat : Int) (pl.toNat : Int) f := ⟨_, rfl⟩
        rw [← hpc] at HAC HPU HPL
        clear hx hat hcf hpf hv0 hv1 HAT hE hq' hcc hpc HQB HLO
        go_wp2_with fail
        refine wp_region_steady [(38, relPush w.heap.size a E q')] 172 (by kernel_rfl) (by kernel_rfl) (by kernel_rfl) (by rfl) ?_
        repeat (refine wpG_quiet (by rfl) (by rfl) (by rfl) (fun K hK => ?_); go_big_quiet_op; refine hK _ ?_; clear hK K)
        refine wpG_run (by rfl) (by rfl) (.agg cc.toArray) (fun wx hl => exec_load 32 (.tmp 31) rfl b (o + k * 54 + 1) rfl cc _ (HAC.out wx (HB.out.trans (hl.1.mono HB.out.size))).1 huc rfl (by rw [HCL.out]; exact info_card)) ?_
        simp only [Act.put, List.setIfInBounds_toArray, List.set_cons_zero, List.set_cons_succ]
        repeat (refine wpG_quiet (by rfl) (by rfl) (by rfl) (fun K hK => ?_); go_big_quiet_op; refine hK _ ?_; clear hK K)
        refine wpG_run (by rfl) (by rfl) (.agg pc.toArray) (fun wx hl => exec_load 34 (.tmp 36) rfl b (o + k * 54 + 28) rfl pc _ (HAC.out wx (HB.out.trans (hl.1.mono HB.out.size))).2 hup rfl (by rw [HPL.out]; exact info_patch)) ?_
        simp only [Act.put, List.setIfInBounds_toArray, List.set_cons_zero, List.set_cons_succ]
        refine wpG_calls (relPush w.heap.size a E q') (by rfl) (by rfl) 7 #[.slice Aq a cq, .agg cc.toArray, .agg pc.toArray] (by intro _; simp [go_sem]) (fun wx hl => (HPU.out wx (row_sees (row_later HR.out hl.1))).mono (fun e w' h => h.rel (Nat.le_trans HB.out.size hl.1.size))) ?_
        rintro _ ⟨_, _, _, ⟨hE, rfl⟩ | ⟨hE, h12, rfl⟩ | ⟨hE, h12, A3, c3, rfl, _⟩⟩
        · simp only [Act.put, List.setIfInBounds_toArray, List.set_cons_zero, List.set_cons_succ]
          repeat (refine wpG_quiet (by rfl) (by rfl) (by rfl) (fun K hK => ?_); go_big_quiet_op; refine hK _ ?_; clear hK K)
          refine wpG_nil fun w5 hl hS => ?_
          have HR5 := Lib.hid (row_later HR.out hl)
          have HB5 := Lib.hid (HB.out.trans (hl.mono HB.out.size))
          have be : (E == 0) = false := by simpa using hE
          clear hl hS
          go_wp2_with fail
          go_roundw
          case rel => exact ⟨k + 1, a, cq, Aq, q, by omega, by go_num, rfl, HQL, ha12, HQW, HLO2, HNX, HR5, HB5⟩
          case measure => simp [intOf]; omega
        · simp only [Act.put, List.setIfInBounds_toArray, List.set_cons_zero, List.set_cons_succ]
          repeat (refine wpG_quiet (by rfl) (by rfl) (by rfl) (fun K hK => ?_); go_big_quiet_op; refine hK _ ?_; clear hK K)
          refine wpG_nil fun w5 hl hS => ?_
          have HR5 := Lib.hid (row_later HR.out hl)
          have HB5 := Lib.hid (HB.out.trans (hl.mono HB.out.size))
          clear hl hS
          go_wp2_with fail
          go_roundw
          case rel => exact ⟨k + 1, a, cq, Aq, q, by omega, by go_num, rfl, HQL, ha12, HQW, HLO2, HNX, HR5, HB5⟩
          case measure => simp [intOf]; omega
        · simp only [Act.put, List.setIfInBounds_toArray, List.set_cons_zero, List.set_cons_succ]
          repeat (refine wpG_quiet (by rfl) (by rfl) (by rfl) (fun K hK => ?_); go_big_quiet_op; refine hK _ ?_; clear hK K)
          refine wpG_nil fun w5 hl hS => ?_
          have HR5 := Lib.hid (row_later HR.out hl)
          have HB5 := Lib.hid (HB.out.trans (hl.mono HB.out.size))
          have HR6 : Hid (w5.ownsRow w.heap.size 55 28 (.slice A3 (a + 1) c3) (a + 1) (wrs q')) := Lib.hid (by
            rcases hS.2 with ⟨h1, _⟩ | ⟨_, h2, _⟩ | ⟨_, _, A4, c4, e, hr⟩
            · exact absurd hE h1
            · omega
            · cases e
              exact hr)
          clear hl hS
          go_wp2_with fail
          go_roundw
          case rel => exact ⟨k + 1, a + 1, c3, A3, q', by omega, by go_num, rfl, HLL, by omega, HWS, HLS, HNP, HR6, HB5⟩
          case measure => simp [intOf]; omega
      · obtain rfl : k = n := by omega
        have d1 : decide ((k : Int) < (k : Int)) = false := by simp
        rcases Nat.eq_zero_or_pos a with h0 | hpos
        · subst h0
          go_wp2_with fail
          refine (HAW.out _).mono ?_
          rintro e w5 ⟨rfl, hb5⟩
          go_wp2_with fail
          go_ret
          exact ⟨rfl, HB.out.trans (hb5.mono HB.out.size)⟩
        · have da : ((a : Int) == 0) = false := by simp; omega
          have ha0 : (0 : Int) < (a : Int) := by omega
          have hq0 : 0 < q.length := by rw [HQL.out]; exact hpos
          obtain ⟨bq, oq, rfl, _, _, _⟩ := at_row HR.out HQW.out 0 hq0
          have HX : Hid (q[0].2.2.2.2.length = 8) := Lib.hid (HQW.out _ (List.getElem_mem hq0))
          have HQ0 : Hid (q = q[0] :: q.drop 1) := Lib.hid (by
            cases q with
            | nil => simp at hq0
            | cons z r => rfl)
          have HNE := Lib.hid (HNX.out _ _ HQ0.out)
          have HX1 : Hid (0 ≤ q[0].2.1 ∧ q[0].2.1 ≤ 1099511627776 + k) := Lib.hid (HLO.out _ (List.getElem_mem hq0))
          have HRG := Lib.hid (fun (wx : World) (h : wx.ownsRow w.heap.size 55 28 (.slice (some ⟨bq, oq, none⟩) a cq) a (wrs q)) => (at_row_of h HQW.out 0 hq0).1)
          cases ok
          · have HDN := Lib.hid (done_not (some ⟨bq, oq, none⟩) a cq q wr HQL.out HQW.out (row_sees HR.out) (by omega) hq0)
            obtain ⟨x, hx⟩ : ∃ x, x = q[0] := ⟨_, rfl⟩
            rw [← hx] at HX HDN HRG
            have HGM := Lib.hid (fun (y : Wr) j (hj : j < q.length) (h : q[j].1 = x.1) => mine_at x.1 q j hj h)
            have HGR := Lib.hid (fun (y : Wr) j (hj : j < q.length) (h : q[j].1 ≠ x.1) => rest_at x.1 q j hj h)
            have HMS := Lib.hid (fun j (hj : j < q.length) => mine_succ x.1 q j hj)
            have HRS := Lib.hid (fun j (hj : j < q.length) => rest_succ x.1 q j hj)
            have HWM := Lib.hid (HQW.out.mine x.1)
            have HWR := Lib.hid (HQW.out.rest x.1)
            clear hx HQ0 HNE HX1 HLO HNX
            go_wp2_with fail
            refine HDN.out.mono ?_
            rintro e w2 ⟨Al, cl, Ag, cg, rfl, hrl, hrg, hb2⟩
            obtain ⟨m, hm⟩ : ∃ m, m = (rest x.1 q).length := ⟨_, rfl⟩
            obtain ⟨g, hg⟩ : ∃ g, g = (mine x.1 q).length := ⟨_, rfl⟩
            rw [← hm] at hrl ⊢
            rw [← hg] at hrg ⊢
            have HML := Lib.hid hm
            have HGL := Lib.hid hg
            have HB2 := Lib.hid (HB.out.trans (hb2.mono HB.out.size))
            have HQ2 := Lib.hid (row_later HR.out hb2)
            have HL2 := Lib.hid (row_lower hrl HB.out.size)
            have HG2 := Lib.hid (row_lower hrg HB.out.size)
            have rg := HRG.out w2 HQ2.out
            rw [Nat.zero_mul, Nat.add_zero] at rg
            have ON := all_oneCell_toArray (wrc_one x)
            have HSZ := Lib.hid (wrc_len HX.out)
            obtain ⟨W3, hW3, TH, F3, B3⟩ := wr_put w2 55 x HX.out
            subst hW3
            have hs4 : (wrc x).toArray.size = 28 := (List.size_toArray).trans HSZ.out
            have TH2 : (w2.alloc (.cells (wrc zwr).toArray 55)).there w2.heap.size 0 (wrc x).toArray.size := by rw [hs4]; exact TH
            have IN2 : (Try.prog.info? 55).map (·.size) = some (wrc x).toArray.size := by rw [hs4]; exact info_qw
            have QW3 := Lib.hid (show QW w w2.heap.size (some ⟨bq, oq, none⟩) a cq q Al m cl (rest x.1 q) Ag g cg (mine x.1 q) x _ from ⟨row_later HQ2.out B3, row_later HL2.out B3, row_later HG2.out B3, F3, HB2.out.trans (Below.mono B3 HB2.out.size)⟩)
            have HFB := Lib.hid (fun wx (h : Blk wx w2.heap.size (wrc x)) => h.cell (j := 0) rfl)
            obtain ⟨wc, hwc⟩ : ∃ wc, wc = (wrc x).toArray := ⟨_, rfl⟩
            have HWC := Lib.hid hwc
            rw [zwr_cells] at TH2 QW3
            rw [← hwc] at TH2 IN2 ON
            obtain ⟨F11, hF11⟩ : ∃ F, F = w2.heap.size := ⟨_, rfl⟩
            have HF11 := Lib.hid hF11
            clear hs4 TH F3 B3 hwc hm hg hb2 hrl hrg HDN HRG
            go_wp2_with (first
              | (refine wpList_load_mid rfl 55 (.tmp 55) rfl bq oq rfl (wrc x) _ rg hu rfl (by rw [HSZ.out]; exact info_qw) ?_
                 rw [← HWC.out]
                 clear rg)
              | (refine wpList_store_mid rfl 55 (.tmp 11) (.tmp 56) rfl w2.heap.size 0 wc rfl rfl TH2 IN2 ON ?_
                 simp only [Act.put]
                 rw [show wc.toList = wrc x from by rw [HWC.out]]
                 generalize hw4 : World.setCells _ w2.heap.size 0 (wrc x) = w4
                 have Q4 : Hid (QW w w2.heap.size (some ⟨bq, oq, none⟩) a cq q Al m cl (rest x.1 q) Ag g cg (mine x.1 q) x w4) := Lib.hid (hw4 ▸ QW3.out)
                 clear hw4 TH2 IN2 QW3)
              | fail)
            go_loopw [13, 14, 15] (fun av bv i wr => ∃ (j ga lb : Nat), j ≤ a ∧ i = .int .i64 j ∧ av = .int .i64 ga ∧ bv = .int .i64 lb ∧ Hid (ga = (mine x.1 (q.take j)).length) ∧ Hid (lb = (rest x.1 (q.take j)).length) ∧ ga ≤ j ∧ lb ≤ j ∧ Hid (QW w w2.heap.size (some ⟨bq, oq, none⟩) a cq q Al m cl (rest x.1 q) Ag g cg (mine x.1 q) x wr)) (fun _ _ i _ => a - (intOf i).toNat)
            case atStart => exact ⟨0, 0, 0, Nat.zero_le _, rfl, rfl, rfl, Lib.hid rfl, Lib.hid rfl, Nat.le_refl _, Nat.le_refl _, Q4⟩
            case round =>
              obtain ⟨j, ga, lb, hj, rfl, rfl, rfl, HGA, HLB, hgj, hlj, HQ⟩ := hrel
              clear Q4
              by_cases hja : j < a
              · have dj : decide ((j : Int) < (a : Int)) = true := by simp; omega
                have hji : (j : Int) < (a : Int) := by omega
                have hjl : j < q.length := by rw [HQL.out]; exact hja
                have HX2 : Hid (q[j].2.2.2.2.length = 8) := Lib.hid (HQW.out _ (List.getElem_mem hjl))
                have HAQ := Lib.hid (fun wx (h : QW w w2.heap.size (some ⟨bq, oq, none⟩) a cq q Al m cl (rest x.1 q) Ag g cg (mine x.1 q) x wx) => at_row_of h.q HQW.out j hjl)
                have HMS1 := Lib.hid (HMS.out j hjl)
                have HRS1 := Lib.hid (HRS.out j hjl)
                have HGM1 := Lib.hid (HGM.out x j hjl)
                have HGR1 := Lib.hid (HGR.out x j hjl)
                obtain ⟨y, hy⟩ : ∃ y, y = q[j] := ⟨_, rfl⟩
                rw [← hy] at HX2 HAQ HMS1 HRS1 HGM1 HGR1
                have HEQ := Lib.hid (fun wx => eq_qw 9995 y y HX2.out HX2.out wx)
                rw [weq_self] at HEQ
                clear hy
                go_wp2_with fail
                refine wp_region_steady [] 172 (by kernel_rfl) (by kernel_rfl) (by kernel_rfl) (by rfl) ?_
                repeat (refine wpG_quiet (by rfl) (by rfl) (by rfl) (fun K hK => ?_); go_big_quiet_op; refine hK _ ?_; clear hK K)
                refine wpG_run (by rfl) (by rfl) (.int .i64 y.1) (fun wx hl => ?_) ?_
                · have kc := (HAQ.out wx (HQ.out.later hl.1)).2.1
                  simp [go_sem, kc]
                simp only [Act.put, List.setIfInBounds_toArray, List.set_cons_zero, List.set_cons_succ]
                repeat (refine wpG_quiet (by rfl) (by rfl) (by rfl) (fun K hK => ?_); go_big_quiet_op; refine hK _ ?_; clear hK K)
                refine wpG_run (by rfl) (by rfl) (.int .i64 x.1) (fun wx hl => ?_) ?_
                · have kc := HFB.out wx (HQ.out.later hl.1).f
                  simp [go_sem, kc]
                simp only [Act.put, List.setIfInBounds_toArray, List.set_cons_zero, List.set_cons_succ]
                repeat (refine wpG_quiet (by rfl) (by rfl) (by rfl) (fun K hK => ?_); go_big_quiet_op; refine hK _ ?_; clear hK K)
                refine wpG_nil fun w5 hl hS => ?_
                have HQ5 := Lib.hid (HQ.out.later hl)
                clear hl hS
                by_cases hyx : y.1 = x.1
                · have hid : (y.1 == x.1) = true := by simpa using hyx
                  obtain ⟨hlt2, heq2⟩ := HGM1.out hyx
                  rw [if_pos hyx] at HMS1 HRS1
                  have hlt3 : ga < g := by rw [HGA.out, HGL.out]; exact hlt2
                  have hgeq : decide ((g : Int) ≤ (ga : Int)) = false := by simp; omega
                  have hidx : (ga : Int) < (g : Int) := by omega
                  obtain ⟨br, or_, eA, z1, z2, z3⟩ := at_row HQ5.out.g HWM.out _ hlt2
                  subst eA
                  have HRW := Lib.hid (fun wx (h : QW w w2.heap.size (some ⟨bq, oq, none⟩) a cq q Al m cl (rest x.1 q) (some ⟨br, or_, none⟩) g cg (mine x.1 q) x wx) => (show wx.rangeAt br (or_ + ga * 28) (wrc y) from by
                    have h1 := (at_row_of h.g HWM.out _ hlt2).1
                    rw [heq2, ← HGA.out] at h1
                    exact h1))
                  clear z1 z2 z3 hlt2 heq2
                  go_wp2_with fail
                  refine wp_region_steady [] 172 (by kernel_rfl) (by kernel_rfl) (by kernel_rfl) (by rfl) ?_
                  iterate 3 (refine wpG_quiet (by rfl) (by rfl) (by rfl) (fun K hK => ?_); go_big_quiet_op; refine hK _ ?_; clear hK K)
                  refine wpG_run (by rfl) (by rfl) (.bool false) (fun wx hl => by simp [go_sem]; omega) ?_
                  simp only [Act.put, List.setIfInBounds_toArray, List.set_cons_zero, List.set_cons_succ]
                  repeat (refine wpG_quiet (by rfl) (by rfl) (by rfl) (fun K hK => ?_); go_big_quiet_op; refine hK _ ?_; clear hK K)
                  refine wpG_run (by rfl) (by rfl) (.agg (wrc y).toArray) (fun wx hl => exec_load 55 (.tmp 132) rfl br (or_ + ga * 28) rfl (wrc y) _ (HRW.out wx (HQ5.out.later hl.1)) hu rfl (by rw [wrc_len (by first | exact HX.out | exact HX2.out)]; exact info_qw)) ?_
                  simp only [Act.put, List.setIfInBounds_toArray, List.set_cons_zero, List.set_cons_succ]
                  repeat (refine wpG_quiet (by rfl) (by rfl) (by rfl) (fun K hK => ?_); go_big_quiet_op; refine hK _ ?_; clear hK K)
                  refine wpG_run (by rfl) (by rfl) (.agg (wrc y).toArray) (fun wx hl => exec_load 55 (.tmp 136) rfl bq (oq + j * 28) rfl (wrc y) _ ((HAQ.out wx (HQ5.out.later hl.1)).1) hu rfl (by rw [wrc_len (by first | exact HX.out | exact HX2.out)]; exact info_qw)) ?_
                  simp only [Act.put, List.setIfInBounds_toArray, List.set_cons_zero, List.set_cons_succ]
                  refine wpG_run (by rfl) (by rfl) (.bool (!true)) (fun wx hl => exec_neq 55 _ (.tmp 133) (.tmp 137) rfl _ _ rfl rfl guard_qw true (HEQ.out wx)) ?_
                  simp only [Act.put, List.setIfInBounds_toArray, List.set_cons_zero, List.set_cons_succ]
                  repeat (refine wpG_quiet (by rfl) (by rfl) (by rfl) (fun K hK => ?_); go_big_quiet_op; refine hK _ ?_; clear hK K)
                  refine wpG_nil fun w6 hl hS => ?_
                  have HQ6 := Lib.hid (HQ5.out.later hl)
                  clear hl hS
                  go_wp2_with fail
                  go_roundw
                  case rel => exact ⟨j + 1, ga + 1, lb, by omega, by go_num, by go_num, rfl, Lib.hid (by rw [HMS1.out, List.length_append, ← HGA.out]; rfl), Lib.hid (by rw [HRS1.out]; exact HLB.out), by omega, by omega, HQ6⟩
                  case measure => simp [intOf]; omega
                · have hid : (y.1 == x.1) = false := by simpa using hyx
                  obtain ⟨hlt2, heq2⟩ := HGR1.out hyx
                  rw [if_neg hyx] at HMS1 HRS1
                  have hlt3 : lb < m := by rw [HLB.out, HML.out]; exact hlt2
                  have hgeq : decide ((m : Int) ≤ (lb : Int)) = false := by simp; omega
                  have hidx : (lb : Int) < (m : Int) := by omega
                  obtain ⟨br, or_, eA, z1, z2, z3⟩ := at_row HQ5.out.l HWR.out _ hlt2
                  subst eA
                  have HRW := Lib.hid (fun wx (h : QW w w2.heap.size (some ⟨bq, oq, none⟩) a cq q (some ⟨br, or_, none⟩) m cl (rest x.1 q) Ag g cg (mine x.1 q) x wx) => (show wx.rangeAt br (or_ + lb * 28) (wrc y) from by
                    have h1 := (at_row_of h.l HWR.out _ hlt2).1
                    rw [heq2, ← HLB.out] at h1
                    exact h1))
                  clear z1 z2 z3 hlt2 heq2
                  go_wp2_with fail
                  refine wp_region_steady [] 172 (by kernel_rfl) (by kernel_rfl) (by kernel_rfl) (by rfl) ?_
                  iterate 3 (refine wpG_quiet (by rfl) (by rfl) (by rfl) (fun K hK => ?_); go_big_quiet_op; refine hK _ ?_; clear hK K)
                  refine wpG_run (by rfl) (by rfl) (.bool false) (fun wx hl => by simp [go_sem]; omega) ?_
                  simp only [Act.put, List.setIfInBounds_toArray, List.set_cons_zero, List.set_cons_succ]
                  repeat (refine wpG_quiet (by rfl) (by rfl) (by rfl) (fun K hK => ?_); go_big_quiet_op; refine hK _ ?_; clear hK K)
                  refine wpG_run (by rfl) (by rfl) (.agg (wrc y).toArray) (fun wx hl => exec_load 55 (.tmp 149) rfl br (or_ + lb * 28) rfl (wrc y) _ (HRW.out wx (HQ5.out.later hl.1)) hu rfl (by rw [wrc_len (by first | exact HX.out | exact HX2.out)]; exact info_qw)) ?_
                  simp only [Act.put, List.setIfInBounds_toArray, List.set_cons_zero, List.set_cons_succ]
                  repeat (refine wpG_quiet (by rfl) (by rfl) (by rfl) (fun K hK => ?_); go_big_quiet_op; refine hK _ ?_; clear hK K)
                  refine wpG_run (by rfl) (by rfl) (.agg (wrc y).toArray) (fun wx hl => exec_load 55 (.tmp 153) rfl bq (oq + j * 28) rfl (wrc y) _ ((HAQ.out wx (HQ5.out.later hl.1)).1) hu rfl (by rw [wrc_len (by first | exact HX.out | exact HX2.out)]; exact info_qw)) ?_
                  simp only [Act.put, List.setIfInBounds_toArray, List.set_cons_zero, List.set_cons_succ]
                  refine wpG_run (by rfl) (by rfl) (.bool (!true)) (fun wx hl => exec_neq 55 _ (.tmp 150) (.tmp 154) rfl _ _ rfl rfl guard_qw true (HEQ.out wx)) ?_
                  simp only [Act.put, List.setIfInBounds_toArray, List.set_cons_zero, List.set_cons_succ]
                  repeat (refine wpG_quiet (by rfl) (by rfl) (by rfl) (fun K hK => ?_); go_big_quiet_op; refine hK _ ?_; clear hK K)
                  refine wpG_nil fun w6 hl hS => ?_
                  have HQ6 := Lib.hid (HQ5.out.later hl)
                  clear hl hS
                  go_wp2_with fail
                  go_roundw
                  case rel => exact ⟨j + 1, ga, lb + 1, by omega, by go_num, rfl, by go_num, Lib.hid (by rw [HMS1.out]; exact HGA.out), Lib.hid (by rw [HRS1.out, List.length_append, ← HLB.out]; rfl), by omega, by omega, HQ6⟩
                  case measure => simp [intOf]; omega
              · obtain rfl : j = a := by omega
                have dj : decide ((j : Int) < (j : Int)) = false := by simp
                have ht : q.take j = q := List.take_of_length_le (by rw [HQL.out]; exact Nat.le_refl _)
                rw [ht] at HGA HLB
                have e1 : ga = g := HGA.out.trans HGL.out.symm
                have e2 : lb = m := HLB.out.trans HML.out.symm
                subst e1
                subst e2
                have HB5 := Lib.hid HQ.out.be
                clear hgj hlj ht HQ
                go_wp2_with fail
                refine (HAW.out _).mono ?_
                rintro e w5 ⟨rfl, hb5⟩
                go_wp2_with fail
                go_ret
                exact ⟨rfl, HB5.out.trans (hb5.mono HB5.out.size)⟩
          · have HDN := Lib.hid (done_ok (some ⟨bq, oq, none⟩) a cq q wr HQL.out HQW.out (row_sees HR.out) (rowcap HR.out) (by omega) hpos)
            have HWL := Lib.hid (HQW.out.drop 1)
            obtain ⟨m, hm⟩ : ∃ m, m = (q.drop 1).length := ⟨_, rfl⟩
            have HML := Lib.hid hm
            have hma : (m : Int) = (a : Int) - 1 := by rw [hm, List.length_drop, HQL.out]; omega
            have hmb : ((m : Int) == (a : Int) - 1) = true := by simpa using hma
            obtain ⟨x, hx⟩ : ∃ x, x = q[0] := ⟨_, rfl⟩
            rw [← hx] at HX HRG HNE HX1
            obtain ⟨left, hleft⟩ : ∃ left, left = q.drop 1 := ⟨_, rfl⟩
            rw [← hleft] at HDN HNE HWL HML hm
            clear hx hleft HQ0 HLO HNX
            go_wp2_with fail
            refine HDN.out.mono ?_
            rintro e w2 ⟨Al, cl, Ag, cg, rfl, hrl, hrg, hb2⟩
            rw [← hm] at hrl ⊢
            rw [show ([] : List Wr).length = 0 from rfl] at hrg ⊢
            have HB2 := Lib.hid (HB.out.trans (hb2.mono HB.out.size))
            have HQ2 := Lib.hid (row_later HR.out hb2)
            have HL2 := Lib.hid (row_lower hrl HB.out.size)
            have HG2 := Lib.hid (row_lower hrg HB.out.size)
            have rg := HRG.out w2 HQ2.out
            rw [Nat.zero_mul, Nat.add_zero] at rg
            have ON := all_oneCell_toArray (wrc_one x)
            have HSZ := Lib.hid (wrc_len HX.out)
            obtain ⟨W3, hW3, TH, F3, B3⟩ := wr_put w2 55 x HX.out
            subst hW3
            have hs4 : (wrc x).toArray.size = 28 := (List.size_toArray).trans HSZ.out
            have TH2 : (w2.alloc (.cells (wrc zwr).toArray 55)).there w2.heap.size 0 (wrc x).toArray.size := by rw [hs4]; exact TH
            have IN2 : (Try.prog.info? 55).map (·.size) = some (wrc x).toArray.size := by rw [hs4]; exact info_qw
            have QW3 := Lib.hid (show QW w w2.heap.size (some ⟨bq, oq, none⟩) a cq q Al m cl left Ag 0 cg [] x _ from ⟨row_later HQ2.out B3, row_later HL2.out B3, row_later HG2.out B3, F3, HB2.out.trans (Below.mono B3 HB2.out.size)⟩)
            have HFB := Lib.hid (fun wx (h : Blk wx w2.heap.size (wrc x)) => h.cell (j := 0) rfl)
            have HFC := Lib.hid (fun wx (h : Blk wx w2.heap.size (wrc x)) => h.cell (j := 1) rfl)
            obtain ⟨wc, hwc⟩ : ∃ wc, wc = (wrc x).toArray := ⟨_, rfl⟩
            have HWC := Lib.hid hwc
            rw [zwr_cells] at TH2 QW3
            rw [← hwc] at TH2 IN2 ON
            clear hs4 TH F3 B3 hwc hm hb2 hrl hrg HDN HRG
            go_wp2_with (first
              | (refine wpList_load_mid rfl 55 (.tmp 55) rfl bq oq rfl (wrc x) _ rg hu rfl (by rw [HSZ.out]; exact info_qw) ?_
                 rw [← HWC.out]
                 clear rg)
              | (refine wpList_store_mid rfl 55 (.tmp 11) (.tmp 56) rfl w2.heap.size 0 wc rfl rfl TH2 IN2 ON ?_
                 simp only [Act.put]
                 rw [show wc.toList = wrc x from by rw [HWC.out]]
                 generalize hw4 : World.setCells _ w2.heap.size 0 (wrc x) = w4
                 have Q4 : Hid (QW w w2.heap.size (some ⟨bq, oq, none⟩) a cq q Al m cl left Ag 0 cg [] x w4) := Lib.hid (hw4 ▸ QW3.out)
                 clear hw4 TH2 IN2 QW3)
              | fail)
            go_loopw [12] (fun i wr => ∃ j : Nat, j ≤ m ∧ i = .int .i64 j ∧ Hid (∀ y ∈ left.take j, y.1 ≠ x.1) ∧ Hid (QW w w2.heap.size (some ⟨bq, oq, none⟩) a cq q Al m cl left Ag 0 cg [] x wr)) (fun i _ => m - (intOf i).toNat)
            case atStart => exact ⟨0, Nat.zero_le _, rfl, Lib.hid (fun y hy => by simp at hy), Q4⟩
            case round =>
              obtain ⟨j, hj, rfl, HNO, HQ⟩ := hrel
              clear Q4
              by_cases hja : j < m
              · have dj : decide ((j : Int) < (m : Int)) = true := by simp; omega
                have hji : (j : Int) < (m : Int) := by omega
                have hjl : j < left.length := by rw [← HML.out]; exact hja
                obtain ⟨bl, ol, eA, z1, z2, z3⟩ := at_row HQ.out.l HWL.out j hjl
                subst eA
                have HAL := Lib.hid (fun wx (h : QW w w2.heap.size (some ⟨bq, oq, none⟩) a cq q (some ⟨bl, ol, none⟩) m cl left Ag 0 cg [] x wx) => at_row_of h.l HWL.out j hjl)
                have HFD := Lib.hid (fun h => find_at (id := x.1) hjl HNO.out h)
                have HNO2 := Lib.hid (fun (h : left[j].1 ≠ x.1) => (show ∀ y ∈ left.take (j + 1), y.1 ≠ x.1 from fun y hy => by
                  rw [List.take_succ_eq_append_getElem hjl] at hy
                  rcases List.mem_append.1 hy with hy | hy
                  · exact HNO.out y hy
                  · simp at hy; subst hy; exact h))
                obtain ⟨y, hy⟩ : ∃ y, y = left[j] := ⟨_, rfl⟩
                rw [← hy] at HAL HFD HNO2
                clear z1 z2 z3 hy
                go_wp2_with fail
                refine wp_region_steady [] 172 (by kernel_rfl) (by kernel_rfl) (by kernel_rfl) (by rfl) ?_
                repeat (refine wpG_quiet (by rfl) (by rfl) (by rfl) (fun K hK => ?_); go_big_quiet_op; refine hK _ ?_; clear hK K)
                refine wpG_run (by rfl) (by rfl) (.int .i64 y.1) (fun wx hl => ?_) ?_
                · have kc := (HAL.out wx (HQ.out.later hl.1)).2.1
                  simp [go_sem, kc]
                simp only [Act.put, List.setIfInBounds_toArray, List.set_cons_zero, List.set_cons_succ]
                repeat (refine wpG_quiet (by rfl) (by rfl) (by rfl) (fun K hK => ?_); go_big_quiet_op; refine hK _ ?_; clear hK K)
                refine wpG_run (by rfl) (by rfl) (.int .i64 x.1) (fun wx hl => ?_) ?_
                · have kc := HFB.out wx (HQ.out.later hl.1).f
                  simp [go_sem, kc]
                simp only [Act.put, List.setIfInBounds_toArray, List.set_cons_zero, List.set_cons_succ]
                repeat (refine wpG_quiet (by rfl) (by rfl) (by rfl) (fun K hK => ?_); go_big_quiet_op; refine hK _ ?_; clear hK K)
                refine wpG_nil fun w5 hl hS => ?_
                have HQ5 := Lib.hid (HQ.out.later hl)
                clear hl hS
                by_cases hyx : y.1 = x.1
                · have hid : (y.1 == x.1) = true := by simpa using hyx
                  have HYB := Lib.hid (HNE.out y (HFD.out hyx))
                  obtain ⟨xb0, xb1⟩ := HX1.out
                  obtain ⟨xb, hxb⟩ : ∃ xb, xb = x.2.1 := ⟨_, rfl⟩
                  rw [← hxb] at HYB xb0 xb1 HFC
                  have h63 : xb + 1 ≤ 9223372036854775807 := by omega
                  clear hxb
                  go_wp2_with fail
                  refine wp_region_steady [] 172 (by kernel_rfl) (by kernel_rfl) (by kernel_rfl) (by rfl) ?_
                  repeat (refine wpG_quiet (by rfl) (by rfl) (by rfl) (fun K hK => ?_); go_big_quiet_op; refine hK _ ?_; clear hK K)
                  refine wpG_run (by rfl) (by rfl) (.int .i64 (xb + 1)) (fun wx hl => ?_) ?_
                  · have kc := (HAL.out wx (HQ5.out.later hl.1)).2.2
                    rw [HYB.out] at kc
                    simp [go_sem, kc]
                  simp only [Act.put, List.setIfInBounds_toArray, List.set_cons_zero, List.set_cons_succ]
                  repeat (refine wpG_quiet (by rfl) (by rfl) (by rfl) (fun K hK => ?_); go_big_quiet_op; refine hK _ ?_; clear hK K)
                  refine wpG_run (by rfl) (by rfl) (.int .i64 xb) (fun wx hl => ?_) ?_
                  · have kc := HFC.out wx (HQ5.out.later hl.1).f
                    simp [go_sem, kc]
                  simp only [Act.put, List.setIfInBounds_toArray, List.set_cons_zero, List.set_cons_succ]
                  repeat (refine wpG_quiet (by rfl) (by rfl) (by rfl) (fun K hK => ?_); go_big_quiet_op; refine hK _ ?_; clear hK K)
                  refine wpG_call (by rfl) (by rfl) 6 #[] (.bool true) (by intro _; simp [go_sem]) (by kernel_rfl) (fun wx hl => HAW.out wx) ?_
                  simp only [Act.put, List.setIfInBounds_toArray, List.set_cons_zero, List.set_cons_succ]
                  repeat (refine wpG_quiet (by rfl) (by rfl) (by rfl) (fun K hK => ?_); go_big_quiet_op; refine hK _ ?_; clear hK K)
                  refine wpG_nil fun w6 hl hS => ?_
                  have HB6 := HQ5.out.be.trans (hl.mono HQ5.out.be.size)
                  go_wp2_with fail
                  go_ret
                  exact ⟨rfl, HB6⟩
                · have hid : (y.1 == x.1) = false := by simpa using hyx
                  have HN3 := Lib.hid (HNO2.out hyx)
                  go_wp2_with fail
                  go_roundw
                  case rel => exact ⟨j + 1, by omega, by go_num, HN3, HQ5⟩
                  case measure => simp [intOf]; omega
              · obtain rfl : j = m := by omega
                have dj : decide ((j : Int) < (j : Int)) = false := by simp
                have HQ5 := HQ
                clear HQ
                go_wp2_with fail
                refine (HAW.out _).mono ?_
                rintro e w5 ⟨rfl, hb5⟩
                go_wp2_with fail
                go_ret
                exact ⟨rfl, HQ5.out.be.trans (hb5.mono HQ5.out.be.size)⟩
  · go_wp2_with fail
    refine (HAW.out _).mono ?_
    rintro e w5 ⟨rfl, hb5⟩
    go_wp2_with fail
    go_ret
    exact ⟨rfl, hb1.trans (hb5.mono hb1.size)⟩
end Go.Proofs.Ytjlpccdlpgkgoaa
