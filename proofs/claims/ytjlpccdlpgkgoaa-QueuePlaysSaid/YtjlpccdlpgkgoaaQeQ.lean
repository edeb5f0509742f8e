/- QueuePlays: the walk. -/
import Derived.Test.YtjlpccdlpgkgoaaQeP
import Derived.Test.YtjlpccdlpgkgoaaQeH
import Derived.Test.YtjlpccdlpgkgoaaCardJ
namespace Go.Proofs.Ytjlpccdlpgkgoaa
set_option linter.unusedVariables false
set_option linter.unusedSimpArgs false
open Go Go.RowKit Go.Shelf BitM

/-- A queue, as a slice shows it. -/
structure SQ (w : World) (A : Option Addr) (n c : Nat) (l : List Wr) : Prop where
  sees : Sees w w.heap.size A (wrs l)
  cap : n ≤ c
  nil : A = none → c = 0
theorem SQ.later {w w' : World} {A : Option Addr} {n c : Nat} {l : List Wr} (h : SQ w A n c l) (hb : Le w w') : SQ w' A n c l := ⟨(h.sees.below hb).more hb.size, h.cap, h.nil⟩
theorem sq_row {w : World} {base : Nat} {T : TypeId} {A : Option Addr} {n c : Nat} {l : List Wr} (h : w.ownsRow base T 28 (.slice A n c) n (wrs l)) : SQ w A n c l := ⟨row_sees h, row_cap2 h, row_nil h⟩
theorem done_both (Aq Am : Option Addr) (a cq cm : Nat) (q : List Wr) (kd M : Int) (hl : q.length = a) (hw : Whole q) (hlo : Low M q) (h12 : a ≤ 12) (w0 : World) (hq : SQ w0 Aq a cq q) (hm : SQ w0 Am a cm q) :
    ∃ left gone, Whole left ∧ Whole gone ∧ Low M left ∧ left.length ≤ 12 ∧ gone.length ≤ 12 ∧ (∀ wx, Le w0 wx → Calls Try.prog 11 #[.slice Aq a cq, .bool (kd == 1)] wx (GivesDone wx 55 left gone)) ∧
      (∀ wx, Le w0 wx → Calls Try.prog 12 #[.slice Am a cm, .bool (kd == 1)] wx (GivesRDone wx left gone)) := by
  have lo : ∀ (l : List Wr), (∀ x ∈ l, x ∈ q) → Low M l := fun l h x hx => hlo x (h x hx)
  rcases Nat.eq_zero_or_pos a with h0 | hpos
  · subst h0
    exact ⟨[], [], (fun x hx => by cases hx), (fun x hx => by cases hx), (fun x hx => by cases hx), by simp, by simp, fun wx _ => done_none Aq cq _ wx, fun wx _ => rdone_none Am cm _ wx⟩
  · have hql : 0 < q.length := by rw [hl]; exact hpos
    by_cases hk : kd = 1
    · have hb : (kd == 1) = true := by simpa using hk
      rw [hb]
      exact ⟨q.drop 1, [], hw.drop 1, (fun x hx => by cases hx), lo _ (fun x hx => List.mem_of_mem_drop hx), by rw [List.length_drop]; omega, by simp, fun wx h => done_ok Aq a cq q wx hl hw (hq.later h).sees hq.cap (by omega) hpos, fun wx h => rdone_ok Am a cm q wx hl hw (hm.later h).sees hm.cap hpos⟩
    · have hb : (kd == 1) = false := by simpa using hk
      rw [hb]
      have e1 : (rest q[0].1 q).length ≤ q.length := List.length_filter_le _ _
      have e2 : (mine q[0].1 q).length ≤ q.length := List.length_filter_le _ _
      exact ⟨rest q[0].1 q, mine q[0].1 q, hw.rest _, hw.mine _, lo _ (fun x hx => (List.mem_filter.1 hx).1), by omega, by omega, fun wx h => done_not Aq a cq q wx hl hw (hq.later h).sees (by omega) hql, fun wx h => rdone_not Am a cm q wx hl hw (hm.later h).sees (by omega) hql⟩
def zac : Ac := (0, 0, 0, 0#32, zeros, 0#32, 0#32, zeros)
theorem act_put (w : World) (x : Ac) (hx : x.2.2.2.2.1.length = 8 ∧ x.2.2.2.2.2.2.2.length = 8) : ∃ W, W = w.alloc (.cells (acc zac).toArray 36) ∧ W.there w.heap.size 0 54 ∧ Blk (W.setCells w.heap.size 0 (acc x)) w.heap.size (acc x) ∧ Below w.heap.size w (W.setCells w.heap.size 0 (acc x)) := by
  have h0 := Blk.new w (acc zac) 36
  have hz : (acc zac).length = 54 := acc_len ⟨zeros_len, zeros_len⟩
  exact ⟨_, rfl, h0.there 0 54 (by rw [hz]; exact Nat.le_refl _), h0.whole (by rw [acc_len hx, hz]), below_sets (Nat.le_refl _) _ 0 ((Below.refl w.heap.size w).alloc (Nat.le_refl _) _)⟩
theorem zac_cells : (acc zac).toArray = #[Value.int .i64 0, .int .i64 0, .int .i64 0, .int .u32 0, .int .i64 0, .int .i64 0, .string { data := #[] }, .int .i64 0, .int .i64 0, .string { data := #[] }, .int .i64 0, .int .i64 0, .string { data := #[] }, .int .i64 0, .int .i64 0, .string { data := #[] }, .int .i64 0, .int .i64 0, .string { data := #[] }, .int .i64 0, .int .i64 0, .string { data := #[] }, .int .i64 0, .int .i64 0, .string { data := #[] }, .int .i64 0, .int .i64 0, .string { data := #[] }, .int .u32 0, .int .u32 0, .int .i64 0, .int .i64 0, .string { data := #[] }, .int .i64 0, .int .i64 0, .string { data := #[] }, .int .i64 0, .int .i64 0, .string { data := #[] }, .int .i64 0, .int .i64 0, .string { data := #[] }, .int .i64 0, .int .i64 0, .string { data := #[] }, .int .i64 0, .int .i64 0, .string { data := #[] }, .int .i64 0, .int .i64 0, .string { data := #[] }, .int .i64 0, .int .i64 0, .string { data := #[] }] := rfl
theorem info_act : (Try.prog.info? 36).map (·.size) = some 54 := by kernel_rfl
theorem acc_one (a : Ac) : ∀ u ∈ acc a, u.oneCell' = true := by
  intro u hu
  unfold acc at hu
  rcases List.mem_append.1 hu with h | h
  · simp at h; subst h; rfl
  · rcases List.mem_append.1 h with h | h
    · exact ccells_one _ _ _ _ u h
    · exact pcells_one _ _ _ u h
theorem act_blk {w : World} {g : Nat} {x : Ac} (h : Blk w g (acc x)) (hx : x.2.2.2.2.1.length = 8 ∧ x.2.2.2.2.2.2.2.length = 8) : w.rangeAt g 1 (acCard x) ∧ w.rangeAt g 28 (acPatch x) ∧ w.cell? ⟨g, 0, none⟩ = some (.int .i64 x.1) ∧ w.cell? ⟨g, 1, none⟩ = some (.int .i64 x.2.1) := by
  have hr := h.range 0 (acc x) (by rw [List.drop_zero, List.take_length])
  have hcl : (acCard x).length = 27 := ccells_len _ _ _ hx.1
  have r1 := range_mid (pre := [.int .i64 x.1]) (ds := acCard x) (post := acPatch x) hr rfl
  have r2 := range_mid (pre := [.int .i64 x.1] ++ acCard x) (ds := acPatch x) (post := []) (j := 28) (by rw [List.append_nil, List.append_assoc]; exact hr) (by rw [List.length_append, hcl]; rfl)
  rw [Nat.zero_add] at r1 r2
  exact ⟨r1, r2, h.cell (j := 0) rfl, h.cell (j := 1) rfl⟩
theorem run_qb0 (w : World) : (Instr.build 55 #[]).run Try.prog w = .ok (.agg (wrc zwr).toArray) w := by kernel_rfl
theorem exec_qb0 {a : Act} {op : Oper} (ho : op.op = .build 55 #[]) (w : World) : (execOp a.eval op).run Try.prog w = .ok (.value (.agg (wrc zwr).toArray)) w := by
  unfold execOp
  simp only [ho, List.map_toArray, List.map_nil, Sem.run_bind, run_qb0, Result.andThen_ok, Sem.run_pure]
theorem eq_card_self (id ver : Int) (p : BitVec 32 × List V3) (h8 : p.2.length = 8) (w : World) : (Op.equalIn 10000 32 (.agg (shc id (ver, p)).toArray) (.agg (shc id (ver, p)).toArray)).run Try.prog w = .ok true w := by
  have h := eq_card 9996 id ver (p.1.toNat : Int) id ver (p.1.toNat : Int) p.2 p.2 h8 h8 w
  rw [show decide (id = id ∧ ver = ver ∧ (p.1.toNat : Int) = (p.1.toNat : Int) ∧ p.2 = p.2) = true from by simp] at h
  exact h
set_option maxRecDepth 100000 in
set_option maxHeartbeats 16000000 in
theorem walk_plays (A : Option Addr) (n c : Nat) (l : List Ac) (w : World) (hn : l.length = n) (hw : WholeA l) (hs : Sees w w.heap.size A (acs l)) :
    Calls Try.prog 3 #[.slice A n c] w fun e w' => e = .returned (.bool true) ∧ Below w.heap.size w w' := by
  have huc := Try.underlying32
  have hup := Try.underlying34
  have hua := Try.underlying36
  obtain ⟨i1, ji, jz0, jz1, jz2⟩ := info_parts info_qwd
  have HSK := Lib.hid (skip_any A n c l w hn hw hs)
  have HAW := Lib.hid (fun wx => awake_any wx)
  have HN := Lib.hid hn
  have HW := Lib.hid hw
  have HS := Lib.hid (fun wx (h : Below w.heap.size w wx) => sees_fm (c := acc) (n := 54) (hs.below h) (fun a ha => acc_len (hw a ha)) (by decide))
  clear hn hw hs
  go_enter Try.func3, Try.ntmps3
  go_wp2_with fail
  refine HSK.out.mono ?_
  rintro e w1 ⟨rfl, hb1⟩
  cases hsk : skipv l
  · obtain ⟨hn60, hver⟩ := skipv_no hsk
    rw [HN.out] at hn60
    have HV := Lib.hid hver
    have r0 := row_lit w1 w.heap.size 55 28 0 #[] hb1.size (by simp [maxLen]) rfl
    have R0 := Lib.hid (sq_row (World.ownsRow.alloc r0 (.cells #[] 63)) (l := []))
    have r1 := row_lit (w1.alloc (.cells #[] 55)) w.heap.size 63 28 0 #[] (Nat.le_trans hb1.size (by simp)) (by simp [maxLen]) rfl
    rw [show (w1.alloc (.cells #[] 55)).heap.size = w1.heap.size + 1 by simp] at r1
    have R1 := Lib.hid (sq_row r1 (l := []))
    have HB2 := Lib.hid ((hb1.alloc hb1.size (.cells #[] 55)).alloc (Nat.le_trans hb1.size (by simp)) (.cells #[] 63))
    clear hsk hver hb1 r0 r1 HSK
    go_wp2_with fail
    go_loopw [3, 4, 5] (fun qv mv i wr => ∃ (k a cq cm : Nat) (Aq Am : Option Addr) (q : List Wr), k ≤ n ∧ i = .int .i64 k ∧ qv = .slice Aq a cq ∧ mv = .slice Am a cm ∧ Hid (q.length = a) ∧ a ≤ 12 ∧ Hid (Whole q) ∧ Hid (Low (1099511627776 + k) q) ∧
      Hid (SQ wr Aq a cq q) ∧ Hid (SQ wr Am a cm q) ∧ Hid (Below w.heap.size w wr)) (fun _ _ i _ => n - (intOf i).toNat)
    case atStart => exact ⟨0, 0, 0, 0, _, _, [], Nat.zero_le _, rfl, rfl, rfl, Lib.hid rfl, by omega, Lib.hid (fun x hx => by cases hx), Lib.hid (fun x hx => by cases hx), R0, R1, HB2⟩
    case round =>
      obtain ⟨k, a, cq, cm, Aq, Am, q, hk, rfl, rfl, rfl, HQL, ha12, HQW, HLO, HQ, HM, HB⟩ := hrel
      clear R0 R1 HB2
      by_cases hlt : k < n
      · have d1 : decide ((k : Int) < (n : Int)) = true := by simp; omega
        have hki : (k : Int) < (n : Int) := by omega
        have hkl : k < l.length := by rw [HN.out]; exact hlt
        obtain ⟨b, o, rfl, _, hrg⟩ := HS.out wr HB.out k hkl
        have hwx := HW.out _ (List.getElem_mem hkl)
        obtain ⟨hv0, hv1⟩ := HV.out _ (List.getElem_mem hkl)
        obtain ⟨x, hx⟩ : ∃ x, x = l[k] := ⟨_, rfl⟩
        rw [← hx] at hrg hwx hv0 hv1
        obtain ⟨W3, hW3, TH, F3, B3⟩ := act_put wr x hwx
        subst hW3
        have ON := all_oneCell_toArray (acc_one x)
        have HSZ := Lib.hid (acc_len hwx)
        have HF3 := Lib.hid F3
        have HB3 := Lib.hid B3
        have HBK := Lib.hid (fun wx (h : Blk wx wr.heap.size (acc x)) => act_blk h hwx)
        obtain ⟨kd, id, ver, lab, cf, pm, pl, f⟩ := x
        obtain ⟨hcf, hpf⟩ := hwx
        dsimp only at hcf hpf hv0 hv1
        have HPU := Lib.hid (fun wx (h : Le wr wx) => push_any Aq a cq q wx id ver (lab.toNat : Int) cf pm pl f hcf hpf HQL.out HQW.out (HQ.out.later h).sees (1099511627776 + k) HLO.out (by omega) hv0 (by omega))
        have HRP := Lib.hid (fun wx (h : Le wr wx) => rpush_any Am a cm q wx id ver (lab.toNat : Int) cf pm pl f hcf hpf HQL.out HQW.out (HM.out.later h).sees HM.out.nil (1099511627776 + k) HLO.out (by omega) hv0 (by omega))
        have HQB := Lib.hid (qbase_low (id := id) (ver := ver) HLO.out hv0 (by omega))
        have HWS : Hid (Whole (q ++ [(id, qbase q id ver, pm, pl, f)])) := Lib.hid (HQW.out.snoc hpf)
        obtain ⟨E, hE⟩ : ∃ E, E = pchk pm (pl.toNat : Int) f := ⟨_, rfl⟩
        rw [← hE] at HPU HRP
        obtain ⟨q', hq'⟩ : ∃ q', q' = q ++ [(id, qbase q id ver, pm, pl, f)] := ⟨_, rfl⟩
        have HLS : Hid (Low (1099511627776 + (k + 1 : Nat)) q') := Lib.hid (by
          rw [hq']
          intro y hy
          rcases List.mem_append.1 hy with hy | hy
          · have := HLO.out y hy; omega
          · simp at hy; subst hy; have := HQB.out; dsimp only; omega)
        have HLL : Hid (q'.length = a + 1) := Lib.hid (by rw [hq', List.length_append, HQL.out]; rfl)
        rw [← hq'] at HPU HRP HWS
        have HLO2 : Hid (Low (1099511627776 + (k + 1 : Nat)) q) := Lib.hid (fun y hy => by have := HLO.out y hy; omega)
        have HCL := Lib.hid (ccells_len id ver (lab.toNat : Int) hcf)
        have HPL := Lib.hid (pcells_len (pm.toNat : Int) (pl.toNat : Int) hpf)
        have HWT := Lib.hid (fun wx (A : Option Addr) (a c : Nat) (q : List Wr) (h1 : q.length = a) (h2 : Whole q) (h3 : a ≤ 12) (h : SQ wx A a c q) => waits_any A a c q id wx h1 h2 h.sees (by omega))
        have HRW := Lib.hid (fun wx (A : Option Addr) (a c : Nat) (q : List Wr) (h1 : q.length = a) (h2 : Whole q) (h3 : a ≤ 12) (h : SQ wx A a c q) => rwaits_any A a c q id wx h1 h2 h.sees (by omega))
        have HSH := Lib.hid (fun wx (A : Option Addr) (a c : Nat) (q : List Wr) (h1 : q.length = a) (h2 : Whole q) (h3 : a ≤ 12) (h : SQ wx A a c q) => show_any A a c q id ver lab cf wx hcf hv0 h1 h2 h.sees (by omega))
        have HRS := Lib.hid (fun wx (A : Option Addr) (a c : Nat) (q : List Wr) (h1 : q.length = a) (h2 : Whole q) (h3 : a ≤ 12) (h : SQ wx A a c q) => rshow_any A a c q id ver lab cf wx hcf hv0 hv1 h1 h2 h.sees (by omega))
        have HEC := Lib.hid (fun (q : List Wr) wx => eq_card_self id ver (shv (ver, lab, cf) (mine id q)).2 (shv_ok (s := (ver, lab, cf)) hcf hv0 (mine id q)).1 wx)
        obtain ⟨D, hD⟩ : ∃ D : List Wr → List Value, D = fun q => shc id (ver, (shv (ver, lab, cf) (mine id q)).2) := ⟨_, rfl⟩
        have hDe : ∀ q, shc id (ver, (shv (ver, lab, cf) (mine id q)).2) = D q := fun q => by rw [hD]
        simp only [hDe] at HSH HRS HEC
        have HDB := Lib.hid (fun wx (h : Le wr wx) => done_both Aq Am a cq cm q kd (1099511627776 + (k + 1 : Nat)) HQL.out HQW.out HLO2.out ha12 wx (HQ.out.later h) (HM.out.later h))
        obtain ⟨cc, hcc⟩ : ∃ cc, cc = ccells id ver (lab.toNat : Int) cf := ⟨_, rfl⟩
        have HBK2 : Hid (∀ wx, Blk wx wr.heap.size (acc (kd, id, ver, lab, cf, pm, pl, f)) → wx.rangeAt wr.heap.size 1 cc ∧ wx.rangeAt wr.heap.size 28 (pcells (pm.toNat : Int) (pl.toNat : Int) f) ∧ wx.cell? ⟨wr.heap.size, 0, none⟩ = some (.int .i64 kd) ∧ wx.cell? ⟨wr.heap.size, 1, none⟩ = some (.int .i64 id)) := Lib.hid (fun wx h => by rw [hcc]; exact HBK.out wx h)
        rw [← hcc] at HPU HRP HSH HRS HCL
        obtain ⟨pc, hpc⟩ : ∃ pc, pc = pcells (pm.toNat : Int) (pl.toNat : Int) f := ⟨_, rfl⟩
        rw [← hpc] at HPU HRP HPL HBK2
        obtain ⟨xc, hxc⟩ : ∃ xc, xc = acc (kd, id, ver, lab, cf, pm, pl, f) := ⟨_, rfl⟩
        rw [← hxc] at hrg ON HSZ HF3 HB3 HBK2
        have hs4 : xc.toArray.size = 54 := (List.size_toArray).trans HSZ.out
        have TH2 : (wr.alloc (.cells (acc zac).toArray 36)).there wr.heap.size 0 xc.toArray.size := by rw [hs4]; exact TH
        have IN2 : (Try.prog.info? 36).map (·.size) = some xc.toArray.size := by rw [hs4]; exact info_act
        rw [zac_cells] at TH2 HF3 HB3
        obtain ⟨F6, hF6⟩ : ∃ F6, F6 = wr.heap.size := ⟨_, rfl⟩
        clear hx TH F3 B3 HBK hcf hpf hv0 hv1 hE hq' hD hDe hcc hpc hxc hs4 HQB HLO
        by_cases hk0 : kd = 0
        · have bk : (kd == 0) = true := by simpa using hk0
          go_wp2_with (first
            | (refine wpList_load_mid rfl 36 (.tmp 28) rfl b (o + k * 54) rfl xc _ hrg hua rfl (by rw [HSZ.out]; exact info_act) ?_
               clear hrg)
            | (refine wpList_store_mid rfl 36 (.tmp 6) (.tmp 29) rfl wr.heap.size 0 xc.toArray rfl rfl TH2 IN2 ON ?_
               simp only [Act.put]
               generalize hw4 : World.setCells _ wr.heap.size 0 xc.toArray.toList = w4
               have X4 : Hid (Blk w4 wr.heap.size xc) := Lib.hid (hw4 ▸ HF3.out)
               have L4 : Hid (Le wr w4) := Lib.hid (hw4 ▸ HB3.out)
               obtain ⟨rc, rp, k4, _⟩ := HBK2.out w4 X4.out
               clear hw4 TH2 IN2 HF3 HB3)
            | (refine wpList_load_mid rfl 32 (.tmp 66) rfl wr.heap.size 1 rfl cc _ rc huc rfl (by rw [HCL.out]; exact info_card) ?_)
            | (refine wpList_load_mid rfl 34 (.tmp 68) rfl wr.heap.size 28 rfl pc _ rp hup rfl (by rw [HPL.out]; exact info_patch) ?_)
            | fail)
          rw [← hF6] at X4 HBK2 ⊢
          have HB4 := Lib.hid (HB.out.trans (Below.mono L4.out HB.out.size))
          have HQ4 := Lib.hid (HQ.out.later L4.out)
          have HM4 := Lib.hid (HM.out.later L4.out)
          clear hF6
          clear rc rp
          refine (HPU.out w4 L4.out).mono ?_
          rintro e w5 ⟨hb5, hc5⟩
          have L5 := Lib.hid (Le.trans L4.out hb5)
          have X5 := Lib.hid (X4.out.later hb5)
          have HB5 := Lib.hid (HB4.out.trans (hb5.mono HB4.out.size))
          have HQ5 := Lib.hid (HQ4.out.later hb5)
          have HM5 := Lib.hid (HM4.out.later hb5)
          obtain ⟨rc, rp, _, _⟩ := HBK2.out w5 X5.out
          clear hb5 k4
          rcases hc5 with ⟨hE, rfl⟩ | ⟨hE, hf, rfl⟩ | ⟨hE, hf, A1, c1, rfl, hr1⟩
          · go_wp2_with (first
              | (refine wpList_load_mid rfl 32 (.tmp 75) rfl F6 1 rfl cc _ rc huc rfl (by rw [HCL.out]; exact info_card) ?_)
              | (refine wpList_load_mid rfl 34 (.tmp 77) rfl F6 28 rfl pc _ rp hup rfl (by rw [HPL.out]; exact info_patch) ?_)
              | fail)
            clear rc rp
            refine (HRP.out w5 L5.out).mono ?_
            rintro e w6 ⟨hb6, ⟨hE2, rfl⟩ | ⟨hE2, hf2, rfl⟩ | ⟨hE2, hf2, A2, c2, rfl, hr2⟩⟩
            · have X6 := Lib.hid (X5.out.later hb6)
              have HB6 := Lib.hid (HB5.out.trans (hb6.mono HB5.out.size))
              have HQ6 := Lib.hid (HQ5.out.later hb6)
              have HM6 := Lib.hid (HM5.out.later hb6)
              clear hb6
              have be : (E != E) = false := by simp
              have be0 : (E == 0) = false := by simpa using hE
              go_wp2_with fail
              refine (from_any none 0 0 [] w6 rfl (fun x hx => by cases hx) Sees.nil_ (by omega)).mono ?_
              rintro e w7 ⟨A7, c7, rfl, hr7, hb7⟩
              rw [show ([] : List Wr).length = 0 from rfl] at hr7 ⊢
              have X7 := Lib.hid (X6.out.later hb7)
              have HB7 := Lib.hid (HB6.out.trans (hb7.mono HB6.out.size))
              have HQ7 := Lib.hid (HQ6.out.later hb7)
              have HM7 := Lib.hid (HM6.out.later hb7)
              have HF7 := Lib.hid (row_sees hr7)
              clear hr7 hb7
              go_wp2_with fail
              refine (rsame_wr A7 0 c7 [] none 0 w7 rfl (fun x hx => by cases hx) HF7.out Sees.nil_ (by omega)).mono ?_
              rintro e w8 ⟨rfl, hb8⟩
              have X8 := Lib.hid (X7.out.later hb8)
              have HB8 := Lib.hid (HB7.out.trans (hb8.mono HB7.out.size))
              have HQ8 := Lib.hid (HQ7.out.later hb8)
              have HM8 := Lib.hid (HM7.out.later hb8)
              clear hb8 HQ7 HM7 HF7
              go_wp2_with fail
              refine wp_region_steady [(121, relRowN w.heap.size 55 28 a (wrs q))] 136 (by kernel_rfl) (by kernel_rfl) (by kernel_rfl) (by rfl) ?_
              repeat (refine wpG_quiet (by rfl) (by rfl) (by rfl) (fun K hK => ?_); go_big_quiet_op; refine hK _ ?_; clear hK K)
              refine wpG_run (by rfl) (by rfl) (.int .i64 id) (fun wx hl => ?_) ?_
              · have kc := (HBK2.out wx (X8.out.later hl.1)).2.2.2
                simp [go_sem, kc]
              simp only [Act.put, List.setIfInBounds_toArray, List.set_cons_zero, List.set_cons_succ]
              refine wpG_call (by rfl) (by rfl) 13 #[.slice Aq a cq, .int .i64 id] (.int .i64 ((mine id q).length : Int)) (by intro _; simp [go_sem]) (by kernel_rfl) (fun wx hl => HWT.out wx Aq a cq q HQL.out HQW.out ha12 (HQ8.out.later hl.1)) ?_
              simp only [Act.put, List.setIfInBounds_toArray, List.set_cons_zero, List.set_cons_succ]
              repeat (refine wpG_quiet (by rfl) (by rfl) (by rfl) (fun K hK => ?_); go_big_quiet_op; refine hK _ ?_; clear hK K)
              refine wpG_run (by rfl) (by rfl) (.int .i64 id) (fun wx hl => ?_) ?_
              · have kc := (HBK2.out wx (X8.out.later hl.1)).2.2.2
                simp [go_sem, kc]
              simp only [Act.put, List.setIfInBounds_toArray, List.set_cons_zero, List.set_cons_succ]
              refine wpG_call (by rfl) (by rfl) 14 #[.slice Am a cm, .int .i64 id] (.int .i64 ((mine id q).length : Int)) (by intro _; simp [go_sem]) (by kernel_rfl) (fun wx hl => HRW.out wx Am a cm q HQL.out HQW.out ha12 (HM8.out.later hl.1)) ?_
              simp only [Act.put, List.setIfInBounds_toArray, List.set_cons_zero, List.set_cons_succ]
              refine wpG_run (by rfl) (by rfl) (.bool false) (fun wx hl => by simp [go_sem]) ?_
              simp only [Act.put, List.setIfInBounds_toArray, List.set_cons_zero, List.set_cons_succ]
              repeat (refine wpG_quiet (by rfl) (by rfl) (by rfl) (fun K hK => ?_); go_big_quiet_op; refine hK _ ?_; clear hK K)
              refine wpG_run (by rfl) (by rfl) (.agg cc.toArray) (fun wx hl => exec_load 32 (.tmp 108) rfl F6 1 rfl cc _ (HBK2.out wx (X8.out.later hl.1)).1 huc rfl (by rw [HCL.out]; exact info_card)) ?_
              simp only [Act.put, List.setIfInBounds_toArray, List.set_cons_zero, List.set_cons_succ]
              repeat (refine wpG_quiet (by rfl) (by rfl) (by rfl) (fun K hK => ?_); go_big_quiet_op; refine hK _ ?_; clear hK K)
              refine wpG_call (by rfl) (by rfl) 15 #[.agg cc.toArray, .slice Aq a cq] (.agg (D q).toArray) (by intro _; simp [go_sem]) (by kernel_rfl) (fun wx hl => HSH.out wx Aq a cq q HQL.out HQW.out ha12 (HQ8.out.later hl.1)) ?_
              simp only [Act.put, List.setIfInBounds_toArray, List.set_cons_zero, List.set_cons_succ]
              repeat (refine wpG_quiet (by rfl) (by rfl) (by rfl) (fun K hK => ?_); go_big_quiet_op; refine hK _ ?_; clear hK K)
              refine wpG_run (by rfl) (by rfl) (.agg cc.toArray) (fun wx hl => exec_load 32 (.tmp 112) rfl F6 1 rfl cc _ (HBK2.out wx (X8.out.later hl.1)).1 huc rfl (by rw [HCL.out]; exact info_card)) ?_
              simp only [Act.put, List.setIfInBounds_toArray, List.set_cons_zero, List.set_cons_succ]
              repeat (refine wpG_quiet (by rfl) (by rfl) (by rfl) (fun K hK => ?_); go_big_quiet_op; refine hK _ ?_; clear hK K)
              refine wpG_call (by rfl) (by rfl) 16 #[.agg cc.toArray, .slice Am a cm] (.agg (D q).toArray) (by intro _; simp [go_sem]) (by kernel_rfl) (fun wx hl => HRS.out wx Am a cm q HQL.out HQW.out ha12 (HM8.out.later hl.1)) ?_
              simp only [Act.put, List.setIfInBounds_toArray, List.set_cons_zero, List.set_cons_succ]
              refine wpG_run (by rfl) (by rfl) (.bool (!true)) (fun wx hl => exec_neq 32 _ (.tmp 111) (.tmp 115) rfl _ _ rfl rfl guard_card true (HEC.out q wx)) ?_
              simp only [Act.put, List.setIfInBounds_toArray, List.set_cons_zero, List.set_cons_succ]
              repeat (refine wpG_quiet (by rfl) (by rfl) (by rfl) (fun K hK => ?_); go_big_quiet_op; refine hK _ ?_; clear hK K)
              refine wpG_calls (relRowN w.heap.size 55 28 a (wrs q)) (by rfl) (by rfl) 18 #[.slice Am a cm] (by intro _; simp [go_sem]) (fun wx hl => (to_any Am a cm q wx HQL.out HQW.out (HM8.out.later hl.1).sees (by omega)).mono ?_) ?_
              · rintro e wy ⟨A', c', rfl, ho, hb⟩
                rw [HQL.out] at ho ⊢
                exact ⟨_, rfl, hb, row_lower ho (Nat.le_trans HB8.out.size hl.1.size)⟩
              rintro u ⟨_, _, _, hrow⟩
              obtain ⟨A9, c9, rfl⟩ := row_form hrow
              clear hrow
              simp only [Act.put, List.setIfInBounds_toArray, List.set_cons_zero, List.set_cons_succ]
              refine wpG_call (by rfl) (by rfl) 17 #[.slice Aq a cq, .slice A9 a c9] (.bool true) (by intro _; simp [go_sem]) (by kernel_rfl) (fun wx hl => ?_) ?_
              · have h9 := hl.2 121 _ (by simp [Op.operands, Call.operands]) rfl (by intro h; cases h)
                exact qsame_wr Aq a cq q A9 c9 wx HQL.out HQW.out (HQ8.out.later hl.1).sees (row_sees h9) (by omega)
              simp only [Act.put, List.setIfInBounds_toArray, List.set_cons_zero, List.set_cons_succ]
              repeat (refine wpG_quiet (by rfl) (by rfl) (by rfl) (fun K hK => ?_); go_big_quiet_op; refine hK _ ?_; clear hK K)
              refine wpG_nil fun w10 hl hS => ?_
              have HQ10 := Lib.hid (HQ8.out.later hl)
              have HM10 := Lib.hid (HM8.out.later hl)
              have HB10 := Lib.hid (HB8.out.trans (hl.mono HB8.out.size))
              clear hl hS
              go_wp2_with fail
              go_roundw
              case rel => exact ⟨k + 1, a, cq, cm, Aq, Am, q, by omega, by go_num, rfl, rfl, HQL, ha12, HQW, HLO2, HQ10, HM10, HB10⟩
              case measure => simp [intOf]; omega
            · exact absurd hE2 hE
            · exact absurd hE2 hE
          · go_wp2_with (first
              | (refine wpList_load_mid rfl 32 (.tmp 75) rfl F6 1 rfl cc _ rc huc rfl (by rw [HCL.out]; exact info_card) ?_)
              | (refine wpList_load_mid rfl 34 (.tmp 77) rfl F6 28 rfl pc _ rp hup rfl (by rw [HPL.out]; exact info_patch) ?_)
              | fail)
            clear rc rp
            refine (HRP.out w5 L5.out).mono ?_
            rintro e w6 ⟨hb6, ⟨hE2, rfl⟩ | ⟨hE2, hf2, rfl⟩ | ⟨hE2, hf2, A2, c2, rfl, hr2⟩⟩
            · exact absurd hE hE2
            · have X6 := Lib.hid (X5.out.later hb6)
              have HB6 := Lib.hid (HB5.out.trans (hb6.mono HB5.out.size))
              have HQ6 := Lib.hid (HQ5.out.later hb6)
              have HM6 := Lib.hid (HM5.out.later hb6)
              clear hb6
              go_wp2_with fail
              refine (from_any none 0 0 [] w6 rfl (fun x hx => by cases hx) Sees.nil_ (by omega)).mono ?_
              rintro e w7 ⟨A7, c7, rfl, hr7, hb7⟩
              rw [show ([] : List Wr).length = 0 from rfl] at hr7 ⊢
              have X7 := Lib.hid (X6.out.later hb7)
              have HB7 := Lib.hid (HB6.out.trans (hb7.mono HB6.out.size))
              have HQ7 := Lib.hid (HQ6.out.later hb7)
              have HM7 := Lib.hid (HM6.out.later hb7)
              have HF7 := Lib.hid (row_sees hr7)
              clear hr7 hb7
              go_wp2_with fail
              refine (rsame_wr A7 0 c7 [] none 0 w7 rfl (fun x hx => by cases hx) HF7.out Sees.nil_ (by omega)).mono ?_
              rintro e w8 ⟨rfl, hb8⟩
              have X8 := Lib.hid (X7.out.later hb8)
              have HB8 := Lib.hid (HB7.out.trans (hb8.mono HB7.out.size))
              have HQ8 := Lib.hid (HQ7.out.later hb8)
              have HM8 := Lib.hid (HM7.out.later hb8)
              clear hb8 HQ7 HM7 HF7
              go_wp2_with fail
              refine wp_region_steady [(121, relRowN w.heap.size 55 28 a (wrs q))] 136 (by kernel_rfl) (by kernel_rfl) (by kernel_rfl) (by rfl) ?_
              repeat (refine wpG_quiet (by rfl) (by rfl) (by rfl) (fun K hK => ?_); go_big_quiet_op; refine hK _ ?_; clear hK K)
              refine wpG_run (by rfl) (by rfl) (.int .i64 id) (fun wx hl => ?_) ?_
              · have kc := (HBK2.out wx (X8.out.later hl.1)).2.2.2
                simp [go_sem, kc]
              simp only [Act.put, List.setIfInBounds_toArray, List.set_cons_zero, List.set_cons_succ]
              refine wpG_call (by rfl) (by rfl) 13 #[.slice Aq a cq, .int .i64 id] (.int .i64 ((mine id q).length : Int)) (by intro _; simp [go_sem]) (by kernel_rfl) (fun wx hl => HWT.out wx Aq a cq q HQL.out HQW.out ha12 (HQ8.out.later hl.1)) ?_
              simp only [Act.put, List.setIfInBounds_toArray, List.set_cons_zero, List.set_cons_succ]
              repeat (refine wpG_quiet (by rfl) (by rfl) (by rfl) (fun K hK => ?_); go_big_quiet_op; refine hK _ ?_; clear hK K)
              refine wpG_run (by rfl) (by rfl) (.int .i64 id) (fun wx hl => ?_) ?_
              · have kc := (HBK2.out wx (X8.out.later hl.1)).2.2.2
                simp [go_sem, kc]
              simp only [Act.put, List.setIfInBounds_toArray, List.set_cons_zero, List.set_cons_succ]
              refine wpG_call (by rfl) (by rfl) 14 #[.slice Am a cm, .int .i64 id] (.int .i64 ((mine id q).length : Int)) (by intro _; simp [go_sem]) (by kernel_rfl) (fun wx hl => HRW.out wx Am a cm q HQL.out HQW.out ha12 (HM8.out.later hl.1)) ?_
              simp only [Act.put, List.setIfInBounds_toArray, List.set_cons_zero, List.set_cons_succ]
              refine wpG_run (by rfl) (by rfl) (.bool false) (fun wx hl => by simp [go_sem]) ?_
              simp only [Act.put, List.setIfInBounds_toArray, List.set_cons_zero, List.set_cons_succ]
              repeat (refine wpG_quiet (by rfl) (by rfl) (by rfl) (fun K hK => ?_); go_big_quiet_op; refine hK _ ?_; clear hK K)
              refine wpG_run (by rfl) (by rfl) (.agg cc.toArray) (fun wx hl => exec_load 32 (.tmp 108) rfl F6 1 rfl cc _ (HBK2.out wx (X8.out.later hl.1)).1 huc rfl (by rw [HCL.out]; exact info_card)) ?_
              simp only [Act.put, List.setIfInBounds_toArray, List.set_cons_zero, List.set_cons_succ]
              repeat (refine wpG_quiet (by rfl) (by rfl) (by rfl) (fun K hK => ?_); go_big_quiet_op; refine hK _ ?_; clear hK K)
              refine wpG_call (by rfl) (by rfl) 15 #[.agg cc.toArray, .slice Aq a cq] (.agg (D q).toArray) (by intro _; simp [go_sem]) (by kernel_rfl) (fun wx hl => HSH.out wx Aq a cq q HQL.out HQW.out ha12 (HQ8.out.later hl.1)) ?_
              simp only [Act.put, List.setIfInBounds_toArray, List.set_cons_zero, List.set_cons_succ]
              repeat (refine wpG_quiet (by rfl) (by rfl) (by rfl) (fun K hK => ?_); go_big_quiet_op; refine hK _ ?_; clear hK K)
              refine wpG_run (by rfl) (by rfl) (.agg cc.toArray) (fun wx hl => exec_load 32 (.tmp 112) rfl F6 1 rfl cc _ (HBK2.out wx (X8.out.later hl.1)).1 huc rfl (by rw [HCL.out]; exact info_card)) ?_
              simp only [Act.put, List.setIfInBounds_toArray, List.set_cons_zero, List.set_cons_succ]
              repeat (refine wpG_quiet (by rfl) (by rfl) (by rfl) (fun K hK => ?_); go_big_quiet_op; refine hK _ ?_; clear hK K)
              refine wpG_call (by rfl) (by rfl) 16 #[.agg cc.toArray, .slice Am a cm] (.agg (D q).toArray) (by intro _; simp [go_sem]) (by kernel_rfl) (fun wx hl => HRS.out wx Am a cm q HQL.out HQW.out ha12 (HM8.out.later hl.1)) ?_
              simp only [Act.put, List.setIfInBounds_toArray, List.set_cons_zero, List.set_cons_succ]
              refine wpG_run (by rfl) (by rfl) (.bool (!true)) (fun wx hl => exec_neq 32 _ (.tmp 111) (.tmp 115) rfl _ _ rfl rfl guard_card true (HEC.out q wx)) ?_
              simp only [Act.put, List.setIfInBounds_toArray, List.set_cons_zero, List.set_cons_succ]
              repeat (refine wpG_quiet (by rfl) (by rfl) (by rfl) (fun K hK => ?_); go_big_quiet_op; refine hK _ ?_; clear hK K)
              refine wpG_calls (relRowN w.heap.size 55 28 a (wrs q)) (by rfl) (by rfl) 18 #[.slice Am a cm] (by intro _; simp [go_sem]) (fun wx hl => (to_any Am a cm q wx HQL.out HQW.out (HM8.out.later hl.1).sees (by omega)).mono ?_) ?_
              · rintro e wy ⟨A', c', rfl, ho, hb⟩
                rw [HQL.out] at ho ⊢
                exact ⟨_, rfl, hb, row_lower ho (Nat.le_trans HB8.out.size hl.1.size)⟩
              rintro u ⟨_, _, _, hrow⟩
              obtain ⟨A9, c9, rfl⟩ := row_form hrow
              clear hrow
              simp only [Act.put, List.setIfInBounds_toArray, List.set_cons_zero, List.set_cons_succ]
              refine wpG_call (by rfl) (by rfl) 17 #[.slice Aq a cq, .slice A9 a c9] (.bool true) (by intro _; simp [go_sem]) (by kernel_rfl) (fun wx hl => ?_) ?_
              · have h9 := hl.2 121 _ (by simp [Op.operands, Call.operands]) rfl (by intro h; cases h)
                exact qsame_wr Aq a cq q A9 c9 wx HQL.out HQW.out (HQ8.out.later hl.1).sees (row_sees h9) (by omega)
              simp only [Act.put, List.setIfInBounds_toArray, List.set_cons_zero, List.set_cons_succ]
              repeat (refine wpG_quiet (by rfl) (by rfl) (by rfl) (fun K hK => ?_); go_big_quiet_op; refine hK _ ?_; clear hK K)
              refine wpG_nil fun w10 hl hS => ?_
              have HQ10 := Lib.hid (HQ8.out.later hl)
              have HM10 := Lib.hid (HM8.out.later hl)
              have HB10 := Lib.hid (HB8.out.trans (hl.mono HB8.out.size))
              clear hl hS
              go_wp2_with fail
              go_roundw
              case rel => exact ⟨k + 1, a, cq, cm, Aq, Am, q, by omega, by go_num, rfl, rfl, HQL, ha12, HQW, HLO2, HQ10, HM10, HB10⟩
              case measure => simp [intOf]; omega
            · exfalso; omega
          · have HP5 := Lib.hid (sq_row hr1)
            clear hr1
            go_wp2_with (first
              | (refine wpList_load_mid rfl 32 (.tmp 75) rfl F6 1 rfl cc _ rc huc rfl (by rw [HCL.out]; exact info_card) ?_)
              | (refine wpList_load_mid rfl 34 (.tmp 77) rfl F6 28 rfl pc _ rp hup rfl (by rw [HPL.out]; exact info_patch) ?_)
              | fail)
            clear rc rp
            refine (HRP.out w5 L5.out).mono ?_
            rintro e w6 ⟨hb6, ⟨hE2, rfl⟩ | ⟨hE2, hf2, rfl⟩ | ⟨hE2, hf2, A2, c2, rfl, hr2⟩⟩
            · exact absurd hE hE2
            · exfalso; omega
            · have X6 := Lib.hid (X5.out.later hb6)
              have HB6 := Lib.hid (HB5.out.trans (hb6.mono HB5.out.size))
              have HQ6 := Lib.hid (HQ5.out.later hb6)
              have HM6 := Lib.hid (HM5.out.later hb6)
              have HP6 := Lib.hid (HP5.out.later hb6)
              have HR6 := Lib.hid (sq_row hr2)
              clear hr2
              clear hb6
              go_wp2_with fail
              refine (from_any A1 (a + 1) c1 q' w6 HLL.out HWS.out HP6.out.sees (by omega)).mono ?_
              rintro e w7 ⟨A7, c7, rfl, hr7, hb7⟩
              rw [HLL.out] at hr7 ⊢
              have X7 := Lib.hid (X6.out.later hb7)
              have HB7 := Lib.hid (HB6.out.trans (hb7.mono HB6.out.size))
              have HQ7 := Lib.hid (HQ6.out.later hb7)
              have HM7 := Lib.hid (HM6.out.later hb7)
              have HP7 := Lib.hid (HP6.out.later hb7)
              have HR7 := Lib.hid (HR6.out.later hb7)
              have HF7 := Lib.hid (row_sees hr7)
              clear hr7 hb7
              go_wp2_with fail
              refine (rsame_wr A7 (a + 1) c7 q' A2 c2 w7 HLL.out HWS.out HF7.out HR7.out.sees (by omega)).mono ?_
              rintro e w8 ⟨rfl, hb8⟩
              have X8 := Lib.hid (X7.out.later hb8)
              have HB8 := Lib.hid (HB7.out.trans (hb8.mono HB7.out.size))
              have HQ8 := Lib.hid (HP7.out.later hb8)
              have HM8 := Lib.hid (HR7.out.later hb8)
              clear hb8 HQ7 HM7 HF7
              go_wp2_with fail
              refine wp_region_steady [(121, relRowN w.heap.size 55 28 (a + 1) (wrs q'))] 136 (by kernel_rfl) (by kernel_rfl) (by kernel_rfl) (by rfl) ?_
              repeat (refine wpG_quiet (by rfl) (by rfl) (by rfl) (fun K hK => ?_); go_big_quiet_op; refine hK _ ?_; clear hK K)
              refine wpG_run (by rfl) (by rfl) (.int .i64 id) (fun wx hl => ?_) ?_
              · have kc := (HBK2.out wx (X8.out.later hl.1)).2.2.2
                simp [go_sem, kc]
              simp only [Act.put, List.setIfInBounds_toArray, List.set_cons_zero, List.set_cons_succ]
              refine wpG_call (by rfl) (by rfl) 13 #[.slice A1 (a + 1) c1, .int .i64 id] (.int .i64 ((mine id q').length : Int)) (by intro _; simp [go_sem]) (by kernel_rfl) (fun wx hl => HWT.out wx A1 (a + 1) c1 q' HLL.out HWS.out (by omega) (HQ8.out.later hl.1)) ?_
              simp only [Act.put, List.setIfInBounds_toArray, List.set_cons_zero, List.set_cons_succ]
              repeat (refine wpG_quiet (by rfl) (by rfl) (by rfl) (fun K hK => ?_); go_big_quiet_op; refine hK _ ?_; clear hK K)
              refine wpG_run (by rfl) (by rfl) (.int .i64 id) (fun wx hl => ?_) ?_
              · have kc := (HBK2.out wx (X8.out.later hl.1)).2.2.2
                simp [go_sem, kc]
              simp only [Act.put, List.setIfInBounds_toArray, List.set_cons_zero, List.set_cons_succ]
              refine wpG_call (by rfl) (by rfl) 14 #[.slice A2 (a + 1) c2, .int .i64 id] (.int .i64 ((mine id q').length : Int)) (by intro _; simp [go_sem]) (by kernel_rfl) (fun wx hl => HRW.out wx A2 (a + 1) c2 q' HLL.out HWS.out (by omega) (HM8.out.later hl.1)) ?_
              simp only [Act.put, List.setIfInBounds_toArray, List.set_cons_zero, List.set_cons_succ]
              refine wpG_run (by rfl) (by rfl) (.bool false) (fun wx hl => by simp [go_sem]) ?_
              simp only [Act.put, List.setIfInBounds_toArray, List.set_cons_zero, List.set_cons_succ]
              repeat (refine wpG_quiet (by rfl) (by rfl) (by rfl) (fun K hK => ?_); go_big_quiet_op; refine hK _ ?_; clear hK K)
              refine wpG_run (by rfl) (by rfl) (.agg cc.toArray) (fun wx hl => exec_load 32 (.tmp 108) rfl F6 1 rfl cc _ (HBK2.out wx (X8.out.later hl.1)).1 huc rfl (by rw [HCL.out]; exact info_card)) ?_
              simp only [Act.put, List.setIfInBounds_toArray, List.set_cons_zero, List.set_cons_succ]
              repeat (refine wpG_quiet (by rfl) (by rfl) (by rfl) (fun K hK => ?_); go_big_quiet_op; refine hK _ ?_; clear hK K)
              refine wpG_call (by rfl) (by rfl) 15 #[.agg cc.toArray, .slice A1 (a + 1) c1] (.agg (D q').toArray) (by intro _; simp [go_sem]) (by kernel_rfl) (fun wx hl => HSH.out wx A1 (a + 1) c1 q' HLL.out HWS.out (by omega) (HQ8.out.later hl.1)) ?_
              simp only [Act.put, List.setIfInBounds_toArray, List.set_cons_zero, List.set_cons_succ]
              repeat (refine wpG_quiet (by rfl) (by rfl) (by rfl) (fun K hK => ?_); go_big_quiet_op; refine hK _ ?_; clear hK K)
              refine wpG_run (by rfl) (by rfl) (.agg cc.toArray) (fun wx hl => exec_load 32 (.tmp 112) rfl F6 1 rfl cc _ (HBK2.out wx (X8.out.later hl.1)).1 huc rfl (by rw [HCL.out]; exact info_card)) ?_
              simp only [Act.put, List.setIfInBounds_toArray, List.set_cons_zero, List.set_cons_succ]
              repeat (refine wpG_quiet (by rfl) (by rfl) (by rfl) (fun K hK => ?_); go_big_quiet_op; refine hK _ ?_; clear hK K)
              refine wpG_call (by rfl) (by rfl) 16 #[.agg cc.toArray, .slice A2 (a + 1) c2] (.agg (D q').toArray) (by intro _; simp [go_sem]) (by kernel_rfl) (fun wx hl => HRS.out wx A2 (a + 1) c2 q' HLL.out HWS.out (by omega) (HM8.out.later hl.1)) ?_
              simp only [Act.put, List.setIfInBounds_toArray, List.set_cons_zero, List.set_cons_succ]
              refine wpG_run (by rfl) (by rfl) (.bool (!true)) (fun wx hl => exec_neq 32 _ (.tmp 111) (.tmp 115) rfl _ _ rfl rfl guard_card true (HEC.out q' wx)) ?_
              simp only [Act.put, List.setIfInBounds_toArray, List.set_cons_zero, List.set_cons_succ]
              repeat (refine wpG_quiet (by rfl) (by rfl) (by rfl) (fun K hK => ?_); go_big_quiet_op; refine hK _ ?_; clear hK K)
              refine wpG_calls (relRowN w.heap.size 55 28 (a + 1) (wrs q')) (by rfl) (by rfl) 18 #[.slice A2 (a + 1) c2] (by intro _; simp [go_sem]) (fun wx hl => (to_any A2 (a + 1) c2 q' wx HLL.out HWS.out (HM8.out.later hl.1).sees (by omega)).mono ?_) ?_
              · rintro e wy ⟨A', c', rfl, ho, hb⟩
                rw [HLL.out] at ho ⊢
                exact ⟨_, rfl, hb, row_lower ho (Nat.le_trans HB8.out.size hl.1.size)⟩
              rintro u ⟨_, _, _, hrow⟩
              obtain ⟨A9, c9, rfl⟩ := row_form hrow
              clear hrow
              simp only [Act.put, List.setIfInBounds_toArray, List.set_cons_zero, List.set_cons_succ]
              refine wpG_call (by rfl) (by rfl) 17 #[.slice A1 (a + 1) c1, .slice A9 (a + 1) c9] (.bool true) (by intro _; simp [go_sem]) (by kernel_rfl) (fun wx hl => ?_) ?_
              · have h9 := hl.2 121 _ (by simp [Op.operands, Call.operands]) rfl (by intro h; cases h)
                exact qsame_wr A1 (a + 1) c1 q' A9 c9 wx HLL.out HWS.out (HQ8.out.later hl.1).sees (row_sees h9) (by omega)
              simp only [Act.put, List.setIfInBounds_toArray, List.set_cons_zero, List.set_cons_succ]
              repeat (refine wpG_quiet (by rfl) (by rfl) (by rfl) (fun K hK => ?_); go_big_quiet_op; refine hK _ ?_; clear hK K)
              refine wpG_nil fun w10 hl hS => ?_
              have HQ10 := Lib.hid (HQ8.out.later hl)
              have HM10 := Lib.hid (HM8.out.later hl)
              have HB10 := Lib.hid (HB8.out.trans (hl.mono HB8.out.size))
              clear hl hS
              go_wp2_with fail
              go_roundw
              case rel => exact ⟨k + 1, (a + 1), c1, c2, A1, A2, q', by omega, by go_num, rfl, rfl, HLL, (by omega), HWS, HLS, HQ10, HM10, HB10⟩
              case measure => simp [intOf]; omega
        · have bk : (kd == 0) = false := by simpa using hk0
          go_wp2_with (first
            | (refine wpList_load_mid rfl 36 (.tmp 28) rfl b (o + k * 54) rfl xc _ hrg hua rfl (by rw [HSZ.out]; exact info_act) ?_
               clear hrg)
            | (refine wpList_store_mid rfl 36 (.tmp 6) (.tmp 29) rfl wr.heap.size 0 xc.toArray rfl rfl TH2 IN2 ON ?_
               simp only [Act.put]
               generalize hw4 : World.setCells _ wr.heap.size 0 xc.toArray.toList = w4
               have X4 : Hid (Blk w4 wr.heap.size xc) := Lib.hid (hw4 ▸ HF3.out)
               have L4 : Hid (Le wr w4) := Lib.hid (hw4 ▸ HB3.out)
               have k4 := (HBK2.out w4 X4.out).2.2.1
               clear hw4 TH2 IN2 HF3 HB3)
            | fail)
          rw [← hF6] at X4 HBK2 ⊢
          have HB4 := Lib.hid (HB.out.trans (Below.mono L4.out HB.out.size))
          have HQ4 := Lib.hid (HQ.out.later L4.out)
          have HM4 := Lib.hid (HM.out.later L4.out)
          clear hF6
          obtain ⟨left, gone, hwl, hwg, hll, hl12, hg12, hd1, hd2⟩ := HDB.out w4 L4.out
          have HWL := Lib.hid hwl
          have HWG := Lib.hid hwg
          have HLL2 := Lib.hid hll
          have HD1 := Lib.hid (hd1 w4 (Le.refl _))
          have HD2 := Lib.hid hd2
          clear hwl hwg hll hd1 hd2
          obtain ⟨kb, hkb⟩ : ∃ kb, kb = (kd == 1) := ⟨_, rfl⟩
          rw [← hkb] at HD1 HD2
          have HKB := Lib.hid hkb
          clear hkb
          rw [← HKB.out]
          refine HD1.out.mono ?_
          rintro e w5 ⟨Al, cl, Ag, cg, rfl, hrl, hrg2, hb5⟩
          obtain ⟨m, hm⟩ : ∃ m, m = left.length := ⟨_, rfl⟩
          obtain ⟨g, hg⟩ : ∃ g, g = gone.length := ⟨_, rfl⟩
          have HD5 := Lib.hid (HD2.out w5 hb5)
          unfold GivesRDone at HD5
          rw [← hm] at hrl hl12 HD5 ⊢
          rw [← hg] at hrg2 hg12 HD5 ⊢
          have HML := Lib.hid hm.symm
          have HGL := Lib.hid hg.symm
          have X5 := Lib.hid (X4.out.later hb5)
          have HB5 := Lib.hid (HB4.out.trans (hb5.mono HB4.out.size))
          have HL5 := Lib.hid (sq_row hrl)
          have HG5 := Lib.hid (sq_row hrg2)
          have k5 := (HBK2.out w5 X5.out).2.2.1
          clear hb5 hrl hrg2 hm hg HD2 HD1 k4
          go_wp2_with fail
          rw [← HKB.out]
          refine HD5.out.mono ?_
          rintro e w6 ⟨Al2, cl2, Ag2, cg2, rfl, hsl, hnil, hcap, hsg, hb6⟩
          have X6 := Lib.hid (X5.out.later hb6)
          have HB6 := Lib.hid (HB5.out.trans (hb6.mono HB5.out.size))
          have HL6 := Lib.hid (HL5.out.later hb6)
          have HG6 := Lib.hid (HG5.out.later hb6)
          have HM6 : Hid (SQ w6 Al2 m cl2 left) := Lib.hid ⟨hsl, hcap, hnil⟩
          have HS6 := Lib.hid (fun wx (h : Le w6 wx) => (hsg.below h).more h.size)
          clear hsl hnil hcap hsg hb6 k5
          go_wp2_with fail
          refine (from_any Al m cl left w6 HML.out HWL.out HL6.out.sees (by omega)).mono ?_
          rintro e w7 ⟨A7, c7, rfl, hr7, hb7⟩
          rw [HML.out] at hr7 ⊢
          have X7 := Lib.hid (X6.out.later hb7)
          have HB7 := Lib.hid (HB6.out.trans (hb7.mono HB6.out.size))
          have HL7 := Lib.hid (HL6.out.later hb7)
          have HG7 := Lib.hid (HG6.out.later hb7)
          have HM7 := Lib.hid (HM6.out.later hb7)
          have L7 : Hid (Le w6 w7) := Lib.hid hb7
          have HF7 := Lib.hid (row_sees hr7)
          clear hr7 hb7
          go_wp2_with fail
          refine (rsame_wr A7 m c7 left Al2 cl2 w7 HML.out HWL.out HF7.out HM7.out.sees (by omega)).mono ?_
          rintro e wa ⟨rfl, hba⟩
          have Xa := Lib.hid (X7.out.later hba)
          have HBa := Lib.hid (HB7.out.trans (hba.mono HB7.out.size))
          have HLa := Lib.hid (HL7.out.later hba)
          have HGa := Lib.hid (HG7.out.later hba)
          have HMa := Lib.hid (HM7.out.later hba)
          have La := Lib.hid (Le.trans L7.out hba)
          clear hba HF7
          go_wp2_with fail
          refine (from_any Ag g cg gone wa HGL.out HWG.out HGa.out.sees (by omega)).mono ?_
          rintro e wb ⟨A8, c8, rfl, hr8, hbb⟩
          rw [HGL.out] at hr8 ⊢
          have Xb := Lib.hid (Xa.out.later hbb)
          have HBb := Lib.hid (HBa.out.trans (hbb.mono HBa.out.size))
          have HLb := Lib.hid (HLa.out.later hbb)
          have HMb := Lib.hid (HMa.out.later hbb)
          have Lb := Lib.hid (Le.trans La.out hbb)
          have HF8 := Lib.hid (row_sees hr8)
          clear hr8 hbb
          go_wp2_with fail
          refine (rsame_wr A8 g c8 gone Ag2 cg2 wb HGL.out HWG.out HF8.out (HS6.out wb Lb.out) (by omega)).mono ?_
          rintro e w8 ⟨rfl, hb8⟩
          have X8 := Lib.hid (Xb.out.later hb8)
          have HB8 := Lib.hid (HBb.out.trans (hb8.mono HBb.out.size))
          have HQ8 := Lib.hid (HLb.out.later hb8)
          have HM8 := Lib.hid (HMb.out.later hb8)
          clear hb8 HF8
          go_wp2_with fail
          refine wp_region_steady [(121, relRowN w.heap.size 55 28 m (wrs left))] 136 (by kernel_rfl) (by kernel_rfl) (by kernel_rfl) (by rfl) ?_
          repeat (refine wpG_quiet (by rfl) (by rfl) (by rfl) (fun K hK => ?_); go_big_quiet_op; refine hK _ ?_; clear hK K)
          refine wpG_run (by rfl) (by rfl) (.int .i64 id) (fun wx hl => ?_) ?_
          · have kc := (HBK2.out wx (X8.out.later hl.1)).2.2.2
            simp [go_sem, kc]
          simp only [Act.put, List.setIfInBounds_toArray, List.set_cons_zero, List.set_cons_succ]
          refine wpG_call (by rfl) (by rfl) 13 #[.slice Al m cl, .int .i64 id] (.int .i64 ((mine id left).length : Int)) (by intro _; simp [go_sem]) (by kernel_rfl) (fun wx hl => HWT.out wx Al m cl left HML.out HWL.out hl12 (HQ8.out.later hl.1)) ?_
          simp only [Act.put, List.setIfInBounds_toArray, List.set_cons_zero, List.set_cons_succ]
          repeat (refine wpG_quiet (by rfl) (by rfl) (by rfl) (fun K hK => ?_); go_big_quiet_op; refine hK _ ?_; clear hK K)
          refine wpG_run (by rfl) (by rfl) (.int .i64 id) (fun wx hl => ?_) ?_
          · have kc := (HBK2.out wx (X8.out.later hl.1)).2.2.2
            simp [go_sem, kc]
          simp only [Act.put, List.setIfInBounds_toArray, List.set_cons_zero, List.set_cons_succ]
          refine wpG_call (by rfl) (by rfl) 14 #[.slice Al2 m cl2, .int .i64 id] (.int .i64 ((mine id left).length : Int)) (by intro _; simp [go_sem]) (by kernel_rfl) (fun wx hl => HRW.out wx Al2 m cl2 left HML.out HWL.out hl12 (HM8.out.later hl.1)) ?_
          simp only [Act.put, List.setIfInBounds_toArray, List.set_cons_zero, List.set_cons_succ]
          refine wpG_run (by rfl) (by rfl) (.bool false) (fun wx hl => by simp [go_sem]) ?_
          simp only [Act.put, List.setIfInBounds_toArray, List.set_cons_zero, List.set_cons_succ]
          repeat (refine wpG_quiet (by rfl) (by rfl) (by rfl) (fun K hK => ?_); go_big_quiet_op; refine hK _ ?_; clear hK K)
          refine wpG_run (by rfl) (by rfl) (.agg cc.toArray) (fun wx hl => exec_load 32 (.tmp 108) rfl F6 1 rfl cc _ (HBK2.out wx (X8.out.later hl.1)).1 huc rfl (by rw [HCL.out]; exact info_card)) ?_
          simp only [Act.put, List.setIfInBounds_toArray, List.set_cons_zero, List.set_cons_succ]
          repeat (refine wpG_quiet (by rfl) (by rfl) (by rfl) (fun K hK => ?_); go_big_quiet_op; refine hK _ ?_; clear hK K)
          refine wpG_call (by rfl) (by rfl) 15 #[.agg cc.toArray, .slice Al m cl] (.agg (D left).toArray) (by intro _; simp [go_sem]) (by kernel_rfl) (fun wx hl => HSH.out wx Al m cl left HML.out HWL.out hl12 (HQ8.out.later hl.1)) ?_
          simp only [Act.put, List.setIfInBounds_toArray, List.set_cons_zero, List.set_cons_succ]
          repeat (refine wpG_quiet (by rfl) (by rfl) (by rfl) (fun K hK => ?_); go_big_quiet_op; refine hK _ ?_; clear hK K)
          refine wpG_run (by rfl) (by rfl) (.agg cc.toArray) (fun wx hl => exec_load 32 (.tmp 112) rfl F6 1 rfl cc _ (HBK2.out wx (X8.out.later hl.1)).1 huc rfl (by rw [HCL.out]; exact info_card)) ?_
          simp only [Act.put, List.setIfInBounds_toArray, List.set_cons_zero, List.set_cons_succ]
          repeat (refine wpG_quiet (by rfl) (by rfl) (by rfl) (fun K hK => ?_); go_big_quiet_op; refine hK _ ?_; clear hK K)
          refine wpG_call (by rfl) (by rfl) 16 #[.agg cc.toArray, .slice Al2 m cl2] (.agg (D left).toArray) (by intro _; simp [go_sem]) (by kernel_rfl) (fun wx hl => HRS.out wx Al2 m cl2 left HML.out HWL.out hl12 (HM8.out.later hl.1)) ?_
          simp only [Act.put, List.setIfInBounds_toArray, List.set_cons_zero, List.set_cons_succ]
          refine wpG_run (by rfl) (by rfl) (.bool (!true)) (fun wx hl => exec_neq 32 _ (.tmp 111) (.tmp 115) rfl _ _ rfl rfl guard_card true (HEC.out left wx)) ?_
          simp only [Act.put, List.setIfInBounds_toArray, List.set_cons_zero, List.set_cons_succ]
          repeat (refine wpG_quiet (by rfl) (by rfl) (by rfl) (fun K hK => ?_); go_big_quiet_op; refine hK _ ?_; clear hK K)
          refine wpG_calls (relRowN w.heap.size 55 28 m (wrs left)) (by rfl) (by rfl) 18 #[.slice Al2 m cl2] (by intro _; simp [go_sem]) (fun wx hl => (to_any Al2 m cl2 left wx HML.out HWL.out (HM8.out.later hl.1).sees (by omega)).mono ?_) ?_
          · rintro e wy ⟨A', c', rfl, ho, hb⟩
            rw [HML.out] at ho ⊢
            exact ⟨_, rfl, hb, row_lower ho (Nat.le_trans HB8.out.size hl.1.size)⟩
          rintro u ⟨_, _, _, hrow⟩
          obtain ⟨A9, c9, rfl⟩ := row_form hrow
          clear hrow
          simp only [Act.put, List.setIfInBounds_toArray, List.set_cons_zero, List.set_cons_succ]
          refine wpG_call (by rfl) (by rfl) 17 #[.slice Al m cl, .slice A9 m c9] (.bool true) (by intro _; simp [go_sem]) (by kernel_rfl) (fun wx hl => ?_) ?_
          · have h9 := hl.2 121 _ (by simp [Op.operands, Call.operands]) rfl (by intro h; cases h)
            exact qsame_wr Al m cl left A9 c9 wx HML.out HWL.out (HQ8.out.later hl.1).sees (row_sees h9) (by omega)
          simp only [Act.put, List.setIfInBounds_toArray, List.set_cons_zero, List.set_cons_succ]
          repeat (refine wpG_quiet (by rfl) (by rfl) (by rfl) (fun K hK => ?_); go_big_quiet_op; refine hK _ ?_; clear hK K)
          refine wpG_nil fun w10 hl hS => ?_
          have HQ10 := Lib.hid (HQ8.out.later hl)
          have HM10 := Lib.hid (HM8.out.later hl)
          have HB10 := Lib.hid (HB8.out.trans (hl.mono HB8.out.size))
          clear hl hS
          go_wp2_with fail
          go_roundw
          case rel => exact ⟨k + 1, m, cl, cl2, Al, Al2, left, by omega, by go_num, rfl, rfl, HML, hl12, HWL, HLL2, HQ10, HM10, HB10⟩
          case measure => simp [intOf]; omega
      · obtain rfl : k = n := by omega
        have d1 : decide ((k : Int) < (k : Int)) = false := by simp
        go_wp2_with fail
        refine (to_any Am a cm q wr HQL.out HQW.out HM.out.sees (by omega)).mono ?_
        rintro e w5 ⟨A5, c5, rfl, hr5, hb5⟩
        rw [HQL.out] at hr5 ⊢
        have HB5 := Lib.hid (HB.out.trans (hb5.mono HB.out.size))
        have R5 := Lib.hid (World.ownsRow.alloc hr5 (.cells (wrc zwr).toArray 55))
        have HB6 := Lib.hid (HB5.out.alloc HB5.out.size (.cells (wrc zwr).toArray 55))
        have hz5 := hb5.size
        have HSE : Hid (Sees (w5.alloc (.cells (wrc zwr).toArray 55)) (w5.heap.size + 1) (some ⟨w5.heap.size, 0, none⟩) (wrc zwr)) := Lib.hid (sees_lit w5 (wrc zwr).toArray 55 (0, 0) (wrc zwr) rfl)
        have HZL := Lib.hid zwr_len
        have HZO := Lib.hid (wrc_one zwr)
        have HBS := Lib.hid (fun wx => run_qw1 zwr zeros_len wx)
        have HXB := Lib.hid (fun (a : Act) (op : Oper) (ho : op.op = .build 55 #[]) (wx : World) => exec_qb0 (a := a) ho wx)
        obtain ⟨zc, hzc⟩ : ∃ zc, zc = wrc zwr := ⟨_, rfl⟩
        rw [← hzc] at R5 HB6 HSE HZL HZO HBS HXB
        clear hr5 hb5 hzc
        go_wp2_with (first
          | (refine wpList_exec (by rfl) (.agg zc.toArray) (HXB.out _ _ rfl _) ?_)
          | (refine wpList_bs1 (T := 55) rfl (.tmp 128) zc.toArray rfl rfl (HBS.out _) ?_)
          | (at_builtin
             refine wpList_appk _ rfl (.tmp 127) (.tmp 129) 25 rfl wr.heap.size 55 i1 _ 28 280 Try.underlying25 ji jz0 jz1 jz2 (by rfl) (by decide) (.slice A5 a c5) a (wrs q) rfl R5.out (w5.heap.size + 1) (some ⟨w5.heap.size, 0, none⟩) 1 zc 1 rfl (by rw [HZL.out]) HSE.out HZO.out (by unfold maxLen; omega) (by omega) (Nat.le_trans hz5 (by simp)) ?_
             intro A6 c6 w7 hr7 hb7 hg7 hat7
             have HB7 : Hid (Below w.heap.size w w7) := Lib.hid (HB6.out.trans (hb7.mono HB.out.size))
             clear hr7 hb7 hg7 hat7)
          | fail)
        refine (qsame_len Aq a cq A6 (a + 1) c6 w7 (by omega)).mono ?_
        rintro e w8 ⟨rfl, hb8⟩
        have HB8 := Lib.hid (HB7.out.trans (hb8.mono HB7.out.size))
        clear hb8
        go_wp2_with fail
        refine (HAW.out _).mono ?_
        rintro e w9 ⟨rfl, hb9⟩
        go_wp2_with fail
        go_ret
        exact ⟨rfl, HB8.out.trans (hb9.mono HB8.out.size)⟩
  · go_wp2_with fail
    refine (HAW.out _).mono ?_
    rintro e w5 ⟨rfl, hb5⟩
    go_wp2_with fail
    go_ret
    exact ⟨rfl, hb1.trans (hb5.mono hb1.size)⟩
end Go.Proofs.Ytjlpccdlpgkgoaa
