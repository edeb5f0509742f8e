/- TransTwice: the law's walk. -/
import Derived.Test.YtepefocpeeihdaaU6
import Derived.Test.YtepefocpeeihdaaU7
import Derived.Test.YtepefocpeeihdaaU9
import Derived.Test.YtepefocpeeihdaaU10
import Derived.Test.YtepefocpeeihdaaU11
namespace Go.Proofs.Ytepefocpeeihdaa
set_option linter.unusedVariables false
set_option linter.unusedSimpArgs false
open Go Go.RowKit BitM

theorem rowcut_ho {P : Program} (t e : TypeId) (i : TypeInfo) (size : Nat) (ht : P.underlying t = some (.slice e)) (hi : P.info? e = some i) (hsz : i.size = size)
    (A : Option Addr) (n m c : Nat) (H : Int) (kh : IntKind) (hm : m ≤ n) (hH : H = (m : Int)) (hc : n ≤ c) :
    ∃ A2, (∀ wx, (Instr.slice t (.slice A n c) none (some (.int kh H)) none).run P wx = .ok (.slice A2 m c) wx) ∧
      ∀ (wx : World) (B : Nat) (xs : List Value), Sees wx B A xs → Sees wx B A2 (xs.take (m * size)) := by
  refine ⟨if c = 0 then A else A.map (·.add 0), fun wx => ?_, fun wx B xs h => ?_⟩
  · have he : P.elem t = e := by simp [Program.elem, ht]
    have ht' : P.underlying t = some (.slice (P.elem t)) := by rw [he]; exact ht
    rw [run_slice_h wx t A n c ht' kh H (by omega) (by omega), he]
    simp [sizeOf, typeInfo, hi, hsz, sliced, hH]
  · have e2 : (if c = 0 then A else A.map (·.add 0)) = A := by
      split
      · rfl
      · cases A <;> simp [Addr.add]
    rw [e2]
    exact h.take _
theorem rowcut_lo {P : Program} (t e : TypeId) (i : TypeInfo) (size : Nat) (ht : P.underlying t = some (.slice e)) (hi : P.info? e = some i) (hsz : i.size = size)
    (A : Option Addr) (n m k c : Nat) (K : Int) (kl : IntKind) (hn : n = m + k) (hK : K = (k : Int)) (hc : n ≤ c) :
    ∃ A2, (∀ wx, (Instr.slice t (.slice A n c) (some (.int kl K)) none none).run P wx = .ok (.slice A2 m (c - k)) wx) ∧
      ∀ (wx : World) (B : Nat) (xs : List Value), xs.length = n * size → Sees wx B A xs → Sees wx B A2 (xs.drop (k * size)) := by
  refine ⟨if c = k then A else A.map (·.add (k * size)), fun wx => ?_, fun wx B xs hx h => ?_⟩
  · have he : P.elem t = e := by simp [Program.elem, ht]
    have ht' : P.underlying t = some (.slice (P.elem t)) := by rw [he]; exact ht
    rw [run_slice_l wx t A n c ht' kl K (by omega) (by omega), he]
    have hm : n - k = m := by omega
    simp [sizeOf, typeInfo, hi, hsz, sliced, hK, hm]
  · intro hpos
    rw [List.length_drop, hx, hn, Nat.add_mul] at hpos
    have hm : 0 < m := by
      rcases Nat.eq_zero_or_pos m with h0 | h0
      · rw [h0, Nat.zero_mul] at hpos; omega
      · exact h0
    have hp0 : 0 < xs.length := by rw [hx, hn, Nat.add_mul]; omega
    obtain ⟨b, o, e, hb, hcell⟩ := h hp0
    subst e
    rw [if_neg (by omega)]
    refine ⟨b, o + k * size, by simp [Addr.add], hb, fun j hj => ?_⟩
    rw [List.length_drop] at hj
    rw [Nat.add_assoc, hcell (k * size + j) (by omega)]
    simp
theorem SeesR.cut_h {w : World} {A : Option Addr} {n c : Nat} {l : List Tn} (h : SeesR tcl w A n c l) (hok : ∀ t ∈ l, okCd t.cd) (k : Nat) (hk : k ≤ n) :
    ∃ A2, (∀ wx, (Instr.slice 22 (.slice A n c) none (some (.int .i64 (k : Int))) none).run Try.prog wx = .ok (.slice A2 k c) wx) ∧ ∀ W, Below w.heap.size w W → SeesR tcl W A2 k c (l.take k) := by
  obtain ⟨i1, ji, jz1⟩ := info_trn
  obtain ⟨A2, hr, hs⟩ := rowcut_ho (P := Try.prog) 22 32 i1 31 Try.underlying22 ji jz1 A n k c (k : Int) .i64 hk rfl h.cap
  refine ⟨A2, hr, fun W hW => ⟨by rw [List.length_take, h.len]; omega, Nat.le_trans hk h.cap, h.max, ?_⟩⟩
  have := hs W W.heap.size _ (h.later hW).see
  rwa [rws_take l k (tcl_lens hok)] at this
theorem SeesR.cut_l {w : World} {A : Option Addr} {n c : Nat} {l : List Tn} (h : SeesR tcl w A n c l) (hok : ∀ t ∈ l, okCd t.cd) (k : Nat) (hk : k ≤ n) :
    ∃ A2, (∀ wx, (Instr.slice 22 (.slice A n c) (some (.int .i64 (k : Int))) none none).run Try.prog wx = .ok (.slice A2 (n - k) (c - k)) wx) ∧ ∀ W, Below w.heap.size w W → SeesR tcl W A2 (n - k) (c - k) (l.drop k) := by
  obtain ⟨i1, ji, jz1⟩ := info_trn
  have hl : (rws tcl l).length = n * 31 := by rw [rws_len _ (tcl_lens hok), h.len]
  obtain ⟨A2, hr, hs⟩ := rowcut_lo (P := Try.prog) 22 32 i1 31 Try.underlying22 ji jz1 A n (n - k) k c (k : Int) .i64 (by omega) rfl h.cap
  refine ⟨A2, hr, fun W hW => ⟨by rw [List.length_drop, h.len], by have := h.cap; omega, by have := h.max; omega, ?_⟩⟩
  have := hs W W.heap.size _ hl (h.later hW).see
  rwa [rws_drop l k (tcl_lens hok)] at this
theorem app_in {Qp : Int × Cd → Prop} : ∀ {L : List Im} {m m' : KV Cd}, app m L = some m' → (∀ p ∈ m, Qp p) → (∀ x ∈ L, Qp (rkey x, x.cd)) → (∀ p ∈ m', Qp p) ∧ m'.length ≤ m.length + L.length
  | [], m, m', h, h1, _ => by cases h; exact ⟨h1, by simp⟩
  | x :: L, m, m', h, h1, h2 => by
    unfold app at h
    cases hx : aput m x with
    | none => rw [hx] at h; cases h
    | some n =>
      rw [hx] at h
      obtain ⟨a, b⟩ := aput_all h1 (h2 x List.mem_cons_self) hx
      obtain ⟨c, d⟩ := app_in h a (fun z hz => h2 z (List.mem_cons_of_mem _ hz))
      exact ⟨c, by simp only [List.length_cons]; omega⟩
theorem apOut_in {cs ds : List Cd} {L : List Im} (h : apOut cs L = some ds) (h1 : ∀ y ∈ cs, okCd y ∧ (Lit.int .i64 y.1).wf = true) (h2 : ∀ x ∈ L, okCd x.cd ∧ (Lit.int .i64 x.cd.1).wf = true) :
    (∀ y ∈ ds, okCd y ∧ (Lit.int .i64 y.1).wf = true) ∧ ds.length ≤ cs.length + L.length := by
  unfold apOut at h
  cases hm : app (toKV cs) L with
  | none => rw [hm] at h; cases h
  | some m =>
    rw [hm] at h
    cases h
    obtain ⟨a, b⟩ := app_in (Qp := fun p => okCd p.2 ∧ (Lit.int .i64 p.2.1).wf = true) hm (fun p hp => by
      obtain ⟨c, hc, rfl⟩ := List.mem_map.1 hp
      exact h1 c hc) h2
    refine ⟨fun y hy => ?_, by simpa [toKV] using b⟩
    obtain ⟨p, hp, rfl⟩ := List.mem_map.1 hy
    exact a p hp
theorem net_okw {l : List Tn} (hok : ∀ t ∈ l, okT t) : ∀ x ∈ net l, okCd x.cd ∧ (Lit.int .i64 x.cd.1).wf = true := fun x hx => by
  obtain ⟨i, t, hw, _, rfl⟩ := net_mem.1 hx
  obtain ⟨u, hu, e1, e2, e3⟩ := whole_mem hw
  have ok := hok u hu
  unfold itm
  split
  · show okCd t.cd ∧ _
    rw [show t.cd = u.cd from e2]
    exact ⟨ok.cd.len, ok.cd.id⟩
  · split
    · refine ⟨rfl, ?_⟩
      show (Lit.int .i64 t.id).wf = true
      rw [e3, ← e1]
      exact ok.id
    · show okCd t.cd ∧ _
      rw [show t.cd = u.cd from e2]
      exact ⟨ok.cd.len, ok.cd.id⟩
set_option maxRecDepth 100000 in
set_option maxHeartbeats 12800000 in
theorem walk_ttwice (A : Option Addr) (n c : Nat) (l : List Tn) (cut : Int) (B : Option Addr) (m d : Nat) (cs : List Cd) (w : World) (h : SeesR tcl w A n c l) (h2 : SeesR ccl w B m d cs) (hokt : ∀ t ∈ l, okT t) (hokc : ∀ y ∈ cs, okC y) :
    Calls Try.prog 5 #[.slice A n c, .int .i64 cut, .slice B m d] w fun e w' => e = .returned (.bool true) ∧ Below w.heap.size w w' := by
  have huc := Try.underlying30
  have hok : ∀ t ∈ l, okCd t.cd := fun t ht => (hokt t ht).cd.len
  have hokd : ∀ y ∈ cs, okCd y := fun y hy => (hokc y hy).len
  have HLA := Lib.hid (tlarge_any A n c l w h hok)
  have HAW := Lib.hid tr_awake
  have HN := Lib.hid h.len
  have HM := Lib.hid h2.len
  have HB0 := Lib.hid (Below.refl w.heap.size w)
  cases hlg : tlarge l with
  | true =>
    rw [hlg] at HLA
    clear hlg h h2 hok hokd hokt hokc
    go_enter Try.func5, Try.ntmps5
    go_wp2_with fail
    refine (HLA.out).mono ?_
    rintro e w1 ⟨rfl, hb⟩
    have HB1 := Lib.hid (HB0.out.trans (hb.mono HB0.out.size))
    clear hb
    go_wp2_with fail
    refine (HAW.out _).mono ?_
    rintro e w29 ⟨rfl, hb⟩
    have HB29 := Lib.hid (HB1.out.trans (hb.mono HB1.out.size))
    clear hb
    go_wp2_with fail
    go_ret
    exact ⟨rfl, HB29.out⟩
  | false =>
    rw [hlg] at HLA
    have hn100 : n ≤ 100 := by have := tlarge_len hlg; have := h.len; omega
    have HRG := Lib.hid (fun W (hW : Below w.heap.size w W) => rgoes_any A n c l W (h.later hW) hok (by omega))
    cases hgo : goes l with
    | false =>
      rw [hgo] at HRG
      clear hlg hgo h h2 hok hokd hokt hokc
      go_enter Try.func5, Try.ntmps5
      go_wp2_with fail
      refine (HLA.out).mono ?_
      rintro e w1 ⟨rfl, hb⟩
      have HB1 := Lib.hid (HB0.out.trans (hb.mono HB0.out.size))
      clear hb
      go_wp2_with fail
      refine (HRG.out _ HB1.out).mono ?_
      rintro e w2 ⟨rfl, hb⟩
      have HB2 := Lib.hid (HB1.out.trans (hb.mono HB1.out.size))
      clear hb
      go_wp2_with fail
      refine (HAW.out _).mono ?_
      rintro e w29 ⟨rfl, hb⟩
      have HB29 := Lib.hid (HB2.out.trans (hb.mono HB2.out.size))
      clear hb
      go_wp2_with fail
      go_ret
      exact ⟨rfl, HB29.out⟩
    | true =>
      rw [hgo] at HRG
      by_cases hc0 : cut < 0
      · have e0 : decide (cut < 0) = true := decide_eq_true hc0
        clear hlg hgo h h2 hok hokd hokt hokc hc0
        go_enter Try.func5, Try.ntmps5
        go_wp2_with fail
        refine (HLA.out).mono ?_
        rintro e w1 ⟨rfl, hb⟩
        have HB1 := Lib.hid (HB0.out.trans (hb.mono HB0.out.size))
        clear hb
        go_wp2_with fail
        refine (HRG.out _ HB1.out).mono ?_
        rintro e w2 ⟨rfl, hb⟩
        have HB2 := Lib.hid (HB1.out.trans (hb.mono HB1.out.size))
        clear hb
        go_wp2_with fail
        refine (HAW.out _).mono ?_
        rintro e w29 ⟨rfl, hb⟩
        have HB29 := Lib.hid (HB2.out.trans (hb.mono HB2.out.size))
        clear hb
        go_wp2_with fail
        go_ret
        exact ⟨rfl, HB29.out⟩
      · have e0 : decide (cut < 0) = false := decide_eq_false hc0
        obtain ⟨k, rfl⟩ : ∃ k : Nat, cut = (k : Int) := ⟨cut.toNat, by omega⟩
        by_cases hcn : n < k
        · have e1 : decide ((n : Int) < (k : Int)) = true := decide_eq_true (by omega)
          have e1' : decide (n < k) = true := decide_eq_true hcn
          clear hlg hgo h h2 hok hokd hokt hokc hc0 hcn
          go_enter Try.func5, Try.ntmps5
          go_wp2_with fail
          refine (HLA.out).mono ?_
          rintro e w1 ⟨rfl, hb⟩
          have HB1 := Lib.hid (HB0.out.trans (hb.mono HB0.out.size))
          clear hb
          go_wp2_with fail
          refine (HRG.out _ HB1.out).mono ?_
          rintro e w2 ⟨rfl, hb⟩
          have HB2 := Lib.hid (HB1.out.trans (hb.mono HB1.out.size))
          clear hb
          go_wp2_with fail
          refine (HAW.out _).mono ?_
          rintro e w29 ⟨rfl, hb⟩
          have HB29 := Lib.hid (HB2.out.trans (hb.mono HB2.out.size))
          clear hb
          go_wp2_with fail
          go_ret
          exact ⟨rfl, HB29.out⟩
        · have e1 : decide ((n : Int) < (k : Int)) = false := decide_eq_false (by omega)
          have e1' : decide (n < k) = false := decide_eq_false hcn
          by_cases hm60 : 60 < m
          · have e2 : decide (60 < (m : Int)) = true := decide_eq_true (by omega)
            have e2' : decide (60 < m) = true := decide_eq_true hm60
            clear hlg hgo h h2 hok hokd hokt hokc hc0 hcn hm60
            go_enter Try.func5, Try.ntmps5
            go_wp2_with fail
            refine (HLA.out).mono ?_
            rintro e w1 ⟨rfl, hb⟩
            have HB1 := Lib.hid (HB0.out.trans (hb.mono HB0.out.size))
            clear hb
            go_wp2_with fail
            refine (HRG.out _ HB1.out).mono ?_
            rintro e w2 ⟨rfl, hb⟩
            have HB2 := Lib.hid (HB1.out.trans (hb.mono HB1.out.size))
            clear hb
            go_wp2_with fail
            refine (HAW.out _).mono ?_
            rintro e w29 ⟨rfl, hb⟩
            have HB29 := Lib.hid (HB2.out.trans (hb.mono HB2.out.size))
            clear hb
            go_wp2_with fail
            go_ret
            exact ⟨rfl, HB29.out⟩
          · have e2 : decide (60 < (m : Int)) = false := decide_eq_false (by omega)
            have e2' : decide (60 < m) = false := decide_eq_false hm60
            have hkn : k ≤ n := by omega
            have hmm : m ≤ 60 := by omega
            have HGO := Lib.hid hgo
            obtain ⟨A1, hr1, hs1⟩ := h.cut_h hok k hkn
            obtain ⟨A2, hr2, hs2⟩ := h.cut_l hok k hkn
            have HR1 := Lib.hid hr1
            have HR2 := Lib.hid hr2
            have hokk : ∀ t ∈ l.take k, okT t := fun t ht => hokt t (List.mem_of_mem_take ht)
            have hokr : ∀ t ∈ l.drop k, okT t := fun t ht => hokt t (List.mem_of_mem_drop ht)
            have HNT := Lib.hid (fun W (hW : Below w.heap.size w W) => nets_any A n c l W (h.later hW) hok (fun t ht => (hokt t ht).id) (by omega))
            have HNT1 := Lib.hid (fun W (hW : Below w.heap.size w W) => nets_any A1 k c (l.take k) W (hs1 W hW) (fun t ht => (hokk t ht).cd.len) (fun t ht => (hokk t ht).id) (by omega))
            have HNT2 := Lib.hid (fun W (hW : Below w.heap.size w W) => nets_any A2 (n - k) (c - k) (l.drop k) W (hs2 W hW) (fun t ht => (hokr t ht).cd.len) (fun t ht => (hokr t ht).id) (by omega))
            have HNW := Lib.hid (net_okw hokt)
            have HNW1 := Lib.hid (net_okw hokk)
            have HNW2 := Lib.hid (net_okw hokr)
            have HLEN : Hid ((net l).length ≤ n ∧ (net (l.take k)).length ≤ n ∧ (net (l.drop k)).length ≤ n) := Lib.hid (by
              have a := net_len l; have b := net_len (l.take k); have e := net_len (l.drop k); have := h.len
              rw [List.length_take] at b
              rw [List.length_drop] at e
              omega)
            have HIG := Lib.hid (net_goes hgo)
            have HAPP := Lib.hid (fun (hr : CRise cs) W (hW : Below w.heap.size w W) B' m' d' L (hs : SeesR icl W B' m' d' L) (hL : ∀ x ∈ L, okCd x.cd ∧ (Lit.int .i64 x.cd.1).wf = true) (hz : m' ≤ 100) => apply_any B m d cs B' m' d' L W (h2.later hW) (fun y hy => ⟨(hokc y hy).len, (hokc y hy).id⟩) hr hs hL (by omega))
            have HAIN := Lib.hid (fun L ds (e : apOut cs L = some ds) (hL : ∀ x ∈ L, okCd x.cd ∧ (Lit.int .i64 x.cd.1).wf = true) => apOut_in e (fun y hy => ⟨(hokc y hy).len, (hokc y hy).id⟩) hL)
            have HFT := Lib.hid (fun (hr : CRise cs) W (hW : Below w.heap.size w W) => fits_any B m d cs A n c l W (h2.later hW) hokd hr (h.later hW) hok (by omega) (by omega))
            have HTW := Lib.hid (fun (hr : CRise cs) (hc : ∀ c ∈ cs, ckc c = true) (hf : ∀ i (hi : i < l.length), FitAt cs l i hi) => twice_of hr hc hgo hf k)
            have HCK := Lib.hid (fun t (ht : t < cs.length) wx => rccheck_any cs[t].1 cs[t].2.1 cs[t].2.2.1 cs[t].2.2.2 wx (hokd _ (List.getElem_mem ht)))
            have HCL := Lib.hid (fun t (ht : t < cs.length) => ccl_len (hokd _ (List.getElem_mem ht)))
            have HST := Lib.hid (fun t (ht : t < cs.length) => crise_step (cs := cs) ht)
            have HCE : Hid (∀ k (hk : k < cs.length), ∃ b o, B = some ⟨b, o, none⟩ ∧ ∀ W, Below w.heap.size w W → ∀ k (hk : k < cs.length), W.cell? ⟨b, o + k * 27, none⟩ = some (.int .i64 cs[k].1) ∧ W.rangeAt b (o + k * 27) (ccl cs[k])) := Lib.hid (fun k hk => by
              obtain ⟨b, o, e, _, hc⟩ := card_cells h2 hokd (by omega)
              exact ⟨b, o, e, fun W hW k hk => ⟨(hc W hW k hk).1, (hc W hW k hk).2.2.1⟩⟩)
            clear hlg hgo h h2 hok hokd hokt hokc hc0 hcn hm60 hr1 hr2 hs1 hs2 hokk hokr
            go_enter Try.func5, Try.ntmps5
            go_wp2_with fail
            refine (HLA.out).mono ?_
            rintro e w1 ⟨rfl, hb⟩
            have HB1 := Lib.hid (HB0.out.trans (hb.mono HB0.out.size))
            clear hb
            go_wp2_with fail
            refine (HRG.out _ HB1.out).mono ?_
            rintro e w2 ⟨rfl, hb⟩
            have HB2 := Lib.hid (HB1.out.trans (hb.mono HB1.out.size))
            clear hb
            clear HLA HRG HB0 HB1
            go_wp2_with fail
            go_loopw [7] (fun i wr => ∃ t : Nat, t ≤ m ∧ i = .int .i64 (t : Int) ∧ Hid (CRise (cs.take t)) ∧ Hid (∀ j (hj : j < t) (hj2 : j < cs.length), ckc cs[j] = true) ∧ Hid (Below w.heap.size w wr)) (fun i _ => m - (iOf i).toNat)
            case atStart => exact ⟨0, by omega, rfl, Lib.hid List.Pairwise.nil, Lib.hid (fun j hj => by omega), HB2⟩
            case round =>
              clear HB2
              obtain ⟨t, ht, rfl, HR, HQ, HB⟩ := hrel
              by_cases hlt : t < m
              · have d0 : decide ((t : Int) < (m : Int)) = true := decide_eq_true (by omega)
                have htl : t < cs.length := by rw [HM.out]; exact hlt
                obtain ⟨b, o, rfl, hcc⟩ := HCE.out t htl
                have HBW : Hid (∀ W, Le wr W → Below w.heap.size w W) := Lib.hid (fun W hl => HB.out.trans (hl.mono HB.out.size))
                have HNX := Lib.hid (HST.out t htl HR.out)
                have HTL := Lib.hid (HCL.out t htl)
                have HQN : Hid (ckc cs[t] = true → ∀ j (hj : j < t + 1) (hj2 : j < cs.length), ckc cs[j] = true) := Lib.hid (fun e j hj hj2 => by
                  by_cases e2 : j = t
                  · subst e2; exact e
                  · exact HQ.out j (by omega) hj2)
                have HRGE : Hid (∀ W, Below w.heap.size w W → W.rangeAt b (o + t * 27) (ccl cs[t])) := Lib.hid (fun W hW => (hcc W hW t htl).2)
                obtain ⟨CC, hCC⟩ : ∃ CC, CC = ccl cs[t] := ⟨_, rfl⟩
                have HC' : Hid (∀ wx, Calls Try.prog 24 #[.agg CC.toArray] wx fun e w' => e = .returned (.bool (ckc cs[t])) ∧ Below wx.heap.size wx w') := Lib.hid (fun wx => by rw [hCC]; exact HCK.out t htl wx)
                rw [← hCC] at HTL HRGE
                have HPREV : Hid (∀ p (hp : t = p + 1), ∀ W, Below w.heap.size w W → W.cell? ⟨b, o + p * 27, none⟩ = some (.int .i64 (cs[p]'(by omega)).1)) := Lib.hid (fun p hp W hW => (hcc W hW p (by omega)).1)
                have HCX : Hid (∀ W, Le wr W → W.cell? ⟨b, o + t * 27, none⟩ = some (.int .i64 cs[t].1)) := Lib.hid (fun W hl => (hcc W (HBW.out W hl) t htl).1)
                have cx : ∀ kk : LW wr, kk.val.cell? ⟨b, o + t * 27, none⟩ = some (.int .i64 cs[t].1) := fun kk => HCX.out _ kk.le
                generalize ckc cs[t] = ck at HC' HQN
                generalize cs[t].1 = x at HNX HCX cx
                clear hcc hCC HST HCK HCL HCE HNT HNT1 HNT2 HNW HNW1 HNW2 HLEN HIG HAPP HAIN HFT HTW HR HQ HCX HR1 HR2
                cases ck with
                | false =>
                  go_wp2_with fail
                  refine wp_region_steady [] 126 (by kernel_rfl) (by kernel_rfl) (by kernel_rfl) (by rfl) ?_
                  iterate 3 (refine wpG_quiet (by rfl) (by rfl) (by rfl) (fun K hK => ?_); go_big_quiet_op; refine hK _ ?_; clear hK K)
                  refine wpG_run (by rfl) (by rfl) (.agg CC.toArray) (fun wx hl => exec_load 30 (.tmp 46) rfl b (o + t * 27) rfl CC _ (HRGE.out wx (HBW.out wx hl.1)) huc rfl (by rw [HTL.out]; exact info_card)) ?_
                  simp only [Act.put, List.setIfInBounds_toArray, List.set_cons_zero, List.set_cons_succ]
                  refine wpG_call (by rfl) (by rfl) 24 #[.agg CC.toArray] (.bool false) (by intro _; simp [go_sem]) (by kernel_rfl) (fun wx hl => HC'.out wx) ?_
                  simp only [Act.put, List.setIfInBounds_toArray, List.set_cons_zero, List.set_cons_succ]
                  iterate 2 (refine wpG_quiet (by rfl) (by rfl) (by rfl) (fun K hK => ?_); go_big_quiet_op; refine hK _ ?_; clear hK K)
                  iterate 16 (refine wpG_skip (by rfl) ?_; simp only [Act.put, List.setIfInBounds_toArray, List.set_cons_zero, List.set_cons_succ])
                  iterate 1 (refine wpG_quiet (by rfl) (by rfl) (by rfl) (fun K hK => ?_); go_big_quiet_op; refine hK _ ?_; clear hK K)
                  refine wpG_nil fun w3 hl _ => ?_
                  have HB3 := Lib.hid (HBW.out w3 hl)
                  clear HBW hl
                  go_wp2_with fail
                  refine (HAW.out _).mono ?_
                  rintro e w29 ⟨rfl, hb⟩
                  have HB29 := Lib.hid (HB3.out.trans (hb.mono HB3.out.size))
                  clear hb
                  go_wp2_with fail
                  go_ret
                  exact ⟨rfl, HB29.out⟩
                | true =>
                  have HQ2 := Lib.hid (HQN.out (by trivial))
                  by_cases h0 : t = 0
                  · have d1 : decide ((0 : Int) < (t : Int)) = false := decide_eq_false (by omega)
                    have d1' : decide (0 < t) = false := decide_eq_false (by omega)
                    have HG := Lib.hid (HNX.out (fun m hm => absurd hm (by omega)))
                    clear h0
                    go_wp2_with fail
                    refine wp_region_steady [] 126 (by kernel_rfl) (by kernel_rfl) (by kernel_rfl) (by rfl) ?_
                    iterate 3 (refine wpG_quiet (by rfl) (by rfl) (by rfl) (fun K hK => ?_); go_big_quiet_op; refine hK _ ?_; clear hK K)
                    refine wpG_run (by rfl) (by rfl) (.agg CC.toArray) (fun wx hl => exec_load 30 (.tmp 46) rfl b (o + t * 27) rfl CC _ (HRGE.out wx (HBW.out wx hl.1)) huc rfl (by rw [HTL.out]; exact info_card)) ?_
                    simp only [Act.put, List.setIfInBounds_toArray, List.set_cons_zero, List.set_cons_succ]
                    refine wpG_call (by rfl) (by rfl) 24 #[.agg CC.toArray] (.bool true) (by intro _; simp [go_sem]) (by kernel_rfl) (fun wx hl => HC'.out wx) ?_
                    simp only [Act.put, List.setIfInBounds_toArray, List.set_cons_zero, List.set_cons_succ]
                    iterate 5 (refine wpG_quiet (by rfl) (by rfl) (by rfl) (fun K hK => ?_); go_big_quiet_op; refine hK _ ?_; clear hK K)
                    iterate 12 (refine wpG_skip (by rfl) ?_; simp only [Act.put, List.setIfInBounds_toArray, List.set_cons_zero, List.set_cons_succ])
                    iterate 2 (refine wpG_quiet (by rfl) (by rfl) (by rfl) (fun K hK => ?_); go_big_quiet_op; refine hK _ ?_; clear hK K)
                    refine wpG_nil fun w3 hl _ => ?_
                    have HB3 := Lib.hid (HBW.out w3 hl)
                    clear HBW hl
                    go_wp2_with fail
                    go_roundw
                    case rel => exact ⟨t + 1, by omega, by go_num, HG, HQ2, HB3⟩
                    case measure => simp [iOf]; omega
                  · obtain ⟨p, hp⟩ : ∃ p, t = p + 1 := ⟨t - 1, by omega⟩
                    have d1 : decide ((0 : Int) < (t : Int)) = true := decide_eq_true (by omega)
                    have d1' : decide (0 < t) = true := decide_eq_true (by omega)
                    obtain ⟨y, hy⟩ : ∃ y, y = (cs[p]'(by omega)).1 := ⟨_, rfl⟩
                    have cp : ∀ kk : LW wr, kk.val.cell? ⟨b, o + p * 27, none⟩ = some (.int .i64 y) := fun kk => by rw [hy]; exact HPREV.out p hp _ (HBW.out _ kk.le)
                    have HG1 : Hid (y < x → CRise (cs.take (t + 1))) := Lib.hid (fun e => HNX.out (fun m hm => by
                      obtain rfl : m = p := by omega
                      rw [← hy]; exact e))
                    have km : (t : Int) - 1 = (p : Int) := by omega
                    have hpn : p < m := by omega
                    clear hp hy h0
                    by_cases h4 : x ≤ y
                    · have d4 : decide (x ≤ y) = true := decide_eq_true h4
                      clear h4
                      go_wp2_with fail
                      refine wp_region_steady [] 126 (by kernel_rfl) (by kernel_rfl) (by kernel_rfl) (by rfl) ?_
                      iterate 3 (refine wpG_quiet (by rfl) (by rfl) (by rfl) (fun K hK => ?_); go_big_quiet_op; refine hK _ ?_; clear hK K)
                      refine wpG_run (by rfl) (by rfl) (.agg CC.toArray) (fun wx hl => exec_load 30 (.tmp 46) rfl b (o + t * 27) rfl CC _ (HRGE.out wx (HBW.out wx hl.1)) huc rfl (by rw [HTL.out]; exact info_card)) ?_
                      simp only [Act.put, List.setIfInBounds_toArray, List.set_cons_zero, List.set_cons_succ]
                      refine wpG_call (by rfl) (by rfl) 24 #[.agg CC.toArray] (.bool true) (by intro _; simp [go_sem]) (by kernel_rfl) (fun wx hl => HC'.out wx) ?_
                      simp only [Act.put, List.setIfInBounds_toArray, List.set_cons_zero, List.set_cons_succ]
                      iterate 19 (refine wpG_quiet (by rfl) (by rfl) (by rfl) (fun K hK => ?_); go_big_quiet_op; refine hK _ ?_; clear hK K)
                      refine wpG_nil fun w3 hl _ => ?_
                      have HB3 := Lib.hid (HBW.out w3 hl)
                      clear HBW hl
                      go_wp2_with fail
                      refine (HAW.out _).mono ?_
                      rintro e w29 ⟨rfl, hb⟩
                      have HB29 := Lib.hid (HB3.out.trans (hb.mono HB3.out.size))
                      clear hb
                      go_wp2_with fail
                      go_ret
                      exact ⟨rfl, HB29.out⟩
                    · have d4 : decide (x ≤ y) = false := decide_eq_false h4
                      have HG := Lib.hid (HG1.out (by omega))
                      clear h4
                      go_wp2_with fail
                      refine wp_region_steady [] 126 (by kernel_rfl) (by kernel_rfl) (by kernel_rfl) (by rfl) ?_
                      iterate 3 (refine wpG_quiet (by rfl) (by rfl) (by rfl) (fun K hK => ?_); go_big_quiet_op; refine hK _ ?_; clear hK K)
                      refine wpG_run (by rfl) (by rfl) (.agg CC.toArray) (fun wx hl => exec_load 30 (.tmp 46) rfl b (o + t * 27) rfl CC _ (HRGE.out wx (HBW.out wx hl.1)) huc rfl (by rw [HTL.out]; exact info_card)) ?_
                      simp only [Act.put, List.setIfInBounds_toArray, List.set_cons_zero, List.set_cons_succ]
                      refine wpG_call (by rfl) (by rfl) 24 #[.agg CC.toArray] (.bool true) (by intro _; simp [go_sem]) (by kernel_rfl) (fun wx hl => HC'.out wx) ?_
                      simp only [Act.put, List.setIfInBounds_toArray, List.set_cons_zero, List.set_cons_succ]
                      iterate 19 (refine wpG_quiet (by rfl) (by rfl) (by rfl) (fun K hK => ?_); go_big_quiet_op; refine hK _ ?_; clear hK K)
                      refine wpG_nil fun w3 hl _ => ?_
                      have HB3 := Lib.hid (HBW.out w3 hl)
                      clear HBW hl
                      go_wp2_with fail
                      go_roundw
                      case rel => exact ⟨t + 1, by omega, by go_num, HG, HQ2, HB3⟩
                      case measure => simp [iOf]; omega
              · obtain rfl : t = m := by omega
                have HRI : Hid (CRise cs) := Lib.hid (by have := HR.out; rwa [List.take_of_length_le (by rw [HM.out]; exact Nat.le_refl _)] at this)
                have HCKA : Hid (∀ c ∈ cs, ckc c = true) := Lib.hid (fun c hc => by
                  obtain ⟨j, hj, rfl⟩ := List.getElem_of_mem hc
                  exact HQ.out j (by rw [← HM.out]; exact hj) hj)
                have HA := Lib.hid (HAPP.out HRI.out)
                have HF := Lib.hid (HFT.out HRI.out)
                have HT := Lib.hid (HTW.out HRI.out HCKA.out)
                have hl1 := HLEN.out.1
                have hl2 := HLEN.out.2.1
                have HL2K := Lib.hid hl2
                have hl3 := HLEN.out.2.2
                clear HST HCK HCL HCE HAPP HFT HTW HR HQ HCKA HLEN
                go_wp2_with fail
                refine (HNT.out _ HB.out).mono ?_
                rintro e w3 ⟨A3, c3, rfl, hs3, hb⟩
                have HB3 := Lib.hid (HB.out.trans (hb.mono HB.out.size))
                have HS3 := Lib.hid hs3
                clear hb hs3 HNT HB
                have HA3 := Lib.hid (fun W hW hs => HA.out W hW A3 (net l).length c3 (net l) hs HNW.out (by omega))
                have HIN3 := Lib.hid (fun ds e => HAIN.out (net l) ds e HNW.out)
                generalize hq1 : (net l).length = q1 at hl1 HS3 HA3
                have hq100 : q1 ≤ 100 := by omega
                have HQ1 := Lib.hid hq1
                clear hq1
                have d5 : decide ((q1 : Int) ≤ (n : Int)) = true := decide_eq_true (by omega)
                have d5' : decide (q1 ≤ n) = true := decide_eq_true hl1
                go_wp2_with fail
                cases hp1 : apOut cs (net l) with
                | none =>
                  rw [hp1] at HA3
                  have HTN : Hid ((∀ i (hi : i < l.length), FitAt cs l i hi) → False) := Lib.hid (fun hf => by
                    obtain ⟨a, b, _, _, e3⟩ := HT.out hf
                    rw [hp1] at e3; cases e3)
                  clear hp1 HT HIN3
                  refine (HA3.out _ HB3.out HS3.out).mono ?_
                  rintro e w4 ⟨rfl, hb⟩
                  have HB4 := Lib.hid (HB3.out.trans (hb.mono HB3.out.size))
                  clear hb HA3
                  go_wp2_with (first
                    | (refine wpList_exec (by rfl) (.slice A1 k c) (exec_slice_h 22 (.tmp 79) (.tmp 80) rfl 32 Try.underlying22 _ _ _ rfl rfl HR1.out) ?_
                       simp only [Act.put, List.setIfInBounds_toArray, List.set_cons_zero, List.set_cons_succ])
                    | fail)
                  refine (HNT1.out _ HB4.out).mono ?_
                  rintro e w5 ⟨A5, c5, rfl, hs5, hb⟩
                  have HB5 := Lib.hid (HB4.out.trans (hb.mono HB4.out.size))
                  have HS5 := Lib.hid hs5
                  have HBX := Lib.hid hb
                  clear hb hs5 HNT1
                  have HA5 := Lib.hid (fun W hW hs => HA.out W hW A5 (net (l.take k)).length c5 (net (l.take k)) hs HNW1.out (by omega))
                  generalize (net (l.take k)).length = q2 at hl2 HS5 HA5
                  go_wp2_with fail
                  cases hp2 : apOut cs (net (l.take k)) with
                  | none =>
                    rw [hp2] at HA5
                    refine (HA5.out _ HB5.out HS5.out).mono ?_
                    rintro e w6 ⟨rfl, hb⟩
                    have HB6 := Lib.hid (HB5.out.trans (hb.mono HB5.out.size))
                    clear hb HA5 hp2
                    go_wp2_with fail
                    refine (HF.out _ HB6.out).mono ?_
                    rintro e w7 ⟨R, rfl, hR, hb⟩
                    have HB7 := Lib.hid (HB6.out.trans (hb.mono HB6.out.size))
                    clear hb
                    cases R with
                    | true => exact absurd (hR rfl) HTN.out
                    | false =>
                      clear hR
                      go_wp2_with fail
                      refine (HAW.out _).mono ?_
                      rintro e w29 ⟨rfl, hb⟩
                      have HB29 := Lib.hid (HB7.out.trans (hb.mono HB7.out.size))
                      clear hb
                      go_wp2_with fail
                      go_ret
                      exact ⟨rfl, HB29.out⟩
                  | some d2 =>
                    rw [hp2] at HA5
                    refine (HA5.out _ HB5.out HS5.out).mono ?_
                    rintro e w6 ⟨A6, m6, c6, rfl, _, hb⟩
                    have HB6 := Lib.hid (HB5.out.trans (hb.mono HB5.out.size))
                    clear hb HA5 hp2
                    go_wp2_with fail
                    refine (HF.out _ HB6.out).mono ?_
                    rintro e w7 ⟨R, rfl, hR, hb⟩
                    have HB7 := Lib.hid (HB6.out.trans (hb.mono HB6.out.size))
                    clear hb
                    cases R with
                    | true => exact absurd (hR rfl) HTN.out
                    | false =>
                      clear hR
                      go_wp2_with fail
                      refine (HAW.out _).mono ?_
                      rintro e w29 ⟨rfl, hb⟩
                      have HB29 := Lib.hid (HB7.out.trans (hb.mono HB7.out.size))
                      clear hb
                      go_wp2_with fail
                      go_ret
                      exact ⟨rfl, HB29.out⟩
                | some d1 =>
                  rw [hp1] at HA3
                  refine (HA3.out _ HB3.out HS3.out).mono ?_
                  rintro e w4 ⟨A4, m4, c4, rfl, hs4, hb⟩
                  have HB4 := Lib.hid (HB3.out.trans (hb.mono HB3.out.size))
                  have HS4 := Lib.hid hs4
                  have HS3b := Lib.hid (HS3.out.later hb)
                  clear hb HA3 hs4 HS3
                  go_wp2_with (first
                    | (refine wpList_exec (by rfl) (.slice A1 k c) (exec_slice_h 22 (.tmp 79) (.tmp 80) rfl 32 Try.underlying22 _ _ _ rfl rfl HR1.out) ?_
                       simp only [Act.put, List.setIfInBounds_toArray, List.set_cons_zero, List.set_cons_succ])
                    | fail)
                  refine (HNT1.out _ HB4.out).mono ?_
                  rintro e w5 ⟨A5, c5, rfl, hs5, hb⟩
                  have HB5 := Lib.hid (HB4.out.trans (hb.mono HB4.out.size))
                  have HS5 := Lib.hid hs5
                  have HBX := Lib.hid hb
                  clear hb hs5 HNT1
                  have HA5 := Lib.hid (fun W hW hs => HA.out W hW A5 (net (l.take k)).length c5 (net (l.take k)) hs HNW1.out (by omega))
                  generalize (net (l.take k)).length = q2 at hl2 HS5 HA5
                  go_wp2_with fail
                  cases hp2 : apOut cs (net (l.take k)) with
                  | none =>
                    rw [hp2] at HA5
                    have HTN : Hid ((∀ i (hi : i < l.length), FitAt cs l i hi) → False) := Lib.hid (fun hf => by
                      obtain ⟨a, b, e1, _, _⟩ := HT.out hf
                      rw [hp2] at e1; cases e1)
                    clear hp1 HT HIN3 hp2
                    refine (HA5.out _ HB5.out HS5.out).mono ?_
                    rintro e w6 ⟨rfl, hb⟩
                    have HB6 := Lib.hid (HB5.out.trans (hb.mono HB5.out.size))
                    clear hb HA5
                    go_wp2_with fail
                    refine (HF.out _ HB6.out).mono ?_
                    rintro e w7 ⟨R, rfl, hR, hb⟩
                    have HB7 := Lib.hid (HB6.out.trans (hb.mono HB6.out.size))
                    clear hb
                    cases R with
                    | true => exact absurd (hR rfl) HTN.out
                    | false =>
                      clear hR
                      go_wp2_with fail
                      refine (HAW.out _).mono ?_
                      rintro e w29 ⟨rfl, hb⟩
                      have HB29 := Lib.hid (HB7.out.trans (hb.mono HB7.out.size))
                      clear hb
                      go_wp2_with fail
                      go_ret
                      exact ⟨rfl, HB29.out⟩
                  | some d2 =>
                    rw [hp2] at HA5
                    have HI2 := Lib.hid (HAIN.out (net (l.take k)) d2 hp2 HNW1.out)
                    have HCR : Hid (CRise d2) := Lib.hid (apOut_rise HRI.out hp2).1
                    have HI1 := Lib.hid (HIN3.out d1 hp1)
                    have HTB : Hid ((∀ i (hi : i < l.length), FitAt cs l i hi) → apOut d2 (net (l.drop k)) = some d1) := Lib.hid (fun hf => by
                      obtain ⟨a, b, e1, e2, e3⟩ := HT.out hf
                      rw [hp2] at e1
                      rw [hp1] at e3
                      cases e1
                      cases e3
                      exact e2)
                    clear hp1 HT HIN3 hp2
                    refine (HA5.out _ HB5.out HS5.out).mono ?_
                    rintro e w6 ⟨A6, m6, c6, rfl, hs6, hb⟩
                    have HB6 := Lib.hid (HB5.out.trans (hb.mono HB5.out.size))
                    have HS6 := Lib.hid hs6
                    have HS3c := Lib.hid (HS3b.out.later (HBX.out.trans (hb.mono HBX.out.size)))
                    have HS4c := Lib.hid (HS4.out.later (HBX.out.trans (hb.mono HBX.out.size)))
                    clear hb HA5 hs6 HS3b HS4
                    go_wp2_with fail
                    refine (HF.out _ HB6.out).mono ?_
                    rintro e w7 ⟨R, rfl, hR, hb⟩
                    have HB7 := Lib.hid (HB6.out.trans (hb.mono HB6.out.size))
                    have HS6d := Lib.hid (HS6.out.later hb)
                    have HS3d := Lib.hid (HS3c.out.later hb)
                    have HS4d := Lib.hid (HS4c.out.later hb)
                    clear hb HF HS6 HS3c HS4c
                    cases R with
                    | false =>
                      clear hR
                      go_wp2_with fail
                      refine (HAW.out _).mono ?_
                      rintro e w29 ⟨rfl, hb⟩
                      have HB29 := Lib.hid (HB7.out.trans (hb.mono HB7.out.size))
                      clear hb
                      go_wp2_with fail
                      go_ret
                      exact ⟨rfl, HB29.out⟩
                    | true =>
                      have HTC := Lib.hid (HTB.out (hR rfl))
                      clear hR HTB
                      go_wp2_with (first
                        | (refine wpList_exec (by rfl) (.slice A2 (n - k) (c - k)) (exec_slice_l 22 (.tmp 93) (.tmp 94) rfl 32 Try.underlying22 _ _ _ rfl rfl HR2.out) ?_
                           simp only [Act.put, List.setIfInBounds_toArray, List.set_cons_zero, List.set_cons_succ])
                        | fail)
                      refine (HNT2.out _ HB7.out).mono ?_
                      rintro e w8 ⟨A8, c8, rfl, hs8, hb⟩
                      have HB8 := Lib.hid (HB7.out.trans (hb.mono HB7.out.size))
                      have HS8 := Lib.hid hs8
                      have HS6e := Lib.hid (HS6d.out.later hb)
                      have HS3e := Lib.hid (HS3d.out.later hb)
                      have HS4e := Lib.hid (HS4d.out.later hb)
                      clear hb hs8 HS6d HS3d HS4d HNT2
                      have HA8 := Lib.hid (fun W (hs2 : SeesR ccl W A6 m6 c6 d2) (hs : SeesR icl W A8 (net (l.drop k)).length c8 (net (l.drop k))) => apply_any A6 m6 c6 d2 A8 (net (l.drop k)).length c8 (net (l.drop k)) W hs2 HI2.out.1 HCR.out hs HNW2.out (by have := HI2.out.2; have := hs2.len; have := HM.out; have := HL2K.out; omega))
                      rw [HTC.out] at HA8
                      generalize (net (l.drop k)).length = q8 at HS8 HA8 hl3
                      go_wp2_with fail
                      refine (HA8.out _ HS6e.out HS8.out).mono ?_
                      rintro e w9 ⟨A9, m9, c9, rfl, hs9, hb⟩
                      have HB9 := Lib.hid (HB8.out.trans (hb.mono HB8.out.size))
                      have HS9 := Lib.hid hs9
                      have HS3f := Lib.hid (HS3e.out.later hb)
                      have HS4f := Lib.hid (HS4e.out.later hb)
                      clear hb hs9 HS6e HS3e HS4e HA8 HS8
                      go_wp2_with fail
                      refine (rsamec_any A4 A9 m4 c4 m9 c9 d1 d1 _ HS4f.out.len HS9.out.len (by have := HS4f.out.len; have := HI1.out.2; have := HM.out; have := HQ1.out; omega) (by have := HS9.out.len; have := HI1.out.2; have := HM.out; have := HQ1.out; omega) (fun y hy => (HI1.out.1 y hy).1) (fun y hy => (HI1.out.1 y hy).1) HS4f.out.see HS9.out.see).mono ?_
                      rintro e w10 ⟨rfl, hb⟩
                      have HB10 := Lib.hid (HB9.out.trans (hb.mono HB9.out.size))
                      have HS3g := Lib.hid (HS3f.out.later hb)
                      clear hb HS3f HS4f HS9
                      rw [decide_eq_true (rfl : d1 = d1)]
                      go_wp2_with fail
                      refine (igoes_any A3 q1 c3 (net l) _ HS3g.out (fun x hx => (HNW.out x hx).1) (by omega)).mono ?_
                      rintro e w11 ⟨rfl, hb⟩
                      have HB11 := Lib.hid (HB10.out.trans (hb.mono HB10.out.size))
                      clear hb HS3g
                      rw [HIG.out]
                      go_wp2_with fail
                      refine (HAW.out _).mono ?_
                      rintro e w29 ⟨rfl, hb⟩
                      have HB29 := Lib.hid (HB11.out.trans (hb.mono HB11.out.size))
                      clear hb
                      go_wp2_with fail
                      go_ret
                      exact ⟨rfl, HB29.out⟩
end Go.Proofs.Ytepefocpeeihdaa
