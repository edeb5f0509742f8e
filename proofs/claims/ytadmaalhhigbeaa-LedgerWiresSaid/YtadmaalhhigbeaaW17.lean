/- Ledger: an answer's bytes; what the closure of Put puts. -/
import Derived.Test.YtadmaalhhigbeaaW8
import Derived.Test.YtadmaalhhigbeaaW12
import Derived.Test.YtadmaalhhigbeaaW16
import Derived.Test.YtadmaalhhigbeaaW11
namespace Go.Proofs.Ytadmaalhhigbeaa
set_option linter.unusedVariables false
set_option linter.unusedSimpArgs false
open Go Go.RowKit OctM

def numsB (ns : List Int) : List UInt8 := ns.flatMap (fun z => enc (held z))
theorem numsB_len : ∀ ns : List Int, (numsB ns).length ≤ 6 * ns.length
  | [] => by simp [numsB]
  | z :: ns => by
    have h1 := numsB_len ns
    have h2 := held_len z
    simp only [numsB, List.flatMap_cons, List.length_append, List.length_cons] at *
    omega
theorem numsB_take (ns : List Int) (k : Nat) (hk : k < ns.length) : numsB (ns.take k) ++ enc (held ns[k]) = numsB (ns.take (k + 1)) := by
  unfold numsB
  rw [List.take_succ_eq_append_getElem hk, List.flatMap_append]
  simp
/-- An answer's bytes. -/
def rbs (r : Rp) : List UInt8 := numsB [r.kd, r.dv, r.rq, r.cd] ++ (if r.cd = 0 then numsB [r.sq] ++ (if r.kd = 2 then numsB [r.id, r.vr] else if r.kd = 3 then numsB [r.ep] ++ (lbs r.f ++ numsB [(r.ms.toNat : Int)]) else []) else [])
def putB (r : Rp) : List UInt8 := if rok r then rbs r else []
theorem rbs_len (r : Rp) : (rbs r).length ≤ 1700 := by
  have h1 := numsB_len [r.kd, r.dv, r.rq, r.cd]
  have h2 := numsB_len [r.sq]
  have h3 := numsB_len [r.id, r.vr]
  have h4 := numsB_len [r.ep]
  have h5 := numsB_len [(r.ms.toNat : Int)]
  have h6 := lbs_len r.f
  simp only [List.length_cons, List.length_nil] at h1 h2 h3 h4 h5
  unfold rbs
  split
  · split
    · simp only [List.length_append]; omega
    · split
      · simp only [List.length_append]; omega
      · simp only [List.length_append, List.append_nil]; omega
  · simp only [List.length_append, List.append_nil]; omega
theorem putB_len (r : Rp) : (putB r).length ≤ 1700 := by
  unfold putB
  split
  · exact rbs_len r
  · simp
theorem Sees.grown1 {w w' : World} {B g : Nat} {A : Option Addr} {xs : List Value} (h : Sees w B A xs) (hB : B ≤ w.heap.size) (hg : w.grownBy w' (some g)) (hne : ∀ ad, A = some ad → ad.block ≠ g) : Sees w' B A xs := fun hx => by
  obtain ⟨b, o, e, hb, hc⟩ := h hx
  refine ⟨b, o, e, hb, fun j hj => ?_⟩
  have h1 : b ≠ g := hne ⟨b, o, none⟩ e
  rw [World.cell?_of_block (a := ⟨b, o + j, none⟩) (hg.block b (Nat.lt_of_lt_of_le hb hB) (by intro e; injection e with e; exact h1 e))]
  exact hc j hj
/-- A cell of one's own that holds a slice of bytes. -/
def OutAt (w : World) (g : Nat) (bs : List UInt8) : Prop := ∃ A c, Blk w g [.slice A bs.length c] ∧ Sees w w.heap.size A (bvs bs) ∧ ∀ ad, A = some ad → ad.block ≠ g
theorem OutAt.lt {w : World} {g : Nat} {bs : List UInt8} (h : OutAt w g bs) : g < w.heap.size := by
  obtain ⟨A, c, hb, _, _⟩ := h
  exact hb.lt
theorem OutAt.later {w w' : World} {g : Nat} {bs : List UInt8} (h : OutAt w g bs) (hb : Below w.heap.size w w') : OutAt w' g bs := by
  obtain ⟨A, c, h1, h2, h3⟩ := h
  exact ⟨A, c, h1.later hb, (h2.below hb).more hb.size, h3⟩
theorem OutAt.put {w w2 : World} {g : Nat} {bs xs : List UInt8} {A2 : Option Addr} {c2 : Nat} (h : OutAt w g bs) (hb : Below w.heap.size w w2) (ho : Own w2 w.heap.size 5 (.slice A2 xs.length c2) (bvs xs)) :
    OutAt (w2.setCell ⟨g, 0, none⟩ (.slice A2 xs.length c2)) g xs := by
  have hlt := h.lt
  obtain ⟨A, c, h1, h2, h3⟩ := h
  have hf : ∀ ad, A2 = some ad → ad.block ≠ g := fun ad e => by
    have := (ho.lt ad.block (by rw [e]; rfl)).1
    omega
  have hg := grown_sets g [.slice A2 xs.length c2] 0 w2
  refine ⟨A2, c2, (h1.later hb).set 0 _, ?_, hf⟩
  have h9 := ho.sees.grown1 (Nat.le_refl _) hg hf
  rw [show (w2.setCell ⟨g, 0, none⟩ (.slice A2 xs.length c2)).heap.size = w2.heap.size from size_setCell' _ _ _]
  exact h9
theorem grown_store {w a b : World} {g : Nat} (h : w.grownBy a (some g)) (k : Below a.heap.size a b) (v : Value) : w.grownBy (b.setCell ⟨g, 0, none⟩ v) (some g) := by
  have h1 := grown_onto h k
  have h2 := grown_sets g [v] 0 b
  exact ⟨h2.os.trans h1.os, h2.tape.trans h1.tape, h2.output.trans h1.output, Nat.le_trans h1.size h2.size, fun j hj hne => (h2.block j (Nat.lt_of_lt_of_le hj h1.size) hne).trans (h1.block j hj hne)⟩

set_option maxRecDepth 100000 in
set_option maxHeartbeats 6400000 in
theorem lput1_any (g : Nat) (bs : List UInt8) (ns : List Int) (AN : Option Addr) (n cN : Nat) (w : World) (h : OutAt w g bs) (hn : ns.length = n) (hs : Sees w w.heap.size AN (ns.map (Value.int .i64))) (hf : ∀ ad, AN = some ad → ad.block ≠ g) (hm : bs.length + 6 * n ≤ 100000) :
    Calls Try.prog 40 #[.slice AN n cN, .pointer (some ⟨g, 0, none⟩)] w fun e w' => e = .returned (.tuple #[]) ∧ OutAt w' g (bs ++ numsB ns) ∧ w.grownBy w' (some g) := by
  have HN := Lib.hid hn
  have HS := Lib.hid hs
  have HF := Lib.hid hf
  have HO0 : Hid (OutAt w g (bs ++ numsB (ns.take 0))) := Lib.hid (by simpa [numsB] using h)
  have HG0 := Lib.hid (World.grownBy.refl w (some g))
  have HM := Lib.hid hm
  have hn5 : n ≤ 20000 := by omega
  have HALL : Hid (ns.take n = ns) := Lib.hid (List.take_of_length_le (by omega))
  clear h hn hs hf hm
  go_enter Try.func40, Try.ntmps40
  go_wp2_with fail
  go_loopw [7] (fun i wr => ∃ k : Nat, k ≤ n ∧ i = .int .i64 (k : Int) ∧ Hid (OutAt wr g (bs ++ numsB (ns.take k))) ∧ Hid (w.grownBy wr (some g))) (fun i _ => n - (intOf i).toNat)
  case atStart => exact ⟨0, by omega, rfl, HO0, HG0⟩
  case round =>
    clear HO0 HG0
    obtain ⟨k, hk, rfl, HO, HG⟩ := hrel
    by_cases hlt : k < n
    · have d0 : decide ((k : Int) < (n : Int)) = true := decide_eq_true (by omega)
      have hkl : k < ns.length := by rw [HN.out]; exact hlt
      have hnk : ¬ n ≤ k := by omega
      have hs2 := HS.out.grown1 (Nat.le_refl _) HG.out HF.out
      obtain ⟨b, o, rfl, hb, hc⟩ := hs2 (by rw [List.length_map]; omega)
      have kc := hc k (by rw [List.length_map]; exact hkl)
      rw [List.getElem_map] at kc
      obtain ⟨A1, c1, hb1, hs1, hA1⟩ := HO.out
      have HX := Lib.hid (numsB_take ns k hkl)
      have HLE : Hid ((bs ++ numsB (ns.take k)).length ≤ 100000) := Lib.hid (by
        have h1 := numsB_len (ns.take k)
        have h2 := HM.out
        rw [List.length_take] at h1
        rw [List.length_append]
        omega)
      generalize hacc : bs ++ numsB (ns.take k) = acc at *
      generalize ns[k] = z at *
      have HACC := Lib.hid hacc
      have k0 := hb1.cell (j := 0) rfl
      have HNUM := Lib.hid (oct_num A1 acc.length c1 acc z wr rfl hs1 (by have := HLE.out; omega))
      obtain ⟨la, hla⟩ : ∃ la, la = acc.length := ⟨_, rfl⟩
      rw [← hla] at k0 HNUM
      clear hs2 hc hb hb1 hs1 hA1 hla hacc
      go_wp2_with fail
      refine HNUM.out.mono ?_
      rintro e w2 ⟨A2, c2, rfl, ho2, hb2⟩
      have hO2 := HO.out.put hb2 ho2
      have hG2 := grown_store HG.out hb2 (.slice A2 (acc ++ enc (held z)).length c2)
      rw [show acc ++ enc (held z) = bs ++ numsB (ns.take (k + 1)) by rw [← HX.out, ← HACC.out, List.append_assoc]] at hO2 hG2 ⊢
      obtain ⟨lb, hlb⟩ : ∃ lb, lb = (bs ++ numsB (ns.take (k + 1))).length := ⟨_, rfl⟩
      rw [← hlb] at hO2 hG2 ⊢
      obtain ⟨A1, c1, hb1, _, _⟩ := HO.out.later hb2
      have k20 := hb1.cell (j := 0) rfl
      have z20 := hb1.frozen 0
      have HO2 := Lib.hid hO2
      have HG2 := Lib.hid hG2
      clear hO2 hG2 ho2 hb2 hb1 hlb k0 HO HG HNUM kc
      go_wp2_with fail
      go_roundw
      case rel => exact ⟨k + 1, by omega, by go_num, HO2, HG2⟩
      case measure => simp [intOf]; omega
    · obtain rfl : k = n := by omega
      rw [HALL.out] at HO
      go_wp2_with fail
      go_end0
      exact ⟨rfl, HO.out, HG.out⟩
end Go.Proofs.Ytadmaalhhigbeaa

/- Ledger: what Put returns. -/
namespace Go.Proofs.Ytadmaalhhigbeaa
set_option linter.unusedVariables false
set_option linter.unusedSimpArgs false
open Go Go.RowKit OctM

/-- Amid Put: the cell of the bytes so far, the answer's own cells. -/
structure PutSt (w : World) (r : Rp) (b3 b5 : Nat) (W : World) (m : Nat) (bs : List UInt8) : Prop where
  out : OutAt W b5 bs
  box : Blk W b3 (rpc r)
  be : Below w.heap.size w W
  le5 : w.heap.size ≤ b5
  ne : b5 ≠ b3
  len : bs.length ≤ m
theorem PutSt.num {w W : World} {r : Rp} {b3 b5 m : Nat} {bs : List UInt8} (h : PutSt w r b3 b5 W m bs) (hm : m ≤ 5000) (ns : List Int) (n : Nat) (hn : ns.length = n) (h4 : n ≤ 4) (b : Nat) (hb : b = W.heap.size) :
    Calls Try.prog 40 #[.slice (some ⟨b, 0, none⟩) n n, .pointer (some ⟨b5, 0, none⟩)] (W.alloc (.cells (ns.map (Value.int .i64)).toArray 3)) fun e w' => e = .returned (.tuple #[]) ∧ PutSt w r b3 b5 w' (m + 6 * n) (bs ++ numsB ns) := by
  subst hb
  have hlt := h.out.lt
  have hle := h.len
  have hB := Blk.new W (ns.map (Value.int .i64)) 3
  refine (lput1_any b5 bs ns (some ⟨W.heap.size, 0, none⟩) n n _ (h.out.later (below_a1 _ _)) hn (fun _ => ⟨W.heap.size, 0, rfl, hB.lt, fun j hj => by rw [Nat.zero_add]; exact hB.cell (List.getElem?_eq_getElem hj)⟩) (fun ad e => by cases e; exact Nat.ne_of_gt hlt) (by omega)).mono ?_
  rintro e w' ⟨rfl, ho, hg⟩
  have hl := numsB_len ns
  have hbe := h.be.alloc h.be.size (.cells (ns.map (Value.int .i64)).toArray 3)
  exact ⟨rfl, ho, (h.box.alloc _).kept hg (by intro e; injection e with e; exact h.ne e), hbe.grown hg hbe.size (fun k e => by cases e; exact h.le5), h.le5, h.ne, by rw [List.length_append]; omega⟩
theorem PutSt.store {w W W2 : World} {r : Rp} {b3 b5 m : Nat} {bs xs : List UInt8} {A2 : Option Addr} {c2 : Nat} (h : PutSt w r b3 b5 W m bs) (hb : Below W.heap.size W W2) (ho : Own W2 W.heap.size 5 (.slice A2 xs.length c2) (bvs xs)) (m2 : Nat) (hm2 : xs.length ≤ m2) :
    PutSt w r b3 b5 (W2.setCell ⟨b5, 0, none⟩ (.slice A2 xs.length c2)) m2 xs :=
  ⟨h.out.put hb ho, (h.box.later hb).setOther 0 _ h.ne, (h.be.trans (hb.mono h.be.size)).setCell (p := ⟨b5, 0, none⟩) h.le5 _, h.le5, h.ne, hm2⟩
theorem PutSt.new {w w1 : World} {r : Rp} {b3 : Nat} (hb : Blk w1 b3 (rpc r)) (h1 : Below w.heap.size w w1) : PutSt w r b3 w1.heap.size (w1.alloc (.cells #[.slice none 0 0] 27)) 0 [] :=
  ⟨⟨none, 0, Blk.new w1 [.slice none 0 0] _, Sees.nil_, fun ad e => by cases e⟩, hb.alloc _, h1.alloc h1.size _, h1.size, Nat.ne_of_gt hb.lt, Nat.le_refl _⟩

set_option maxRecDepth 100000 in
set_option maxHeartbeats 6400000 in
theorem lput_any (AB : Option Addr) (nb cb : Nat) (lb : List UInt8) (r : Rp) (w : World) (hnb : lb.length = nb) (hsb : Sees w w.heap.size AB (bvs lb)) (hmb : nb ≤ 10000) (hr : okRp w r) (hz : r.n ≤ 65536) :
    Calls Try.prog 11 #[.slice AB nb cb, .agg (rpc r).toArray] w (GivesBytes w (lb ++ putB r)) := by
  have hu := Try.underlying26
  obtain ⟨W0, hW0⟩ : ∃ W0, W0 = w.alloc (.cells (rpc r).toArray 26) := ⟨_, rfl⟩
  have HB0 : Hid (Below w.heap.size w W0) := Lib.hid (by rw [hW0]; exact below_a1 _ _)
  have HK0 : Hid (Blk W0 w.heap.size (rpc r)) := Lib.hid (by rw [hW0]; exact Blk.new _ _ _)
  have HSB := Lib.hid hsb
  have HNB := Lib.hid hnb
  have HR := Lib.hid hr
  have HCK := Lib.hid (lcheck30_any r W0 (hr.later HB0.out) hz)
  obtain ⟨R, hR⟩ : ∃ R, R = lb ++ putB r := ⟨_, rfl⟩
  rw [← hR]
  have HRE := Lib.hid hR
  clear hR
  by_cases hk : rok r
  · rw [decide_eq_true hk] at HCK
    have HRB : Hid (lb ++ rbs r = R) := Lib.hid (by rw [HRE.out]; unfold putB; rw [if_pos hk])
    have hms : r.kd = 3 → r.cd = 0 → r.ms.toNat ≤ 511 := fun h3 h0 => ((hk.2.2.2.2.2 h0).2.2.1 h3).2.2.2.2
    have HNEW := Lib.hid (fun w1 (h1 : Below W0.heap.size W0 w1) => PutSt.new (w := w) (HK0.out.later h1) (HB0.out.trans (h1.mono HB0.out.size)))
    unfold rbs at HRB
    obtain ⟨kd, dv, rq, cd, id, vr, sq, ep, A, n, c, f, ms⟩ := r
    dsimp only [rpc] at hW0 HK0 HRB hms ⊢
    have HW0 := Lib.hid hW0
    clear hr hW0 hsb hnb HRE hk
    by_cases hcd : cd = 0
    · have g0 : (cd == 0) = true := by simp [hcd]
      rw [if_pos hcd] at HRB
      by_cases hk2 : kd = 2
      · have g2 : (kd == 2) = true := by simp [hk2]
        rw [if_pos hk2] at HRB
        clear hms hcd hk2
        go_enter Try.func11, Try.ntmps11
        go_wp2_with fail
        rw [← HW0.out]
        refine HCK.out.mono ?_
        rintro e w1 ⟨rfl, hb1⟩
        have hst := HNEW.out w1 hb1
        have hb3 := HK0.out.later hb1
        have hlt3 := hb3.lt
        have k0 := hb3.cell (j := 0) rfl
        have k1 := hb3.cell (j := 1) rfl
        have k2 := hb3.cell (j := 2) rfl
        have k3 := hb3.cell (j := 3) rfl
        have HST := Lib.hid hst
        clear hb1 HCK HNEW hb3 hst HB0 HK0 HW0
        go_wp2_with fail
        refine (HST.out.num (by omega) [kd, dv, rq, cd] 4 rfl (by omega) _ (by simp)).mono ?_
        rintro e w2 ⟨rfl, hst2⟩
        have HST2 := Lib.hid hst2
        generalize w1.heap.size = b5 at *
        clear HST hlt3 k0 k1 k2 k3
        clear hst2
        have k2_0 := HST2.out.box.cell (j := 0) rfl
        have k2_1 := HST2.out.box.cell (j := 1) rfl
        have k2_2 := HST2.out.box.cell (j := 2) rfl
        have k2_3 := HST2.out.box.cell (j := 3) rfl
        have k2_4 := HST2.out.box.cell (j := 4) rfl
        have k2_5 := HST2.out.box.cell (j := 5) rfl
        have k2_6 := HST2.out.box.cell (j := 6) rfl
        have k2_7 := HST2.out.box.cell (j := 7) rfl
        have k2_8 := HST2.out.box.cell (j := 8) rfl
        have k2_9 := HST2.out.box.cell (j := 9) rfl
        go_wp2_with fail
        refine (HST2.out.num (by omega) [sq] 1 rfl (by omega) _ (by simp)).mono ?_
        rintro e w3 ⟨rfl, hst3⟩
        have HST3 := Lib.hid hst3
        clear hst3 HST2 k2_0 k2_1 k2_2 k2_3 k2_4 k2_5 k2_6 k2_7 k2_8 k2_9
        have k3_0 := HST3.out.box.cell (j := 0) rfl
        have k3_1 := HST3.out.box.cell (j := 1) rfl
        have k3_2 := HST3.out.box.cell (j := 2) rfl
        have k3_3 := HST3.out.box.cell (j := 3) rfl
        have k3_4 := HST3.out.box.cell (j := 4) rfl
        have k3_5 := HST3.out.box.cell (j := 5) rfl
        have k3_6 := HST3.out.box.cell (j := 6) rfl
        have k3_7 := HST3.out.box.cell (j := 7) rfl
        have k3_8 := HST3.out.box.cell (j := 8) rfl
        have k3_9 := HST3.out.box.cell (j := 9) rfl
        go_wp2_with fail
        refine (HST3.out.num (by omega) [id, vr] 2 rfl (by omega) _ (by simp)).mono ?_
        rintro e w4 ⟨rfl, hst4⟩
        have HST4 := Lib.hid hst4
        clear hst4 HST3 k3_0 k3_1 k3_2 k3_3 k3_4 k3_5 k3_6 k3_7 k3_8 k3_9
        obtain ⟨Ao, co, hbo, hso, _⟩ := HST4.out.out
        have hbw := HST4.out.be
        have ko := hbo.cell (j := 0) rfl
        have hlen := HST4.out.len
        obtain ⟨bs, hbs⟩ : ∃ bs, bs = ([] ++ numsB [kd, dv, rq, cd] ++ numsB [sq]) ++ numsB [id, vr] := ⟨_, rfl⟩
        rw [← hbs] at hso ko hlen
        have HBS : Hid ([lb, bs].flatten = R) := Lib.hid (by rw [← HRB.out, hbs]; simp [List.append_assoc])
        obtain ⟨lo, hlo⟩ : ∃ lo, lo = bs.length := ⟨_, rfl⟩
        rw [← hlo] at ko hlen
        have hsA : Sees w4 w4.heap.size AB (bvs lb) := (HSB.out.below hbw).more hbw.size
        have HCC := Lib.hid (concat_any w4.heap.size 2 2 [lb, bs] (w4.alloc (.cells #[.slice AB nb cb, .slice Ao lo co] 27)) rfl (by simp) (flat2 27 HNB.out hlo.symm hsA hso) (by omega) (by have := HNB.out; simp; omega))
        rw [HBS.out] at HCC
        have HBW2 := Lib.hid (hbw.alloc hbw.size (.cells #[.slice AB nb cb, .slice Ao lo co] 27))
        clear hbo hso hlen hbs hlo hsA hbw HST4 HBS HRB HSB HNB
        go_wp2_with fail
        refine HCC.out.mono ?_
        rintro e w9 ⟨A9, c9, rfl, o9, b9⟩
        have HF : Hid (GivesBytes w R (.returned (.slice A9 R.length c9)) w9) := Lib.hid ⟨A9, c9, rfl, o9.lower HBW2.out.size, HBW2.out.trans (b9.mono HBW2.out.size)⟩
        clear o9 b9 HBW2
        go_wp2_with fail
        go_ret
        exact HF.out
      · have g2 : (kd == 2) = false := by simp [hk2]
        rw [if_neg hk2] at HRB
        by_cases hk3 : kd = 3
        · have g3 : (kd == 3) = true := by simp [hk3]
          rw [if_pos hk3] at HRB
          have hms5 := hms hk3 hcd
          clear hms hcd hk2 hk3
          go_enter Try.func11, Try.ntmps11
          go_wp2_with fail
          rw [← HW0.out]
          refine HCK.out.mono ?_
          rintro e w1 ⟨rfl, hb1⟩
          have hst := HNEW.out w1 hb1
          have hb3 := HK0.out.later hb1
          have hlt3 := hb3.lt
          have k0 := hb3.cell (j := 0) rfl
          have k1 := hb3.cell (j := 1) rfl
          have k2 := hb3.cell (j := 2) rfl
          have k3 := hb3.cell (j := 3) rfl
          have HST := Lib.hid hst
          clear hb1 HCK HNEW hb3 hst HB0 HK0 HW0
          go_wp2_with fail
          refine (HST.out.num (by omega) [kd, dv, rq, cd] 4 rfl (by omega) _ (by simp)).mono ?_
          rintro e w2 ⟨rfl, hst2⟩
          have HST2 := Lib.hid hst2
          generalize w1.heap.size = b5 at *
          clear HST hlt3 k0 k1 k2 k3
          clear hst2
          have k2_0 := HST2.out.box.cell (j := 0) rfl
          have k2_1 := HST2.out.box.cell (j := 1) rfl
          have k2_2 := HST2.out.box.cell (j := 2) rfl
          have k2_3 := HST2.out.box.cell (j := 3) rfl
          have k2_4 := HST2.out.box.cell (j := 4) rfl
          have k2_5 := HST2.out.box.cell (j := 5) rfl
          have k2_6 := HST2.out.box.cell (j := 6) rfl
          have k2_7 := HST2.out.box.cell (j := 7) rfl
          have k2_8 := HST2.out.box.cell (j := 8) rfl
          have k2_9 := HST2.out.box.cell (j := 9) rfl
          go_wp2_with fail
          refine (HST2.out.num (by omega) [sq] 1 rfl (by omega) _ (by simp)).mono ?_
          rintro e w3 ⟨rfl, hst3⟩
          have HST3 := Lib.hid hst3
          clear hst3 HST2 k2_0 k2_1 k2_2 k2_3 k2_4 k2_5 k2_6 k2_7 k2_8 k2_9
          have k3_0 := HST3.out.box.cell (j := 0) rfl
          have k3_1 := HST3.out.box.cell (j := 1) rfl
          have k3_2 := HST3.out.box.cell (j := 2) rfl
          have k3_3 := HST3.out.box.cell (j := 3) rfl
          have k3_4 := HST3.out.box.cell (j := 4) rfl
          have k3_5 := HST3.out.box.cell (j := 5) rfl
          have k3_6 := HST3.out.box.cell (j := 6) rfl
          have k3_7 := HST3.out.box.cell (j := 7) rfl
          have k3_8 := HST3.out.box.cell (j := 8) rfl
          have k3_9 := HST3.out.box.cell (j := 9) rfl
          go_wp2_with fail
          refine (HST3.out.num (by omega) [ep] 1 rfl (by omega) _ (by simp)).mono ?_
          rintro e w4 ⟨rfl, hst4⟩
          have HST4 := Lib.hid hst4
          clear hst4 HST3 k3_0 k3_1 k3_2 k3_3 k3_4 k3_5 k3_6 k3_7 k3_8 k3_9
          obtain ⟨Ao, co, hbo, hso, _⟩ := HST4.out.out
          have k4_0 := HST4.out.box.cell (j := 0) rfl
          have k4_1 := HST4.out.box.cell (j := 1) rfl
          have k4_2 := HST4.out.box.cell (j := 2) rfl
          have k4_3 := HST4.out.box.cell (j := 3) rfl
          have k4_4 := HST4.out.box.cell (j := 4) rfl
          have k4_5 := HST4.out.box.cell (j := 5) rfl
          have k4_6 := HST4.out.box.cell (j := 6) rfl
          have k4_7 := HST4.out.box.cell (j := 7) rfl
          have k4_8 := HST4.out.box.cell (j := 8) rfl
          have k4_9 := HST4.out.box.cell (j := 9) rfl
          have ko := hbo.cell (j := 0) rfl
          have hlen := HST4.out.len
          obtain ⟨bs, hbs⟩ : ∃ bs, bs = ([] ++ numsB [kd, dv, rq, cd] ++ numsB [sq]) ++ numsB [ep] := ⟨_, rfl⟩
          rw [← hbs] at hso ko hlen
          have HST4' : Hid (PutSt w ⟨kd, dv, rq, cd, id, vr, sq, ep, A, n, c, f, ms⟩ w.heap.size b5 w4 (((0 + 6 * 4) + 6 * 1) + 6 * 1) bs) := Lib.hid (by rw [hbs]; exact HST4.out)
          have HBS := Lib.hid hbs
          obtain ⟨lo, hlo⟩ : ∃ lo, lo = bs.length := ⟨_, rfl⟩
          rw [← hlo] at ko hlen
          have hokf := HR.out.later HST4.out.be
          have HPN := Lib.hid (put_nodes Ao lo co bs A n c f w4 hlo.symm hso (by omega) hokf.len hokf.see)
          clear hbo hso hbs hlo hokf HST4
          go_wp2_with fail
          refine HPN.out.mono ?_
          rintro e w5 ⟨A5, c5, rfl, o5, b5'⟩
          have hst5 := HST4'.out.store b5' o5 1700 (by have := HST4'.out.len; have := lbs_len f; rw [List.length_append]; omega)
          have hlt5 := (HST4'.out.out.later b5')
          obtain ⟨Aq, cq, hbq, _, _⟩ := hlt5
          have kq := hbq.cell (j := 0) rfl
          have zq := hbq.frozen 0
          have kx9 := (HST4'.out.box.later b5').cell (j := 9) rfl
          have hne := HST4'.out.ne
          obtain ⟨l5, hl5⟩ : ∃ l5, l5 = (bs ++ lbs f).length := ⟨_, rfl⟩
          rw [← hl5] at hst5 ⊢
          obtain ⟨W6, hW6⟩ : ∃ W6, W6 = w5.setCell ⟨b5, 0, none⟩ (.slice A5 l5 c5) := ⟨_, rfl⟩
          rw [← hW6] at hst5
          have hst5 : PutSt w ⟨kd, dv, rq, cd, id, vr, sq, ep, A, n, c, f, ms⟩ w.heap.size b5 W6 1700 (bs ++ lbs f) := hst5
          have HST5 := Lib.hid hst5
          have HW6 := Lib.hid hW6
          clear hst5 hW6 o5 b5' hbq hl5 HPN HST4' hlen
          go_wp2_with fail
          rw [← HW6.out]
          refine (HST5.out.num (by omega) [(ms.toNat : Int)] 1 rfl (by omega) _ (by first | rfl | (rw [HW6.out]; simp))).mono ?_
          rintro e w6 ⟨rfl, hst6⟩
          have HST6 := Lib.hid hst6
          clear hst6 HST5 HW6 kx9 hne kq zq
          obtain ⟨Ao, co, hbo, hso, _⟩ := HST6.out.out
          have hbw := HST6.out.be
          have ko := hbo.cell (j := 0) rfl
          have hlen := HST6.out.len
          obtain ⟨bs6, hbs⟩ : ∃ bz, bz = bs ++ lbs f ++ numsB [(ms.toNat : Int)] := ⟨_, rfl⟩
          rw [← hbs] at hso ko hlen
          have HBS6 : Hid ([lb, bs6].flatten = R) := Lib.hid (by rw [← HRB.out, hbs, HBS.out]; simp [List.append_assoc])
          obtain ⟨lo, hlo⟩ : ∃ lo, lo = bs6.length := ⟨_, rfl⟩
          rw [← hlo] at ko hlen
          have hsA : Sees w6 w6.heap.size AB (bvs lb) := (HSB.out.below hbw).more hbw.size
          have HCC := Lib.hid (concat_any w6.heap.size 2 2 [lb, bs6] (w6.alloc (.cells #[.slice AB nb cb, .slice Ao lo co] 27)) rfl (by simp) (flat2 27 HNB.out hlo.symm hsA hso) (by omega) (by have := HNB.out; simp; omega))
          rw [HBS6.out] at HCC
          have HBW2 := Lib.hid (hbw.alloc hbw.size (.cells #[.slice AB nb cb, .slice Ao lo co] 27))
          clear hbo hso hlen hbs hlo hsA hbw HST6 HBS HRB HSB HNB
          go_wp2_with fail
          refine HCC.out.mono ?_
          rintro e w9 ⟨A9, c9, rfl, o9, b9⟩
          have HF : Hid (GivesBytes w R (.returned (.slice A9 R.length c9)) w9) := Lib.hid ⟨A9, c9, rfl, o9.lower HBW2.out.size, HBW2.out.trans (b9.mono HBW2.out.size)⟩
          clear o9 b9 HBW2
          go_wp2_with fail
          go_ret
          exact HF.out
        · have g3 : (kd == 3) = false := by simp [hk3]
          rw [if_neg hk3] at HRB
          clear hms hcd hk2 hk3
          go_enter Try.func11, Try.ntmps11
          go_wp2_with fail
          rw [← HW0.out]
          refine HCK.out.mono ?_
          rintro e w1 ⟨rfl, hb1⟩
          have hst := HNEW.out w1 hb1
          have hb3 := HK0.out.later hb1
          have hlt3 := hb3.lt
          have k0 := hb3.cell (j := 0) rfl
          have k1 := hb3.cell (j := 1) rfl
          have k2 := hb3.cell (j := 2) rfl
          have k3 := hb3.cell (j := 3) rfl
          have HST := Lib.hid hst
          clear hb1 HCK HNEW hb3 hst HB0 HK0 HW0
          go_wp2_with fail
          refine (HST.out.num (by omega) [kd, dv, rq, cd] 4 rfl (by omega) _ (by simp)).mono ?_
          rintro e w2 ⟨rfl, hst2⟩
          have HST2 := Lib.hid hst2
          generalize w1.heap.size = b5 at *
          clear HST hlt3 k0 k1 k2 k3
          clear hst2
          have k2_0 := HST2.out.box.cell (j := 0) rfl
          have k2_1 := HST2.out.box.cell (j := 1) rfl
          have k2_2 := HST2.out.box.cell (j := 2) rfl
          have k2_3 := HST2.out.box.cell (j := 3) rfl
          have k2_4 := HST2.out.box.cell (j := 4) rfl
          have k2_5 := HST2.out.box.cell (j := 5) rfl
          have k2_6 := HST2.out.box.cell (j := 6) rfl
          have k2_7 := HST2.out.box.cell (j := 7) rfl
          have k2_8 := HST2.out.box.cell (j := 8) rfl
          have k2_9 := HST2.out.box.cell (j := 9) rfl
          go_wp2_with fail
          refine (HST2.out.num (by omega) [sq] 1 rfl (by omega) _ (by simp)).mono ?_
          rintro e w3 ⟨rfl, hst3⟩
          have HST3 := Lib.hid hst3
          clear hst3 HST2 k2_0 k2_1 k2_2 k2_3 k2_4 k2_5 k2_6 k2_7 k2_8 k2_9
          have k3_0 := HST3.out.box.cell (j := 0) rfl
          have k3_1 := HST3.out.box.cell (j := 1) rfl
          have k3_2 := HST3.out.box.cell (j := 2) rfl
          have k3_3 := HST3.out.box.cell (j := 3) rfl
          have k3_4 := HST3.out.box.cell (j := 4) rfl
          have k3_5 := HST3.out.box.cell (j := 5) rfl
          have k3_6 := HST3.out.box.cell (j := 6) rfl
          have k3_7 := HST3.out.box.cell (j := 7) rfl
          have k3_8 := HST3.out.box.cell (j := 8) rfl
          have k3_9 := HST3.out.box.cell (j := 9) rfl
          obtain ⟨Ao, co, hbo, hso, _⟩ := HST3.out.out
          have hbw := HST3.out.be
          have ko := hbo.cell (j := 0) rfl
          have hlen := HST3.out.len
          obtain ⟨bs, hbs⟩ : ∃ bs, bs = [] ++ numsB [kd, dv, rq, cd] ++ numsB [sq] := ⟨_, rfl⟩
          rw [← hbs] at hso ko hlen
          have HBS : Hid ([lb, bs].flatten = R) := Lib.hid (by rw [← HRB.out, hbs]; simp [List.append_assoc])
          obtain ⟨lo, hlo⟩ : ∃ lo, lo = bs.length := ⟨_, rfl⟩
          rw [← hlo] at ko hlen
          have hsA : Sees w3 w3.heap.size AB (bvs lb) := (HSB.out.below hbw).more hbw.size
          have HCC := Lib.hid (concat_any w3.heap.size 2 2 [lb, bs] (w3.alloc (.cells #[.slice AB nb cb, .slice Ao lo co] 27)) rfl (by simp) (flat2 27 HNB.out hlo.symm hsA hso) (by omega) (by have := HNB.out; simp; omega))
          rw [HBS.out] at HCC
          have HBW2 := Lib.hid (hbw.alloc hbw.size (.cells #[.slice AB nb cb, .slice Ao lo co] 27))
          clear hbo hso hlen hbs hlo hsA hbw HST3 HBS HRB HSB HNB
          go_wp2_with fail
          refine HCC.out.mono ?_
          rintro e w9 ⟨A9, c9, rfl, o9, b9⟩
          have HF : Hid (GivesBytes w R (.returned (.slice A9 R.length c9)) w9) := Lib.hid ⟨A9, c9, rfl, o9.lower HBW2.out.size, HBW2.out.trans (b9.mono HBW2.out.size)⟩
          clear o9 b9 HBW2
          go_wp2_with fail
          go_ret
          exact HF.out
    · have g0 : (cd == 0) = false := by simp [hcd]
      rw [if_neg hcd] at HRB
      clear hms hcd
      go_enter Try.func11, Try.ntmps11
      go_wp2_with fail
      rw [← HW0.out]
      refine HCK.out.mono ?_
      rintro e w1 ⟨rfl, hb1⟩
      have hst := HNEW.out w1 hb1
      have hb3 := HK0.out.later hb1
      have hlt3 := hb3.lt
      have k0 := hb3.cell (j := 0) rfl
      have k1 := hb3.cell (j := 1) rfl
      have k2 := hb3.cell (j := 2) rfl
      have k3 := hb3.cell (j := 3) rfl
      have HST := Lib.hid hst
      clear hb1 HCK HNEW hb3 hst HB0 HK0 HW0
      go_wp2_with fail
      refine (HST.out.num (by omega) [kd, dv, rq, cd] 4 rfl (by omega) _ (by simp)).mono ?_
      rintro e w2 ⟨rfl, hst2⟩
      have HST2 := Lib.hid hst2
      generalize w1.heap.size = b5 at *
      clear HST hlt3 k0 k1 k2 k3
      clear hst2
      have k2_3 := HST2.out.box.cell (j := 3) rfl
      obtain ⟨Ao, co, hbo, hso, _⟩ := HST2.out.out
      have hbw := HST2.out.be
      have ko := hbo.cell (j := 0) rfl
      have hlen := HST2.out.len
      obtain ⟨bs, hbs⟩ : ∃ bs, bs = [] ++ numsB [kd, dv, rq, cd] := ⟨_, rfl⟩
      rw [← hbs] at hso ko hlen
      have HBS : Hid ([lb, bs].flatten = R) := Lib.hid (by rw [← HRB.out, hbs]; simp [List.append_assoc])
      obtain ⟨lo, hlo⟩ : ∃ lo, lo = bs.length := ⟨_, rfl⟩
      rw [← hlo] at ko hlen
      have hsA : Sees w2 w2.heap.size AB (bvs lb) := (HSB.out.below hbw).more hbw.size
      have HCC := Lib.hid (concat_any w2.heap.size 2 2 [lb, bs] (w2.alloc (.cells #[.slice AB nb cb, .slice Ao lo co] 27)) rfl (by simp) (flat2 27 HNB.out hlo.symm hsA hso) (by omega) (by have := HNB.out; simp; omega))
      rw [HBS.out] at HCC
      have HBW2 := Lib.hid (hbw.alloc hbw.size (.cells #[.slice AB nb cb, .slice Ao lo co] 27))
      clear hbo hso hlen hbs hlo hsA hbw HST2 HBS HRB HSB HNB
      go_wp2_with fail
      refine HCC.out.mono ?_
      rintro e w9 ⟨A9, c9, rfl, o9, b9⟩
      have HF : Hid (GivesBytes w R (.returned (.slice A9 R.length c9)) w9) := Lib.hid ⟨A9, c9, rfl, o9.lower HBW2.out.size, HBW2.out.trans (b9.mono HBW2.out.size)⟩
      clear o9 b9 HBW2
      go_wp2_with fail
      go_ret
      exact HF.out
  · rw [decide_eq_false hk] at HCK
    have HRB : Hid (R = lb) := Lib.hid (by rw [HRE.out]; unfold putB; rw [if_neg hk, List.append_nil])
    rw [HRB.out]
    obtain ⟨kd, dv, rq, cd, id, vr, sq, ep, A, n, c, f, ms⟩ := r
    dsimp only [rpc] at hW0 HK0 ⊢
    have HW0 := Lib.hid hW0
    clear hr hW0 hsb hnb HRE hk HRB
    go_enter Try.func11, Try.ntmps11
    go_wp2_with fail
    rw [← HW0.out]
    refine HCK.out.mono ?_
    rintro e w1 ⟨rfl, hb1⟩
    have HB1 := Lib.hid (HB0.out.trans (hb1.mono HB0.out.size))
    have HCL := Lib.hid (clone_any AB nb cb lb w1 HNB.out ((HSB.out.below HB1.out).more HB1.out.size) (by omega))
    clear hb1 HCK
    go_wp2_with fail
    refine HCL.out.mono ?_
    rintro e w2 ⟨A2, c2, rfl, o2, b2⟩
    have HF : Hid (GivesBytes w lb (.returned (.slice A2 lb.length c2)) w2) := Lib.hid ⟨A2, c2, rfl, o2.lower HB1.out.size, HB1.out.trans (b2.mono HB1.out.size)⟩
    clear o2 b2 HB1
    go_wp2_with fail
    go_ret
    exact HF.out
end Go.Proofs.Ytadmaalhhigbeaa

/- Filters as bytes: what the document's Put returns. -/
namespace Go.Proofs.Ytadmaalhhigbeaa
set_option linter.unusedVariables false
set_option linter.unusedSimpArgs false
open Go Go.RowKit OctM

set_option maxRecDepth 100000 in
set_option maxHeartbeats 6400000 in
theorem rput_nodes (A : Option Addr) (n c : Nat) (l : List Nd) (w : World) (hn : l.length = n) (hs : Sees w w.heap.size A (ncs l)) (hc : n ≤ c) :
    Calls Try.prog 45 #[.slice A n c] w fun e w' => e = .returned (.string (str (lbs l))) ∧ Below w.heap.size w w' := by
  have HC := Lib.hid (rlcheck_any A n c l w hn hs hc)
  by_cases hok : lchk l = 0
  · rw [hok] at HC
    have hu := Try.underlying71
    have huv := Try.underlying69
    have hn31 : n ≤ 31 := by rw [← hn]; exact (lchk_ok hok).1
    have HB : Hid (lbs l = enc (held (n : Int)) ++ l.flatMap nbs) := Lib.hid (by unfold lbs; rw [if_pos hok, hn])
    obtain ⟨R, hR⟩ : ∃ R, R = str (lbs l) := ⟨_, rfl⟩
    have HR := Lib.hid hR
    rw [← hR]
    have HN := Lib.hid hn
    have HS := Lib.hid (show Sees w w.heap.size A (ncs l) from hs)
    have HNUM0 := Lib.hid (fun wx : World => ref_num (n : Int) wx)
    obtain ⟨r0, hr0⟩ : ∃ r, r = enc (held (n : Int)) := ⟨_, rfl⟩
    obtain ⟨t0, ht0⟩ : ∃ t, t = str r0 := ⟨_, rfl⟩
    rw [← hr0, ← ht0] at HNUM0
    have hr06 : t0.size ≤ 6 := by rw [ht0, str_size, hr0]; exact held_len _
    have HR0 := Lib.hid hr0
    have HT0 := Lib.hid ht0
    clear hR hok hn hs hr0 ht0
    go_enter Try.func45, Try.ntmps45
    go_wp2_with fail
    refine HC.out.mono ?_
    rintro e w1 ⟨rfl, hb1⟩
    clear HC
    go_wp2_with fail
    refine (HNUM0.out _).mono ?_
    rintro e w2 ⟨rfl, b2⟩
    have hbw := hb1.trans (b2.mono hb1.size)
    clear b2 hb1
    go_wp2_with fail
    go_loopw [4, 3] (fun i v wr => ∃ (k : Nat) (acc : List UInt8), k ≤ n ∧ i = .int .i64 k ∧ (∃ t : ByteArray, v = .string t ∧ Hid (t = str acc) ∧ t.size ≤ 6 + 52 * k) ∧ Hid (acc = r0 ++ (l.take k).flatMap nbs) ∧ Below w.heap.size w wr) (fun i _ _ => n - (intOf i).toNat)
    case atStart => exact ⟨0, r0, Nat.zero_le _, rfl, ⟨t0, rfl, HT0, by omega⟩, Lib.hid (by simp), hbw⟩
    case round =>
      obtain ⟨k, acc, hk, rfl, ⟨t, rfl, HT, ht⟩, HACC, hbr⟩ := hrel
      clear hbw
      by_cases hlt : k < n
      · have hkl : k < l.length := by rw [HN.out]; exact hlt
        have d1 : decide ((k : Int) < (n : Int)) = true := by simp; omega
        obtain ⟨b, o, rfl, hb, hcc, hc2, hrg⟩ := sees_node (HS.out.below hbr) k hkl
        clear hcc hc2
        have HSTEP := Lib.hid (nbs_take l k hkl)
        have BN := Blk.new wr (ncells zn) 71
        have TH := BN.there 0 5 (by rw [ncells_len]; exact Nat.le_refl 5)
        have FIN := BN.sets (ncells l[k]) 0 (by rw [ncells_len, ncells_len]; exact Nat.le_refl 5)
        have e1 : (ncells zn).take 0 ++ ncells l[k] ++ (ncells zn).drop (0 + (ncells l[k]).length) = ncells l[k] := by simp [ncells]
        rw [e1] at FIN
        have HB2 := below_sets hbr.size (ncells l[k]) 0 (hbr.alloc hbr.size (.cells (ncells zn).toArray 71))
        have HONE := Lib.hid (show ∀ v ∈ ncells l[k], v.oneCell' = true from fun v hv => ncs_one [l[k]] v (by simpa [ncs] using hv))
        obtain ⟨⟨op, m, v0, v1, v2⟩, hnd⟩ : ∃ nd, nd = l[k] := ⟨_, rfl⟩
        have HNBS : Hid (nbs l[k] = enc (held op) ++ ((if hasN op = true then enc (held m) else []) ++ (if hasV op = true then vbs (v0, v1, v2) else []))) := Lib.hid (by rw [← hnd]; rfl)
        obtain ⟨nc, hnc⟩ : ∃ nc, nc = ncells l[k] := ⟨_, rfl⟩
        have HSZ := Lib.hid (show nc.length = 5 by rw [hnc]; rfl)
        have HNC : Hid (nc = [.int .i64 op, .int .i64 m, .int .i64 v0, .int .i64 v1, .string v2]) := Lib.hid (by rw [hnc, ← hnd]; rfl)
        rw [← hnc] at hrg FIN HB2 HONE
        clear e1 hnc BN hnd
        rw [zc5] at TH HB2 FIN
        rw [HNC.out] at FIN
        obtain ⟨W2, hW2⟩ : ∃ W2, W2 = (wr.alloc (.cells #[.int .i64 0, .int .i64 0, .int .i64 0, .int .i64 0, .string ⟨#[]⟩] 71)).setCells wr.heap.size 0 nc := ⟨_, rfl⟩
        have HW2 := Lib.hid hW2
        have FIN2 : Blk W2 wr.heap.size [.int .i64 op, .int .i64 m, .int .i64 v0, .int .i64 v1, .string v2] := by rw [hW2, HNC.out]; exact FIN
        have HB3 : Below w.heap.size w W2 := by rw [hW2]; exact HB2
        have HN1 := Lib.hid (fun wx : World => ref_num op wx)
        have HN2 := Lib.hid (fun wx : World => ref_num m wx)
        have HN3 := Lib.hid (fun wx : World => rputval_any v0 v1 v2 wx)
        obtain ⟨u1, hu1⟩ : ∃ u, u = str (enc (held op)) := ⟨_, rfl⟩
        obtain ⟨u2, hu2⟩ : ∃ u, u = str (enc (held m)) := ⟨_, rfl⟩
        obtain ⟨u3, hu3⟩ : ∃ u, u = str (vbs (v0, v1, v2)) := ⟨_, rfl⟩
        rw [← hu1] at HN1
        rw [← hu2] at HN2
        rw [← hu3] at HN3
        have z1 : u1.size ≤ 6 := by rw [hu1, str_size]; exact held_len _
        have z2 : u2.size ≤ 6 := by rw [hu2, str_size]; exact held_len _
        have z3 : u3.size ≤ 40 := by rw [hu3, str_size]; exact vbs_len _
        have y1 : (t ++ u1).size = t.size + u1.size := by simp
        have y2 : (t ++ u1 ++ u2).size = t.size + u1.size + u2.size := by simp
        have y3 : (t ++ u1 ++ u2 ++ u3).size = t.size + u1.size + u2.size + u3.size := by simp
        have Y1 := Lib.hid y1
        have Y2 := Lib.hid y2
        have Y3 := Lib.hid y3
        have E1 : Hid (t ++ u1 = str (acc ++ enc (held op))) := Lib.hid (by rw [HT.out, hu1]; first | exact (str_append _ _).symm | exact str_append _ _)
        have E2 : Hid (t ++ u1 ++ u2 = str (acc ++ enc (held op) ++ enc (held m))) := Lib.hid (by rw [E1.out, hu2]; first | exact (str_append _ _).symm | exact str_append _ _)
        have E3 : Hid (t ++ u1 ++ u2 ++ u3 = str (acc ++ enc (held op) ++ enc (held m) ++ vbs (v0, v1, v2))) := Lib.hid (by rw [E2.out, hu3]; first | exact (str_append _ _).symm | exact str_append _ _)
        clear hW2 FIN HB2 hu1 hu2 hu3 y1 y2 y3
        go_wp2_with (first
          | (refine wpList_load_mid rfl 71 (.tmp 20) rfl b (o + k * 5) rfl nc _ hrg hu rfl (by rw [HSZ.out]; exact info_node) ?_)
          | (refine wpList_store_mid rfl 71 (.tmp 5) (.tmp 21) rfl wr.heap.size 0 nc.toArray rfl rfl (by simpa [HSZ.out] using TH) (by simpa [HSZ.out] using info_node) (all_oneCell_toArray HONE.out) ?_
             rw [show (wr.alloc (.cells #[.int .i64 0, .int .i64 0, .int .i64 0, .int .i64 0, .string ⟨#[]⟩] 71)).setCells wr.heap.size 0 nc.toArray.toList = W2 from HW2.out.symm]
             have q0 := FIN2.cell (j := 0) rfl)
          | fail)
        refine (HN1.out _).mono ?_
        rintro e w3 ⟨rfl, b3⟩
        have hb3 := HB3.trans (b3.mono HB3.size)
        have F3 := FIN2.later b3
        have q0 := F3.cell (j := 0) rfl
        have q1 := F3.cell (j := 1) rfl
        clear b3 HB3 FIN2 TH hrg HN1
        by_cases g3 : 3 ≤ op
        · by_cases g9 : op ≤ 9
          · skip
            have e3 : decide (3 ≤ op) = true := by simpa using g3
            have e9 : decide (op ≤ 9) = true := by simpa using g9
            by_cases g6 : 6 ≤ op
            · have e6 : decide (6 ≤ op) = true := by simpa using g6
              have BN2 : Hid (hasN op = true) := Lib.hid (by unfold hasN; exact decide_eq_true ⟨g3, g9⟩)
              have BV2 : Hid (hasV op = true) := Lib.hid (by unfold hasV; exact decide_eq_true ⟨g6, g9⟩)
              clear g3 g6 g9
              go_wp2_with fail
              refine (HN2.out _).mono ?_
              rintro e w4 ⟨rfl, b4⟩
              have hb4 := hb3.trans (b4.mono hb3.size)
              have F4 := F3.later b4
              have q0 := F4.cell (j := 0) rfl
              clear b4 HN2 q1
              have RV := F4.range 2 [.int .i64 v0, .int .i64 v1, .string v2] rfl
              go_wp2_with (first
                | (refine wpList_load_mid rfl 69 (.tmp 49) rfl wr.heap.size 2 rfl [.int .i64 v0, .int .i64 v1, .string v2] _ RV huv rfl info_val3 ?_)
                | fail)
              refine (HN3.out _).mono ?_
              rintro e w5 ⟨rfl, b5⟩
              have hb5 := hb4.trans (b5.mono hb4.size)
              clear b5 RV HN3
              go_wp2_with fail
              go_roundw
              case rel => exact ⟨k + 1, acc ++ enc (held op) ++ enc (held m) ++ vbs (v0, v1, v2), by omega, by go_num, ⟨_, rfl, E3, by rw [Y3.out]; omega⟩, Lib.hid (by rw [HSTEP.out, HNBS.out, BN2.out, BV2.out, ← List.append_assoc, ← HACC.out]; simp only [List.append_assoc, List.append_nil, if_true, if_false, reduceCtorEq, List.nil_append, Bool.false_eq_true, ite_true, ite_false]), hb5⟩
              case measure => simp [intOf]; omega
            · have e6 : decide (6 ≤ op) = false := by simpa using g6
              have BN2 : Hid (hasN op = true) := Lib.hid (by unfold hasN; exact decide_eq_true ⟨g3, g9⟩)
              have BV2 : Hid (hasV op = false) := Lib.hid (by unfold hasV; exact decide_eq_false (by omega))
              clear g3 g6 g9
              go_wp2_with fail
              refine (HN2.out _).mono ?_
              rintro e w4 ⟨rfl, b4⟩
              have hb4 := hb3.trans (b4.mono hb3.size)
              have F4 := F3.later b4
              have q0 := F4.cell (j := 0) rfl
              clear b4 HN2 q1
              go_wp2_with fail
              go_roundw
              case rel => exact ⟨k + 1, acc ++ enc (held op) ++ enc (held m), by omega, by go_num, ⟨_, rfl, E2, by rw [Y2.out]; omega⟩, Lib.hid (by rw [HSTEP.out, HNBS.out, BN2.out, BV2.out, ← List.append_assoc, ← HACC.out]; simp only [List.append_assoc, List.append_nil, if_true, if_false, reduceCtorEq, List.nil_append, Bool.false_eq_true, ite_true, ite_false]), hb4⟩
              case measure => simp [intOf]; omega
          · skip
            have e3 : decide (3 ≤ op) = true := by simpa using g3
            have e9 : decide (op ≤ 9) = false := by simpa using g9
            have e6 : decide (6 ≤ op) = true := by simp; omega
            have BN2 : Hid (hasN op = false) := Lib.hid (by unfold hasN; exact decide_eq_false (by omega))
            have BV2 : Hid (hasV op = false) := Lib.hid (by unfold hasV; exact decide_eq_false (by omega))
            clear g3 g9
            go_wp2_with fail
            go_roundw
            case rel => exact ⟨k + 1, acc ++ enc (held op), by omega, by go_num, ⟨_, rfl, E1, by rw [Y1.out]; omega⟩, Lib.hid (by rw [HSTEP.out, HNBS.out, BN2.out, BV2.out, ← List.append_assoc, ← HACC.out]; simp only [List.append_assoc, List.append_nil, if_true, if_false, reduceCtorEq, List.nil_append, Bool.false_eq_true, ite_true, ite_false]), hb3⟩
            case measure => simp [intOf]; omega
        · have e3 : decide (3 ≤ op) = false := by simpa using g3
          have e6 : decide (6 ≤ op) = false := by simp; omega
          have BN2 : Hid (hasN op = false) := Lib.hid (by unfold hasN; exact decide_eq_false (by omega))
          have BV2 : Hid (hasV op = false) := Lib.hid (by unfold hasV; exact decide_eq_false (by omega))
          clear g3
          go_wp2_with fail
          go_roundw
          case rel => exact ⟨k + 1, acc ++ enc (held op), by omega, by go_num, ⟨_, rfl, E1, by rw [Y1.out]; omega⟩, Lib.hid (by rw [HSTEP.out, HNBS.out, BN2.out, BV2.out, ← List.append_assoc, ← HACC.out]; simp only [List.append_assoc, List.append_nil, if_true, if_false, reduceCtorEq, List.nil_append, Bool.false_eq_true, ite_true, ite_false]), hb3⟩
          case measure => simp [intOf]; omega
      · obtain rfl : k = n := by omega
        have HA2 : Hid (t = R) := Lib.hid (by rw [HT.out, HACC.out, HR.out, HB.out, HR0.out, List.take_of_length_le (by rw [HN.out]; exact Nat.le_refl _)])
        go_wp2_with fail
        go_ret
        exact ⟨by rw [← HA2.out]; rfl, hbr⟩
  · have HB : Hid (lbs l = []) := Lib.hid (by unfold lbs; rw [if_neg hok])
    rw [HB.out]
    obtain ⟨er, her⟩ : ∃ er, er = lchk l := ⟨_, rfl⟩
    rw [← her] at HC hok
    have be : (er != 0) = true := by simp [hok]
    clear HB her hok hn hs
    go_enter Try.func45, Try.ntmps45
    go_wp2_with fail
    refine HC.out.mono ?_
    rintro e w1 ⟨rfl, hb1⟩
    clear HC
    go_wp2_with fail
    go_ret
    exact ⟨rfl, hb1⟩
end Go.Proofs.Ytadmaalhhigbeaa
