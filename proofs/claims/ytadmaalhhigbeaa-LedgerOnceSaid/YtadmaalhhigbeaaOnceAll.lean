/- LedgerOnce: a request that was noted is answered so ever after, and a request's number that is noted rises: for every input. No condition. -/
import Derived.Test.YtadmaalhhigbeaaLgI
import Derived.Test.YtadmaalhhigbeaaLgB
import Derived.Test.YtadmaalhhigbeaaPrdW
import Derived.Test.YtadmaalhhigbeaaRws
import Derived.ChangeSame
import Derived.Test.YtadmaalhhigbeaaBase
import Derived.ChangeMaps5
/- Ledger: the chapter's example. -/
namespace Go.Proofs.Ytadmaalhhigbeaa
set_option linter.unusedVariables false
set_option linter.unusedSimpArgs false
open Go Go.RowKit ValM

theorem below_grown {w w' : World} {r : Option Nat} {B : Nat} (h : w.grownBy w' r) (hB : B ≤ w.heap.size) (hr : ∀ k, r = some k → B ≤ k) : Below B w w' :=
  ⟨h.os, h.tape, h.output, h.size, fun k hk => h.block k (by omega) (fun e => by have := hr k e.symm; omega)⟩
def lgEx : Rp := ⟨4, 0, 3, 0, 0, 0, 9, 0, none, 0, 0, [], 0#32⟩
theorem lgEx_ok (w : World) : okRp w lgEx := ⟨rfl, Nat.le_refl _, by simp [lgEx, maxLen], Sees.nil_⟩
theorem lgEx_may : rok lgEx := by unfold rok lgEx; simp
theorem lgEx_new : acod zrs lgEx.dv lgEx.rq = 0 := by simp [acod, zrs, lgEx, zrp]
theorem lgEx_asks (r : Rp) (h : rab r = rab lgEx) : (acod (zrs.set (lgEx.dv.toNat) r) 0 2 = 13) ∧ (acod (zrs.set (lgEx.dv.toNat) r) 0 3 = 7 ∧ ares (zrs.set (lgEx.dv.toNat) r) 0 3 = rab lgEx) ∧ acod (zrs.set (lgEx.dv.toNat) r) 0 4 = 0 := by
  have h3 : r.rq = 3 := rab_rq h
  have e : (zrs.set (lgEx.dv.toNat) r).getD (0 : Int).toNat zrp = r := rfl
  have a3 : acod (zrs.set (lgEx.dv.toNat) r) 0 3 = 7 := by unfold acod; rw [e, h3]; simp
  refine ⟨by unfold acod; rw [e, h3]; simp, ⟨a3, by unfold ares; rw [if_pos a3, e, h]⟩, by unfold acod; rw [e, h3]; simp⟩

set_option maxRecDepth 100000 in
set_option maxHeartbeats 3200000 in
theorem lg_awake (w : World) : Calls Try.prog 8 #[] w fun e w' => e = .returned (.bool true) ∧ Below w.heap.size w w' := by
  have hu := Try.underlying26
  go_enter Try.func8, Try.ntmps8
  go_wp2_with fail
  refine (lgnew_any _).mono ?_
  rintro e w1 ⟨g, rfl, h1, hg1, hb1⟩
  have hl := below_a1 w1 (.cells #[.int .i64 4, .int .i64 0, .int .i64 3, .int .i64 0, .int .i64 0, .int .i64 0, .int .i64 9, .int .i64 0, .slice none 0 0, .int .u32 0] 26)
  have HN := Lib.hid (lgnote_yes g zes zrs lgEx _ (h1.later hl) (lgEx_ok _) (by simp [lgEx]) lgEx_new lgEx_may)
  have KA : Blk (w1.alloc (.cells #[.int .i64 4, .int .i64 0, .int .i64 3, .int .i64 0, .int .i64 0, .int .i64 0, .int .i64 9, .int .i64 0, .slice none 0 0, .int .u32 0] 26)) w1.heap.size [.int .i64 4, .int .i64 0, .int .i64 3, .int .i64 0, .int .i64 0, .int .i64 0, .int .i64 9, .int .i64 0, .slice none 0 0, .int .u32 0] := Blk.new w1 [.int .i64 4, .int .i64 0, .int .i64 3, .int .i64 0, .int .i64 0, .int .i64 0, .int .i64 9, .int .i64 0, .slice none 0 0, .int .u32 0] 26
  have hgl := h1.lt
  have HBB := Lib.hid (hb1.trans (hl.mono hb1.size))
  have HKA := Lib.hid KA
  clear h1 hb1 hl KA
  go_wp2_with fail
  refine HN.out.mono ?_
  rintro e w3 ⟨rfl, ⟨r3, hr3, h3, _⟩, hg3⟩
  have HKA3 := Lib.hid (HKA.out.kept hg3 (by intro e; injection e with e; omega))
  have HB3 := Lib.hid (HBB.out.trans (below_grown hg3 HBB.out.size (fun k e => by injection e with e; omega)))
  obtain ⟨q1, ⟨q2, q3⟩, q4⟩ := lgEx_asks r3 hr3
  obtain ⟨rs3, hrs3⟩ : ∃ rs3, rs3 = zrs.set lgEx.dv.toNat r3 := ⟨_, rfl⟩
  rw [← hrs3] at h3 q1 q2 q3 q4
  have HG3 := Lib.hid h3
  have HA1 := Lib.hid (lask_any g zes rs3 0 2 w3 h3)
  rw [q1] at HA1
  clear hg3 hr3 hrs3 h3 HN HKA HBB
  go_wp2_with fail
  refine HA1.out.mono ?_
  rintro e w4 ⟨r4, rfl, hok4, hab4, hfar4, hn4, hb4⟩
  have hbb := HB3.out.trans (hb4.mono HB3.out.size)
  obtain ⟨TH4, HN4, HBN4⟩ := new_rp w.heap.size w w4 (rpc r4) (rpc_len r4) hbb hbb.size
  have hb2 := hb4.trans (HBN4.mono hb4.size)
  have HB5 := Lib.hid (hbb.trans (HBN4.mono hbb.size))
  have HG5 := Lib.hid (HG3.out.later hb2)
  have HKA5 := Lib.hid (HKA3.out.later hb2)
  have hone4 := all_oneCell_toArray (rpc_one r4)
  have HL4 := Lib.hid (rpc_len r4)
  generalize rpc r4 = cr4 at *
  obtain ⟨W5, hW5⟩ : ∃ W5, W5 = (w4.alloc (.cells #[.int .i64 0, .int .i64 0, .int .i64 0, .int .i64 0, .int .i64 0, .int .i64 0, .int .i64 0, .int .i64 0, .slice none 0 0, .int .u32 0] 26)).setCells w4.heap.size 0 cr4 := ⟨_, rfl⟩
  rw [← hW5] at HB5 HG5 HKA5
  have HW5 := Lib.hid hW5
  clear hok4 hab4 hfar4 hn4 hb4 hbb HN4 HBN4 hW5 hb2 HB3 HG3 HKA3
  have HA2 := Lib.hid (lask_any g zes rs3 0 3 W5 HG5.out)
  rw [q2, q3] at HA2
  go_wp2_with (first
    | (refine wpList_store_mid rfl 26 (.tmp 4) (.tmp 18) rfl w4.heap.size 0 cr4.toArray rfl rfl (by simpa [HL4.out] using TH4) (by simpa [HL4.out] using info_rp) hone4 ?_
       rw [← HW5.out])
    | fail)
  refine HA2.out.mono ?_
  rintro e w6 ⟨r6, rfl, hok6, hab6, hfar6, hn6, hb6⟩
  have hbb := HB5.out.trans (hb6.mono HB5.out.size)
  obtain ⟨TH6, HN6, HBN6⟩ := new_rp w.heap.size w w6 (rpc r6) (rpc_len r6) hbb hbb.size
  have hb2 := hb6.trans (HBN6.mono hb6.size)
  have HB7 := Lib.hid (hbb.trans (HBN6.mono hbb.size))
  have HG7 := Lib.hid (HG5.out.later hb2)
  have HKA7 := Lib.hid (HKA5.out.later hb2)
  have HK6 := Lib.hid HN6
  have HSAME : Hid (∀ W, Below ((w6.alloc (.cells #[.int .i64 0, .int .i64 0, .int .i64 0, .int .i64 0, .int .i64 0, .int .i64 0, .int .i64 0, .int .i64 0, .slice none 0 0, .int .u32 0] 26)).setCells w6.heap.size 0 (rpc r6)).heap.size ((w6.alloc (.cells #[.int .i64 0, .int .i64 0, .int .i64 0, .int .i64 0, .int .i64 0, .int .i64 0, .int .i64 0, .int .i64 0, .slice none 0 0, .int .u32 0] 26)).setCells w6.heap.size 0 (rpc r6)) W → Calls Try.prog 14 #[.agg (rpc r6).toArray, .agg #[.int .i64 4, .int .i64 0, .int .i64 3, .int .i64 0, .int .i64 0, .int .i64 0, .int .i64 9, .int .i64 0, .slice none 0 0, .int .u32 0]] W fun e w' => e = .returned (.bool true) ∧ Below W.heap.size W w') := Lib.hid (fun W hW => by
    have := rlsame_any r6 lgEx W ((hok6.later HBN6).later hW) (lgEx_ok W) hn6
    rw [decide_eq_true hab6] at this
    exact this)
  have hone6 := all_oneCell_toArray (rpc_one r6)
  have HL6 := Lib.hid (rpc_len r6)
  generalize rpc r6 = cr6 at *
  obtain ⟨W7, hW7⟩ : ∃ W7, W7 = (w6.alloc (.cells #[.int .i64 0, .int .i64 0, .int .i64 0, .int .i64 0, .int .i64 0, .int .i64 0, .int .i64 0, .int .i64 0, .slice none 0 0, .int .u32 0] 26)).setCells w6.heap.size 0 cr6 := ⟨_, rfl⟩
  rw [← hW7] at HB7 HG7 HKA7 HK6 HSAME
  have HW7 := Lib.hid hW7
  clear hok6 hab6 hfar6 hn6 hb6 hbb HN6 HBN6 hW7 hb2 HB5 HG5 HKA5
  have HA3 := Lib.hid (lask_any g zes rs3 0 4 W7 HG7.out)
  rw [q4] at HA3
  clear q1 q2 q3 q4
  go_wp2_with (first
    | (refine wpList_store_mid rfl 26 (.tmp 6) (.tmp 23) rfl w6.heap.size 0 cr6.toArray rfl rfl (by simpa [HL6.out] using TH6) (by simpa [HL6.out] using info_rp) hone6 ?_
       rw [← HW7.out])
    | fail)
  refine HA3.out.mono ?_
  rintro e w8 ⟨r8, rfl, hok8, hab8, hfar8, hn8, hb8⟩
  have hbb := HB7.out.trans (hb8.mono HB7.out.size)
  obtain ⟨TH8, HN8, HBN8⟩ := new_rp w.heap.size w w8 (rpc r8) (rpc_len r8) hbb hbb.size
  have hb2 := hb8.trans (HBN8.mono hb8.size)
  have HB9 := Lib.hid (hbb.trans (HBN8.mono hbb.size))
  have HG9 := Lib.hid (HG7.out.later hb2)
  have HKA9 := Lib.hid (HKA7.out.later hb2)
  have HK6 := Lib.hid (HK6.out.later hb2)
  have HSAME := Lib.hid (fun W hW => HSAME.out W (hb2.trans (Below.mono hW hb2.size)))
  have hone8 := all_oneCell_toArray (rpc_one r8)
  have HL8 := Lib.hid (rpc_len r8)
  generalize rpc r8 = cr8 at *
  obtain ⟨W9, hW9⟩ : ∃ W9, W9 = (w8.alloc (.cells #[.int .i64 0, .int .i64 0, .int .i64 0, .int .i64 0, .int .i64 0, .int .i64 0, .int .i64 0, .int .i64 0, .slice none 0 0, .int .u32 0] 26)).setCells w8.heap.size 0 cr8 := ⟨_, rfl⟩
  rw [← hW9] at HB9 HG9 HKA9 HK6 HSAME
  have HW9 := Lib.hid hW9
  clear hok8 hab8 hfar8 hn8 hb8 hbb HN8 HBN8 hW9 hb2 HB7 HG7 HKA7
  go_wp2_with (first
    | (refine wpList_store_mid rfl 26 (.tmp 8) (.tmp 28) rfl w8.heap.size 0 cr8.toArray rfl rfl (by simpa [HL8.out] using TH8) (by simpa [HL8.out] using info_rp) hone8 ?_
       rw [← HW9.out]
       have R6 := HK6.out.range 0 cr6 (by rw [List.drop_zero, List.take_length])
       have RA := HKA9.out.range 0 [.int .i64 4, .int .i64 0, .int .i64 3, .int .i64 0, .int .i64 0, .int .i64 0, .int .i64 9, .int .i64 0, .slice none 0 0, .int .u32 0] rfl)
    | (refine wpList_load_g (by rfl) 26 (.tmp 6) rfl w6.heap.size 0 rfl cr6 _ R6 hu rfl (by simpa [HL6.out] using info_rp) ?_
       simp only [Act.put, List.setIfInBounds_toArray, List.set_cons_zero, List.set_cons_succ])
    | (refine wpList_load_g (by rfl) 26 (.tmp 2) rfl w1.heap.size 0 rfl [.int .i64 4, .int .i64 0, .int .i64 3, .int .i64 0, .int .i64 0, .int .i64 0, .int .i64 9, .int .i64 0, .slice none 0 0, .int .u32 0] _ RA hu rfl info_rp ?_
       simp only [Act.put, List.setIfInBounds_toArray, List.set_cons_zero, List.set_cons_succ])
    | fail)
  refine (HSAME.out W9 (Below.refl _ _)).mono ?_
  rintro e wa ⟨rfl, hba⟩
  have HBA := Lib.hid (HB9.out.trans (hba.mono HB9.out.size))
  clear hba
  go_wp2_with fail
  go_ret
  exact ⟨rfl, HBA.out⟩
end Go.Proofs.Ytadmaalhhigbeaa

/- Ledger: LedgerOnce: what holds round and round. -/
namespace Go.Proofs.Ytadmaalhhigbeaa
set_option linter.unusedVariables false
set_option linter.unusedSimpArgs false
open Go Go.RowKit ValM

theorem okRp.grown {w w' : World} {g : Nat} {r : Rp} (h : okRp w r) (hf : farRp g r) (hg : w.grownBy w' (some g)) : okRp w' r := by
  refine ⟨h.len, h.cap, h.max, fun hx => ?_⟩
  obtain ⟨b, o', e, hb, hc⟩ := h.see hx
  refine ⟨b, o', e, Nat.lt_of_lt_of_le hb hg.size, fun j hj => ?_⟩
  have hne : b ≠ g := hf ⟨b, o', none⟩ e (h.pos hx)
  rw [World.cell?_of_block (a := ⟨b, o' + j, none⟩) (hg.block b hb (by intro e; injection e with e; exact hne e))]
  exact hc j hj
theorem LgAt.far {w : World} {g b o : Nat} {vs : List Value} {es : List Int} {rs : List Rp} (h : LgAt w g es rs) (hb : b ≠ g) (hf : ∀ r ∈ rs, farRp b r) : LgAt (w.setCells b o vs) g es rs :=
  ⟨h.blk.other hb vs o, h.le, h.lr, h.er, fun r hr => ⟨(h.ok r hr).1.store (hf r hr), (h.ok r hr).2⟩⟩
def rmay (r : Rp) : Prop := r.rq = 0 ∨ (1 ≤ r.rq ∧ r.rq ≤ 1099511627776)
structure LInv (w0 : World) (g b4 : Nat) (w : World) (es : List Int) (rs ls : List Rp) : Prop where
  lg : LgAt w g es rs
  l4 : Blk w b4 (rws rpc ls)
  ll : ls.length = 6
  eq : rs.map rab = ls.map rab
  ok : ∀ r ∈ ls, okRp w r ∧ farRp g r ∧ farRp b4 r ∧ r.n ≤ 65536 ∧ rmay r
  f4 : ∀ r ∈ rs, farRp b4 r
  be : Below w0.heap.size w0 w
  hg : w0.heap.size ≤ g
  h4 : g < b4
section
variable {w0 w w' : World} {g b4 : Nat} {es : List Int} {rs ls : List Rp}
theorem LInv.later (h : LInv w0 g b4 w es rs ls) (hb : Below w.heap.size w w') : LInv w0 g b4 w' es rs ls :=
  ⟨h.lg.later hb, h.l4.later hb, h.ll, h.eq, fun r hr => ⟨(h.ok r hr).1.later hb, (h.ok r hr).2⟩, h.f4, h.be.trans (hb.mono h.be.size), h.hg, h.h4⟩
theorem LInv.at_ (h : LInv w0 g b4 w es rs ls) (d : Nat) (hd : d < ls.length) : ∃ (hr : d < rs.length), rab rs[d] = rab ls[d] := by
  have hl : rs.length = ls.length := by have := congrArg List.length h.eq; simpa using this
  refine ⟨by omega, ?_⟩
  have h1 : (rs.map rab)[d]'(by simpa using (by omega : d < rs.length)) = (ls.map rab)[d]'(by simpa using hd) := by simp only [h.eq]
  simpa using h1
theorem LInv.range (h : LInv w0 g b4 w es rs ls) (d : Nat) (hd : d < ls.length) : w.rangeAt b4 (d * 10) (rpc ls[d]) := fun j v hj =>
  h.l4.cell (rws_at ls (fun x _ => rpc_len x) d hd j v hj)
theorem LInv.there (h : LInv w0 g b4 w es rs ls) (d : Nat) (hd : d < ls.length) : w.there b4 (d * 10) 10 :=
  h.l4.there _ _ (by rw [rws_len _ (fun x _ => rpc_len x)]; omega)
theorem LInv.raise (h : LInv w0 g b4 w es rs ls) {es' : List Int} (h' : LgAt w' g es' rs) (hg : w.grownBy w' (some g)) : LInv w0 g b4 w' es' rs ls :=
  ⟨h', h.l4.kept hg (by intro e; injection e with e; have := h.h4; omega), h.ll, h.eq, fun r hr => ⟨(h.ok r hr).1.grown (h.ok r hr).2.1 hg, (h.ok r hr).2⟩, h.f4,
    h.be.trans (below_grown hg h.be.size (fun k e => by injection e with e; have := h.hg; omega)), h.hg, h.h4⟩
/-- Note, and what is noted beside it. -/
theorem LInv.note (h : LInv w0 g b4 w es rs ls) (hg : w.grownBy w' (some g)) (k : Nat) (hk : k < ls.length) (r r' : Rp) (h' : LgAt w' g es (rs.set k r')) (hab : rab r' = rab r) (hf' : ∀ ad, r'.A = some ad → w.heap.size ≤ ad.block)
    {w9 : World} (hl : Below w'.heap.size w' w9) (ho : okRp w r) (hf : farRp g r) (hf4 : farRp b4 r) (hn : r.n ≤ 65536) (hr : rmay r) : LInv w0 g b4 (w9.setCells b4 (k * 10) (rpc r)) es (rs.set k r') (ls.set k r) := by
  have hb4 := h.l4.lt
  have h44 := h.h4
  have hf4' : ∀ x ∈ rs.set k r', farRp b4 x := fun x hx => by
    rcases List.mem_or_eq_of_mem_set hx with hx | rfl
    · exact h.f4 x hx
    · intro ad e _; have := hf' ad e; omega
  have hk4 : Blk w9 b4 (rws rpc ls) := (h.l4.kept hg (by intro e; injection e with e; omega)).later hl
  refine ⟨(h'.later hl).far (by omega) hf4', ?_, by rw [List.length_set]; exact h.ll, ?_, fun x hx => ?_, hf4', ?_, h.hg, h.h4⟩
  · have h2 := hk4.sets (rpc r) (k * 10) (by rw [rws_len _ (fun x _ => rpc_len x), rpc_len]; omega)
    rw [rpc_len, rws_put rpc 10 ls (fun x _ => rpc_len x) k hk r] at h2
    exact h2
  · rw [List.map_set, List.map_set, h.eq, hab]
  · have h3 : ∀ x, okRp w x → farRp g x → farRp b4 x → okRp (w9.setCells b4 (k * 10) (rpc r)) x := fun x a b c => ((a.grown b hg).later hl).store c
    rcases List.mem_or_eq_of_mem_set hx with hx | rfl
    · obtain ⟨a, b, c, d⟩ := h.ok x hx
      exact ⟨h3 x a b c, b, c, d⟩
    · exact ⟨h3 _ ho hf hf4, hf, hf4, hn, hr⟩
  · have h5 := h.be.trans (below_grown hg h.be.size (fun k e => by injection e with e; have := h.hg; omega))
    exact below_sets (by have := h.hg; omega) _ _ (h5.trans (hl.mono h5.size))
/-- What a request that was noted is answered. -/
theorem LInv.asks (h : LInv w0 g b4 w es rs ls) (d : Nat) (hd : d < ls.length) (h0 : ls[d].rq ≠ 0) : acod rs d ls[d].rq = 7 ∧ ares rs d ls[d].rq = rab ls[d] := by
  obtain ⟨hr, e⟩ := h.at_ d hd
  have hm := (h.ok _ (List.getElem_mem hd)).2.2.2.2
  have hq : rs[d].rq = ls[d].rq := rab_rq e
  obtain ⟨_, a2, _⟩ := acod_at (rs := rs) (k := d) (rq := ls[d].rq) hr (by have := h.ll; omega) (by rcases hm with hm | hm; exact absurd hm h0; exact hm)
  rw [← e]
  exact a2 hq.symm
/-- A request that is noted is above the one before. -/
theorem LInv.above (h : LInv w0 g b4 w es rs ls) (r : Rp) (h0 : acod rs r.dv r.rq = 0) : ∃ k : Nat, r.dv = (k : Int) ∧ ∃ (hk : k < ls.length), ls[k].rq < r.rq := by
  by_cases h1 : (0 ≤ r.dv ∧ r.dv < 6) ∧ (1 ≤ r.rq ∧ r.rq ≤ 1099511627776)
  · obtain ⟨k, hk⟩ : ∃ k : Nat, r.dv = (k : Int) := ⟨r.dv.toNat, by omega⟩
    have hkl : k < ls.length := by rw [h.ll]; omega
    obtain ⟨hr, e⟩ := h.at_ k hkl
    refine ⟨k, hk, hkl, ?_⟩
    rw [← rab_rq e]
    rw [hk] at h0
    obtain ⟨a1, a2, _⟩ := acod_at (rs := rs) (k := k) (rq := r.rq) hr (by omega) h1.2
    by_cases c1 : r.rq < rs[k].rq
    · rw [(a1 c1).1] at h0; simp at h0
    · by_cases c2 : r.rq = rs[k].rq
      · rw [(a2 c2).1] at h0; simp at h0
      · omega
  · rw [(acod_arg h1).1] at h0; simp at h0
end
theorem okRp.low {w : World} {r : Rp} (h : okRp w r) (g : Nat) (hg : w.heap.size ≤ g) : farRp g r := fun ad e hn => by
  obtain ⟨b, o, e2, hb, _⟩ := h.see (by rw [ncs_len, h.len]; omega)
  rw [e] at e2
  injection e2 with e2
  subst e2
  show b ≠ g
  omega
theorem wpList_store_as {P : Program} {ops : Array Oper} {rest : List Oper} {op : Oper} {a : Act} {w : World} {Q : Exit → Act → World → Prop} (hgd : op.guard = none) (ty : TypeId) (x y : Operand) (ho : op.op = .store ty x y)
    (b o : Nat) (cells : Array Value) (hx : a.eval x = .pointer (some ⟨b, o, none⟩)) (hy : a.eval y = .agg cells)
    (ht : w.there b o cells.size) (hi : (P.info? ty).map (·.size) = some cells.size) (h1 : cells.all (·.oneCell') = true) (W3 : World) (hW : W3 = w.setCells b o cells.toList)
    (h : wpList P ops Q rest (a.put op.dst undef) W3) : wpList P ops Q (op :: rest) a w :=
  wpList_store_mid hgd ty x y ho b o cells hx hy ht hi h1 (by rw [← hW]; exact h)
/-- An act as it lies. -/
structure Ac where
  k : Int
  r : Rp
def acc30 (a : Ac) : List Value := .int .i64 a.k :: rpc a.r
theorem acc30_len (l : List Ac) : ∀ x ∈ l, (acc30 x).length = 11 := fun _ _ => rfl
structure SeesA (w : World) (A : Option Addr) (n c : Nat) (l : List Ac) : Prop where
  len : l.length = n
  cap : n ≤ c
  max : c ≤ maxLen
  see : Sees w w.heap.size A (rws acc30 l)
  ok : ∀ a ∈ l, okRp w a.r
theorem SeesA.get {w : World} {A : Option Addr} {n c : Nat} {l : List Ac} (h : SeesA w A n c l) (k : Nat) (hk : k < l.length) :
    ∃ b o, A = some ⟨b, o, none⟩ ∧ b < w.heap.size ∧ ∀ W, Below w.heap.size w W → W.cell? ⟨b, o + k * 11, none⟩ = some (.int .i64 l[k].k) ∧ W.rangeAt b (o + k * 11 + 1) (rpc l[k].r) := by
  obtain ⟨b, o, e, hb, _⟩ := sees_rw (f := acc30) (sz := 11) (acc30_len l) h.see (by decide) k hk
  refine ⟨b, o, e, hb, fun W hW => ?_⟩
  obtain ⟨b', o', e', _, hr⟩ := sees_rw (f := acc30) (sz := 11) (acc30_len l) ((h.see.below hW).more hW.size) (by decide) k hk
  rw [e] at e'
  cases e'
  refine ⟨hr 0 _ rfl, fun j v hj => ?_⟩
  rw [show o + k * 11 + 1 + j = o + k * 11 + (j + 1) by omega]
  exact hr (j + 1) v (by simpa [acc30] using hj)
end Go.Proofs.Ytadmaalhhigbeaa

/- Ledger: LedgerOnce's walk. -/
namespace Go.Proofs.Ytadmaalhhigbeaa
set_option linter.unusedVariables false
set_option linter.unusedSimpArgs false
open Go Go.RowKit ValM

theorem info_ar : (Try.prog.info? 67).map (·.size) = some 60 := by kernel_rfl
theorem ar_size : (rws rpc zrs).toArray.size = 60 := by kernel_rfl
theorem ar_one : (rws rpc zrs).toArray.all (·.oneCell') = true := by kernel_rfl

set_option maxRecDepth 100000 in
set_option maxHeartbeats 6400000 in
theorem walk_lonce (A : Option Addr) (n c : Nat) (l : List Ac) (w : World) (h : SeesA w A n c l) :
    Calls Try.prog 6 #[.slice A n c] w fun e w' => e = .returned (.bool true) ∧ Below w.heap.size w w' := by
  have hu := Try.underlying26
  have hua := Try.underlying67
  have HS := Lib.hid h
  have HN := Lib.hid h.len
  clear h
  go_enter Try.func6, Try.ntmps6
  go_wp2_with fail
  refine (lgnew_any _).mono ?_
  rintro e w1 ⟨g, rfl, h1, hg1, hb1⟩
  have hl := below_a1 w1 (.cells (rws rpc zrs).toArray 67)
  have hgl := h1.lt
  have K0 := Blk.new w1 (rws rpc zrs) 67
  have TH := K0.there 0 60 (by show 60 ≤ 60; omega)
  obtain ⟨W2, hW2⟩ : ∃ W2, W2 = (w1.alloc (.cells (rws rpc zrs).toArray 67)).setCells w1.heap.size 0 (rws rpc zrs) := ⟨_, rfl⟩
  have K2 : Blk W2 w1.heap.size (rws rpc zrs) := by rw [hW2]; exact K0.sets (rws rpc zrs) 0 (by show 60 ≤ 60; omega)
  have hb2 : Below w1.heap.size w1 W2 := by rw [hW2]; exact below_sets (Nat.le_refl _) _ _ hl
  obtain ⟨b4, hb4⟩ : ∃ b4, b4 = w1.heap.size := ⟨_, rfl⟩
  have HI0 : Hid (LInv w g b4 W2 zes zrs zrs) := Lib.hid (by
    rw [hb4]
    refine ⟨h1.later hb2, K2, rfl, rfl, fun r hr => ?_, fun r hr => ?_, hb1.trans (hb2.mono hb1.size), hg1, hgl⟩
    · have : r = zrp := by simp [zrs] at hr; exact hr
      subst this
      exact ⟨okRp.zero _, farRp.zero _, farRp.zero _, by simp [zrp], .inl rfl⟩
    · have : r = zrp := by simp [zrs] at hr; exact hr
      subst this
      exact farRp.zero _)
  have HW2 := Lib.hid hW2
  clear hW2 K2 hb2 K0 hl h1 hb1
  go_wp2_with (first
    | (refine wpList_store_as rfl 67 (.tmp 4) (.tmp 13) rfl w1.heap.size 0 (rws rpc zrs).toArray rfl rfl (by rw [ar_size]; exact TH) (by rw [ar_size]; exact info_ar) ar_one W2 (HW2.out.trans (by kernel_rfl)) ?_)
    | fail)
  rw [← hb4]
  have h4g : g < b4 := by omega
  clear TH HW2 hb4
  go_loopw [5] (fun i wr => ∃ k : Nat, k ≤ n ∧ i = .int .i64 (k : Int) ∧ ∃ es rs ls, Hid (LInv w g b4 wr es rs ls)) (fun i _ => n - (intOf i).toNat)
  case atStart => exact ⟨0, by omega, rfl, zes, zrs, zrs, HI0⟩
  case round =>
    clear HI0
    obtain ⟨k, hk, rfl, es, rs, ls, HI⟩ := hrel
    have d1 : decide ((k : Int) < (n : Int)) = decide (k < n) := decide_eq_decide.2 (by omega)
    by_cases hlt : k < n ∧ k < 200
    · obtain ⟨hkn, hk2⟩ := hlt
      have d0 : decide ((k : Int) < (n : Int)) = true := decide_eq_true (by omega)
      have d2 : decide ((k : Int) < 200) = true := decide_eq_true (by omega)
      have hkl : k < l.length := by rw [HN.out]; exact hkn
      obtain ⟨b, o, rfl, _, hget⟩ := HS.out.get k hkl
      have hokr := HS.out.ok _ (List.getElem_mem hkl)
      have HKD := Lib.hid (fun W hW => (hget W hW).1)
      have RG6 := (hget wr HI.out.be).2
      have hnk : ¬ n ≤ k := by omega
      clear hget
      generalize l[k] = a at *
      obtain ⟨ak, r⟩ := a
      dsimp only at *
      have hlow : ∀ x, w.heap.size ≤ x → farRp x r := fun x hx => hokr.low x hx
      have hgl := HI.out.hg
      have h44 := HI.out.h4
      have h4l := HI.out.l4.lt
      obtain ⟨TH6, HN6, HBN6⟩ := new_rp w.heap.size w wr (rpc r) (rpc_len r) HI.out.be HI.out.be.size
      obtain ⟨b6, hb6⟩ : ∃ b6, b6 = wr.heap.size := ⟨_, rfl⟩
      obtain ⟨W6, hW6⟩ : ∃ W6, W6 = (wr.alloc (.cells #[.int .i64 0, .int .i64 0, .int .i64 0, .int .i64 0, .int .i64 0, .int .i64 0, .int .i64 0, .int .i64 0, .slice none 0 0, .int .u32 0] 26)).setCells wr.heap.size 0 (rpc r) := ⟨_, rfl⟩
      rw [← hW6] at HN6 HBN6
      rw [← hb6] at HN6
      have HI6 := Lib.hid (HI.out.later HBN6)
      have hok6 := hokr.later HI6.out.be
      have HW6 := Lib.hid hW6
      have HK6 := Lib.hid HN6
      have HONE := Lib.hid (all_oneCell_toArray (rpc_one r))
      have k61 := HN6.cell (j := 1) rfl
      have k68 := HN6.cell (j := 8) rfl
      have kk6 := HKD.out W6 HI6.out.be
      have RR6 := HN6.range 0 (rpc r) (by rw [List.drop_zero, List.take_length])
      have HLG := Lib.hid (nlarge_any r.A r.n r.c r.f W6 W6.heap.size hok6.len hok6.see)
      have HMAX : Hid (lbig r.f = false → r.n ≤ 65536) := Lib.hid (fun hb => by
        unfold lbig at hb
        rw [Bool.or_eq_false_iff] at hb
        have h1 := of_decide_eq_false hb.1
        rw [← hokr.len]
        omega)
      have HOK6 := Lib.hid hok6
      have HLOW := Lib.hid hlow
      have HB6E := Lib.hid hb6
      have hb46 : b4 < b6 := by omega
      clear hW6 HN6 HBN6 hok6 hlow hokr HI hb6
      go_wp2_with (first
        | (refine wpList_load_mid rfl 26 (.tmp 27) rfl b (o + k * 11 + 1) rfl (rpc r) _ RG6 hu rfl info_rp ?_
           simp only [Act.put, List.setIfInBounds_toArray, List.set_cons_zero, List.set_cons_succ])
        | (refine wpList_store_as rfl 26 (.tmp 6) (.tmp 28) rfl wr.heap.size 0 (rpc r).toArray rfl rfl TH6 info_rp HONE.out W6 HW6.out ?_
           rw [← HB6E.out])
        | fail)
      clear TH6 RG6
      refine HLG.out.mono ?_
      rintro e w7 ⟨rfl, rfl⟩
      clear HLG
      by_cases hbig : lbig r.f = true
      · rw [hbig]
        clear hbig HMAX
        go_wp2_with fail
        refine (lg_awake _).mono ?_
        rintro e wa ⟨rfl, hba⟩
        have HBA := Lib.hid (HI6.out.be.trans (hba.mono HI6.out.be.size))
        clear hba
        go_wp2_with fail
        go_ret
        exact ⟨rfl, HBA.out⟩
      · have hbig : lbig r.f = false := by simpa using hbig
        rw [hbig]
        have hn := HMAX.out hbig
        clear hbig HMAX
        by_cases hk1 : ak = 1
        · have g1 : (ak == 1) = true := by simp [hk1]
          have g2 : decide ((1 : Int) < ak) = false := decide_eq_false (by omega)
          clear hk1
          by_cases hnote : acod rs r.dv r.rq = 0 ∧ rok r
          · obtain ⟨kd, hdv, hkd, hab⟩ := HI6.out.above r hnote.1
            have HNT := Lib.hid (lgnote_yes g es rs r W6 HI6.out.lg HOK6.out hn hnote.1 hnote.2)
            have hmay : rmay r := .inr hnote.2.2.2.1
            rw [hdv, show ((kd : Int)).toNat = kd by simp] at HNT
            clear hnote
            go_wp2_with (first
              | (refine wpList_load_g (by rfl) 26 (.tmp 6) rfl b6 0 rfl (rpc r) _ RR6 hu rfl info_rp ?_
                 simp only [Act.put, List.setIfInBounds_toArray, List.set_cons_zero, List.set_cons_succ])
              | fail)
            refine HNT.out.mono ?_
            rintro e w7 ⟨rfl, ⟨r', hab', h7, hfar'⟩, hg7⟩
            have hb64 : b6 ≠ g := by omega
            have K7 := HK6.out.kept hg7 (by intro e; injection e with e; omega)
            have L7 := HI6.out.l4.kept hg7 (by intro e; injection e with e; omega)
            have ca : ∀ kk : LW w7, kk.val.cell? ⟨b6, 1, none⟩ = some (.int .i64 (kd : Int)) := fun kk => by rw [← hdv]; exact (K7.later kk.le).cell (j := 1) rfl
            have cb : ∀ kk : LW w7, kk.val.cell? ⟨b6, 2, none⟩ = some (.int .i64 r.rq) := fun kk => (K7.later kk.le).cell (j := 2) rfl
            have cc : ∀ kk : LW w7, kk.val.cell? ⟨b4, kd * 10 + 2, none⟩ = some (.int .i64 ls[kd].rq) := fun kk => (L7.later kk.le).cell (rws_at ls (fun x _ => rpc_len x) kd hkd 2 _ rfl)
            have h6l := HI6.out.ll
            have hnd : ¬ (6 : Int) ≤ (kd : Int) := by omega
            have hnd2 : ¬ 6 ≤ kd := by omega
            have da : decide ((kd : Int) < 0) = false := decide_eq_false (by omega)
            have db : decide (6 ≤ (kd : Int)) = false := decide_eq_false (by omega)
            have dc : decide (r.rq ≤ ls[kd].rq) = false := decide_eq_false (by omega)
            generalize ls[kd].rq = q at cc dc hab
            have HTH : Hid (∀ W, Below w7.heap.size w7 W → W.there b4 (kd * 10) 10) := Lib.hid (fun W hW => (L7.later hW).there _ _ (by rw [rws_len _ (fun x _ => rpc_len x)]; omega))
            have HK7 := Lib.hid K7
            have HNEW := Lib.hid (fun w9 (hl : Below w7.heap.size w7 w9) => HI6.out.note hg7 kd hkd r r' h7 hab' hfar' hl HOK6.out (HLOW.out g hgl) (HLOW.out b4 (by omega)) hn hmay)
            clear K7 L7 hab h7 hab' hfar' hg7 HNT k61 k68 kk6 RR6 HK6
            go_wp2_with fail
            refine wp_region_steady [] 128 (by kernel_rfl) (by kernel_rfl) (by kernel_rfl) (by rfl) ?_
            iterate 18 (refine wpG_quiet (by rfl) (by rfl) (by rfl) (fun K hK => ?_); go_big_quiet_op; refine hK _ ?_; clear hK K)
            refine wpG_nil fun w9 hl _ => ?_
            have hb9 : Below w7.heap.size w7 w9 := hl
            obtain ⟨W10, hW10⟩ : ∃ W10, W10 = w9.setCells b4 (kd * 10) (rpc r) := ⟨_, rfl⟩
            have HI10 := HNEW.out w9 hb9
            rw [← hW10] at HI10
            have HI7 := Lib.hid HI10
            have TH9 := HTH.out w9 hb9
            have K9 := HK7.out.later hb9
            have k91 : w9.cell? ⟨b6, 1, none⟩ = some (.int .i64 (kd : Int)) := by rw [← hdv]; exact K9.cell (j := 1) rfl
            have RR9 := K9.range 0 (rpc r) (by rw [List.drop_zero, List.take_length])
            have HW10 := Lib.hid hW10
            have kk9 := HKD.out W10 HI10.be
            clear hW10 HI10 hb9 hl ca cb cc da db dc HNEW HTH HK7 K9 HOK6 HLOW hdv
            go_wp2_with (first
              | (refine wpList_load_mid rfl 26 (.tmp 6) rfl b6 0 rfl (rpc r) _ RR9 hu rfl info_rp ?_
                 simp only [Act.put, List.setIfInBounds_toArray, List.set_cons_zero, List.set_cons_succ])
              | (refine wpList_store_as rfl 26 (.tmp 65) (.tmp 64) rfl b4 (kd * 10) (rpc r).toArray rfl rfl TH9 info_rp HONE.out W10 HW10.out ?_
                 clear TH9 k91 RR9)
              | fail)
            have hgen : ∃ rs2 ls2, rs.set kd r' = rs2 ∧ ls.set kd r = ls2 := ⟨_, _, rfl, rfl⟩
            obtain ⟨rs2, ls2, hrs2, hls2⟩ := hgen
            rw [hrs2, hls2] at HI7
            clear hrs2 hls2 hkd
            have HI := HI7
            clear HI6
            go_loopw [7] (fun d wr => ∃ j : Nat, j ≤ 6 ∧ d = .int .i64 (j : Int) ∧ Hid (LInv w g b4 wr es rs2 ls2)) (fun d _ => 6 - (intOf d).toNat)
            case atStart => exact ⟨0, by omega, rfl, HI⟩
            case round =>
              clear HI
              obtain ⟨j, hj6, rfl, HI⟩ := hrel
              by_cases hjl : j < 6
              · have d0 : decide ((j : Int) < 6) = true := decide_eq_true (by omega)
                have hjl2 : j < ls2.length := by rw [HI.out.ll]; exact hjl
                obtain ⟨lj, hgd⟩ : ∃ lj, lj = ls2[j] := ⟨_, rfl⟩
                have RG := HI.out.range j hjl2
                have kq := RG 2 _ rfl
                have hnj : ¬ (6 : Int) ≤ (j : Int) := by omega
                have hnj2 : ¬ 6 ≤ j := by omega
                by_cases h0 : ls2[j].rq = 0
                · rw [h0] at kq
                  clear RG h0 hgd
                  go_wp2_with fail
                  go_roundw
                  case rel => exact ⟨j + 1, by omega, by go_num, HI⟩
                  case measure => simp [intOf]; omega
                · obtain ⟨c7, r7⟩ := HI.out.asks j hjl2 h0
                  have hask := lask_any g es rs2 j ls2[j].rq _ HI.out.lg
                  rw [c7, r7] at hask
                  have HASK1 := Lib.hid hask
                  have h00 : (ls2[j].rq == 0) = false := by simpa using h0
                  have HRAB : Hid (rab ls2[j] = rab lj) := Lib.hid (by rw [hgd])
                  have HOKL : Hid (∀ W, Below wr.heap.size wr W → okRp W lj) := Lib.hid (fun W hW => by
                    rw [hgd]
                    exact (HI.out.ok _ (List.getElem_mem hjl2)).1.later hW)
                  have HAGN : Hid (∀ W, LgAt W g es rs2 → Calls Try.prog 22 #[.pointer (some ⟨g, 0, none⟩), .int .i64 (j : Int), .int .i64 ls2[j].rq] W (GivesAns W (rab ls2[j]) 7)) := Lib.hid (fun W hW => by
                    have h9 := lask_any g es rs2 j ls2[j].rq W hW
                    rwa [c7, r7] at h9)
                  have HRQ : Hid (∀ W, LInv w g b4 W es rs2 ls2 → W.cell? ⟨b4, j * 10 + 2, none⟩ = some (.int .i64 ls2[j].rq) ∧ W.rangeAt b4 (j * 10) (rpc lj)) := Lib.hid (fun W hW => by
                    rw [hgd]
                    exact ⟨hW.range j hjl2 2 _ rfl, hW.range j hjl2⟩)
                  have HI1 := HI
                  clear c7 r7 hask h0 hgd RG
                  generalize ls2[j].rq = q at *
                  generalize rab ls2[j] = qq at *
                  go_wp2_with fail
                  refine HASK1.out.mono ?_
                  rintro e w2 ⟨r2, rfl, hok2, hab2, hfar2, hn2, hb2⟩
                  have hbb := HI1.out.be.trans (hb2.mono HI1.out.be.size)
                  obtain ⟨TH2, HN2, HBN2⟩ := new_rp w.heap.size w w2 (rpc r2) (rpc_len r2) hbb hbb.size
                  have hb2 := hb2.trans (HBN2.mono hb2.size)
                  have HI3 := Lib.hid (HI1.out.later hb2)
                  have HK2 := Lib.hid HN2
                  have HSM2 : Hid (∀ W, Below ((w2.alloc (.cells #[.int .i64 0, .int .i64 0, .int .i64 0, .int .i64 0, .int .i64 0, .int .i64 0, .int .i64 0, .int .i64 0, .slice none 0 0, .int .u32 0] 26)).setCells w2.heap.size 0 (rpc r2)).heap.size ((w2.alloc (.cells #[.int .i64 0, .int .i64 0, .int .i64 0, .int .i64 0, .int .i64 0, .int .i64 0, .int .i64 0, .int .i64 0, .slice none 0 0, .int .u32 0] 26)).setCells w2.heap.size 0 (rpc r2)) W → Calls Try.prog 14 #[.agg (rpc r2).toArray, .agg (rpc lj).toArray] W fun e w' => e = .returned (.bool true) ∧ Below W.heap.size W w') := Lib.hid (fun W hW => by
                    have := rlsame_any r2 lj W ((hok2.later HBN2).later hW) (HOKL.out W (hb2.trans (hW.mono hb2.size))) hn2
                    rw [decide_eq_true (hab2.trans HRAB.out)] at this
                    exact this)
                  have hone2 := all_oneCell_toArray (rpc_one r2)
                  have HL2 := Lib.hid (rpc_len r2)
                  generalize rpc r2 = cr2 at *
                  obtain ⟨W3, hW3⟩ : ∃ W3, W3 = (w2.alloc (.cells #[.int .i64 0, .int .i64 0, .int .i64 0, .int .i64 0, .int .i64 0, .int .i64 0, .int .i64 0, .int .i64 0, .slice none 0 0, .int .u32 0] 26)).setCells w2.heap.size 0 cr2 := ⟨_, rfl⟩
                  rw [← hW3] at HI3 HK2 HSM2
                  have HOKL := Lib.hid (fun W (hW : Below W3.heap.size W3 W) => HOKL.out W (by
                    rw [hW3] at hW
                    exact hb2.trans (hW.mono hb2.size)))
                  have HW3 := Lib.hid hW3
                  clear hok2 hab2 hfar2 hn2 hb2 hbb HN2 HBN2 hW3
                  have kq3 := (HRQ.out _ HI3.out).1
                  have HASK3 := Lib.hid (HAGN.out _ HI3.out.lg)
                  clear kq
                  go_wp2_with (first
                    | (refine wpList_store_mid rfl 26 (.tmp 8) (.tmp 93) rfl w2.heap.size 0 cr2.toArray rfl rfl (by simpa [HL2.out] using TH2) (by simpa [HL2.out] using info_rp) hone2 ?_
                       rw [← HW3.out])
                    | fail)
                  refine HASK3.out.mono ?_
                  rintro e w4 ⟨r4, rfl, hok4, hab4, hfar4, hn4, hb4⟩
                  have hbb := HI3.out.be.trans (hb4.mono HI3.out.be.size)
                  obtain ⟨TH4, HN4, HBN4⟩ := new_rp w.heap.size w w4 (rpc r4) (rpc_len r4) hbb hbb.size
                  have hb2 := hb4.trans (HBN4.mono hb4.size)
                  have HI5 := Lib.hid (HI3.out.later hb2)
                  have HK4 := Lib.hid HN4
                  have HSM4 : Hid (∀ W, Below ((w4.alloc (.cells #[.int .i64 0, .int .i64 0, .int .i64 0, .int .i64 0, .int .i64 0, .int .i64 0, .int .i64 0, .int .i64 0, .slice none 0 0, .int .u32 0] 26)).setCells w4.heap.size 0 (rpc r4)).heap.size ((w4.alloc (.cells #[.int .i64 0, .int .i64 0, .int .i64 0, .int .i64 0, .int .i64 0, .int .i64 0, .int .i64 0, .int .i64 0, .slice none 0 0, .int .u32 0] 26)).setCells w4.heap.size 0 (rpc r4)) W → Calls Try.prog 14 #[.agg (rpc r4).toArray, .agg (rpc lj).toArray] W fun e w' => e = .returned (.bool true) ∧ Below W.heap.size W w') := Lib.hid (fun W hW => by
                    have := rlsame_any r4 lj W ((hok4.later HBN4).later hW) (HOKL.out W (hb2.trans (hW.mono hb2.size))) hn4
                    rw [decide_eq_true (hab4.trans HRAB.out)] at this
                    exact this)
                  have hone4 := all_oneCell_toArray (rpc_one r4)
                  have HL4 := Lib.hid (rpc_len r4)
                  generalize rpc r4 = cr4 at *
                  obtain ⟨W5, hW5⟩ : ∃ W5, W5 = (w4.alloc (.cells #[.int .i64 0, .int .i64 0, .int .i64 0, .int .i64 0, .int .i64 0, .int .i64 0, .int .i64 0, .int .i64 0, .slice none 0 0, .int .u32 0] 26)).setCells w4.heap.size 0 cr4 := ⟨_, rfl⟩
                  rw [← hW5] at HI5 HK4 HSM4
                  have HOKL := Lib.hid (fun W (hW : Below W5.heap.size W5 W) => HOKL.out W (by
                    rw [hW5] at hW
                    exact hb2.trans (hW.mono hb2.size)))
                  have HW5 := Lib.hid hW5
                  clear hok4 hab4 hfar4 hn4 hb4 hbb HN4 HBN4 hW5
                  have HK2 := Lib.hid (HK2.out.later hb2)
                  have HSM2 := Lib.hid (fun W hW => HSM2.out W (hb2.trans (Below.mono hW hb2.size)))
                  rw [← HW5.out] at HK2 HSM2
                  have HRG5 := Lib.hid (HRQ.out _ HI5.out).2
                  clear kq3 hb2
                  go_wp2_with (first
                    | (refine wpList_store_mid rfl 26 (.tmp 10) (.tmp 103) rfl w4.heap.size 0 cr4.toArray rfl rfl (by simpa [HL4.out] using TH4) (by simpa [HL4.out] using info_rp) hone4 ?_
                       rw [← HW5.out])
                    | fail)
                  refine wp_region_steady [] 128 (by kernel_rfl) (by kernel_rfl) (by kernel_rfl) (by rfl) ?_
                  iterate 7 (refine wpG_quiet (by rfl) (by rfl) (by rfl) (fun K hK => ?_); go_big_quiet_op; refine hK _ ?_; clear hK K)
                  refine wpG_run (by rfl) (by rfl) (.agg cr2.toArray) (fun wx hl => exec_load 26 (.tmp 8) rfl w2.heap.size 0 rfl cr2 _ ((HK2.out.later hl.1).range 0 cr2 (by rw [List.drop_zero, List.take_length])) hu rfl (by rw [HL2.out]; exact info_rp)) ?_
                  simp only [Act.put, List.setIfInBounds_toArray, List.set_cons_zero, List.set_cons_succ]
                  iterate 2 (refine wpG_quiet (by rfl) (by rfl) (by rfl) (fun K hK => ?_); go_big_quiet_op; refine hK _ ?_; clear hK K)
                  refine wpG_run (by rfl) (by rfl) (.agg (rpc lj).toArray) (fun wx hl => exec_load 26 (.tmp 114) rfl b4 (j * 10) rfl (rpc lj) _ (HRQ.out wx (HI5.out.later hl.1)).2 hu rfl info_rp) ?_
                  simp only [Act.put, List.setIfInBounds_toArray, List.set_cons_zero, List.set_cons_succ]
                  refine wpG_call (by rfl) (by rfl) 14 #[.agg cr2.toArray, .agg (rpc lj).toArray] (.bool true) (by intro _; simp [go_sem]) (by kernel_rfl) (fun wx hl => HSM2.out wx hl.1) ?_
                  simp only [Act.put, List.setIfInBounds_toArray, List.set_cons_zero, List.set_cons_succ]
                  iterate 3 (refine wpG_quiet (by rfl) (by rfl) (by rfl) (fun K hK => ?_); go_big_quiet_op; refine hK _ ?_; clear hK K)
                  refine wpG_run (by rfl) (by rfl) (.agg cr4.toArray) (fun wx hl => exec_load 26 (.tmp 10) rfl w4.heap.size 0 rfl cr4 _ ((HK4.out.later hl.1).range 0 cr4 (by rw [List.drop_zero, List.take_length])) hu rfl (by rw [HL4.out]; exact info_rp)) ?_
                  simp only [Act.put, List.setIfInBounds_toArray, List.set_cons_zero, List.set_cons_succ]
                  iterate 2 (refine wpG_quiet (by rfl) (by rfl) (by rfl) (fun K hK => ?_); go_big_quiet_op; refine hK _ ?_; clear hK K)
                  refine wpG_run (by rfl) (by rfl) (.agg (rpc lj).toArray) (fun wx hl => exec_load 26 (.tmp 122) rfl b4 (j * 10) rfl (rpc lj) _ (HRQ.out wx (HI5.out.later hl.1)).2 hu rfl info_rp) ?_
                  simp only [Act.put, List.setIfInBounds_toArray, List.set_cons_zero, List.set_cons_succ]
                  refine wpG_call (by rfl) (by rfl) 14 #[.agg cr4.toArray, .agg (rpc lj).toArray] (.bool true) (by intro _; simp [go_sem]) (by kernel_rfl) (fun wx hl => HSM4.out wx hl.1) ?_
                  simp only [Act.put, List.setIfInBounds_toArray, List.set_cons_zero, List.set_cons_succ]
                  iterate 2 (refine wpG_quiet (by rfl) (by rfl) (by rfl) (fun K hK => ?_); go_big_quiet_op; refine hK _ ?_; clear hK K)
                  refine wpG_nil fun w9 hl _ => ?_
                  have HI9 := Lib.hid (HI5.out.later hl)
                  clear hl
                  go_wp2_with fail
                  go_roundw
                  case rel => exact ⟨j + 1, by omega, by go_num, HI9⟩
                  case measure => simp [intOf]; omega
              · obtain rfl : j = 6 := by omega
                go_wp2_with fail
                go_roundw
                case rel => exact ⟨k + 1, by omega, by go_num, ⟨es, rs2, ls2, HI⟩⟩
                case measure => simp [intOf]; omega
          · have HNT := Lib.hid (lgnote_no g es rs r W6 HI6.out.lg HOK6.out hn hnote)
            clear hnote
            go_wp2_with (first
              | (refine wpList_load_g (by rfl) 26 (.tmp 6) rfl b6 0 rfl (rpc r) _ RR6 hu rfl info_rp ?_
                 simp only [Act.put, List.setIfInBounds_toArray, List.set_cons_zero, List.set_cons_succ])
              | fail)
            refine HNT.out.mono ?_
            rintro e w7 ⟨rfl, hb7⟩
            have HI7 := Lib.hid (HI6.out.later hb7)
            have kk7 := HKD.out w7 HI7.out.be
            clear hb7 HNT k61 k68 kk6 RR6 HOK6 HLOW HK6
            go_wp2_with fail
            have HI := HI7
            clear HI6
            go_loopw [7] (fun d wr => ∃ j : Nat, j ≤ 6 ∧ d = .int .i64 (j : Int) ∧ Hid (LInv w g b4 wr es rs ls)) (fun d _ => 6 - (intOf d).toNat)
            case atStart => exact ⟨0, by omega, rfl, HI⟩
            case round =>
              clear HI
              obtain ⟨j, hj6, rfl, HI⟩ := hrel
              by_cases hjl : j < 6
              · have d0 : decide ((j : Int) < 6) = true := decide_eq_true (by omega)
                have hjl2 : j < ls.length := by rw [HI.out.ll]; exact hjl
                obtain ⟨lj, hgd⟩ : ∃ lj, lj = ls[j] := ⟨_, rfl⟩
                have RG := HI.out.range j hjl2
                have kq := RG 2 _ rfl
                have hnj : ¬ (6 : Int) ≤ (j : Int) := by omega
                have hnj2 : ¬ 6 ≤ j := by omega
                by_cases h0 : ls[j].rq = 0
                · rw [h0] at kq
                  clear RG h0 hgd
                  go_wp2_with fail
                  go_roundw
                  case rel => exact ⟨j + 1, by omega, by go_num, HI⟩
                  case measure => simp [intOf]; omega
                · obtain ⟨c7, r7⟩ := HI.out.asks j hjl2 h0
                  have hask := lask_any g es rs j ls[j].rq _ HI.out.lg
                  rw [c7, r7] at hask
                  have HASK1 := Lib.hid hask
                  have h00 : (ls[j].rq == 0) = false := by simpa using h0
                  have HRAB : Hid (rab ls[j] = rab lj) := Lib.hid (by rw [hgd])
                  have HOKL : Hid (∀ W, Below wr.heap.size wr W → okRp W lj) := Lib.hid (fun W hW => by
                    rw [hgd]
                    exact (HI.out.ok _ (List.getElem_mem hjl2)).1.later hW)
                  have HAGN : Hid (∀ W, LgAt W g es rs → Calls Try.prog 22 #[.pointer (some ⟨g, 0, none⟩), .int .i64 (j : Int), .int .i64 ls[j].rq] W (GivesAns W (rab ls[j]) 7)) := Lib.hid (fun W hW => by
                    have h9 := lask_any g es rs j ls[j].rq W hW
                    rwa [c7, r7] at h9)
                  have HRQ : Hid (∀ W, LInv w g b4 W es rs ls → W.cell? ⟨b4, j * 10 + 2, none⟩ = some (.int .i64 ls[j].rq) ∧ W.rangeAt b4 (j * 10) (rpc lj)) := Lib.hid (fun W hW => by
                    rw [hgd]
                    exact ⟨hW.range j hjl2 2 _ rfl, hW.range j hjl2⟩)
                  have HI1 := HI
                  clear c7 r7 hask h0 hgd RG
                  generalize ls[j].rq = q at *
                  generalize rab ls[j] = qq at *
                  go_wp2_with fail
                  refine HASK1.out.mono ?_
                  rintro e w2 ⟨r2, rfl, hok2, hab2, hfar2, hn2, hb2⟩
                  have hbb := HI1.out.be.trans (hb2.mono HI1.out.be.size)
                  obtain ⟨TH2, HN2, HBN2⟩ := new_rp w.heap.size w w2 (rpc r2) (rpc_len r2) hbb hbb.size
                  have hb2 := hb2.trans (HBN2.mono hb2.size)
                  have HI3 := Lib.hid (HI1.out.later hb2)
                  have HK2 := Lib.hid HN2
                  have HSM2 : Hid (∀ W, Below ((w2.alloc (.cells #[.int .i64 0, .int .i64 0, .int .i64 0, .int .i64 0, .int .i64 0, .int .i64 0, .int .i64 0, .int .i64 0, .slice none 0 0, .int .u32 0] 26)).setCells w2.heap.size 0 (rpc r2)).heap.size ((w2.alloc (.cells #[.int .i64 0, .int .i64 0, .int .i64 0, .int .i64 0, .int .i64 0, .int .i64 0, .int .i64 0, .int .i64 0, .slice none 0 0, .int .u32 0] 26)).setCells w2.heap.size 0 (rpc r2)) W → Calls Try.prog 14 #[.agg (rpc r2).toArray, .agg (rpc lj).toArray] W fun e w' => e = .returned (.bool true) ∧ Below W.heap.size W w') := Lib.hid (fun W hW => by
                    have := rlsame_any r2 lj W ((hok2.later HBN2).later hW) (HOKL.out W (hb2.trans (hW.mono hb2.size))) hn2
                    rw [decide_eq_true (hab2.trans HRAB.out)] at this
                    exact this)
                  have hone2 := all_oneCell_toArray (rpc_one r2)
                  have HL2 := Lib.hid (rpc_len r2)
                  generalize rpc r2 = cr2 at *
                  obtain ⟨W3, hW3⟩ : ∃ W3, W3 = (w2.alloc (.cells #[.int .i64 0, .int .i64 0, .int .i64 0, .int .i64 0, .int .i64 0, .int .i64 0, .int .i64 0, .int .i64 0, .slice none 0 0, .int .u32 0] 26)).setCells w2.heap.size 0 cr2 := ⟨_, rfl⟩
                  rw [← hW3] at HI3 HK2 HSM2
                  have HOKL := Lib.hid (fun W (hW : Below W3.heap.size W3 W) => HOKL.out W (by
                    rw [hW3] at hW
                    exact hb2.trans (hW.mono hb2.size)))
                  have HW3 := Lib.hid hW3
                  clear hok2 hab2 hfar2 hn2 hb2 hbb HN2 HBN2 hW3
                  have kq3 := (HRQ.out _ HI3.out).1
                  have HASK3 := Lib.hid (HAGN.out _ HI3.out.lg)
                  clear kq
                  go_wp2_with (first
                    | (refine wpList_store_mid rfl 26 (.tmp 8) (.tmp 93) rfl w2.heap.size 0 cr2.toArray rfl rfl (by simpa [HL2.out] using TH2) (by simpa [HL2.out] using info_rp) hone2 ?_
                       rw [← HW3.out])
                    | fail)
                  refine HASK3.out.mono ?_
                  rintro e w4 ⟨r4, rfl, hok4, hab4, hfar4, hn4, hb4⟩
                  have hbb := HI3.out.be.trans (hb4.mono HI3.out.be.size)
                  obtain ⟨TH4, HN4, HBN4⟩ := new_rp w.heap.size w w4 (rpc r4) (rpc_len r4) hbb hbb.size
                  have hb2 := hb4.trans (HBN4.mono hb4.size)
                  have HI5 := Lib.hid (HI3.out.later hb2)
                  have HK4 := Lib.hid HN4
                  have HSM4 : Hid (∀ W, Below ((w4.alloc (.cells #[.int .i64 0, .int .i64 0, .int .i64 0, .int .i64 0, .int .i64 0, .int .i64 0, .int .i64 0, .int .i64 0, .slice none 0 0, .int .u32 0] 26)).setCells w4.heap.size 0 (rpc r4)).heap.size ((w4.alloc (.cells #[.int .i64 0, .int .i64 0, .int .i64 0, .int .i64 0, .int .i64 0, .int .i64 0, .int .i64 0, .int .i64 0, .slice none 0 0, .int .u32 0] 26)).setCells w4.heap.size 0 (rpc r4)) W → Calls Try.prog 14 #[.agg (rpc r4).toArray, .agg (rpc lj).toArray] W fun e w' => e = .returned (.bool true) ∧ Below W.heap.size W w') := Lib.hid (fun W hW => by
                    have := rlsame_any r4 lj W ((hok4.later HBN4).later hW) (HOKL.out W (hb2.trans (hW.mono hb2.size))) hn4
                    rw [decide_eq_true (hab4.trans HRAB.out)] at this
                    exact this)
                  have hone4 := all_oneCell_toArray (rpc_one r4)
                  have HL4 := Lib.hid (rpc_len r4)
                  generalize rpc r4 = cr4 at *
                  obtain ⟨W5, hW5⟩ : ∃ W5, W5 = (w4.alloc (.cells #[.int .i64 0, .int .i64 0, .int .i64 0, .int .i64 0, .int .i64 0, .int .i64 0, .int .i64 0, .int .i64 0, .slice none 0 0, .int .u32 0] 26)).setCells w4.heap.size 0 cr4 := ⟨_, rfl⟩
                  rw [← hW5] at HI5 HK4 HSM4
                  have HOKL := Lib.hid (fun W (hW : Below W5.heap.size W5 W) => HOKL.out W (by
                    rw [hW5] at hW
                    exact hb2.trans (hW.mono hb2.size)))
                  have HW5 := Lib.hid hW5
                  clear hok4 hab4 hfar4 hn4 hb4 hbb HN4 HBN4 hW5
                  have HK2 := Lib.hid (HK2.out.later hb2)
                  have HSM2 := Lib.hid (fun W hW => HSM2.out W (hb2.trans (Below.mono hW hb2.size)))
                  rw [← HW5.out] at HK2 HSM2
                  have HRG5 := Lib.hid (HRQ.out _ HI5.out).2
                  clear kq3 hb2
                  go_wp2_with (first
                    | (refine wpList_store_mid rfl 26 (.tmp 10) (.tmp 103) rfl w4.heap.size 0 cr4.toArray rfl rfl (by simpa [HL4.out] using TH4) (by simpa [HL4.out] using info_rp) hone4 ?_
                       rw [← HW5.out])
                    | fail)
                  refine wp_region_steady [] 128 (by kernel_rfl) (by kernel_rfl) (by kernel_rfl) (by rfl) ?_
                  iterate 7 (refine wpG_quiet (by rfl) (by rfl) (by rfl) (fun K hK => ?_); go_big_quiet_op; refine hK _ ?_; clear hK K)
                  refine wpG_run (by rfl) (by rfl) (.agg cr2.toArray) (fun wx hl => exec_load 26 (.tmp 8) rfl w2.heap.size 0 rfl cr2 _ ((HK2.out.later hl.1).range 0 cr2 (by rw [List.drop_zero, List.take_length])) hu rfl (by rw [HL2.out]; exact info_rp)) ?_
                  simp only [Act.put, List.setIfInBounds_toArray, List.set_cons_zero, List.set_cons_succ]
                  iterate 2 (refine wpG_quiet (by rfl) (by rfl) (by rfl) (fun K hK => ?_); go_big_quiet_op; refine hK _ ?_; clear hK K)
                  refine wpG_run (by rfl) (by rfl) (.agg (rpc lj).toArray) (fun wx hl => exec_load 26 (.tmp 114) rfl b4 (j * 10) rfl (rpc lj) _ (HRQ.out wx (HI5.out.later hl.1)).2 hu rfl info_rp) ?_
                  simp only [Act.put, List.setIfInBounds_toArray, List.set_cons_zero, List.set_cons_succ]
                  refine wpG_call (by rfl) (by rfl) 14 #[.agg cr2.toArray, .agg (rpc lj).toArray] (.bool true) (by intro _; simp [go_sem]) (by kernel_rfl) (fun wx hl => HSM2.out wx hl.1) ?_
                  simp only [Act.put, List.setIfInBounds_toArray, List.set_cons_zero, List.set_cons_succ]
                  iterate 3 (refine wpG_quiet (by rfl) (by rfl) (by rfl) (fun K hK => ?_); go_big_quiet_op; refine hK _ ?_; clear hK K)
                  refine wpG_run (by rfl) (by rfl) (.agg cr4.toArray) (fun wx hl => exec_load 26 (.tmp 10) rfl w4.heap.size 0 rfl cr4 _ ((HK4.out.later hl.1).range 0 cr4 (by rw [List.drop_zero, List.take_length])) hu rfl (by rw [HL4.out]; exact info_rp)) ?_
                  simp only [Act.put, List.setIfInBounds_toArray, List.set_cons_zero, List.set_cons_succ]
                  iterate 2 (refine wpG_quiet (by rfl) (by rfl) (by rfl) (fun K hK => ?_); go_big_quiet_op; refine hK _ ?_; clear hK K)
                  refine wpG_run (by rfl) (by rfl) (.agg (rpc lj).toArray) (fun wx hl => exec_load 26 (.tmp 122) rfl b4 (j * 10) rfl (rpc lj) _ (HRQ.out wx (HI5.out.later hl.1)).2 hu rfl info_rp) ?_
                  simp only [Act.put, List.setIfInBounds_toArray, List.set_cons_zero, List.set_cons_succ]
                  refine wpG_call (by rfl) (by rfl) 14 #[.agg cr4.toArray, .agg (rpc lj).toArray] (.bool true) (by intro _; simp [go_sem]) (by kernel_rfl) (fun wx hl => HSM4.out wx hl.1) ?_
                  simp only [Act.put, List.setIfInBounds_toArray, List.set_cons_zero, List.set_cons_succ]
                  iterate 2 (refine wpG_quiet (by rfl) (by rfl) (by rfl) (fun K hK => ?_); go_big_quiet_op; refine hK _ ?_; clear hK K)
                  refine wpG_nil fun w9 hl _ => ?_
                  have HI9 := Lib.hid (HI5.out.later hl)
                  clear hl
                  go_wp2_with fail
                  go_roundw
                  case rel => exact ⟨j + 1, by omega, by go_num, HI9⟩
                  case measure => simp [intOf]; omega
              · obtain rfl : j = 6 := by omega
                go_wp2_with fail
                go_roundw
                case rel => exact ⟨k + 1, by omega, by go_num, ⟨es, rs, ls, HI⟩⟩
                case measure => simp [intOf]; omega
        · have g1 : (ak == 1) = false := by simp [hk1]
          by_cases hk2 : 1 < ak
          · have g2 : decide ((1 : Int) < ak) = true := decide_eq_true hk2
            have HRS := Lib.hid (lgraise_any g es rs r.dv W6 HI6.out.lg)
            clear hk1 hk2 RR6
            go_wp2_with fail
            refine HRS.out.mono ?_
            rintro e w7 ⟨rfl, h7, hg7⟩
            have HI7 := Lib.hid (HI6.out.raise h7 hg7)
            clear h7 hg7 HRS k61 k68 kk6 HOK6 HLOW HK6
            generalize res es r.dv = es at *
            go_wp2_with fail
            have HI := HI7
            clear HI6
            go_loopw [7] (fun d wr => ∃ j : Nat, j ≤ 6 ∧ d = .int .i64 (j : Int) ∧ Hid (LInv w g b4 wr es rs ls)) (fun d _ => 6 - (intOf d).toNat)
            case atStart => exact ⟨0, by omega, rfl, HI⟩
            case round =>
              clear HI
              obtain ⟨j, hj6, rfl, HI⟩ := hrel
              by_cases hjl : j < 6
              · have d0 : decide ((j : Int) < 6) = true := decide_eq_true (by omega)
                have hjl2 : j < ls.length := by rw [HI.out.ll]; exact hjl
                obtain ⟨lj, hgd⟩ : ∃ lj, lj = ls[j] := ⟨_, rfl⟩
                have RG := HI.out.range j hjl2
                have kq := RG 2 _ rfl
                have hnj : ¬ (6 : Int) ≤ (j : Int) := by omega
                have hnj2 : ¬ 6 ≤ j := by omega
                by_cases h0 : ls[j].rq = 0
                · rw [h0] at kq
                  clear RG h0 hgd
                  go_wp2_with fail
                  go_roundw
                  case rel => exact ⟨j + 1, by omega, by go_num, HI⟩
                  case measure => simp [intOf]; omega
                · obtain ⟨c7, r7⟩ := HI.out.asks j hjl2 h0
                  have hask := lask_any g es rs j ls[j].rq _ HI.out.lg
                  rw [c7, r7] at hask
                  have HASK1 := Lib.hid hask
                  have h00 : (ls[j].rq == 0) = false := by simpa using h0
                  have HRAB : Hid (rab ls[j] = rab lj) := Lib.hid (by rw [hgd])
                  have HOKL : Hid (∀ W, Below wr.heap.size wr W → okRp W lj) := Lib.hid (fun W hW => by
                    rw [hgd]
                    exact (HI.out.ok _ (List.getElem_mem hjl2)).1.later hW)
                  have HAGN : Hid (∀ W, LgAt W g es rs → Calls Try.prog 22 #[.pointer (some ⟨g, 0, none⟩), .int .i64 (j : Int), .int .i64 ls[j].rq] W (GivesAns W (rab ls[j]) 7)) := Lib.hid (fun W hW => by
                    have h9 := lask_any g es rs j ls[j].rq W hW
                    rwa [c7, r7] at h9)
                  have HRQ : Hid (∀ W, LInv w g b4 W es rs ls → W.cell? ⟨b4, j * 10 + 2, none⟩ = some (.int .i64 ls[j].rq) ∧ W.rangeAt b4 (j * 10) (rpc lj)) := Lib.hid (fun W hW => by
                    rw [hgd]
                    exact ⟨hW.range j hjl2 2 _ rfl, hW.range j hjl2⟩)
                  have HI1 := HI
                  clear c7 r7 hask h0 hgd RG
                  generalize ls[j].rq = q at *
                  generalize rab ls[j] = qq at *
                  go_wp2_with fail
                  refine HASK1.out.mono ?_
                  rintro e w2 ⟨r2, rfl, hok2, hab2, hfar2, hn2, hb2⟩
                  have hbb := HI1.out.be.trans (hb2.mono HI1.out.be.size)
                  obtain ⟨TH2, HN2, HBN2⟩ := new_rp w.heap.size w w2 (rpc r2) (rpc_len r2) hbb hbb.size
                  have hb2 := hb2.trans (HBN2.mono hb2.size)
                  have HI3 := Lib.hid (HI1.out.later hb2)
                  have HK2 := Lib.hid HN2
                  have HSM2 : Hid (∀ W, Below ((w2.alloc (.cells #[.int .i64 0, .int .i64 0, .int .i64 0, .int .i64 0, .int .i64 0, .int .i64 0, .int .i64 0, .int .i64 0, .slice none 0 0, .int .u32 0] 26)).setCells w2.heap.size 0 (rpc r2)).heap.size ((w2.alloc (.cells #[.int .i64 0, .int .i64 0, .int .i64 0, .int .i64 0, .int .i64 0, .int .i64 0, .int .i64 0, .int .i64 0, .slice none 0 0, .int .u32 0] 26)).setCells w2.heap.size 0 (rpc r2)) W → Calls Try.prog 14 #[.agg (rpc r2).toArray, .agg (rpc lj).toArray] W fun e w' => e = .returned (.bool true) ∧ Below W.heap.size W w') := Lib.hid (fun W hW => by
                    have := rlsame_any r2 lj W ((hok2.later HBN2).later hW) (HOKL.out W (hb2.trans (hW.mono hb2.size))) hn2
                    rw [decide_eq_true (hab2.trans HRAB.out)] at this
                    exact this)
                  have hone2 := all_oneCell_toArray (rpc_one r2)
                  have HL2 := Lib.hid (rpc_len r2)
                  generalize rpc r2 = cr2 at *
                  obtain ⟨W3, hW3⟩ : ∃ W3, W3 = (w2.alloc (.cells #[.int .i64 0, .int .i64 0, .int .i64 0, .int .i64 0, .int .i64 0, .int .i64 0, .int .i64 0, .int .i64 0, .slice none 0 0, .int .u32 0] 26)).setCells w2.heap.size 0 cr2 := ⟨_, rfl⟩
                  rw [← hW3] at HI3 HK2 HSM2
                  have HOKL := Lib.hid (fun W (hW : Below W3.heap.size W3 W) => HOKL.out W (by
                    rw [hW3] at hW
                    exact hb2.trans (hW.mono hb2.size)))
                  have HW3 := Lib.hid hW3
                  clear hok2 hab2 hfar2 hn2 hb2 hbb HN2 HBN2 hW3
                  have kq3 := (HRQ.out _ HI3.out).1
                  have HASK3 := Lib.hid (HAGN.out _ HI3.out.lg)
                  clear kq
                  go_wp2_with (first
                    | (refine wpList_store_mid rfl 26 (.tmp 8) (.tmp 93) rfl w2.heap.size 0 cr2.toArray rfl rfl (by simpa [HL2.out] using TH2) (by simpa [HL2.out] using info_rp) hone2 ?_
                       rw [← HW3.out])
                    | fail)
                  refine HASK3.out.mono ?_
                  rintro e w4 ⟨r4, rfl, hok4, hab4, hfar4, hn4, hb4⟩
                  have hbb := HI3.out.be.trans (hb4.mono HI3.out.be.size)
                  obtain ⟨TH4, HN4, HBN4⟩ := new_rp w.heap.size w w4 (rpc r4) (rpc_len r4) hbb hbb.size
                  have hb2 := hb4.trans (HBN4.mono hb4.size)
                  have HI5 := Lib.hid (HI3.out.later hb2)
                  have HK4 := Lib.hid HN4
                  have HSM4 : Hid (∀ W, Below ((w4.alloc (.cells #[.int .i64 0, .int .i64 0, .int .i64 0, .int .i64 0, .int .i64 0, .int .i64 0, .int .i64 0, .int .i64 0, .slice none 0 0, .int .u32 0] 26)).setCells w4.heap.size 0 (rpc r4)).heap.size ((w4.alloc (.cells #[.int .i64 0, .int .i64 0, .int .i64 0, .int .i64 0, .int .i64 0, .int .i64 0, .int .i64 0, .int .i64 0, .slice none 0 0, .int .u32 0] 26)).setCells w4.heap.size 0 (rpc r4)) W → Calls Try.prog 14 #[.agg (rpc r4).toArray, .agg (rpc lj).toArray] W fun e w' => e = .returned (.bool true) ∧ Below W.heap.size W w') := Lib.hid (fun W hW => by
                    have := rlsame_any r4 lj W ((hok4.later HBN4).later hW) (HOKL.out W (hb2.trans (hW.mono hb2.size))) hn4
                    rw [decide_eq_true (hab4.trans HRAB.out)] at this
                    exact this)
                  have hone4 := all_oneCell_toArray (rpc_one r4)
                  have HL4 := Lib.hid (rpc_len r4)
                  generalize rpc r4 = cr4 at *
                  obtain ⟨W5, hW5⟩ : ∃ W5, W5 = (w4.alloc (.cells #[.int .i64 0, .int .i64 0, .int .i64 0, .int .i64 0, .int .i64 0, .int .i64 0, .int .i64 0, .int .i64 0, .slice none 0 0, .int .u32 0] 26)).setCells w4.heap.size 0 cr4 := ⟨_, rfl⟩
                  rw [← hW5] at HI5 HK4 HSM4
                  have HOKL := Lib.hid (fun W (hW : Below W5.heap.size W5 W) => HOKL.out W (by
                    rw [hW5] at hW
                    exact hb2.trans (hW.mono hb2.size)))
                  have HW5 := Lib.hid hW5
                  clear hok4 hab4 hfar4 hn4 hb4 hbb HN4 HBN4 hW5
                  have HK2 := Lib.hid (HK2.out.later hb2)
                  have HSM2 := Lib.hid (fun W hW => HSM2.out W (hb2.trans (Below.mono hW hb2.size)))
                  rw [← HW5.out] at HK2 HSM2
                  have HRG5 := Lib.hid (HRQ.out _ HI5.out).2
                  clear kq3 hb2
                  go_wp2_with (first
                    | (refine wpList_store_mid rfl 26 (.tmp 10) (.tmp 103) rfl w4.heap.size 0 cr4.toArray rfl rfl (by simpa [HL4.out] using TH4) (by simpa [HL4.out] using info_rp) hone4 ?_
                       rw [← HW5.out])
                    | fail)
                  refine wp_region_steady [] 128 (by kernel_rfl) (by kernel_rfl) (by kernel_rfl) (by rfl) ?_
                  iterate 7 (refine wpG_quiet (by rfl) (by rfl) (by rfl) (fun K hK => ?_); go_big_quiet_op; refine hK _ ?_; clear hK K)
                  refine wpG_run (by rfl) (by rfl) (.agg cr2.toArray) (fun wx hl => exec_load 26 (.tmp 8) rfl w2.heap.size 0 rfl cr2 _ ((HK2.out.later hl.1).range 0 cr2 (by rw [List.drop_zero, List.take_length])) hu rfl (by rw [HL2.out]; exact info_rp)) ?_
                  simp only [Act.put, List.setIfInBounds_toArray, List.set_cons_zero, List.set_cons_succ]
                  iterate 2 (refine wpG_quiet (by rfl) (by rfl) (by rfl) (fun K hK => ?_); go_big_quiet_op; refine hK _ ?_; clear hK K)
                  refine wpG_run (by rfl) (by rfl) (.agg (rpc lj).toArray) (fun wx hl => exec_load 26 (.tmp 114) rfl b4 (j * 10) rfl (rpc lj) _ (HRQ.out wx (HI5.out.later hl.1)).2 hu rfl info_rp) ?_
                  simp only [Act.put, List.setIfInBounds_toArray, List.set_cons_zero, List.set_cons_succ]
                  refine wpG_call (by rfl) (by rfl) 14 #[.agg cr2.toArray, .agg (rpc lj).toArray] (.bool true) (by intro _; simp [go_sem]) (by kernel_rfl) (fun wx hl => HSM2.out wx hl.1) ?_
                  simp only [Act.put, List.setIfInBounds_toArray, List.set_cons_zero, List.set_cons_succ]
                  iterate 3 (refine wpG_quiet (by rfl) (by rfl) (by rfl) (fun K hK => ?_); go_big_quiet_op; refine hK _ ?_; clear hK K)
                  refine wpG_run (by rfl) (by rfl) (.agg cr4.toArray) (fun wx hl => exec_load 26 (.tmp 10) rfl w4.heap.size 0 rfl cr4 _ ((HK4.out.later hl.1).range 0 cr4 (by rw [List.drop_zero, List.take_length])) hu rfl (by rw [HL4.out]; exact info_rp)) ?_
                  simp only [Act.put, List.setIfInBounds_toArray, List.set_cons_zero, List.set_cons_succ]
                  iterate 2 (refine wpG_quiet (by rfl) (by rfl) (by rfl) (fun K hK => ?_); go_big_quiet_op; refine hK _ ?_; clear hK K)
                  refine wpG_run (by rfl) (by rfl) (.agg (rpc lj).toArray) (fun wx hl => exec_load 26 (.tmp 122) rfl b4 (j * 10) rfl (rpc lj) _ (HRQ.out wx (HI5.out.later hl.1)).2 hu rfl info_rp) ?_
                  simp only [Act.put, List.setIfInBounds_toArray, List.set_cons_zero, List.set_cons_succ]
                  refine wpG_call (by rfl) (by rfl) 14 #[.agg cr4.toArray, .agg (rpc lj).toArray] (.bool true) (by intro _; simp [go_sem]) (by kernel_rfl) (fun wx hl => HSM4.out wx hl.1) ?_
                  simp only [Act.put, List.setIfInBounds_toArray, List.set_cons_zero, List.set_cons_succ]
                  iterate 2 (refine wpG_quiet (by rfl) (by rfl) (by rfl) (fun K hK => ?_); go_big_quiet_op; refine hK _ ?_; clear hK K)
                  refine wpG_nil fun w9 hl _ => ?_
                  have HI9 := Lib.hid (HI5.out.later hl)
                  clear hl
                  go_wp2_with fail
                  go_roundw
                  case rel => exact ⟨j + 1, by omega, by go_num, HI9⟩
                  case measure => simp [intOf]; omega
              · obtain rfl : j = 6 := by omega
                go_wp2_with fail
                go_roundw
                case rel => exact ⟨k + 1, by omega, by go_num, ⟨es, rs, ls, HI⟩⟩
                case measure => simp [intOf]; omega
          · have g2 : decide ((1 : Int) < ak) = false := decide_eq_false hk2
            clear hk1 hk2 RR6 HOK6 HLOW HK6
            go_wp2_with fail
            have HI7 := HI6
            clear k61 k68 kk6
            have HI := HI7
            clear HI6
            go_loopw [7] (fun d wr => ∃ j : Nat, j ≤ 6 ∧ d = .int .i64 (j : Int) ∧ Hid (LInv w g b4 wr es rs ls)) (fun d _ => 6 - (intOf d).toNat)
            case atStart => exact ⟨0, by omega, rfl, HI⟩
            case round =>
              clear HI
              obtain ⟨j, hj6, rfl, HI⟩ := hrel
              by_cases hjl : j < 6
              · have d0 : decide ((j : Int) < 6) = true := decide_eq_true (by omega)
                have hjl2 : j < ls.length := by rw [HI.out.ll]; exact hjl
                obtain ⟨lj, hgd⟩ : ∃ lj, lj = ls[j] := ⟨_, rfl⟩
                have RG := HI.out.range j hjl2
                have kq := RG 2 _ rfl
                have hnj : ¬ (6 : Int) ≤ (j : Int) := by omega
                have hnj2 : ¬ 6 ≤ j := by omega
                by_cases h0 : ls[j].rq = 0
                · rw [h0] at kq
                  clear RG h0 hgd
                  go_wp2_with fail
                  go_roundw
                  case rel => exact ⟨j + 1, by omega, by go_num, HI⟩
                  case measure => simp [intOf]; omega
                · obtain ⟨c7, r7⟩ := HI.out.asks j hjl2 h0
                  have hask := lask_any g es rs j ls[j].rq _ HI.out.lg
                  rw [c7, r7] at hask
                  have HASK1 := Lib.hid hask
                  have h00 : (ls[j].rq == 0) = false := by simpa using h0
                  have HRAB : Hid (rab ls[j] = rab lj) := Lib.hid (by rw [hgd])
                  have HOKL : Hid (∀ W, Below wr.heap.size wr W → okRp W lj) := Lib.hid (fun W hW => by
                    rw [hgd]
                    exact (HI.out.ok _ (List.getElem_mem hjl2)).1.later hW)
                  have HAGN : Hid (∀ W, LgAt W g es rs → Calls Try.prog 22 #[.pointer (some ⟨g, 0, none⟩), .int .i64 (j : Int), .int .i64 ls[j].rq] W (GivesAns W (rab ls[j]) 7)) := Lib.hid (fun W hW => by
                    have h9 := lask_any g es rs j ls[j].rq W hW
                    rwa [c7, r7] at h9)
                  have HRQ : Hid (∀ W, LInv w g b4 W es rs ls → W.cell? ⟨b4, j * 10 + 2, none⟩ = some (.int .i64 ls[j].rq) ∧ W.rangeAt b4 (j * 10) (rpc lj)) := Lib.hid (fun W hW => by
                    rw [hgd]
                    exact ⟨hW.range j hjl2 2 _ rfl, hW.range j hjl2⟩)
                  have HI1 := HI
                  clear c7 r7 hask h0 hgd RG
                  generalize ls[j].rq = q at *
                  generalize rab ls[j] = qq at *
                  go_wp2_with fail
                  refine HASK1.out.mono ?_
                  rintro e w2 ⟨r2, rfl, hok2, hab2, hfar2, hn2, hb2⟩
                  have hbb := HI1.out.be.trans (hb2.mono HI1.out.be.size)
                  obtain ⟨TH2, HN2, HBN2⟩ := new_rp w.heap.size w w2 (rpc r2) (rpc_len r2) hbb hbb.size
                  have hb2 := hb2.trans (HBN2.mono hb2.size)
                  have HI3 := Lib.hid (HI1.out.later hb2)
                  have HK2 := Lib.hid HN2
                  have HSM2 : Hid (∀ W, Below ((w2.alloc (.cells #[.int .i64 0, .int .i64 0, .int .i64 0, .int .i64 0, .int .i64 0, .int .i64 0, .int .i64 0, .int .i64 0, .slice none 0 0, .int .u32 0] 26)).setCells w2.heap.size 0 (rpc r2)).heap.size ((w2.alloc (.cells #[.int .i64 0, .int .i64 0, .int .i64 0, .int .i64 0, .int .i64 0, .int .i64 0, .int .i64 0, .int .i64 0, .slice none 0 0, .int .u32 0] 26)).setCells w2.heap.size 0 (rpc r2)) W → Calls Try.prog 14 #[.agg (rpc r2).toArray, .agg (rpc lj).toArray] W fun e w' => e = .returned (.bool true) ∧ Below W.heap.size W w') := Lib.hid (fun W hW => by
                    have := rlsame_any r2 lj W ((hok2.later HBN2).later hW) (HOKL.out W (hb2.trans (hW.mono hb2.size))) hn2
                    rw [decide_eq_true (hab2.trans HRAB.out)] at this
                    exact this)
                  have hone2 := all_oneCell_toArray (rpc_one r2)
                  have HL2 := Lib.hid (rpc_len r2)
                  generalize rpc r2 = cr2 at *
                  obtain ⟨W3, hW3⟩ : ∃ W3, W3 = (w2.alloc (.cells #[.int .i64 0, .int .i64 0, .int .i64 0, .int .i64 0, .int .i64 0, .int .i64 0, .int .i64 0, .int .i64 0, .slice none 0 0, .int .u32 0] 26)).setCells w2.heap.size 0 cr2 := ⟨_, rfl⟩
                  rw [← hW3] at HI3 HK2 HSM2
                  have HOKL := Lib.hid (fun W (hW : Below W3.heap.size W3 W) => HOKL.out W (by
                    rw [hW3] at hW
                    exact hb2.trans (hW.mono hb2.size)))
                  have HW3 := Lib.hid hW3
                  clear hok2 hab2 hfar2 hn2 hb2 hbb HN2 HBN2 hW3
                  have kq3 := (HRQ.out _ HI3.out).1
                  have HASK3 := Lib.hid (HAGN.out _ HI3.out.lg)
                  clear kq
                  go_wp2_with (first
                    | (refine wpList_store_mid rfl 26 (.tmp 8) (.tmp 93) rfl w2.heap.size 0 cr2.toArray rfl rfl (by simpa [HL2.out] using TH2) (by simpa [HL2.out] using info_rp) hone2 ?_
                       rw [← HW3.out])
                    | fail)
                  refine HASK3.out.mono ?_
                  rintro e w4 ⟨r4, rfl, hok4, hab4, hfar4, hn4, hb4⟩
                  have hbb := HI3.out.be.trans (hb4.mono HI3.out.be.size)
                  obtain ⟨TH4, HN4, HBN4⟩ := new_rp w.heap.size w w4 (rpc r4) (rpc_len r4) hbb hbb.size
                  have hb2 := hb4.trans (HBN4.mono hb4.size)
                  have HI5 := Lib.hid (HI3.out.later hb2)
                  have HK4 := Lib.hid HN4
                  have HSM4 : Hid (∀ W, Below ((w4.alloc (.cells #[.int .i64 0, .int .i64 0, .int .i64 0, .int .i64 0, .int .i64 0, .int .i64 0, .int .i64 0, .int .i64 0, .slice none 0 0, .int .u32 0] 26)).setCells w4.heap.size 0 (rpc r4)).heap.size ((w4.alloc (.cells #[.int .i64 0, .int .i64 0, .int .i64 0, .int .i64 0, .int .i64 0, .int .i64 0, .int .i64 0, .int .i64 0, .slice none 0 0, .int .u32 0] 26)).setCells w4.heap.size 0 (rpc r4)) W → Calls Try.prog 14 #[.agg (rpc r4).toArray, .agg (rpc lj).toArray] W fun e w' => e = .returned (.bool true) ∧ Below W.heap.size W w') := Lib.hid (fun W hW => by
                    have := rlsame_any r4 lj W ((hok4.later HBN4).later hW) (HOKL.out W (hb2.trans (hW.mono hb2.size))) hn4
                    rw [decide_eq_true (hab4.trans HRAB.out)] at this
                    exact this)
                  have hone4 := all_oneCell_toArray (rpc_one r4)
                  have HL4 := Lib.hid (rpc_len r4)
                  generalize rpc r4 = cr4 at *
                  obtain ⟨W5, hW5⟩ : ∃ W5, W5 = (w4.alloc (.cells #[.int .i64 0, .int .i64 0, .int .i64 0, .int .i64 0, .int .i64 0, .int .i64 0, .int .i64 0, .int .i64 0, .slice none 0 0, .int .u32 0] 26)).setCells w4.heap.size 0 cr4 := ⟨_, rfl⟩
                  rw [← hW5] at HI5 HK4 HSM4
                  have HOKL := Lib.hid (fun W (hW : Below W5.heap.size W5 W) => HOKL.out W (by
                    rw [hW5] at hW
                    exact hb2.trans (hW.mono hb2.size)))
                  have HW5 := Lib.hid hW5
                  clear hok4 hab4 hfar4 hn4 hb4 hbb HN4 HBN4 hW5
                  have HK2 := Lib.hid (HK2.out.later hb2)
                  have HSM2 := Lib.hid (fun W hW => HSM2.out W (hb2.trans (Below.mono hW hb2.size)))
                  rw [← HW5.out] at HK2 HSM2
                  have HRG5 := Lib.hid (HRQ.out _ HI5.out).2
                  clear kq3 hb2
                  go_wp2_with (first
                    | (refine wpList_store_mid rfl 26 (.tmp 10) (.tmp 103) rfl w4.heap.size 0 cr4.toArray rfl rfl (by simpa [HL4.out] using TH4) (by simpa [HL4.out] using info_rp) hone4 ?_
                       rw [← HW5.out])
                    | fail)
                  refine wp_region_steady [] 128 (by kernel_rfl) (by kernel_rfl) (by kernel_rfl) (by rfl) ?_
                  iterate 7 (refine wpG_quiet (by rfl) (by rfl) (by rfl) (fun K hK => ?_); go_big_quiet_op; refine hK _ ?_; clear hK K)
                  refine wpG_run (by rfl) (by rfl) (.agg cr2.toArray) (fun wx hl => exec_load 26 (.tmp 8) rfl w2.heap.size 0 rfl cr2 _ ((HK2.out.later hl.1).range 0 cr2 (by rw [List.drop_zero, List.take_length])) hu rfl (by rw [HL2.out]; exact info_rp)) ?_
                  simp only [Act.put, List.setIfInBounds_toArray, List.set_cons_zero, List.set_cons_succ]
                  iterate 2 (refine wpG_quiet (by rfl) (by rfl) (by rfl) (fun K hK => ?_); go_big_quiet_op; refine hK _ ?_; clear hK K)
                  refine wpG_run (by rfl) (by rfl) (.agg (rpc lj).toArray) (fun wx hl => exec_load 26 (.tmp 114) rfl b4 (j * 10) rfl (rpc lj) _ (HRQ.out wx (HI5.out.later hl.1)).2 hu rfl info_rp) ?_
                  simp only [Act.put, List.setIfInBounds_toArray, List.set_cons_zero, List.set_cons_succ]
                  refine wpG_call (by rfl) (by rfl) 14 #[.agg cr2.toArray, .agg (rpc lj).toArray] (.bool true) (by intro _; simp [go_sem]) (by kernel_rfl) (fun wx hl => HSM2.out wx hl.1) ?_
                  simp only [Act.put, List.setIfInBounds_toArray, List.set_cons_zero, List.set_cons_succ]
                  iterate 3 (refine wpG_quiet (by rfl) (by rfl) (by rfl) (fun K hK => ?_); go_big_quiet_op; refine hK _ ?_; clear hK K)
                  refine wpG_run (by rfl) (by rfl) (.agg cr4.toArray) (fun wx hl => exec_load 26 (.tmp 10) rfl w4.heap.size 0 rfl cr4 _ ((HK4.out.later hl.1).range 0 cr4 (by rw [List.drop_zero, List.take_length])) hu rfl (by rw [HL4.out]; exact info_rp)) ?_
                  simp only [Act.put, List.setIfInBounds_toArray, List.set_cons_zero, List.set_cons_succ]
                  iterate 2 (refine wpG_quiet (by rfl) (by rfl) (by rfl) (fun K hK => ?_); go_big_quiet_op; refine hK _ ?_; clear hK K)
                  refine wpG_run (by rfl) (by rfl) (.agg (rpc lj).toArray) (fun wx hl => exec_load 26 (.tmp 122) rfl b4 (j * 10) rfl (rpc lj) _ (HRQ.out wx (HI5.out.later hl.1)).2 hu rfl info_rp) ?_
                  simp only [Act.put, List.setIfInBounds_toArray, List.set_cons_zero, List.set_cons_succ]
                  refine wpG_call (by rfl) (by rfl) 14 #[.agg cr4.toArray, .agg (rpc lj).toArray] (.bool true) (by intro _; simp [go_sem]) (by kernel_rfl) (fun wx hl => HSM4.out wx hl.1) ?_
                  simp only [Act.put, List.setIfInBounds_toArray, List.set_cons_zero, List.set_cons_succ]
                  iterate 2 (refine wpG_quiet (by rfl) (by rfl) (by rfl) (fun K hK => ?_); go_big_quiet_op; refine hK _ ?_; clear hK K)
                  refine wpG_nil fun w9 hl _ => ?_
                  have HI9 := Lib.hid (HI5.out.later hl)
                  clear hl
                  go_wp2_with fail
                  go_roundw
                  case rel => exact ⟨j + 1, by omega, by go_num, HI9⟩
                  case measure => simp [intOf]; omega
              · obtain rfl : j = 6 := by omega
                go_wp2_with fail
                go_roundw
                case rel => exact ⟨k + 1, by omega, by go_num, ⟨es, rs, ls, HI⟩⟩
                case measure => simp [intOf]; omega
    · by_cases hkn : k < n
      · have d0 : decide ((k : Int) < (n : Int)) = true := decide_eq_true (by omega)
        have d2 : decide ((k : Int) < 200) = false := decide_eq_false (by omega)
        go_wp2_with fail
        refine (lg_awake _).mono ?_
        rintro e wa ⟨rfl, hba⟩
        have HBA := Lib.hid (HI.out.be.trans (hba.mono HI.out.be.size))
        clear hba
        go_wp2_with fail
        go_ret
        exact ⟨rfl, HBA.out⟩
      · have d0 : decide ((k : Int) < (n : Int)) = false := decide_eq_false (by omega)
        go_wp2_with fail
        refine (lg_awake _).mono ?_
        rintro e wa ⟨rfl, hba⟩
        have HBA := Lib.hid (HI.out.be.trans (hba.mono HI.out.be.size))
        clear hba
        go_wp2_with fail
        go_ret
        exact ⟨rfl, HBA.out⟩
end Go.Proofs.Ytadmaalhhigbeaa

/- Ledger: what the frame gives of an answer, and of a list of acts. -/
namespace Go.Proofs.Ytadmaalhhigbeaa
set_option linter.unusedVariables false
open Go Go.RowKit Go.Deep Go.ChangeShapes Go.WideShapes Go.ChangeAt

instance : Inhabited Rp := ⟨zrp⟩
instance : Inhabited Ac := ⟨⟨0, zrp⟩⟩
section
variable {H : Type} {enc : TypeId × Value → H} {W : World}
set_option maxRecDepth 100000 in
theorem trod_nodes {fuel : Nat} {cs : List Value} {x : DataW H × List MemPlace} (hf : DataW.trod enc Try.prog W 0 (fun _ => true) true fuel 23 cs = some x) :
    ∃ A n c, ∃ l : List Nd, cs = [.slice A n c] ∧ n ≤ c ∧ c ≤ maxLen ∧ l.length = n ∧ (∀ z ∈ l, okNd z) ∧ Sees W W.heap.size A (ncs l) := by
  have hlt := DataW.trod_lt fuel _ _ _ hf
  have c5 : Try.prog.cellsOf 71 = 5 := by kernel_rfl
  rcases open_slice Try.underlying23 hf with ⟨hcs, hx⟩ | ⟨x, n, c, m, fu, D, Pl, hcs, hb, hl, hm, hmm, hx, hcell⟩
  · exact ⟨none, 0, 0, [], hcs, Nat.le_refl _, by simp [maxLen], rfl, by simp, Sees.nil_⟩
  · simp only [if_true] at hmm
    subst hmm
    have each : ∀ i, i < n → ∃ z : Nd, (∀ j u, (ncells z)[j]? = some u → W.cell? (x.add (i * 5 + j)) = some u) ∧ okNd z := fun i hi => by
      obtain ⟨cs', h1, h2⟩ := hcell i (by omega)
      obtain ⟨z, rfl, ok⟩ := trod_node h2
      refine ⟨z, fun j u hj => ?_, ok⟩
      rw [c5] at h1
      obtain ⟨_, hlen, hc⟩ := World.cells?_some h1
      have hj5 : j < 5 := by
        have := (List.getElem?_eq_some_iff.1 hj).1
        rwa [ncells_len] at this
      have e1 := hc j hj5
      rw [add_add] at e1
      rw [e1, hj]
    obtain ⟨f, hf2⟩ := choose_lt (α := Nd) each
    have hlen : ((List.range n).map f).length = n := by simp
    refine ⟨some x, n, m, (List.range n).map f, hcs, hl, hm, hlen, fun z hz => ?_, fun hpos => ?_⟩
    · obtain ⟨i, hi, rfl⟩ := List.mem_map.1 hz
      exact (hf2 i (List.mem_range.1 hi)).2
    · rw [ncs_len, hlen] at hpos
      have h0 := (hf2 0 (by omega)).1 0 _ rfl
      obtain ⟨b, off, spot⟩ := x
      have hspot : spot = none := by simpa [Addr.add] using World.cell?_spot h0
      subst hspot
      refine ⟨b, off, rfl, ?_, fun j hj => ?_⟩
      · rw [hx] at hlt
        have := hlt (.cell b off) (by simp [MemPlace.row, c5]; omega)
        simpa [MemPlace.block] using this
      · have hj2 := hj
        rw [ncs_len, hlen] at hj2
        have hk : j / 5 < ((List.range n).map f).length := by rw [hlen]; omega
        have h3 : (ncells ((List.range n).map f)[j / 5])[j % 5]? = some (ncs ((List.range n).map f))[j] := by
          have h4 := ncs_get _ (j / 5) hk
          rw [← h4, List.getElem?_take, if_pos (by omega), List.getElem?_drop, show 5 * (j / 5) + j % 5 = j by omega, List.getElem?_eq_getElem hj]
        have h5 := (hf2 (j / 5) (by omega)).1 (j % 5) _ (by simpa using h3)
        rw [show j / 5 * 5 + j % 5 = j by omega, add_at] at h5
        exact h5

theorem list10 {β : Type} {l : List β} {a b c d e f g h i j : β} (hl : l.length = 10) (h0 : (l.drop 0).take 1 = [a]) (h1 : (l.drop 1).take 1 = [b]) (h2 : (l.drop 2).take 1 = [c]) (h3 : (l.drop 3).take 1 = [d]) (h4 : (l.drop 4).take 1 = [e])
    (h5 : (l.drop 5).take 1 = [f]) (h6 : (l.drop 6).take 1 = [g]) (h7 : (l.drop 7).take 1 = [h]) (h8 : (l.drop 8).take 1 = [i]) (h9 : (l.drop 9).take 1 = [j]) : l = [a, b, c, d, e, f, g, h, i, j] := by
  match l, hl with
  | [x0, x1, x2, x3, x4, x5, x6, x7, x8, x9], _ => simp at h0 h1 h2 h3 h4 h5 h6 h7 h8 h9; rw [h0, h1, h2, h3, h4, h5, h6, h7, h8, h9]
theorem trod_struct10 {P : Program} {w : World} {base : Nat} {spare : Nat → Bool} {held : Bool} {t : TypeId} {f0 f1 f2 f3 f4 f5 f6 f7 f8 f9 : Field} {fuel : Nat} {cs : List Value} {x : DataW H × List MemPlace} (ht : P.underlying t = some (.struct #[f0, f1, f2, f3, f4, f5, f6, f7, f8, f9])) (h : DataW.trod enc P w base spare held fuel t cs = some x) :
    ∃ y0 y1 y2 y3 y4 y5 y6 y7 y8 y9 n, cs.length = P.cellsOf t ∧ DataW.trod enc P w base spare held n f0.type ((cs.drop f0.offset).take (P.cellsOf f0.type)) = some y0 ∧ DataW.trod enc P w base spare held n f1.type ((cs.drop f1.offset).take (P.cellsOf f1.type)) = some y1 ∧ DataW.trod enc P w base spare held n f2.type ((cs.drop f2.offset).take (P.cellsOf f2.type)) = some y2 ∧ DataW.trod enc P w base spare held n f3.type ((cs.drop f3.offset).take (P.cellsOf f3.type)) = some y3 ∧ DataW.trod enc P w base spare held n f4.type ((cs.drop f4.offset).take (P.cellsOf f4.type)) = some y4 ∧ DataW.trod enc P w base spare held n f5.type ((cs.drop f5.offset).take (P.cellsOf f5.type)) = some y5 ∧ DataW.trod enc P w base spare held n f6.type ((cs.drop f6.offset).take (P.cellsOf f6.type)) = some y6 ∧ DataW.trod enc P w base spare held n f7.type ((cs.drop f7.offset).take (P.cellsOf f7.type)) = some y7 ∧ DataW.trod enc P w base spare held n f8.type ((cs.drop f8.offset).take (P.cellsOf f8.type)) = some y8 ∧ DataW.trod enc P w base spare held n f9.type ((cs.drop f9.offset).take (P.cellsOf f9.type)) = some y9 := by
  obtain ⟨xs, n, _, rfl, hl, hlen, hf⟩ := DataW.trod_struct ht h
  match xs, hlen with
  | [y0, y1, y2, y3, y4, y5, y6, y7, y8, y9], _ => exact ⟨y0, y1, y2, y3, y4, y5, y6, y7, y8, y9, n, hl, by simpa using hf 0 f0 rfl, by simpa using hf 1 f1 rfl, by simpa using hf 2 f2 rfl, by simpa using hf 3 f3 rfl, by simpa using hf 4 f4 rfl, by simpa using hf 5 f5 rfl, by simpa using hf 6 f6 rfl, by simpa using hf 7 f7 rfl, by simpa using hf 8 f8 rfl, by simpa using hf 9 f9 rfl⟩
set_option maxRecDepth 100000 in
theorem trod_rp {fuel : Nat} {cs : List Value} {x : DataW H × List MemPlace} (h : DataW.trod enc Try.prog W 0 (fun _ => true) true fuel 26 cs = some x) : ∃ r : Rp, cs = rpc r ∧ okRp W r := by
  obtain ⟨y0, y1, y2, y3, y4, y5, y6, y7, y8, y9, n, hl, g0, g1, g2, g3, g4, g5, g6, g7, g8, g9⟩ := trod_struct10 Try.underlying26 h
  have c1 : Try.prog.cellsOf 3 = 1 := by kernel_rfl
  have c2 : Try.prog.cellsOf 22 = 1 := by kernel_rfl
  have c3 : Try.prog.cellsOf 23 = 1 := by kernel_rfl
  have c4 : Try.prog.cellsOf 24 = 1 := by kernel_rfl
  have c10 : Try.prog.cellsOf 26 = 10 := by kernel_rfl
  rw [c10] at hl
  simp only [c1] at g0 g1 g2 g4 g5 g6 g7
  simp only [c2] at g3
  simp only [c3] at g8
  simp only [c4] at g9
  obtain ⟨a0, e0, _, _⟩ := DataW.trod_int Try.underlying3 g0
  obtain ⟨a1, e1, _, _⟩ := DataW.trod_int Try.underlying3 g1
  obtain ⟨a2, e2, _, _⟩ := DataW.trod_int Try.underlying3 g2
  obtain ⟨a3, e3, _, _⟩ := DataW.trod_int Try.underlying22 g3
  obtain ⟨a4, e4, _, _⟩ := DataW.trod_int Try.underlying3 g4
  obtain ⟨a5, e5, _, _⟩ := DataW.trod_int Try.underlying3 g5
  obtain ⟨a6, e6, _, _⟩ := DataW.trod_int Try.underlying3 g6
  obtain ⟨a7, e7, _, _⟩ := DataW.trod_int Try.underlying3 g7
  obtain ⟨A, nn, c, l, e8, hnc, hcm, hln, _, hs⟩ := trod_nodes g8
  obtain ⟨a9, e9, _, w9⟩ := DataW.trod_int Try.underlying24 g9
  obtain ⟨m, rfl⟩ := u32_wf w9
  exact ⟨⟨a0, a1, a2, a3, a4, a5, a6, a7, A, nn, c, l, m⟩, list10 hl e0 e1 e2 e3 e4 e5 e6 e7 e8 e9, ⟨hln, hnc, hcm, hs⟩⟩
set_option maxRecDepth 100000 in
theorem trod_ac {fuel : Nat} {cs : List Value} {x : DataW H × List MemPlace} (h : DataW.trod enc Try.prog W 0 (fun _ => true) true fuel 50 cs = some x) : ∃ a : Ac, cs = acc30 a ∧ okRp W a.r := by
  obtain ⟨y0, y1, m, _, hl, h0, h1⟩ := trod_struct2 Try.underlying50 h
  have c1 : Try.prog.cellsOf 3 = 1 := by kernel_rfl
  have c10 : Try.prog.cellsOf 26 = 10 := by kernel_rfl
  have c11 : Try.prog.cellsOf 50 = 11 := by kernel_rfl
  rw [c11] at hl
  simp only [c1] at h0
  simp only [c10] at h1
  obtain ⟨a, e0, _, w0⟩ := DataW.trod_int Try.underlying3 h0
  obtain ⟨r, e1, ok⟩ := trod_rp h1
  refine ⟨⟨a, r⟩, ?_, ok⟩
  have e2 : cs.take 1 = [.int .i64 a] := by simpa using e0
  have e3 : cs.drop 1 = rpc r := by
    rw [← e1, List.take_of_length_le (by rw [List.length_drop]; omega)]
  rw [← List.take_append_drop 1 cs, e2, e3]
  rfl
set_option maxRecDepth 100000 in
theorem open_acs30 {r : Reach} {base : Nat} {v : Value} {d : DataW H} {ps : List MemPlace}
    (hv : Value.okWide Try.prog W r base 44 v) (h : DataW.Trod enc Try.prog W 0 (fun _ => true) true 44 v d ps) :
    ∃ A n c, ∃ l : List Ac, v = .slice A n c ∧ SeesA W A n c l := by
  obtain ⟨A, n, c, l, e, hnc, hcm, hln, hok, hs⟩ := open_rows (f := acc30) (sz := 11) (ok := fun a => okRp W a.r) Try.underlying44 (by kernel_rfl) (by decide) (fun _ _ => rfl) (fun n cs x h => trod_ac h) hv h
  exact ⟨A, n, c, l, e, hln, hnc, hcm, hs, hok⟩
end
end Go.Proofs.Ytadmaalhhigbeaa

/- LedgerOnce: a request that was noted is answered so ever after, and a request's number that is noted rises: for every input. No condition. -/
namespace Go.Proofs.Ytadmaalhhigbeaa
set_option linter.unusedVariables false
open Go.ChangeShapes Go.WideShapes Go.ChangeAt Go.RowKit

set_option maxRecDepth 100000 in
theorem ledgerOnce_lifted (os : Os) (started : os.Started) (H : Type) (enc : TypeId × Value → H) :
    ReturnsInHanded {} Try.checked os 6 .any (Rows.ledgerOnceSpec.pre6 enc Try.prog Try.f6 Rows.ledgerOnceRow.domain false)
      (Rows.ledgerOnceSpec.post enc Try.prog Try.f6 false true false false) := by
  refine returnsInHanded_of_change (C := Try.checked) own started (by kernel_rfl) Try.func6
    (ChangeSpec.witness6 (enc := enc) (C := Try.checked) false ⟨#[], #[.slice none 0 0], []⟩ 8 (by kernel_rfl) (by kernel_rfl) (by kernel_rfl) (by kernel_rfl)) ?_
  intro W base args ds gs before hval hW _ _
  have hW' := hW
  obtain ⟨p, q, hA, hV, rfl, hfz, hnd⟩ := hW
  rw [Try.params6] at hA hval
  obtain ⟨v0, vs0, d0, ds0, p0, q0, hargs, rfl, rfl, h0, r0⟩ := trodAll_cons hA
  obtain ⟨rfl, rfl, rfl⟩ := trodAll_nil r0
  obtain rfl : args = #[v0] := by cases args; simp_all
  obtain ⟨A0, n0, c0, l0, rfl, hs0⟩ := open_acs30 (hval 0 44 v0 rfl rfl) h0
  refine (walk_lonce A0 n0 c0 l0 W hs0).mono fun e W' ⟨he, hb⟩ => ?_
  subst he
  exact ⟨_, rfl, law_post laidOut (by intro t ht; revert t ht; decide +kernel) rfl rfl boolT rfl hW' hb⟩

theorem LedgerOnce_holds : Rows.LedgerOnceSaid :=
  OpenClaim.holds_of_wide 6 Try.f6 rfl rfl rfl rfl rfl rfl rfl ⟨rfl, rfl, rfl, rfl, rfl⟩ rfl rfl rfl rfl rfl (by kernel_rfl) Try.func6 (by kernel_rfl)
    (of_decide_eq_true (by kernel_rfl)) (by unfold Func.isWrapper; first | (rw [if_pos (by decide +kernel)]; kernel_rfl) | (rw [if_neg (by decide +kernel)]; exact ⟨rfl, rfl⟩))
    (fun os started H enc _ => ledgerOnce_lifted os started H enc)
end Go.Proofs.Ytadmaalhhigbeaa
