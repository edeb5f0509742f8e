/- Pieces: what a record's pieces are; the program's Cut: what it returns. -/
import Derived.Test.YtgoebblcggdlgaaPieH
import Derived.Test.YtgoebblcggdlgaaRws
import Derived.Test.YtgoebblcggdlgaaRowK
namespace Go.Proofs.Ytgoebblcggdlgaa
set_option linter.unusedVariables false
set_option linter.unusedSimpArgs false
open Go Go.RowKit OctM SumM

/-- How many pieces a record has. -/
def mn (n : Nat) : Nat := if n ≤ 52 then 1 else (n - 1) / 52 + 1
theorem many_mn (n : Nat) : many (n : Int) = (mn n : Int) := by
  unfold many mn
  by_cases h : n ≤ 52
  · rw [if_pos h, if_pos (by omega)]; rfl
  · rw [if_neg h, if_neg (by omega)]; omega
theorem mn_pos (n : Nat) : 0 < mn n := by unfold mn; split <;> omega
theorem mn_le (n : Nat) : mn n ≤ n + 1 := by unfold mn; split <;> omega
theorem mn_cut {n k : Nat} (h : k < mn n) : 52 * k ≤ n ∧ (k + 1 < mn n → 52 * (k + 1) < n) ∧ (k + 1 = mn n → n ≤ 52 * (k + 1)) := by
  unfold mn at *
  split at h
  · have : k = 0 := by omega
    subst this
    refine ⟨by omega, fun h2 => ?_, fun _ => by omega⟩
    split at h2 <;> omega
  · refine ⟨by omega, fun h2 => ?_, fun h2 => ?_⟩
    · split at h2 <;> omega
    · split at h2 <;> omega
/-- The bytes of a piece. -/
def chk (r : List UInt8) (i : Nat) : List UInt8 := (r.drop (52 * i)).take 52
def pcAt (a b : Int) (r : List UInt8) (i : Nat) : Pc := (a, b + (i : Int), decide (i = 0), decide (i + 1 = mn r.length), chk r i)
def cutU (a b : Int) (r : List UInt8) (k : Nat) : List Pc := (List.range k).map (pcAt a b r)
/-- A record's pieces. -/
def cutL (a b : Int) (r : List UInt8) : List Pc := if 1 ≤ a ∧ a ≤ 4294967295 ∧ 0 ≤ b ∧ b + (mn r.length : Int) ≤ 1099511627776 then cutU a b r (mn r.length) else []
theorem cutU_len (a b : Int) (r : List UInt8) (k : Nat) : (cutU a b r k).length = k := by simp [cutU]
theorem cutU_snoc (a b : Int) (r : List UInt8) (k : Nat) : cutU a b r (k + 1) = cutU a b r k ++ [pcAt a b r k] := by simp [cutU, List.range_succ]
theorem chk_len (r : List UInt8) (i : Nat) : (chk r i).length = min (r.length - 52 * i) 52 := by
  unfold chk
  rw [List.length_take, List.length_drop, Nat.min_comm]
theorem pc_len (l : List Pc) : ∀ x ∈ l, (pcel x).length = 5 := fun _ _ => rfl
theorem pc_ones (l : List Pc) : ∀ u ∈ rws pcel l, u.oneCell' = true := rws_all fun x _ => pcel_one x
theorem info_pied : ∃ i0, Try.prog.info? 25 = some i0 ∧ i0.zero = some (.agg (pcel zpc).toArray) ∧ i0.size = 5 ∧ i0.bytes = 40 := by
  have h : (Try.prog.info? 25).map (fun i => (i.zero, i.size, i.bytes)) = some (some (.agg (pcel zpc).toArray), 5, 40) := by kernel_rfl
  cases hi : Try.prog.info? 25 with
  | none => rw [hi] at h; cases h
  | some i0 =>
    rw [hi] at h
    simp only [Option.map_some, Option.some.injEq, Prod.mk.injEq] at h
    exact ⟨i0, rfl, h.1, h.2.1, h.2.2⟩
theorem info_rpied : ∃ i0, Try.prog.info? 23 = some i0 ∧ i0.zero = some (.agg (pcel zpc).toArray) ∧ i0.size = 5 ∧ i0.bytes = 40 := by
  have h : (Try.prog.info? 23).map (fun i => (i.zero, i.size, i.bytes)) = some (some (.agg (pcel zpc).toArray), 5, 40) := by kernel_rfl
  cases hi : Try.prog.info? 23 with
  | none => rw [hi] at h; cases h
  | some i0 =>
    rw [hi] at h
    simp only [Option.map_some, Option.some.injEq, Prod.mk.injEq] at h
    exact ⟨i0, rfl, h.1, h.2.1, h.2.2⟩
theorem bytes_conv2 (w : World) (l : List UInt8) : ∃ c w1, (convert 9 58 (.string (str l))).run Try.prog w = .ok (.slice (some ⟨w.heap.size, 0, none⟩) l.length c) w1 ∧ Below w.heap.size w w1 ∧ Sees w1 w1.heap.size (some ⟨w.heap.size, 0, none⟩) (bvs l) ∧ l.length ≤ c := by
  obtain ⟨c, w1, h1, h2, h3⟩ := bytes_conv w l
  have h0 := Lib.run_convert_string_bytes (P := Try.prog) w 9 58 5 (str l) Try.underlying9 Try.underlying58 Try.underlying5
  rw [str_size, h1] at h0
  refine ⟨c, w1, h1, h2, h3, ?_⟩
  injection h0 with e1 e2
  injection e1 with _ _ e3
  rw [e3]
  exact grownCap_ge w _ _ _
/-- s[:m:m] of bytes. -/
theorem cut3_fact {P : Program} (t e : TypeId) (i : TypeInfo) (ht : P.underlying t = some (.slice e)) (hi : P.info? e = some i) (hsz : i.size = 1) {w : World} {B : Nat} {A : Option Addr} {xs : List Value} (h : Sees w B A xs)
    (n m c : Nat) (hmn : m ≤ n) (hc : n ≤ c) :
    ∃ A2, (∀ wx, (Instr.slice t (.slice A n c) none (some (.int .i64 (m : Int))) (some (.int .i64 (m : Int)))).run P wx = .ok (.slice A2 m m) wx) ∧ Sees w B A2 (xs.take m) := by
  have he : P.elem t = e := by simp [Program.elem, ht]
  have ht' : P.underlying t = some (.slice (P.elem t)) := by rw [he]; exact ht
  refine ⟨if m = 0 then A else A.map (·.add 0), fun wx => ?_, ?_⟩
  · rw [run_slice_hm wx t A n c ht' .i64 .i64 (m : Int) (m : Int) (by omega) (by omega) (by omega), he]
    simp [sizeOf, typeInfo, hi, hsz, sliced]
  · have e2 : (if m = 0 then A else A.map (·.add 0)) = A := by
      split
      · rfl
      · cases A <;> simp [Addr.add]
    rw [e2]
    exact h.take m

set_option maxRecDepth 100000 in
set_option maxHeartbeats 3200000 in
theorem cut_any (a b : Int) (r : List UInt8) (w : World) (hr : r.length ≤ 65536) :
    Calls Try.prog 22 #[.int .i64 a, .int .i64 b, .string (str r)] w fun e w' => ∃ A c, e = .returned (.slice A (cutL a b r).length c) ∧
      w'.ownsRow w.heap.size 25 5 (.slice A (cutL a b r).length c) (cutL a b r).length (rws pcel (cutL a b r)) ∧ Below w.heap.size w w' := by
  have hz := str_size r
  obtain ⟨i0, hi, hz0, hz1, hz2⟩ := oct_parts
  obtain ⟨i1, ji, jz0, jz1, jz2⟩ := info_pied
  obtain ⟨n, hn⟩ : ∃ n, n = r.length := ⟨_, rfl⟩
  have HM : Hid (∀ wx, Calls Try.prog 15 #[.int .i64 (n : Int)] wx fun e w' => e = .returned (.int .i64 (mn n : Int)) ∧ wx = w') := Lib.hid (fun wx => by
    rw [← many_mn]
    exact many_any _ (by omega) wx)
  obtain ⟨m, hm⟩ : ∃ m, m = mn n := ⟨_, rfl⟩
  have hm0 : 0 < m := by rw [hm]; exact mn_pos n
  have hmn : m ≤ n + 1 := by rw [hm]; exact mn_le n
  have HMN : Hid (mn r.length = m) := Lib.hid (by rw [hm, hn])
  have HCL : Hid (cutL a b r = if 1 ≤ a ∧ a ≤ 4294967295 ∧ 0 ≤ b ∧ b + (m : Int) ≤ 1099511627776 then cutU a b r m else []) := Lib.hid (by unfold cutL; rw [HMN.out])
  have HCUT : Hid (∀ k, k < m → 52 * k ≤ n ∧ (k + 1 < m → 52 * (k + 1) < n) ∧ (k + 1 = m → n ≤ 52 * (k + 1))) := Lib.hid (fun k hk => by rw [hm] at *; exact mn_cut hk)
  rw [← hm] at HM
  rw [← hn] at hz hr
  have HN := Lib.hid hn
  obtain ⟨sr, hsr⟩ : ∃ sr, sr = str r := ⟨_, rfl⟩
  obtain ⟨c0, w1, hcv, hb1, hs1, hc0⟩ := bytes_conv2 w r
  rw [← hsr] at hcv hz ⊢
  rw [← HN.out] at hcv hc0
  clear hsr hn hm
  by_cases hst : 1 ≤ a ∧ a ≤ 4294967295 ∧ 0 ≤ b ∧ b < 1099511627776
  · have HS : Hid (∀ wx, Calls Try.prog 26 #[.int .i64 a, .int .i64 b] wx fun e w' => e = .returned (.bool true) ∧ wx = w') := Lib.hid (fun wx => by
      have := stands_any a b wx
      rw [decide_eq_true hst] at this
      exact this)
    by_cases hmx : b + (m : Int) ≤ 1099511627776
    · rw [if_pos ⟨hst.1, hst.2.1, hst.2.2.1, hmx⟩] at HCL
      rw [HCL.out, cutU_len]
      have dm : decide (1099511627776 - b < (m : Int)) = false := decide_eq_false (by omega)
      have HA := Lib.hid hst
      have hb0 := hst.2.2.1
      clear hst HCL
      go_enter Try.func22, Try.ntmps22
      go_wp2_with fail
      refine (HM.out _).mono ?_
      rintro e wx ⟨rfl, rfl⟩
      go_wp2_with fail
      refine (HS.out _).mono ?_
      rintro e wx ⟨rfl, rfl⟩
      go_wp2_with fail
      go_loopw [8, 9, 29] (fun v lf i wr => ∃ k q : Nat, k ≤ m ∧ i = .int .i64 (k : Int) ∧ (∃ A1 c1, v = .slice A1 k c1 ∧ wr.ownsRow w1.heap.size 25 5 v k (rws pcel (cutU a b r k))) ∧
        (∃ A2 c2, lf = .slice A2 q c2 ∧ q ≤ c2 ∧ Sees wr w1.heap.size A2 (bvs (r.drop (52 * k)))) ∧ Hid (q = n - 52 * k) ∧ Below w1.heap.size w1 wr) (fun _ _ i _ => m - (intOf i).toNat)
      case atStart => exact ⟨0, n, by omega, rfl, ⟨none, 0, rfl, World.ownsRow_nil _ _ _ _⟩, ⟨_, c0, rfl, hc0, hs1⟩, Lib.hid rfl, Below.refl _ _⟩
      case round =>
        obtain ⟨k, q, hk, rfl, ⟨A1, c1, rfl, hrow⟩, ⟨A2, c2, rfl, hqc, hs2⟩, HQ, hbr⟩ := hrel
        clear hcv
        by_cases hlt : k < m
        · have d1 : decide ((k : Int) < (m : Int)) = true := decide_eq_true (by omega)
          obtain ⟨hc1, hc2, hc3⟩ := HCUT.out k hlt
          obtain ⟨s, hs⟩ : ∃ s, s = min q 52 := ⟨_, rfl⟩
          have hsq : s ≤ q := by omega
          have hmin : min (q : Int) 52 = (s : Int) := by omega
          have HSS := Lib.hid hs
          have hl2 : (bvs (r.drop (52 * k))).length = q := by rw [bvs_length, List.length_drop, HQ.out, HN.out]
          obtain ⟨A3, hcut3, hs3⟩ := cut3_fact (P := Try.prog) 58 5 i0 Try.underlying58 hi hz1 hs2 q s c2 hsq hqc
          obtain ⟨A4, hcut4, hs4⟩ := cut_fact (P := Try.prog) 58 5 i0 Try.underlying58 hi hz1 hs2 q (q - s) s c2 (s : Int) .i64 hl2 (by omega) rfl hqc
          have e3 : (bvs (r.drop (52 * k))).take s = bvs (chk r k) := by
            unfold chk
            show ((r.drop (52 * k)).map _).take s = ((r.drop (52 * k)).take 52).map _
            rw [← List.map_take]
            congr 1
            by_cases h5 : q ≤ 52
            · rw [List.take_of_length_le (by rw [List.length_drop]; have := HQ.out; have := HN.out; omega), List.take_of_length_le (by rw [List.length_drop]; have := HQ.out; have := HN.out; omega)]
            · rw [show s = 52 by omega]
          rw [e3] at hs3
          have hls : (chk r k).length = s := by rw [chk_len, ← HN.out, ← HQ.out, HSS.out]
          have hstr := run_str (P := Try.prog) wr w1.heap.size 58 5 9 Try.underlying58 Try.underlying5 Try.underlying9 A3 s s (chk r k) hls hs3
          obtain ⟨f0, hf0⟩ : ∃ f0, f0 = decide (k = 0) := ⟨_, rfl⟩
          obtain ⟨f1, hf1⟩ : ∃ f1, f1 = decide (k + 1 = m) := ⟨_, rfl⟩
          obtain ⟨sb, hsb⟩ : ∃ sb, sb = str (chk r k) := ⟨_, rfl⟩
          have HPC : Hid (pcel (pcAt a b r k) = [.int .i64 a, .int .i64 (b + (k : Int)), .bool f0, .bool f1, .string sb]) := Lib.hid (by unfold pcel pcAt; dsimp only; rw [hf0, hf1, hsb, HMN.out])
          have k0 : ((k : Int) == 0) = f0 := by rw [hf0, Bool.eq_iff_iff]; simp
          have k1 : ((k : Int) == (m : Int) - 1) = f1 := by rw [hf1, Bool.eq_iff_iff]; simp; omega
          rw [← hsb] at hstr
          have HR4 := Lib.hid (World.ownsRow.alloc hrow (.cells #[.int .i64 a, .int .i64 (b + (k : Int)), .bool f0, .bool f1, .string sb] 25))
          have HS4 := Lib.hid hs4
          have HBR := Lib.hid hbr
          have hbs := hbr.size
          have ONE := pcel_one (a, b + (k : Int), f0, f1, chk r k)
          rw [show pcel (a, b + (k : Int), f0, f1, chk r k) = [.int .i64 a, .int .i64 (b + (k : Int)), .bool f0, .bool f1, .string sb] from by unfold pcel; rw [hsb]] at ONE
          clear hf0 hf1 hsb hs hls hs3 hs4 hl2 e3 hrow hs2 hc1 hc2 hc3 hbr hb1 hs1
          go_wp2_with (first
            | (at_builtin
               refine wpList_appk _ rfl (.tmp 42) (.tmp 56) 42 rfl w1.heap.size 25 i1 _ 5 40 Try.underlying42 ji jz0 jz1 jz2 rfl (by decide) (.slice A1 k c1) k (rws pcel (cutU a b r k)) rfl HR4.out (wr.heap.size + 1) (some ⟨wr.heap.size, 0, none⟩) 1 [.int .i64 a, .int .i64 (b + (k : Int)), .bool f0, .bool f1, .string sb] 1 rfl rfl (sees_lit wr _ 25 (0, 0) _ rfl) ONE (by unfold maxLen; omega) (by omega) (by simp; omega) ?_
               intro A5 c5 w5 hr5 hb5 hg5 hat5)
            | fail)
          rw [← HPC.out, ← rws_one pcel, ← rws_append, ← cutU_snoc] at hr5
          have hb6 : Below w1.heap.size w1 w5 := (HBR.out.alloc hbs _).trans hb5
          have hb7 : Below w1.heap.size wr w5 := ((Below.refl wr.heap.size wr).alloc (Nat.le_refl _) (.cells #[.int .i64 a, .int .i64 (b + (k : Int)), .bool f0, .bool f1, .string sb] 25)).mono hbs |>.trans hb5
          go_roundw
          case rel =>
            refine ⟨k + 1, q - s, by omega, by go_num, ⟨A5, c5, rfl, hr5⟩, ⟨A4, c2 - s, rfl, by omega, ?_⟩, Lib.hid ?_, hb6⟩
            · have h9 := HS4.out.below hb7
              rw [show (bvs (r.drop (52 * k))).drop s = bvs (r.drop (52 * (k + 1))) from by
                show ((r.drop (52 * k)).map _).drop s = (r.drop (52 * (k + 1))).map _
                rw [← List.map_drop, List.drop_drop]
                have := HQ.out
                have := HN.out
                have := HSS.out
                by_cases h5 : q ≤ 52
                · rw [List.drop_eq_nil_of_le (by omega), List.drop_eq_nil_of_le (by omega)]
                · rw [show 52 * k + s = 52 * (k + 1) by omega]] at h9
              exact h9
            · have := HQ.out
              have := HSS.out
              omega
          case measure => simp [intOf]; omega
        · obtain rfl : k = m := by omega
          have d1 : decide ((k : Int) < (k : Int)) = false := by simp
          have HR4 := Lib.hid (row_lower hrow hb1.size)
          have HB4 := Lib.hid (hb1.trans (hbr.mono hb1.size))
          clear hrow hs1 hs2 hbr hb1
          go_wp2_with fail
          go_ret
          exact ⟨A1, c1, rfl, HR4.out, HB4.out⟩
    · rw [if_neg (fun h => hmx h.2.2.2)] at HCL
      rw [HCL.out]
      have dm : decide (1099511627776 - b < (m : Int)) = true := decide_eq_true (by omega)
      have hb0 := hst.2.2
      clear hcv hb1 hs1 hst HCL
      go_enter Try.func22, Try.ntmps22
      go_wp2_with fail
      refine (HM.out _).mono ?_
      rintro e wx ⟨rfl, rfl⟩
      go_wp2_with fail
      refine (HS.out _).mono ?_
      rintro e wx ⟨rfl, rfl⟩
      go_wp2_with fail
      go_ret
      exact ⟨none, 0, rfl, World.ownsRow_nil _ _ _ _, Below.refl _ _⟩
  · have HS : Hid (∀ wx, Calls Try.prog 26 #[.int .i64 a, .int .i64 b] wx fun e w' => e = .returned (.bool false) ∧ wx = w') := Lib.hid (fun wx => by
      have := stands_any a b wx
      rw [decide_eq_false hst] at this
      exact this)
    rw [if_neg (fun h => hst ⟨h.1, h.2.1, h.2.2.1, by omega⟩)] at HCL
    rw [HCL.out]
    clear hcv hb1 hs1 HCL
    go_enter Try.func22, Try.ntmps22
    go_wp2_with fail
    refine (HM.out _).mono ?_
    rintro e wx ⟨rfl, rfl⟩
    go_wp2_with fail
    refine (HS.out _).mono ?_
    rintro e wx ⟨rfl, rfl⟩
    go_wp2_with fail
    go_ret
    exact ⟨none, 0, rfl, World.ownsRow_nil _ _ _ _, Below.refl _ _⟩
end Go.Proofs.Ytgoebblcggdlgaa
