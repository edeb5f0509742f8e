/- OctetBack: what was put is read, whatever stands behind it: for every input. No condition. -/
import Derived.Test.YtgnkkbgphghioaaOctE
import Derived.Test.YtgnkkbgphghioaaBase
namespace Go.Proofs.Ytgnkkbgphghioaa
set_option linter.unusedVariables false
open Go.ChangeShapes Go.WideShapes Go.ChangeAt Go.RowKit OctM
open Go.ChangeMaps (open_string shut_string)

theorem num_put (pre rest : List UInt8) (n : Nat) (most : Int) (hn : n ≤ 1099511627776) (hm : (n : Int) ≤ most) :
    numOut (pre ++ (enc n ++ rest)) pre.length 0 most = (n, pre.length + (enc n).length, 0) := by
  unfold numOut
  rw [List.drop_left, scan_put n hn]
  rw [if_neg (by simp), if_neg (by simp), if_neg (by simp; omega)]
theorem str_put (pre t rest : List UInt8) (most : Int) (hn : t.length ≤ 1099511627776) (hm : (t.length : Int) ≤ most) :
    strOut (pre ++ (enc t.length ++ (t ++ rest))) pre.length 0 most = (t, pre.length + (enc t.length).length + t.length, 0) := by
  unfold strOut
  rw [num_put pre (t ++ rest) t.length most hn hm]
  rw [if_neg (by simp), if_neg (by simp), if_neg (by simp; omega)]
  have e1 : pre ++ (enc t.length ++ (t ++ rest)) = (pre ++ enc t.length) ++ (t ++ rest) := by simp
  have e2 : pre.length + (enc t.length).length = (pre ++ enc t.length).length := by simp
  simp only [e1, e2, List.drop_left, List.take_left]
theorem flag_put (pre rest : List UInt8) (b : Bool) :
    flagOut (pre ++ (enc (truth b) ++ rest)) pre.length 0 = (b, pre.length + (enc (truth b)).length, 0) := by
  unfold flagOut
  rw [num_put pre rest (truth b) 1099511627776 (by cases b <;> simp [truth]) (by cases b <;> simp [truth])]
  rw [if_neg (by simp), if_neg (by cases b <;> simp [truth])]
  cases b <;> simp [truth]

theorem awake_num : numOut [128, 0] 0 0 9 = (0, 0, 3) := by
  simp [numOut, scan]
theorem enc300 : enc (held 300) = [172, 2] := by
  rw [show held 300 = 300 from by simp [held]; rfl, enc_high (by omega), enc_low (by omega)]
  rfl

theorem Rd.below {w w' : World} {base g : Nat} {l : List UInt8} {at_ : Nat} {err : Int} (h : Rd w base g l at_ err) (hb : Below w.heap.size w w') : Rd w' base g l at_ err := by
  have hg := h.block.2
  obtain ⟨A, c, h1, h2, h3, h4⟩ := h
  refine ⟨A, c, h1, h2, ?_, h4.below (hb.mono (Nat.le_of_lt hg))⟩
  refine ⟨h3.1, ?_⟩
  rcases h3.2 with ⟨hv, _⟩ | ⟨g', cap, cur, hv, hb', hh, h5⟩
  · cases hv
  · have e1 : g = g' := by injection hv with hv; injection hv with hv; injection hv
    subst e1
    exact .inr ⟨g, cap, cur, hv, hb', by rw [hb.block g hg]; exact hh, h5⟩

set_option maxHeartbeats 800000 in
theorem oct_awake (w : World) : Calls Try.prog 13 #[] w fun e w' => e = .returned (.bool true) ∧ Below w.heap.size w w' := by
  have HN := Lib.hid awake_num
  have HE := Lib.hid enc300
  go_enter Try.func13, Try.ntmps13
  go_wp2_with fail
  refine (rd_new _ 2 2 [128, 0] _ rfl (by have h := sees_lit w #[Value.int IntKind.u8 128, Value.int IntKind.u8 0] 5 (0, 0) (bvs [128, 0]) rfl; simpa using h) (by omega)).mono ?_
  rintro e w1 ⟨g, rfl, rd, b1⟩
  go_wp2_with fail
  refine (rd_num _ g [128, 0] 0 0 9 w1 rd (by simp) (by simp)).mono ?_
  rintro e w2 ⟨rfl, rd2, g2⟩
  rw [HN.out] at rd2 ⊢
  go_wp2_with fail
  refine (oct_num none 0 0 [] 300 w2 rfl (Sees.nil_) (by omega)).mono ?_
  rintro e w3 ⟨A3, c3, rfl, o3, b3⟩
  rw [HE.out, List.nil_append] at o3 ⊢
  have hstr := run_str (P := Try.prog) w3 w3.heap.size 22 5 9 Try.underlying22 Try.underlying5 Try.underlying9 A3 2 c3 [172, 2] rfl o3.sees
  have hsl := str_list [172, 2]
  go_wp2_with fail
  refine (rd_err _ g _ _ _ w3 (rd2.below b3)).mono ?_
  rintro e w4 ⟨rfl, rfl⟩
  go_wp2
  go_ret
  refine ⟨rfl, ?_⟩
  have hsz := b1.size
  have hz2 := g2.size
  have hB : Below w.heap.size w (w.alloc (Obj.cells #[Value.int IntKind.u8 128, Value.int IntKind.u8 0] 5)) := (Below.refl _ _).alloc (Nat.le_refl _) _
  have hB1 : Below w.heap.size w w1 := hB.trans (b1.mono (by simp))
  have hgb := rd.block.1
  have hB2 : Below w.heap.size w w2 := hB1.grown g2 hB1.size (fun k hk => by cases hk; simp at hgb; omega)
  exact hB2.trans (b3.mono hB2.size)

theorem sees_on {w w' : World} {A : Option Addr} {xs : List Value} (h : Sees w w.heap.size A xs) (hb : Below w.heap.size w w') : Sees w' w'.heap.size A xs := (h.below hb).more hb.size
theorem on_below {w w1 w2 : World} (h : Below w.heap.size w w1) (h2 : Below w1.heap.size w1 w2) : Below w.heap.size w w2 := h.trans (h2.mono h.size)
theorem grown_on {w w1 w2 : World} {base g : Nat} {l : List UInt8} {a : Nat} {e : Int} (h : Below w.heap.size w w1) (hr : Rd w1 base g l a e) (hb : w.heap.size ≤ base) (hg : w1.grownBy w2 (some g)) : Below w.heap.size w w2 :=
  h.grown hg h.size (fun k hk => by cases hk; have := hr.block.1; omega)

set_option maxHeartbeats 3200000 in
theorem walk_back_main (k : Nat) (t : List UInt8) (A : Option Addr) (c : Nat) (m : List UInt8) (w : World) (hnc : m.length ≤ c) (hcm : c ≤ maxLen) (hs : Sees w w.heap.size A (bvs m)) (h1 : k ≤ 1099511627776) (h2 : t.length ≤ 1000) (h3 : m.length ≤ 1000) :
    Calls Try.prog 5 #[.int .i64 (k : Int), .string (str t), .slice A m.length c] w fun e w' => e = .returned (.bool true) ∧ Below w.heap.size w w' := by
  obtain ⟨i0, hi, hz0, hz1, hz2⟩ := oct_parts
  have hh : held (k : Int) = k := by have := held_self (n := (k : Int)) (by omega) (by omega); omega
  have HH := Lib.hid hh
  have hsz := str_size t
  have hsl := str_list t
  have hel := held_len (k : Int)
  rw [hh] at hel
  have het : (enc t.length).length ≤ 6 := enc_len 5 _ (by simp; omega)
  obtain ⟨b, hb⟩ : ∃ b, b = decide (k % 2 = 1) := ⟨_, rfl⟩
  have hkb : ((k : Int) % 2 == 1) = b := by rw [hb, Bool.eq_iff_iff]; simp; omega
  have heb : (enc (truth b)).length ≤ 1 := enc_len 0 _ (by cases b <;> simp [truth])
  obtain ⟨l3, hl3⟩ : ∃ l3, l3 = enc k ++ (enc t.length ++ t) ++ enc (truth b) := ⟨_, rfl⟩
  have hn3 : l3.length = (enc k).length + ((enc t.length).length + t.length) + (enc (truth b)).length := by rw [hl3]; simp; omega
  have f1 : numOut (l3 ++ m) 0 0 (k : Int) = (k, (enc k).length, 0) := by
    have := num_put [] ((enc t.length ++ t) ++ (enc (truth b) ++ m)) k (k : Int) h1 (by omega)
    rw [hl3]; simpa using this
  have f2 : strOut (l3 ++ m) (enc k).length 0 (t.length : Int) = (t, (enc k).length + (enc t.length).length + t.length, 0) := by
    have := str_put (enc k) t (enc (truth b) ++ m) (t.length : Int) (by omega) (by omega)
    rw [hl3]; simpa using this
  have f3 : flagOut (l3 ++ m) ((enc k).length + (enc t.length).length + t.length) 0 = (b, l3.length, 0) := by
    have := flag_put (enc k ++ (enc t.length ++ t)) m b
    rw [hn3, hl3]
    simpa [Nat.add_assoc] using this
  have hl0 : 0 < l3.length := by have := enc_pos k; omega
  obtain ⟨p1, hp1⟩ : ∃ p1, p1 = (enc k).length := ⟨_, rfl⟩
  obtain ⟨p2, hp2⟩ : ∃ p2, p2 = (enc k).length + (enc t.length).length + t.length := ⟨_, rfl⟩
  have hq1 : p1 ≤ (l3 ++ m).length := by rw [List.length_append]; omega
  have hq2 : p2 ≤ (l3 ++ m).length := by rw [List.length_append]; omega
  rw [← hp2] at f2 f3
  rw [← hp1] at f1 f2
  have hn3b : l3.length ≤ 1020 := by omega
  have HL3 := Lib.hid hl3
  have F1 := Lib.hid f1
  have F2 := Lib.hid f2
  have F3 := Lib.hid f3
  obtain ⟨n3, hn3'⟩ : ∃ n3, n3 = l3.length := ⟨_, rfl⟩
  have HN3 := Lib.hid hn3'
  have HL := Lib.hid (show (l3 ++ m).length = n3 + m.length from by rw [List.length_append, hn3'])
  have HQ1 := Lib.hid hq1
  have HQ2 := Lib.hid hq2
  rw [← hn3'] at hn3b hl0
  have HP1 := Lib.hid hp1
  clear hh hb hl3 hn3 f1 f2 f3 hn3' hp1 hp2 hq1 hq2
  have d0 : decide ((k : Int) < 0) = false := by simp
  have d1 : decide ((1099511627776 : Int) < (k : Int)) = false := by simp; omega
  have d2 : decide ((1000 : Int) < (t.length : Int)) = false := by simp; omega
  have d3 : decide ((1000 : Int) < (m.length : Int)) = false := by simp; omega
  go_enter Try.func5, Try.ntmps5
  go_wp2_with fail
  refine (oct_num none 0 0 [] (k : Int) w rfl (Sees.nil_) (by omega)).mono ?_
  rintro e w1 ⟨A1, c1, rfl, o1, b1⟩
  rw [HH.out, List.nil_append] at o1 ⊢
  go_wp2_with fail
  refine (oct_str A1 _ c1 (enc k) t t.length w1 rfl o1.sees (by omega) rfl (by omega)).mono ?_
  rintro e w2 ⟨A2, c2, rfl, o2, b2'⟩
  have b2 := on_below b1 b2'
  have s2 := o2.sees
  have HFL := Lib.hid (oct_flag A2 ((enc k).length + ((enc t.length).length + t.length)) c2 (enc k ++ (enc t.length ++ t)) b w2 (by simp) s2 (by omega))
  rw [← HL3.out] at HFL
  clear o1 o2 s2
  go_wp2_with fail
  refine HFL.out.mono ?_
  rintro e w3 ⟨A3, c3, rfl, o3, b3'⟩
  have b3 := on_below b2 b3'
  rw [← HN3.out] at o3 ⊢
  have s3 := o3.sees
  have hs3 := sees_on hs b3
  clear o3 HFL
  go_wp2_with (first
    | (at_builtin
       refine wpList_app _ rfl (.tmp 37) (.tmp 38) _ rfl w3.heap.size 5 i0 _ 1 Try.underlying22 hi hz0 hz1 hz2 rfl (.slice (some ⟨w3.heap.size, 0, none⟩) 0 0) [] 0 rfl rfl (own_lit w3 w3.heap.size 5 #[] (Nat.le_refl _) (by simp [maxLen])) w3.heap.size A3 c3 (bvs l3) n3 rfl (by rw [bvs_length, HN3.out]) (s3.alloc (Nat.le_refl _) _) (bvs_one _) (by simp [maxLen]; omega) (by omega) (by simp) ?_
       intro A4 c4 w4 o4 b4' hg4 hat4; simp only [Nat.zero_add, List.nil_append] at o4 hat4
       have b4 := on_below b3 (((Below.refl _ _).alloc (Nat.le_refl _) _).trans b4')
       have hz4 := b4'.size
       simp only [World.alloc] at hz4)
    | (at_builtin
       refine wpList_app _ rfl (.tmp 39) (.tmp 40) _ rfl w3.heap.size 5 i0 _ 1 Try.underlying22 hi hz0 hz1 hz2 rfl (.slice A4 n3 c4) (bvs l3) n3 rfl (by rw [bvs_length, HN3.out]) o4 w3.heap.size A c (bvs m) m.length rfl (bvs_length m) ((hs3.alloc (Nat.le_refl _) _).below b4') (bvs_one _) (by simp [maxLen]; omega) (by omega) (((Below.refl _ _).alloc (Nat.le_refl _) _).trans b4').size ?_
       intro A5 c5 w5 o5 b5' hg5 hat5
       have b5 := on_below b3 ((((Below.refl _ _).alloc (Nat.le_refl _) _).trans b4').trans b5'))
    | fail)
  rw [← bvs_append] at o5
  refine (rd_new A5 (n3 + m.length) c5 (l3 ++ m) w5 HL.out o5.sees (by omega)).mono ?_
  rintro e w6 ⟨g, rfl, r6, b6'⟩
  have b6 := on_below b5 b6'
  have hbase := b5.size
  go_wp2_with fail
  refine (rd_num _ g (l3 ++ m) 0 0 (k : Int) w6 r6 (Nat.zero_le _) (by rw [HL.out]; omega)).mono ?_
  rintro e w7 ⟨rfl, r7, g7⟩
  rw [F1.out] at r7 ⊢
  have b7 := grown_on b6 r6 hbase g7
  go_wp2_with fail
  refine (rd_str _ g (l3 ++ m) p1 0 (t.length : Int) w7 r7 HQ1.out (by rw [HL.out]; omega)).mono ?_
  rintro e w8 ⟨rfl, r8, g8⟩
  rw [F2.out] at r8 ⊢
  have b8 := grown_on b7 r7 hbase g8
  go_wp2_with fail
  refine (rd_flag _ g (l3 ++ m) p2 0 w8 r8 HQ2.out (by rw [HL.out]; omega)).mono ?_
  rintro e w9 ⟨rfl, r9, g9⟩
  rw [F3.out] at r9 ⊢
  have b9 := grown_on b8 r8 hbase g9
  go_wp2_with fail
  refine (rd_err _ g (l3 ++ m) _ _ w9 r9).mono ?_
  rintro e w10 ⟨rfl, rfl⟩
  go_wp2_with fail
  refine (rd_left _ g (l3 ++ m) _ _ w9 r9 (by rw [List.length_append]; omega) (by rw [HL.out]; omega)).mono ?_
  rintro e w11 ⟨rfl, nk, rfl⟩
  rw [show (((l3 ++ m).length : Nat) : Int) - (l3.length : Int) = (m.length : Int) from by rw [List.length_append]; omega]
  go_wp2_with fail
  refine (oct_awake _).mono ?_
  rintro e w12 ⟨rfl, b12'⟩
  go_wp2
  go_ret
  exact ⟨rfl, on_below (below_drewN b9 nk) b12'⟩

set_option maxHeartbeats 800000 in
theorem walk_back (z : Int) (s : ByteArray) (A : Option Addr) (c : Nat) (m : List UInt8) (w : World) (hnc : m.length ≤ c) (hcm : c ≤ maxLen) (hs : Sees w w.heap.size A (bvs m)) (hsz : s.size ≤ 9223372036854775807) :
    Calls Try.prog 5 #[.int .i64 z, .string s, .slice A m.length c] w fun e w' => e = .returned (.bool true) ∧ Below w.heap.size w w' := by
  have hlm : m.length ≤ 9223372036854775807 := by unfold maxLen at hcm; omega
  by_cases h0 : z < 0
  · have d0 : decide (z < 0) = true := decide_eq_true h0
    go_enter Try.func5, Try.ntmps5
    go_wp2_with fail
    refine (oct_awake _).mono ?_
    rintro e w3 ⟨rfl, b3⟩
    go_wp2
    go_ret
    exact ⟨rfl, b3⟩
  · have d0 : decide (z < 0) = false := decide_eq_false h0
    by_cases h1 : 1099511627776 < z
    · have d1 : decide ((1099511627776 : Int) < z) = true := decide_eq_true h1
      go_enter Try.func5, Try.ntmps5
      go_wp2_with fail
      refine (oct_awake _).mono ?_
      rintro e w3 ⟨rfl, b3⟩
      go_wp2
      go_ret
      exact ⟨rfl, b3⟩
    · have d1 : decide ((1099511627776 : Int) < z) = false := decide_eq_false h1
      by_cases h2 : 1000 < s.size
      · have d2 : decide ((1000 : Int) < (s.size : Int)) = true := by simp; omega
        go_enter Try.func5, Try.ntmps5
        go_wp2_with fail
        refine (oct_awake _).mono ?_
        rintro e w3 ⟨rfl, b3⟩
        go_wp2
        go_ret
        exact ⟨rfl, b3⟩
      · have d2 : decide ((1000 : Int) < (s.size : Int)) = false := by simp; omega
        by_cases h3 : 1000 < m.length
        · have d3 : decide ((1000 : Int) < (m.length : Int)) = true := by simp; omega
          go_enter Try.func5, Try.ntmps5
          go_wp2_with fail
          refine (oct_awake _).mono ?_
          rintro e w3 ⟨rfl, b3⟩
          go_wp2
          go_ret
          exact ⟨rfl, b3⟩
        · obtain ⟨k, rfl⟩ := Int.eq_ofNat_of_zero_le (by omega : 0 ≤ z)
          obtain ⟨t, rfl⟩ : ∃ t, s = str t := ⟨s.data.toList, (str_eta s).symm⟩
          rw [str_size] at h2
          exact walk_back_main k t A c m w hnc hcm hs (by omega) (by omega) (by omega)

set_option maxRecDepth 100000 in
theorem octetBack_lifted (os : Os) (started : os.Started) (H : Type) (enc : TypeId × Value → H) :
    ReturnsInHanded {} Try.checked os 5 .any (Rows.octetBackSpec.pre6 enc Try.prog Try.f5 Rows.octetBackRow.domain false)
      (Rows.octetBackSpec.post enc Try.prog Try.f5 false true false false) := by
  refine returnsInHanded_of_change (C := Try.checked) own started (by kernel_rfl) Try.func5
    (ChangeSpec.witness6 (enc := enc) (C := Try.checked) false ⟨#[], #[.int .i64 0, .string .empty, .slice none 0 0], []⟩ 8 (by kernel_rfl) (by kernel_rfl) (by kernel_rfl) (by kernel_rfl)) ?_
  intro W base args ds gs before hval hW _ _
  have hW' := hW
  obtain ⟨p, q, hA, hV, rfl, hfz, hnd⟩ := hW
  rw [Try.params5] at hA hval
  obtain ⟨v0, vs0, d0, ds0, p0, q0, hargs, rfl, rfl, h0, r0⟩ := trodAll_cons hA
  obtain ⟨v1, vs1, d1, ds1, p1, q1, rfl, rfl, rfl, h1, r1⟩ := trodAll_cons r0
  obtain ⟨v2, vs2, d2, ds2, p2, q2, rfl, rfl, rfl, h2, r2⟩ := trodAll_cons r1
  obtain ⟨rfl, rfl, rfl⟩ := trodAll_nil r2
  obtain rfl : args = #[v0, v1, v2] := by cases args; simp_all
  obtain ⟨a0, rfl, rfl, rfl, wf0⟩ := open_int Try.underlying3 (hval 0 3 v0 rfl rfl) h0
  obtain ⟨s1, rfl, rfl, rfl, hsz1⟩ := open_string Try.underlying9 (hval 1 9 v1 rfl rfl) h1
  obtain ⟨A2, n2, c2, l2, rfl, hnc2, hcm2, rfl, hs2⟩ := open_bytes Try.underlying22 Try.underlying5 (by kernel_rfl) (hval 2 22 v2 rfl rfl) h2
  refine (walk_back a0 s1 A2 c2 l2 W hnc2 hcm2 hs2 (by have := hsz1; unfold maxLen at this; omega)).mono fun e W' ⟨he, hb⟩ => ?_
  subst he
  exact ⟨_, rfl, law_post laidOut (by intro t ht; revert t ht; decide +kernel) rfl rfl boolT rfl hW' hb⟩

theorem OctetBack_holds : Rows.OctetBackSaid :=
  OpenClaim.holds_of_wide 5 Try.f5 rfl rfl rfl rfl rfl rfl rfl ⟨rfl, rfl, rfl, rfl, rfl⟩ rfl rfl rfl rfl rfl (by kernel_rfl) Try.func5 (by kernel_rfl)
    (of_decide_eq_true (by kernel_rfl)) (by unfold Func.isWrapper; first | (rw [if_pos (by decide +kernel)]; kernel_rfl) | (rw [if_neg (by decide +kernel)]; exact ⟨rfl, rfl⟩))
    (fun os started H enc _ => octetBack_lifted os started H enc)
end Go.Proofs.Ytgnkkbgphghioaa
