/- The program's Push: what waits behind it. -/
import Derived.Test.YtjlpccdlpgkgoaaQeB
import Derived.Test.YtjlpccdlpgkgoaaCardX
import Derived.Test.YtjlpccdlpgkgoaaCardQ
import Derived.Test.YtjlpccdlpgkgoaaRowN
namespace Go.Proofs.Ytjlpccdlpgkgoaa
set_option linter.unusedVariables false
set_option linter.unusedSimpArgs false
open Go Go.RowKit Go.Shelf BitM
attribute [local go_sem] Oper.semAt_some

theorem wpListIn_appk {F : Fence} {nn : Nat} {P : Program} (w : World) {ops : Array Oper} {rest : List Oper} {o : Oper} {a : Act} {Q : Exit → Act → World → Prop} (hgd : o.guard = none) (s x : Operand) (t : TypeId)
    (ho : o.op = .call { callee := .builtin .append, args := #[s, x], argTypes := #[t, t] })
    (base : Nat) (e : TypeId) (i : TypeInfo) (z : Value) (size bytes : Nat) (ht : P.underlying t = some (.slice e)) (hi : P.info? e = some i) (hz : i.zero = some z)
    (hsize : i.size = size) (hby : i.bytes = bytes) (hzs : z.cells.size = size) (hpos : 0 < size) (v : Value) (n : Nat) (xs : List Value) (hv : a.eval s = v) (hown : w.ownsRow base e size v n xs)
    (B : Nat) (A : Option Addr) (c : Nat) (news : List Value) (m : Nat) (hx : a.eval x = .slice A m c) (hn : news.length = m * size) (hs : Sees w B A news) (h1 : ∀ u ∈ news, u.oneCell' = true)
    (h63 : n + m ≤ maxLen) (hbytes : (n + m) * bytes ≤ 140737488355328) (hbase : base ≤ w.heap.size)
    (h : ∀ A' c' w', w'.ownsRow base e size (.slice A' (n + m) c') (n + m) (xs ++ news) → w.grownBy w' v.ownBlock → wpListIn F nn P ops Q rest (a.put o.dst (.slice A' (n + m) c')) w') : wpListIn F nn P ops Q (o :: rest) a w := by
  obtain ⟨A', c', w', hrun, hr, hg, _⟩ := run_appk (P := P) w base t o.type e i z size bytes ht hi hz hsize hby hzs hpos v n xs hown B A m c news hn hs h1 h63 hbytes hbase
  refine wpListIn_plain hgd fun K hK' => ?_
  unfold Oper.wpIn
  refine ⟨fun f hf => (by simp [Oper.about, ho, Target.leads, resolve] at hf), ?_⟩
  rw [Oper.semAt_plain F _ _ (by rw [ho]; intro c hc; cases hc)]
  unfold execOp
  simp only [ho, resolve, invoke, builtin, Sem.run_bind, Sem.run_pure, Result.andThen_ok, List.map_toArray, List.map_cons, List.map_nil, hv, hx, hrun]
  exact hK' _ _ (h A' c' w' hr hg)
theorem Blk.owned {X Y : World} {g : Nat} {cs : List Value} {row : Option Nat} (h : Blk X g cs) (hg : X.grownBy Y row) (hr : ∀ r, row = some r → ∃ o : Obj, X.heap[r]? = some o ∧ o.isCells = false) : Blk Y g cs :=
  h.kept hg (fun e => by
    obtain ⟨o, ho, hc⟩ := hr g e
    obtain ⟨t, ht⟩ := h
    rw [ht] at ho
    cases ho
    cases hc)
/-- The version behind writes of one card. -/
def qb (ver : Int) (pre : List Wr) : Int := pre.foldl (fun b x => x.2.1 + 1) ver
theorem qb_snoc (ver : Int) (pre : List Wr) (x : Wr) : qb ver (pre ++ [x]) = x.2.1 + 1 := by unfold qb; rw [List.foldl_append]; rfl
theorem qb_mine (id : Int) : ∀ (l : List Wr) (ver : Int), qb ver (mine id l) = qbase l id ver
  | [], ver => rfl
  | x :: l, ver => by
    rw [qbase_cons]
    unfold mine
    rw [List.filter_cons]
    by_cases h : x.1 = id
    · rw [if_pos (by simpa using h), if_pos h]
      exact qb_mine id l _
    · rw [if_neg (by simpa using h), if_neg h]
      exact qb_mine id l _
/-- What stands while the versions are looked through. -/
structure PI (w : World) (s9 Bl Bi n c : Nat) (A : Option Addr) (id ver : Int) (cc pc : List Value) (pre : List Wr) (W : World) : Prop where
  b9 : Blk W s9 [.int .i64 (qb ver pre)]
  bl : Blk W Bl [.slice A n c]
  bi : Blk W Bi [.int .i64 id]
  bc : Blk W w.heap.size cc
  bp : Blk W (w.heap.size + 1) pc
  be : Below w.heap.size w W
  z : s9 + 3 ≤ W.heap.size
theorem PI.own (w : World) (s9 Bl Bi n c : Nat) (A : Option Addr) (id ver : Int) (cc pc : List Value) (B : Nat) (hB : w.heap.size ≤ B) : OwnFrom B (fun (pre : List Wr) W => PI w s9 Bl Bi n c A id ver cc pc pre W) := by
  intro s X Y row h hg hr
  have hr2 : ∀ r, row = some r → ∃ o : Obj, X.heap[r]? = some o ∧ o.isCells = false := fun r e => (hr r e).2
  exact ⟨h.b9.owned hg hr2, h.bl.owned hg hr2, h.bi.owned hg hr2, h.bc.owned hg hr2, h.bp.owned hg hr2, h.be.grown hg h.be.size (fun k e => Nat.le_trans hB (hr k e).1), Nat.le_trans h.z hg.size⟩
theorem PI.later {w : World} {s9 Bl Bi n c : Nat} {A : Option Addr} {id ver : Int} {cc pc : List Value} {pre : List Wr} {X Y : World} (h : PI w s9 Bl Bi n c A id ver cc pc pre X) (hb : Below X.heap.size X Y) : PI w s9 Bl Bi n c A id ver cc pc pre Y :=
  ⟨h.b9.later hb, h.bl.later hb, h.bi.later hb, h.bc.later hb, h.bp.later hb, h.be.trans (hb.mono h.be.size), Nat.le_trans h.z hb.size⟩
theorem PI.base {w : World} {s9 Bl Bi n c : Nat} {A : Option Addr} {id ver : Int} {cc pc : List Value} {pre : List Wr} {X : World} (h : PI w s9 Bl Bi n c A id ver cc pc pre X) (x : Wr) (h1 : Bl ≠ s9) (h2 : Bi ≠ s9) (h3 : w.heap.size + 1 < s9) :
    PI w s9 Bl Bi n c A id ver cc pc (pre ++ [x]) (X.setCell ⟨s9, 0, none⟩ (.int .i64 (x.2.1 + 1))) :=
  ⟨by rw [qb_snoc]; exact h.b9.set 0 _, h.bl.setOther 0 _ (fun e => h1 e.symm), h.bi.setOther 0 _ (fun e => h2 e.symm), h.bc.setOther 0 _ (by omega), h.bp.setOther 0 _ (by omega), h.be.setCell (p := ⟨s9, 0, none⟩) (by show w.heap.size ≤ s9; omega) _, by rw [size_setCell']; exact h.z⟩
def relWr (x : Wr) : Rel where
  rel v w := ∃ g, v = .slice (some ⟨g, 0, none⟩) 1 1 ∧ Blk w g (wrc x)
  mono := fun v w w' h ⟨g, e, hb⟩ => ⟨g, e, hb.later h⟩
  real := fun w ⟨_, e, _⟩ => by cases e
theorem run_qw1 (x : Wr) (hw : x.2.2.2.2.length = 8) (w : World) : (Instr.buildSlice 25 1 #[(0, .agg (wrc x).toArray)]).run Try.prog w = .ok (.slice (some ⟨w.heap.size, 0, none⟩) 1 1) (w.alloc (.cells (wrc x).toArray 55)) := by
  obtain ⟨i, b, m, l, f⟩ := x
  obtain ⟨⟨_, _, _⟩, ⟨_, _, _⟩, ⟨_, _, _⟩, ⟨_, _, _⟩, ⟨_, _, _⟩, ⟨_, _, _⟩, ⟨_, _, _⟩, ⟨_, _, _⟩, e⟩ := eight hw
  dsimp only at e
  subst e
  kernel_rfl
theorem wr1_gives {a : Act} {op : Oper} (y : Operand) (x : Wr) (ho : op.op = .buildSlice 25 1 #[(0, y)]) (hx : a.eval y = .agg (wrc x).toArray) (hw : x.2.2.2.2.length = 8) (w : World) : gives Try.prog op a (relWr x).rel w := by
  unfold gives execOp
  simp only [ho, List.map_toArray, List.map_cons, List.map_nil, hx, Sem.run_bind, run_qw1 x hw, Result.andThen_ok, Sem.run_pure]
  exact ⟨(Below.refl _ _).alloc (Nat.le_refl _) _, _, rfl, Blk.new w (wrc x) _⟩
theorem run_qwb (i b : Int) (m l : BitVec 32) (f : List V3) (hf : f.length = 8) (w : World) : (Instr.build 55 #[(0, .int .i64 i), (1, .int .i64 b), (2, .agg (pcells (m.toNat : Int) (l.toNat : Int) f).toArray)]).run Try.prog w = .ok (.agg (wrc (i, b, m, l, f)).toArray) w := by
  obtain ⟨⟨_, _, _⟩, ⟨_, _, _⟩, ⟨_, _, _⟩, ⟨_, _, _⟩, ⟨_, _, _⟩, ⟨_, _, _⟩, ⟨_, _, _⟩, ⟨_, _, _⟩, e⟩ := eight hf
  subst e
  kernel_rfl
theorem exec_qwb {a : Act} {op : Oper} (y0 y1 y2 : Operand) (ho : op.op = .build 55 #[(0, y0), (1, y1), (2, y2)]) (i b : Int) (m l : BitVec 32) (f : List V3) (hf : f.length = 8) (h0 : a.eval y0 = .int .i64 i) (h1 : a.eval y1 = .int .i64 b) (h2 : a.eval y2 = .agg (pcells (m.toNat : Int) (l.toNat : Int) f).toArray) (w : World) :
    (execOp a.eval op).run Try.prog w = .ok (.value (.agg (wrc (i, b, m, l, f)).toArray)) w := by
  unfold execOp
  simp only [ho, List.map_toArray, List.map_cons, List.map_nil, h0, h1, h2, Sem.run_bind, run_qwb i b m l f hf, Result.andThen_ok, Sem.run_pure]

/-- What Push gives: why it does not, or the writes in a row of its own. -/
def GivesPush (w : World) (T : TypeId) (n : Nat) (e0 : Int) (l' : List Wr) : Ending → World → Prop := fun e w' => Below w.heap.size w w' ∧
  ((e0 ≠ 0 ∧ e = .returned (.tuple #[.slice none 0 0, .int .i64 e0])) ∨ (e0 = 0 ∧ 12 ≤ n ∧ e = .returned (.tuple #[.slice none 0 0, .int .i64 8])) ∨
   (e0 = 0 ∧ n < 12 ∧ ∃ A c, e = .returned (.tuple #[.slice A (n + 1) c, .int .i64 0]) ∧ w'.ownsRow w.heap.size T 28 (.slice A (n + 1) c) (n + 1) (wrs l')))
theorem card_cell {w : World} {g : Nat} {id ver lab : Int} {f : List V3} (h : Blk w g (ccells id ver lab f)) : w.cell? ⟨g, 0, none⟩ = some (.int .i64 id) ∧ w.cell? ⟨g, 1, none⟩ = some (.int .i64 ver) := ⟨h.cell (j := 0) rfl, h.cell (j := 1) rfl⟩
theorem row_not {X : World} {D n₀ : Nat} {e : TypeId} {size n : Nat} {v : Value} {xs : List Value} (hr : X.ownsRow n₀ e size v n xs) (hK : X.heap[D]? = some (.deferred (some []))) : v.ownBlock ≠ some D := by
  intro h
  rcases hr.2 with ⟨rfl, _⟩ | ⟨g, cap, cur, rfl, _, hgb, _⟩
  · cases h
  · have hg : g = D := by simpa [Value.ownBlock] using h
    subst hg
    rw [hK] at hgb
    cases hgb

set_option maxRecDepth 100000 in
set_option maxHeartbeats 8000000 in
theorem push_any (A : Option Addr) (n c : Nat) (l : List Wr) (w : World) (id ver lab : Int) (cf : List V3) (x pl : BitVec 32) (f : List V3) (hcf : cf.length = 8) (hf : f.length = 8) (hn : l.length = n) (hw : Whole l) (hs : Sees w w.heap.size A (wrs l))
    (M : Int) (hlow : Low M l) (hM : M ≤ 4611686018427387904) (hv0 : 0 ≤ ver) (hv1 : ver ≤ M + 1) :
    Calls Try.prog 7 #[.slice A n c, .agg (ccells id ver lab cf).toArray, .agg (pcells (x.toNat : Int) (pl.toNat : Int) f).toArray] w (GivesPush w 55 n (pchk x (pl.toNat : Int) f) (l ++ [(id, qbase l id ver, x, pl, f)])) := by
  obtain ⟨i1, ji, jz0, jz1, jz2⟩ := info_parts info_qwd
  have hu := Try.underlying34
  have hl1 := (Below.refl w.heap.size w).alloc (Nat.le_refl _) (.cells (ccells id ver lab cf).toArray 32)
  have hl0 := hl1.alloc (by simp) (.cells (pcells (x.toNat : Int) (pl.toNat : Int) f).toArray 34)
  have BC := (Blk.new w (ccells id ver lab cf) 32).alloc (.cells (pcells (x.toNat : Int) (pl.toNat : Int) f).toArray 34)
  have BP := Blk.new (w.alloc (.cells (ccells id ver lab cf).toArray 32)) (pcells (x.toNat : Int) (pl.toNat : Int) f) 34
  have hz1 : (w.alloc (.cells (ccells id ver lab cf).toArray 32)).heap.size = w.heap.size + 1 := by simp
  rw [hz1] at BP
  have HCP := Lib.hid (fun wx => pcheck_any x (pl.toNat : Int) f wx hf)
  have HCL := Lib.hid (fun wx (h : Below w.heap.size w wx) => clone_wrs A n c l wx hn hw ((hs.below h).more h.size))
  have HS := Lib.hid (fun wx (h : Below w.heap.size w wx) => hs.below h)
  have HN := Lib.hid hn
  have HW := Lib.hid hw
  have HLOW := Lib.hid hlow
  have HQ := Lib.hid (qbase_low (id := id) hlow hv0 hv1)
  have HF := Lib.hid hf
  have HPL : Hid ((pcells (x.toNat : Int) (pl.toNat : Int) f).length = 26) := Lib.hid (pcells_len _ _ hf)
  have HBC := Lib.hid BC
  have HBP := Lib.hid BP
  have HL0 := Lib.hid hl0
  obtain ⟨E, hE⟩ : ∃ E, E = pchk x (pl.toNat : Int) f := ⟨_, rfl⟩
  rw [← hE] at HCP ⊢
  obtain ⟨ca, hca⟩ : ∃ ca, ca = (ccells id ver lab cf).toArray := ⟨_, rfl⟩
  rw [← hca] at HBC HBP HL0 ⊢
  obtain ⟨pa, hpa⟩ : ∃ pa, pa = (pcells (x.toNat : Int) (pl.toNat : Int) f).toArray := ⟨_, rfl⟩
  rw [← hpa] at HBC HBP HL0 HCP ⊢
  have HPA := Lib.hid hpa
  have hRP : ∀ wx, Blk wx (w.heap.size + 1) (pcells (x.toNat : Int) (pl.toNat : Int) f) → wx.rangeAt (w.heap.size + 1) 0 (pcells (x.toNat : Int) (pl.toNat : Int) f) := fun wx h => h.range 0 _ (by rw [List.drop_zero, List.take_length])
  have HRP := Lib.hid hRP
  have rp := hRP _ HBP.out
  clear hn hw hs hlow hf hcf hl0 hl1 BC BP hz1 hE hca hpa hRP
  refine (callsIn_wide (n := 5)).1 ?_
  refine callsIn_of_wp_marks Try.func7 rfl trivial ?_ rfl
  simp only [Try.ntmps7, List.size_toArray, List.length_cons, List.length_nil, Nat.reduceAdd, Nat.reduceSub, Array.replicate_succ, Array.replicate_zero, List.push_toArray, List.append_toArray, List.nil_append, List.cons_append]
  gi_wp2_with (first
    | (refine wpListIn_load rfl 34 (.tmp 5) rfl (w.heap.size + 1) 0 rfl (pcells (x.toNat : Int) (pl.toNat : Int) f) _ rp hu rfl (by rw [HPL.out]; exact info_patch) ?_
       rw [← HPA.out])
    | fail)
  clear rp
  refine ⟨trivial, (callsIn_wide.2 (HCP.out _)).mono ?_⟩
  rintro e w1 ⟨rfl, hb1⟩
  have HB1 := Lib.hid (HL0.out.trans (hb1.mono HL0.out.size))
  have HC1 := Lib.hid (HBC.out.later hb1)
  have HP1 := Lib.hid (HBP.out.later hb1)
  clear hb1
  by_cases e0 : E = 0
  · subst e0
    by_cases h12 : 12 ≤ n
    · have b12 : decide ((12 : Int) ≤ (n : Int)) = true := by simp; omega
      gi_wp2_with fail
      exact ⟨_, results_tmp2 rfl _ _ _, HB1.out, .inr (.inl ⟨rfl, h12, rfl⟩)⟩
    · have b12 : decide ((12 : Int) ≤ (n : Int)) = false := by simp; omega
      have C9 := HC1.out.alloc (.cells #[.int .i64 ver] 3)
      have P9 := HP1.out.alloc (.cells #[.int .i64 ver] 3)
      have b9 := Blk.new w1 [.int .i64 ver] 3
      have hb9 := HB1.out.alloc HB1.out.size (.cells #[.int .i64 ver] 3)
      have hz9 : (w1.alloc (.cells #[.int .i64 ver] 3)).heap.size = w1.heap.size + 1 := by simp
      have hs9 : w.heap.size + 2 ≤ w1.heap.size := by have := HP1.out.lt; omega
      obtain ⟨c0, _⟩ := card_cell C9
      obtain ⟨_, c1⟩ := card_cell HC1.out
      gi_wp2_with fail
      refine ⟨trivial, (callsIn_wide.2 (of_any A n c id _)).mono ?_⟩
      rintro e w2 ⟨rfl, rfl⟩
      clear c0 c1
      gi_wp2_with fail
      obtain ⟨s9, hs90⟩ : ∃ s9, s9 = w1.heap.size := ⟨_, rfl⟩
      have WC := (C9.alloc (.cells #[.slice A n c] 25)).alloc (.cells #[.int .i64 id] 3)
      have WP := (P9.alloc (.cells #[.slice A n c] 25)).alloc (.cells #[.int .i64 id] 3)
      have W9 := (b9.alloc (.cells #[.slice A n c] 25)).alloc (.cells #[.int .i64 id] 3)
      have WL := (Blk.new (w1.alloc (.cells #[.int .i64 ver] 3)) [.slice A n c] 25).alloc (.cells #[.int .i64 id] 3)
      have WI := Blk.new ((w1.alloc (.cells #[.int .i64 ver] 3)).alloc (.cells #[.slice A n c] 25)) [.int .i64 id] 3
      have hzl : ((w1.alloc (.cells #[.int .i64 ver] 3)).alloc (.cells #[.slice A n c] 25)).heap.size = w1.heap.size + 2 := by simp
      have hzi : (((w1.alloc (.cells #[.int .i64 ver] 3)).alloc (.cells #[.slice A n c] 25)).alloc (.cells #[.int .i64 id] 3)).heap.size = w1.heap.size + 3 := by simp
      have hbw := (hb9.alloc hb9.size (.cells #[.slice A n c] 25)).alloc (Nat.le_trans hb9.size (by simp)) (.cells #[.int .i64 id] 3)
      rw [hz9] at WL
      rw [hzl] at WI
      obtain ⟨W0, hW0⟩ : ∃ W0, W0 = ((w1.alloc (.cells #[.int .i64 ver] 3)).alloc (.cells #[.slice A n c] 25)).alloc (.cells #[.int .i64 id] 3) := ⟨_, rfl⟩
      rw [← hW0] at WC WP W9 WL WI hzi hbw ⊢
      rw [← hs90] at W9 WL WI hzi hs9 ⊢
      have HI0 : PI w s9 (s9 + 1) (s9 + 2) n c A id ver (ccells id ver lab cf) (pcells (x.toNat : Int) (pl.toNat : Int) f) [] W0 := ⟨W9, WL, WI, WC, WP, hbw, by omega⟩
      have HS9 := Lib.hid hs9
      have HZI := Lib.hid hzi
      have HQN := Lib.hid (qb_mine id l ver)
      clear hW0 hs90 hzl hz9 WC WP W9 WL WI C9 P9 b9 hb9 hbw
      refine wpIn_rangeFunc_boxd (F := Fence.wide) rfl (by omega) (gf := 30) (lb := #[.pointer (some ⟨s9 + 1, 0, none⟩), .pointer (some ⟨s9 + 2, 0, none⟩)]) rfl trivial (enters_of Try.func30 (by kernel_rfl) rfl)
        (of_told (5 - 1) (by omega) (s9 + 1) (s9 + 2) w.heap.size n c A l id W0 HN.out HW.out (by omega) HI0.be.size (HI0.bl.cell (j := 0) rfl) (HI0.bi.cell (j := 0) rfl) (HS.out W0 HI0.be)) (fun h k => h.trans k)
        (fun W l o o' hl h h1 h2 => ⟨belowK_b (w := W0) (n₀ := w.heap.size) (by omega) W l o o' hl h h1 h2, (belowK_b (w := W0) (n₀ := s9 + 3) (by omega) W l o o' hl h h1 h2).cell (p := ⟨s9 + 1, 0, none⟩) (by show s9 + 1 < s9 + 3; omega), (belowK_b (w := W0) (n₀ := s9 + 3) (by omega) W l o o' hl h h1 h2).cell (p := ⟨s9 + 2, 0, none⟩) (by show s9 + 2 < s9 + 3; omega)⟩) (Below.refl _ _)
        (fun pre W => PI w s9 (s9 + 1) (s9 + 2) n c A id ver (ccells id ver lab cf) (pcells (x.toNat : Int) (pl.toNat : Int) f) pre W) (fun _ _ _ => False) (PI.own w s9 (s9 + 1) (s9 + 2) n c A id ver _ _ _ HI0.be.size) (fun _ _ _ _ _ hs _ _ => hs) HI0 10 (fun y => wrc y) ?assign ?body ?done ?stop
      case assign =>
        rintro lp pre y W K hpr hI hK
        simp only [List.setIfInBounds_toArray, List.set_cons_zero, List.set_cons_succ] at hK ⊢
        have hyw : y.2.2.2.2.length = 8 := HW.out y (by
          have : y ∈ mine id l := hpr.subset (by simp)
          exact (List.mem_filter.1 this).1)
        obtain ⟨W3, hW3, TH, F3, B3⟩ := wr_put W 55 y hyw
        subst hW3
        have ON := all_oneCell_toArray (wrc_one y)
        have HSZ := wrc_len hyw
        have I3 := Lib.hid hI
        have hz := hI.z
        have R3 := Lib.hid F3
        have HB3 := Lib.hid B3
        obtain ⟨wc, hwc⟩ : ∃ wc, wc = wrc y := ⟨_, rfl⟩
        rw [← hwc] at ON HSZ R3 HB3 hK ⊢
        have hs4 : wc.toArray.size = 28 := (List.size_toArray).trans HSZ
        have TH2 : (W.alloc (.cells (wrc zwr).toArray 55)).there W.heap.size 0 wc.toArray.size := by rw [hs4]; exact TH
        have IN2 : (Try.prog.info? 55).map (·.size) = some wc.toArray.size := by rw [hs4]; exact info_qw
        rw [zwr_cells] at TH2 R3 HB3
        clear hwc TH F3 B3 hs4 hI hpr hyw
        gi_wp2_with (first
          | (refine wpListIn_store rfl 55 (.tmp 10) (.tmp 25) rfl W.heap.size 0 wc.toArray rfl rfl TH2 IN2 ON ?_
             simp only [Act.put]
             generalize hw4 : World.setCells _ W.heap.size 0 wc.toArray.toList = w4
             have F4 : Blk w4 W.heap.size wc := hw4 ▸ R3.out
             have B4 : Below W.heap.size W w4 := hw4 ▸ HB3.out
             clear hw4 TH2 IN2 R3 HB3)
          | fail)
        have hI := I3.out
        exact hK w4 W.heap.size (by omega) ((KeepsOthers.of_grownBy (below_grownN B4) (fun j o e => by cases e)).from _) ⟨B4.mono hI.be.size, B4.cell (p := ⟨s9 + 1, 0, none⟩) hI.bl.lt, B4.cell (p := ⟨s9 + 2, 0, none⟩) hI.bi.lt⟩ (hI.later B4) F4
      case body =>
        rintro lp pre y Bx W hlp ⟨r, hr⟩ hpr hI hBx hBk hlt
        simp only [List.setIfInBounds_toArray, List.set_cons_zero, List.set_cons_succ]
        have hyl : 0 ≤ y.2.1 ∧ y.2.1 ≤ M := HLOW.out y (by
          have : y ∈ mine id l := hpr.subset (by simp)
          exact (List.mem_filter.1 this).1)
        have HF2 := Lib.hid (hI.base y (by omega) (by omega) (by have := HS9.out; omega))
        have k1 := Lib.hid ((KeepsOthers.setCell W ⟨s9, 0, none⟩ (.int .i64 (y.2.1 + 1))).from W0.heap.size)
        have k2 : Hid (Keep3 w.heap.size (s9 + 1) (s9 + 2) W (W.setCell ⟨s9, 0, none⟩ (.int .i64 (y.2.1 + 1)))) := Lib.hid ⟨(Below.refl _ W).setCell (p := ⟨s9, 0, none⟩) (by show w.heap.size ≤ s9; have := HS9.out; omega) _, World.cell?_setCell_other _ ⟨s9, 0, none⟩ ⟨s9 + 1, 0, none⟩ _ (by intro e; injection e with e; omega), World.cell?_setCell_other _ ⟨s9, 0, none⟩ ⟨s9 + 2, 0, none⟩ _ (by intro e; injection e with e; omega)⟩
        have cy := hBk.cell (j := 1) rfl
        have c9 := hI.b9.cell (j := 0) rfl
        have f9 := hI.b9.frozen 0
        generalize y.2.1 = yb at hyl HF2 k1 k2 cy
        obtain ⟨h0, h1⟩ := hyl
        have h63 : yb + 1 ≤ 9223372036854775807 := by omega
        clear hI hBk hpr
        generalize (wrc y).toArray = ya
        gi_wp2_with fail
        exact ⟨k1.out, k2.out, HF2.out⟩
      case done =>
        rintro D ys W hD rfl hI hK
        have hb9 := hI.b9
        rw [HQN.out] at hb9
        have HB9 := Lib.hid hb9
        have HI := Lib.hid hI
        have HKK := Lib.hid hK
        have hDs : D < W.heap.size := (Array.getElem?_eq_some_iff.1 hK).1
        obtain ⟨Q, hQ⟩ : ∃ Q, Q = qbase l id ver := ⟨_, rfl⟩
        have HQE := Lib.hid hQ
        rw [← hQ] at HB9
        clear hb9 hI hK hQ HQN HQ HI0
        gi_wp2_with fail
        refine wpIn_region_tail (free_wide _ _) (by kernel_rfl) [(30, relRowN w.heap.size 55 28 n (wrs l)), (36, relWr (id, Q, x, pl, f))] 38 8 (by kernel_rfl) (by kernel_rfl) (by kernel_rfl) (by rfl) ?_
        simp only [List.take_succ_cons, List.take_zero, List.drop_succ_cons, List.drop_zero]
        iterate 1 (refine wpG_quiet (by rfl) (by rfl) (by rfl) (fun K hK => ?_); go_big_quiet_op; refine hK _ ?_; clear hK K)
        refine wpG_calls (relRowN w.heap.size 55 28 n (wrs l)) (by rfl) (by rfl) 22 #[.slice A n c] (by intro _; simp [go_sem]) (fun wx hl => (HCL.out wx (HI.out.be.trans (hl.1.mono HI.out.be.size)) (by omega)).mono ?_) ?_
        · rintro e wy ⟨A', c', rfl, ho, hb⟩
          rw [HN.out] at ho ⊢
          exact ⟨_, rfl, hb, row_lower ho (Nat.le_trans HI.out.be.size hl.1.size)⟩
        rintro u ⟨_, _, _, hrow⟩
        obtain ⟨A1, c1, rfl⟩ := row_form hrow
        clear hrow
        simp only [Act.put, List.setIfInBounds_toArray, List.set_cons_zero, List.set_cons_succ]
        iterate 1 (refine wpG_quiet (by rfl) (by rfl) (by rfl) (fun K hK => ?_); go_big_quiet_op; refine hK _ ?_; clear hK K)
        refine wpG_run (by rfl) (by rfl) (.int .i64 id) (fun wx hl => ?_) ?_
        · have kc := (card_cell (HI.out.bc.later hl.1)).1
          simp [go_sem, kc]
        simp only [Act.put, List.setIfInBounds_toArray, List.set_cons_zero, List.set_cons_succ]
        refine wpG_run (by rfl) (by rfl) (.int .i64 Q) (fun wx hl => ?_) ?_
        · have kc := (HB9.out.later hl.1).cell (j := 0) rfl
          simp [go_sem, kc]
        simp only [Act.put, List.setIfInBounds_toArray, List.set_cons_zero, List.set_cons_succ]
        refine wpG_run (by rfl) (by rfl) (.agg (pcells (x.toNat : Int) (pl.toNat : Int) f).toArray) (fun wx hl => exec_load 34 (.tmp 5) rfl (w.heap.size + 1) 0 rfl (pcells (x.toNat : Int) (pl.toNat : Int) f) _ (HRP.out wx (HI.out.bp.later hl.1)) hu rfl (by rw [HPL.out]; exact info_patch)) ?_
        simp only [Act.put, List.setIfInBounds_toArray, List.set_cons_zero, List.set_cons_succ]
        refine wpG_run (by rfl) (by rfl) (.agg (wrc (id, Q, x, pl, f)).toArray) (fun wx hl => exec_qwb (.tmp 32) (.tmp 33) (.tmp 34) rfl id Q x pl f HF.out rfl rfl rfl wx) ?_
        simp only [Act.put, List.setIfInBounds_toArray, List.set_cons_zero, List.set_cons_succ]
        refine wpG_open (relWr (id, Q, x, pl, f)) (by rfl) (by rfl) (fun wx hl => wr1_gives (.tmp 35) (id, Q, x, pl, f) rfl rfl HF.out wx) ?_
        rintro _ ⟨_, _, _, ⟨g, rfl, _⟩⟩
        simp only [Act.put, List.setIfInBounds_toArray, List.set_cons_zero, List.set_cons_succ]
        refine wpG_nil fun w5 hl hS => ?_
        obtain ⟨⟨_, hrow⟩, ⟨g', eg, hB5⟩⟩ := hS
        cases eg
        have hb5 := HI.out.be.trans (hl.mono HI.out.be.size)
        have hK5 := (hl.block D hDs).trans HKK.out
        have hsee : Sees w5 w5.heap.size (some ⟨g, 0, none⟩) (wrc (id, Q, x, pl, f)) := fun _ => ⟨g, 0, rfl, hB5.lt, fun j hj => by rw [Nat.zero_add]; exact hB5.cell (List.getElem?_eq_getElem hj)⟩
        have hrw : Hid (w5.ownsRow w.heap.size 55 28 (.slice A1 n c1) n (wrs l)) := Lib.hid hrow
        have hl28 := wrc_len (x := (id, Q, x, pl, f)) HF.out
        refine wpListIn_appk w5 rfl (.tmp 30) (.tmp 36) 25 rfl w.heap.size 55 i1 _ 28 280 Try.underlying25 ji jz0 jz1 jz2 (by rfl) (by decide) (.slice A1 n c1) n (wrs l) (by rfl) hrw.out w5.heap.size (some ⟨g, 0, none⟩) 1 (wrc (id, Q, x, pl, f)) 1 (by rfl) (by rw [hl28]) hsee (wrc_one _) (by unfold maxLen; omega) (by omega) hb5.size ?_
        intro A3 c3 w6 hr6 hg6
        have hK6 := (hg6.block D (Array.getElem?_eq_some_iff.1 hK5).1 (fun e => row_not hrw.out hK5 e.symm)).trans hK5
        have hb6 := hb5.grown hg6 hb5.size (fun k e => (hrw.out.lt k e).1)
        rw [← wrs_snoc] at hr6
        have HR6 := Lib.hid hr6
        clear hsee hB5 hrow hl hl28 hg6 hK5 hb5 hr6
        gi_wp2_with fail
        refine ⟨by simp, .inl ⟨_, _, rfl, run_takeDeferred hK6, ?_⟩⟩
        exact ⟨_, results_tmp2 rfl _ _ _, hb6.trans (belowK_b (w := w) (Nat.le_refl _) _ D _ _ (by have := HI.out.be.size; have := HZI.out; have := HS9.out; omega) hK6 rfl rfl), .inr (.inr ⟨rfl, by omega, A3, c3, rfl, by rw [← HQE.out]; exact World.ownsRow.kept HR6.out (grownBy_putObj' w6 D _) (.inr (row_not HR6.out hK6))⟩)⟩
      case stop =>
        rintro D cc pre W _ _ h _
        exact h.elim
  · have be : (E != 0) = true := by simpa using e0
    gi_wp2_with fail
    exact ⟨_, results_tmp2 rfl _ _ _, HB1.out, .inl ⟨e0, rfl⟩⟩
end Go.Proofs.Ytjlpccdlpgkgoaa
