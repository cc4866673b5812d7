/- trie: block. -/
import Derived.Test.YtpbdamjpjpchiaaTrO
namespace Go.Proofs.Ytpbdamjpjpchiaa
open Go.RowKit Go.BigFrame
set_option linter.unusedVariables false
set_option linter.unusedSimpArgs false
attribute [local go_sem] Oper.semAt_some

theorem opIn_load_mid {F : Fence} {m : Nat} {P : Program} {o : Oper} {a : Act} {w : World} {K : Act → World → Prop} {Q : Exit → Act → World → Prop} (ty : TypeId) (x : Operand) (ho : o.op = .load ty x)
    (b off : Nat) (hx : a.eval x = .pointer (some ⟨b, off, none⟩)) (cs : List Value) (d : TypeDesc) (hc : w.rangeAt b off cs)
    (hu : P.underlying ty = some d) (hd : d.isRow = true) (hi : (P.info? ty).map (·.size) = some cs.length)
    (h : K (a.put o.dst (.agg cs.toArray)) w) : Oper.wpIn F m P o a w K Q := by
  unfold Oper.wpIn
  refine ⟨by simp [Oper.about, ho], ?_⟩
  rw [Oper.semAt_plain F _ _ (by rw [ho]; intro c hc'; cases hc')]
  simp only [execOp, ho, hx, run_loadAt_mid w b off ty cs d hc hu hd hi, Sem.run_bind, Sem.run_pure, Result.andThen_ok]
  exact h
theorem opIn_store_mid {F : Fence} {m : Nat} {P : Program} {o : Oper} {a : Act} {w : World} {K : Act → World → Prop} {Q : Exit → Act → World → Prop} (ty : TypeId) (x y : Operand) (ho : o.op = .store ty x y)
    (b off : Nat) (cells : Array Value) (hx : a.eval x = .pointer (some ⟨b, off, none⟩)) (hy : a.eval y = .agg cells)
    (ht : w.there b off cells.size) (hi : (P.info? ty).map (·.size) = some cells.size) (h1 : cells.all (·.oneCell') = true)
    (h : K (a.put o.dst undef) (w.setCells b off cells.toList)) : Oper.wpIn F m P o a w K Q := by
  unfold Oper.wpIn
  refine ⟨by simp [Oper.about, ho], ?_⟩
  rw [Oper.semAt_plain F _ _ (by rw [ho]; intro c hc'; cases hc')]
  simp only [execOp, ho, hx, hy, run_storeAt_mid w b off ty cells ht hi h1, Sem.run_bind, Sem.run_pure, Result.andThen_ok]
  exact h

theorem outC_one (g : Int → Int) (m first : Int) (k : Nat) : ∀ v ∈ outC g m first k, v.oneCell' = true := by
  intro v hv
  unfold outC at hv
  obtain ⟨i, _, rfl⟩ := List.mem_map.1 hv
  rfl
theorem grow_setCells (b : Nat) : ∀ (vs : List Value) (o : Nat) (w : World), w.grownBy (w.setCells b o vs) (some b)
  | [], o, w => World.grownBy.refl _ _
  | v :: r, o, w => by
    rw [World.setCells]
    exact (grow_set w b o v).trans (grow_setCells b r (o + 1) _)
theorem results_cell_mid {P : Program} {fn : Func} {p : Tmp} {ty : TypeId} (h : fn.results = #[.cell p ty]) (tmps : Array Value) (w : World) (b o : Nat) (hp : tmps.getD p undef = .pointer (some ⟨b, o, none⟩)) (cs : List Value) (d : TypeDesc) (hc : w.rangeAt b o cs)
    (hu : P.underlying ty = some d) (hd : d.isRow = true) (hi : (P.info? ty).map (·.size) = some cs.length) : (results fn tmps).run P w = .ok (.agg cs.toArray) w := by
  have hp' : tmps[p]?.getD undef = .pointer (some ⟨b, o, none⟩) := by simpa using hp
  simp [results, h, hp', asAddr, run_loadVar_mid w b o ty cs d hc hu hd hi]

/-- The number that stands in a box. -/
def atOf (w : World) (b : Nat) : Nat := (intOf ((w.cell? ⟨b, 0, none⟩).getD undef)).toNat

/-- What block tells. -/
def TellsB (g : Int → Int) (m first : Int) (w : World) (e : Ending) (w' : World) : Prop := e = .returned (.agg ((blk g m first).map (.int .i64)).toArray) ∧ Below w.heap.size w w'

/-- .. between the rounds. -/
def BkI (w : World) (A : Option Addr) (c : Nat) (P : List (Pc Int)) (g : Int → Int) (m first : Int) (pre : List Nat) (O : Nat → Prop) (W : World) : Prop :=
  (∀ k, O k ↔ (k = w.heap.size + 1 + 1 + 1 ∨ k = w.heap.size + 1 + 1 + 1 + 1)) ∧ ∃ j x, P[j]? = some x ∧ x.f ≤ first + pre.length ∧ BlI w A P.length c first j (outC g m first pre.length) W
/-- .. with the loop's variable laid. -/
def BkM (w : World) (A : Option Addr) (c : Nat) (P : List (Pc Int)) (g : Int → Int) (m first : Int) (act : Nat → Act) (x : List Nat × Nat × Act) (O : Nat → Prop) (W : World) : Prop :=
  BkI w A c P g m first x.1 O W ∧ upTo 128 x.1 x.2.1 ∧ x.2.2 = act x.2.1
theorem BkI.bears {w : World} {A : Option Addr} {c : Nat} {P : List (Pc Int)} {g : Int → Int} {m first : Int} {b : Nat} (hb : w.heap.size + 1 + 1 + 1 + 1 < b) : BearsO (BkI w A c P g m first) b := by
  rintro pre O A' B row ⟨h1, j, x, h2, h3, h4⟩ hg hr
  exact ⟨h1, j, x, h2, h3, h4.grown hg fun r e => by have := (hr r e).1; omega⟩
theorem BkM.bears {w : World} {A : Option Addr} {c : Nat} {P : List (Pc Int)} {g : Int → Int} {m first : Int} {act : Nat → Act} {b : Nat} (hb : w.heap.size + 1 + 1 + 1 + 1 < b) : BearsO (BkM w A c P g m first act) b := by
  rintro ⟨pre, x, a'⟩ O A' B row ⟨h, h2, h3⟩ hg hr
  exact ⟨BkI.bears hb _ _ _ _ _ h hg hr, h2, h3⟩

/-- A round's end. -/
theorem blk_round {w W wr : World} {A : Option Addr} {c j x : Nat} {P : List (Pc Int)} {g : Int → Int} {lo m first : Int} {y : Pc Int} {O : Nat → Prop} (hT : Tile lo m P)
    (hI : P[j]? = some y ∧ BlI w A P.length c first j (outC g m first x) wr ∧ wr.heap.size = W.heap.size ∧ ∀ k, k ≠ w.heap.size + 1 + 1 + 1 + 1 → wr.heap[k]? = W.heap[k]?) (hyf : y.f ≤ first + x)
    (hO : ∀ k, O k ↔ (k = w.heap.size + 1 + 1 + 1 ∨ k = w.heap.size + 1 + 1 + 1 + 1)) (hs : wr.heap.size = W.heap.size) (hv : bval g m first x = y.v) (hx : x < 128) (hlt : ∀ k, O k → k < W.heap.size) (nq : Nat) :
    ∃ O', KeepO O O' W ((wr.drewN nq).setCell ⟨w.heap.size + 1 + 1 + 1, x, none⟩ (.int .i64 y.v)) ∧ BkI w A c P g m first (List.range x ++ [x]) O' ((wr.drewN nq).setCell ⟨w.heap.size + 1 + 1 + 1, x, none⟩ (.int .i64 y.v)) := by
  obtain ⟨h1, h2, _, h4⟩ := hI
  refine ⟨O, ⟨by simp [hs], fun k hk ho => ?_, fun k hk => .inl hk, fun k hk => by have := hlt k hk; simp; omega⟩, hO, j, y, h1, by simp; omega, ?_⟩
  · have n1 : k ≠ w.heap.size + 1 + 1 + 1 := fun e => ho ((hO k).2 (.inl e))
    have n2 : k ≠ w.heap.size + 1 + 1 + 1 + 1 := fun e => ho ((hO k).2 (.inr e))
    exact (Below.heap_setCell _ _ _ _ n1).trans (h4 k n2)
  · have := (h2.drewN nq).put x (by rw [outC_len]; exact hx) (.int .i64 (bval g m first x))
    rw [outC_set _ _ _ _ hx, hv] at this
    rw [← List.range_succ, List.length_range]
    exact this

set_option maxRecDepth 100000 in
set_option maxHeartbeats 4000000 in
theorem block_in (A : Option Addr) (c : Nat) (P : List (Pc Int)) (g : Int → Int) (lo m first : Int) (w : World) (hLi : Li 3 encP w (fun _ => True) A P) (hT : Tile lo m P) (hV : Vals g P) (hne : 0 < P.length) (hlen : P.length ≤ 100000) (hcl : P.length ≤ c) (hf0 : 0 ≤ first) (hf : lo ≤ first) (hm : first < m) (hm2 : m ≤ 10000000) :
    CallsIn Fence.wide 5 Try.prog 25 #[.slice A P.length c, .int .i64 first] w (TellsB g m first w) := by
  have hro : Fence.wide.round = none := rfl
  have h1 : 1 ≤ 5 := by omega
  obtain ⟨p0, b, o, hp0, rfl, hb, _⟩ := hLi.piece hne
  have HL := Lib.hid hLi
  have HP0 := Lib.hid hp0
  have HT := Lib.hid (And.intro hT hV)
  clear hLi hp0 hT hV
  refine callsIn_of_wp_marks Try.func25 rfl trivial ?_ hro
  simp only [Try.ntmps25, List.size_toArray, List.length_cons, List.length_nil, Nat.reduceAdd, Nat.reduceSub, Array.replicate_succ, Array.replicate_zero, List.push_toArray, List.append_toArray, List.nil_append, List.cons_append]
  gi_wp2_with fail
  refine ⟨trivial, ?_⟩
  refine (numbers_in Fence.wide 4 trivial hro _ _ _).mono ?_
  rintro e w' ⟨rfl, rfl⟩
  have q0 := Boxed.new w 31 (.slice (some ⟨b, o, none⟩) P.length c)
  have q1 := Boxed.new (w.alloc (.cells #[.slice (some ⟨b, o, none⟩) P.length c] 31)) 3 (.int .i64 first)
  have q2 := blk_new ((w.alloc (.cells #[.slice (some ⟨b, o, none⟩) P.length c] 31)).alloc (.cells #[.int .i64 first] 3)) Try.zeroCells54 54
  have q3 := blk_new (((w.alloc (.cells #[.slice (some ⟨b, o, none⟩) P.length c] 31)).alloc (.cells #[.int .i64 first] 3)).alloc (.cells Try.zeroCells54 54)) Try.zeroCells54 54
  have q4 := Boxed.new ((((w.alloc (.cells #[.slice (some ⟨b, o, none⟩) P.length c] 31)).alloc (.cells #[.int .i64 first] 3)).alloc (.cells Try.zeroCells54 54)).alloc (.cells Try.zeroCells54 54)) 3 (.int .i64 0)
  simp only [World.size_alloc] at q1 q2 q3 q4 ⊢
  obtain ⟨Y, hY⟩ : ∃ Y, (((((w.alloc (.cells #[.slice (some ⟨b, o, none⟩) P.length c] 31)).alloc (.cells #[.int .i64 first] 3)).alloc (.cells Try.zeroCells54 54)).alloc (.cells Try.zeroCells54 54)).alloc (.cells #[.int .i64 0] 3)) = Y := ⟨_, rfl⟩
  have hYs : Y.heap.size = w.heap.size + 1 + 1 + 1 + 1 + 1 := by rw [← hY]; simp
  have hYI : BlI w (some ⟨b, o, none⟩) P.length c first (0 : Nat) (outC g m first 0) Y := by
    rw [← hY]
    exact ⟨(((q0.alloc _).alloc _).alloc _).alloc _, ((q1.alloc _).alloc _).alloc _, (q2.alloc _).alloc _, by rw [outC_zero]; exact q3.alloc _, q4, belPush (belPush (belPush (belPush (belAlloc _ _) _) _) _) _⟩
  clear q0 q1 q2 q3 q4
  rw [hY]
  clear hY
  obtain ⟨X, hX⟩ : ∃ X, (Y.alloc (.cells #[.int .i64 0] 3)).alloc (.cells #[.int .i64 128] 3) = X := ⟨_, rfl⟩
  have hXs : X.heap.size = w.heap.size + 1 + 1 + 1 + 1 + 1 + 1 + 1 := by rw [← hX]; simp [hYs]
  have hXg : Y.grownBy X none := by rw [← hX]; exact (World.grownBy_alloc _ _ _).trans (World.grownBy_alloc _ _ _)
  have c1 : X.cell? ⟨w.heap.size + 1 + 1 + 1 + 1 + 1, 0, none⟩ = some (.int .i64 0) := by
    have := (Boxed.new Y 3 (.int .i64 0)).alloc (.cells #[.int .i64 128] 3)
    rw [hX, hYs] at this
    exact this.cell
  have c2 : X.cell? ⟨w.heap.size + 1 + 1 + 1 + 1 + 1 + 1, 0, none⟩ = some (.int .i64 128) := by
    have := Boxed.new (Y.alloc (.cells #[.int .i64 0] 3)) 3 (.int .i64 128)
    rw [hX, World.size_alloc, hYs] at this
    exact this.cell
  have hXI := hYI.grown hXg (fun r e => by cases e)
  rw [hX]
  clear hX hXg hYI hYs
  have HX := Lib.hid hXI
  have hbe := hXI.be.size
  clear hXI
  gi_wp2_with fail
  refine wpIn_rangeBox hro h1 (gf := 33) (lb := #[.pointer (some ⟨w.heap.size + 1 + 1 + 1 + 1 + 1, 0, none⟩), .pointer (some ⟨w.heap.size + 1 + 1 + 1 + 1 + 1 + 1, 0, none⟩)]) rfl trivial (enters_of Try.func33 (by kernel_rfl) rfl)
    (numbers_seq Fence.wide (5 - 1) trivial hro (by omega) (w.heap.size + 1 + 1 + 1 + 1 + 1) (w.heap.size + 1 + 1 + 1 + 1 + 1 + 1) 0 128 (by omega) (by omega) X (by omega) (by omega) c1 c2) (fun _ => rfl)
    (fun k => k = w.heap.size + 1 + 1 + 1 ∨ k = w.heap.size + 1 + 1 + 1 + 1) ?hO (BkI w (some ⟨b, o, none⟩) c P g m first) (BkM w (some ⟨b, o, none⟩) c P g m first fun x => { tmps := #[.slice (some ⟨b, o, none⟩) P.length c, .int .i64 first,
      .pointer (some ⟨w.heap.size, 0, none⟩), .pointer (some ⟨w.heap.size + 1, 0, none⟩), .pointer (some ⟨w.heap.size + 1 + 1, 0, none⟩), .pointer (some ⟨w.heap.size + 1 + 1 + 1, 0, none⟩), .pointer (some ⟨w.heap.size + 1 + 1 + 1 + 1, 0, none⟩), .int .i64 (x : Int),
      .func (.func 33) #[] #[.pointer (some ⟨w.heap.size + 1 + 1 + 1 + 1 + 1, 0, none⟩), .pointer (some ⟨w.heap.size + 1 + 1 + 1 + 1 + 1 + 1, 0, none⟩)], .int .i64 (x : Int),
      undef, undef, undef, undef, undef, undef, undef, undef, undef, undef, undef, undef, undef, undef, undef, undef, undef, undef, undef, undef, undef, undef, undef, undef, undef, undef], defers := [] })
    (BkI.bears (by omega)) (BkM.bears (by omega)) ?start ?assign ?body ?done
  case hO =>
    rintro k (rfl | rfl)
    · exact ⟨by omega, by rintro (h | h) <;> omega⟩
    · exact ⟨by omega, by rintro (h | h) <;> omega⟩
  case start => exact ⟨fun _ => Iff.rfl, 0, p0, HP0.out, by have := tile_first HT.out.1 HP0.out; simp; omega, HX.out⟩
  case assign =>
    rintro l pre O x W hI hO hN
    simp only [encNum, Int.zero_add]
    gi_wp2
    exact ⟨World.grownBy.refl _ _, O, fun k h => .inl h, hO, hI, hN, rfl⟩
  case body =>
    rintro l pre O x a' W ⟨⟨hO, j, y, hy, hyf, hI⟩, ⟨hpre, hx⟩, hact⟩ hWs hlt
    dsimp only at hI hpre hx hact hyf
    subst hact
    subst hpre
    rw [List.length_range] at hyf hI
    have HI0 := Lib.hid hI
    have HO := Lib.hid hO
    have HY := Lib.hid hy
    clear hI hO hy
    have hx2 : (x : Int) < 128 := by omega
    have hx3 : (0 : Int) ≤ (x : Int) := by omega
    gi_wp2_with fail
    gi_loopw [] (fun wr => ∃ j y, Hid (P[j]? = some y ∧ BlI w (some ⟨b, o, none⟩) P.length c first j (outC g m first x) wr ∧ wr.heap.size = W.heap.size ∧ ∀ k, k ≠ w.heap.size + 1 + 1 + 1 + 1 → wr.heap[k]? = W.heap[k]?) ∧ y.f ≤ first + x) (fun wr => P.length - atOf wr (w.heap.size + 1 + 1 + 1 + 1))
    case atStart => exact ⟨j, y, Lib.hid ⟨HY.out, HI0.out, rfl, fun _ _ => rfl⟩, hyf⟩
    case round =>
      clear hyf HI0 HY
      obtain ⟨j, y, HI, hyf⟩ := hrel
      have hj : j < P.length := (List.getElem?_eq_some_iff.1 HI.out.1).1
      have hsz := HI.out.2.2.1
      have e0 := Boxed.cell HI.out.2.1.pcs
      have e1 := Boxed.cell HI.out.2.1.fst
      have e4 := Boxed.cell HI.out.2.1.at_
      have f4 := Boxed.frozen HI.out.2.1.at_
      obtain ⟨y', b', o', hy', e, _, _, c0, c1', c2'⟩ := (HL.out.later HI.out.2.1.be).piece hj
      injection e with e
      injection e with e e'
      subst e; subst e'
      obtain rfl : y' = y := Option.some.inj (hy'.symm.trans HI.out.1)
      clear hy' c0
      have hat : atOf wr (w.heap.size + 1 + 1 + 1 + 1) = j := by unfold atOf; rw [e4]; rfl
      have hb2 : b < wr.heap.size := Nat.lt_of_lt_of_le hb HI.out.2.1.be.size
      have hbd := tile_bd HT.out.1 (List.mem_of_getElem? HI.out.1)
      have i0 : (0 : Int) ≤ (j : Int) := by omega
      have i1 : (j : Int) < (P.length : Int) := by omega
      have i2 : (j : Int) + 1 ≤ 100001 := by omega
      have i3 : first + (x : Int) ≤ 10000128 := by omega
      have i4 : 0 ≤ first + (x : Int) := by omega
      have v1 : IntKind.i64.wrap (first + (x : Int)) = first + (x : Int) := IntWalk.i64_in _ (by omega)
      have v2 : IntKind.i64.wrap ((j : Int) + 1) = (j : Int) + 1 := IntWalk.i64_in _ (by omega)
      by_cases hgt : y'.t < first + (x : Int)
      · have d1 : decide (y'.t < first + (x : Int)) = true := decide_eq_true hgt
        by_cases hmore : j + 1 < P.length
        · have d2 : decide ((j : Int) + 1 < (P.length : Int)) = true := decide_eq_true (by omega)
          gi_upto_region 5 with fail
          refine region_round_lit l rfl (by kernel_rfl) (by kernel_rfl) (by kernel_rfl) ?_
          repeat (gi_big_quiet_step (fail))
          refine wpQuietIn_nil ?_
          rintro _ ⟨nq, rfl⟩
          gi_wp2_with fail
          go_roundw
          case rel =>
            have hnx : P[j + 1]? = some P[j + 1] := List.getElem?_eq_getElem hmore
            have hn2 := tile_next HT.out.1 HI.out.1 hnx
            refine ⟨j + 1, _, Lib.hid ⟨hnx, (HI.out.2.1.drewN nq).next (j + 1), by simpa using hsz, fun k hk => (Below.heap_setCell _ _ _ _ hk).trans (HI.out.2.2.2 k hk)⟩, by omega⟩
          case measure =>
            rw [hat]
            have := Boxed.cell ((HI.out.2.1.drewN nq).next (j + 1)).at_
            have h2 : atOf ((wr.drewN nq).setCell ⟨w.heap.size + 1 + 1 + 1 + 1, 0, none⟩ (.int .i64 ((j + 1 : Nat) : Int))) (w.heap.size + 1 + 1 + 1 + 1) = j + 1 := by unfold atOf; rw [this]; rfl
            first | (rw [h2]; omega) | (have h3 := h2; push_cast at h3; rw [h3]; omega)
        · have d2 : decide ((j : Int) + 1 < (P.length : Int)) = false := decide_eq_false (by omega)
          have hy0 := outC_len g m first x
          have o3 : wr.cell? ⟨w.heap.size + 1 + 1 + 1, x, none⟩ = some (.int .i64 0) := by
            rw [HI.out.2.1.out.2.1 x]
            simp [outC, hx]
          have f3 := HI.out.2.1.out.2.2 x
          have HV := Lib.hid (bval_is HT.out.1 HT.out.2 HI.out.1 hyf (.inr (by omega)))
          gi_upto_region 5 with fail
          refine region_round_lit l rfl (by kernel_rfl) (by kernel_rfl) (by kernel_rfl) ?_
          repeat (gi_big_quiet_step (fail))
          refine wpQuietIn_nil ?_
          rintro _ ⟨nq, rfl⟩
          gi_wp2_with fail
          exact blk_round HT.out.1 HI.out hyf HO.out hsz HV.out hx (fun k hk => hlt k hk) nq
      · have d1 : decide (y'.t < first + (x : Int)) = false := decide_eq_false hgt
        have hy0 := outC_len g m first x
        have o3 : wr.cell? ⟨w.heap.size + 1 + 1 + 1, x, none⟩ = some (.int .i64 0) := by
          rw [HI.out.2.1.out.2.1 x]
          simp [outC, hx]
        have f3 := HI.out.2.1.out.2.2 x
        have HV := Lib.hid (bval_is HT.out.1 HT.out.2 HI.out.1 hyf (.inl (by omega)))
        gi_upto_region 5 with fail
        refine region_round_lit l rfl (by kernel_rfl) (by kernel_rfl) (by kernel_rfl) ?_
        repeat (gi_big_quiet_step (fail))
        refine wpQuietIn_nil ?_
        rintro _ ⟨nq, rfl⟩
        gi_wp2_with fail
        exact blk_round HT.out.1 HI.out hyf HO.out hsz HV.out hx (fun k hk => hlt k hk) nq
  case done =>
    rintro xs O W rfl ⟨hO, j, y, _, _, hI⟩ hK hn
    gi_upto_region 8 with fail
    have hlen128 := outC_len g m first 128
    rw [List.length_range] at hI
    have r3 : W.rangeAt (w.heap.size + 1 + 1 + 1) 0 (outC g m first 128) := fun i v hv => by
      rw [Nat.zero_add, hI.out.2.1 i]
      simpa using hv
    apply wpIn_region_lit
    refine wpListIn_plain rfl fun K2 hK2 => ?_
    refine opIn_load_mid 54 (Operand.tmp 5) rfl (w.heap.size + 1 + 1 + 1) 0 rfl (outC g m first 128) _ r3 Try.underlying54 rfl (by rw [hlen128]; kernel_rfl) ?_
    refine hK2 _ _ ?_
    clear hK2 K2
    refine wpListIn_plain rfl fun K2 hK2 => ?_
    refine opIn_store_mid 54 (Operand.tmp 4) (Operand.tmp 35) rfl (w.heap.size + 1 + 1) 0 (outC g m first 128).toArray rfl rfl ?there (by rw [List.size_toArray, hlen128]; kernel_rfl) ?one ?_
    case there =>
      intro i hi
      rw [List.size_toArray, hlen128] at hi
      rw [Nat.zero_add]
      exact ⟨by rw [hI.res.2.1 i, Array.getElem?_eq_getElem (by have : (Try.zeroCells54).size = 128 := by kernel_rfl
                                                                omega)]; rfl, hI.res.2.2 i⟩
    case one => exact all_oneCell_toArray (outC_one g m first 128)
    refine hK2 _ _ ?_
    clear hK2 K2
    apply wpListIn_nil
    have hth : W.there (w.heap.size + 1 + 1) 0 (outC g m first 128).length := by
      intro i hi
      rw [hlen128] at hi
      rw [Nat.zero_add]
      exact ⟨by rw [hI.res.2.1 i, Array.getElem?_eq_getElem (by have : (Try.zeroCells54).size = 128 := by kernel_rfl
                                                                omega)]; rfl, hI.res.2.2 i⟩
    have r4 := W.rangeAt_setCells_same (w.heap.size + 1 + 1) 0 (outC g m first 128) hth
    have hg4 := grow_setCells (w.heap.size + 1 + 1) (outC g m first 128) 0 W
    have hK4 := (hg4.block X.heap.size (Array.getElem?_eq_some_iff.1 hK).1 (by intro e; injection e with e; omega)).trans hK
    have hb4 := hI.be.grown hg4 hI.be.size (fun k e => by cases e; omega)
    obtain ⟨V, hV⟩ : ∃ V, W.setCells (w.heap.size + 1 + 1) 0 (outC g m first 128) = V := ⟨_, rfl⟩
    rw [hV] at r4 hg4 hK4 hb4
    have hg5 := grownBy_putObj' V X.heap.size (.deferred none)
    have r5 : (V.putObj X.heap.size (.deferred none)).rangeAt (w.heap.size + 1 + 1) 0 (outC g m first 128) := fun i v hv => (World.cell?_of_block (a := ⟨w.heap.size + 1 + 1, 0 + i, none⟩) (hg5.block _ (World.block_lt_of_cell? V _ (r4 i v hv)) (by intro e; injection e with e; have e' : w.heap.size + 1 + 1 = X.heap.size := e; omega))).trans (r4 i v hv)
    gi_wp2
    rw [hV]
    refine ⟨by simp, .inl ⟨_, _, rfl, run_takeDeferred hK4, ?_⟩⟩
    refine ⟨.agg (outC g m first 128).toArray, results_cell_mid rfl _ _ (w.heap.size + 1 + 1) 0 rfl _ _ r5 Try.underlying54 rfl (by rw [hlen128]; kernel_rfl), by rw [outC_all], ?_⟩
    exact hb4.grown hg5 hb4.size (fun k e => by cases e; omega)
theorem block_any (A : Option Addr) (c : Nat) (P : List (Pc Int)) (g : Int → Int) (lo m first : Int) (w : World) (hLi : Li 3 encP w (fun _ => True) A P) (hT : Tile lo m P) (hV : Vals g P) (hne : 0 < P.length) (hlen : P.length ≤ 100000) (hcl : P.length ≤ c) (hf0 : 0 ≤ first) (hf : lo ≤ first) (hm : first < m) (hm2 : m ≤ 10000000) :
    Calls Try.prog 25 #[.slice A P.length c, .int .i64 first] w (TellsB g m first w) :=
  (callsIn_wide (n := 5)).1 (block_in A c P g lo m first w hLi hT hV hne hlen hcl hf0 hf hm hm2)
end Go.Proofs.Ytpbdamjpjpchiaa
