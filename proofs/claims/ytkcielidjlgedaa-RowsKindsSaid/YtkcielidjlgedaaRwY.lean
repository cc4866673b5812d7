/- rows: RowsKinds' walk. -/
import Derived.Test.YtkcielidjlgedaaRwK
import Derived.Test.YtkcielidjlgedaaRwM
import Derived.Test.YtkcielidjlgedaaRwX
namespace Go.Proofs.Ytkcielidjlgedaa
open Go.RowKit
set_option linter.unusedVariables false
set_option linter.unusedSimpArgs false

theorem belowS {A X Y : World} (h : Below A.heap.size A X) (hb : Below X.heap.size X Y) : Below A.heap.size A Y := h.trans (hb.mono h.size)

/-- What is kept from round to round. -/
structure KdR (W : World) (A : Option Addr) (L : List Row) (A2 : Option Addr) (K : List Int) (X : World) : Prop where
  l : Li 5 encR X (fun _ => True) A L
  k : Li 1 encI X (fun _ => True) A2 K
  b : Below W.heap.size W X
theorem KdR.later {W X Y : World} {A A2 : Option Addr} {L : List Row} {K : List Int} (h : KdR W A L A2 K X) (hb : Below X.heap.size X Y) : KdR W A L A2 K Y :=
  ⟨h.l.later hb, h.k.later hb, h.b.trans (hb.mono h.b.size)⟩
theorem kinds_two {L : List Row} {K : List Int} (h : KindsOf L K) {k j : Nat} (e : j = k + 1) (hj : j < K.length) : K.getD k 0 < K.getD j 0 := by
  subst e
  have := List.pairwise_iff_getElem.1 h.1 k (k + 1) (by omega) hj (by omega)
  simpa [List.getD, hj, show k < K.length by omega] using this
theorem mem_getD {K : List Int} {x : Int} : x ∈ K ↔ ∃ q, q < K.length ∧ K.getD q 0 = x := by
  constructor
  · intro h
    obtain ⟨q, hq, e⟩ := List.getElem_of_mem h
    exact ⟨q, hq, by simp [List.getD, hq, e]⟩
  · rintro ⟨q, hq, rfl⟩
    simp [List.getD, hq]

set_option maxHeartbeats 4000000 in
set_option maxRecDepth 100000 in
theorem walk_RowsKinds (W : World) (A : Option Addr) (c : Nat) (L0 : List Row) (hL : RowsIn W A c L0) :
    Calls Try.prog 6 #[.slice A L0.length c] W (YesL W) := by
  have hmx := hL.mx
  have F1 := few_rows A L0.length c W hL.le (by unfold maxLen at hmx; omega)
  have hlen : (L0.take 40).length = min L0.length 40 := by rw [List.length_take, Nat.min_comm]
  obtain ⟨L, hM⟩ : ∃ M, L0.take 40 = M := ⟨_, rfl⟩
  have HM := Lib.hid (show Li 5 encR W (fun _ => True) A L from hM ▸ hL.li.take 40)
  have HO := Lib.hid (show ∀ x ∈ L, wfI x.k from fun x hx => by
    have := (hL.ok x (List.mem_of_mem_take (by rw [hM]; exact hx))).1
    unfold wfI
    unfold i64ok at this
    simp [Lit.wf, IntKind.min, IntKind.max, IntKind.bits, IntKind.signed]
    omega)
  rw [hM] at hlen
  have hMc : L.length ≤ c := by have := hL.le; omega
  have hM40 : L.length ≤ 40 := by omega
  rw [← hlen] at F1
  have F2 := Lib.hid F1
  have O1 := Lib.hid (kinds_any A c L W HM.out hMc (by omega) HO.out)
  clear F1 hlen hL hM hmx
  go_enter Try.func6, Try.ntmps6
  go_wp2_with fail
  refine F2.out.mono ?_
  rintro e w1 ⟨rfl, rfl⟩
  clear F2
  go_wp2_with fail
  refine O1.out.mono ?_
  rintro e w2 ⟨K, hK, A2, n2, c2, rfl, ho, hb⟩
  obtain rfl : K.length = n2 := own_count encI_len (by decide) ho
  have hc2 := (LiV.own encI_len (by decide) ho).parts.2.2.2
  have HK := Lib.hid hK
  have HX := Lib.hid (show KdR W A L A2 K w2 from ⟨HM.out.later hb, (Li.own encI_len (by decide) ho).mono fun _ _ => trivial, hb⟩)
  have hkm : K.length ≤ 9223372036854775807 := Nat.le_trans hc2.1 hc2.2
  clear ho hK hb O1 HM
  go_wp2_with fail
  go_loopw [4] (fun i wr => ∃ (j : Nat), j ≤ K.length ∧ i = .int .i64 j ∧ Hid (KdR W A L A2 K wr)) (fun i _ => K.length - (intOf i).toNat)
  case atStart => exact ⟨0, Nat.zero_le _, rfl, HX.out⟩
  case round =>
    obtain ⟨j, hj, rfl, HR⟩ := hrel
    by_cases hlt : j < K.length
    · obtain ⟨b, o, rfl, hbl, _, k0⟩ := HR.out.k.int hlt
      obtain ⟨x, hx⟩ : ∃ x, K.getD j 0 = x := ⟨_, rfl⟩
      have hxm : ∃ r ∈ L, r.k = x := (HK.out.2 x).1 (mem_getD.2 ⟨j, hlt, hx⟩)
      rw [hx] at k0
      have i1 : (j : Int) < (K.length : Int) := by omega
      have i2 : (0 : Int) ≤ (j : Int) := by omega
      have HXM := Lib.hid hxm
      clear hxm
      rcases Nat.eq_zero_or_pos j with h0 | hpos
      · have d4 : decide ((0 : Int) < (j : Int)) = false := decide_eq_false (by omega)
        have d4' : decide (0 < j) = false := decide_eq_false (by omega)
        have HS := Lib.hid (show ∀ Z, Below wr.heap.size wr Z → (fun Z => Z.cell? ⟨b, o + j, none⟩ = some (.int .i64 x) ∧ Below wr.heap.size wr Z) Z from fun Z hZ => ⟨(hZ.cell (p := ⟨b, o + j, none⟩) hbl).trans k0, hZ⟩)
        clear hx h0
        go_wp2_with fail
        refine wp_region_any (by kernel_rfl) ?_
        change wpAny _ _ _ _ _ _ _ (World.drew _)
        refine wpAny_take (i := 0) (oi := { dst := some 18, op := Go.Op.move (Go.Operand.tmp 0), type := 22, pos := "law.go:73", after := #[], guard := none }) (v := ?_) rfl (by kernel_rfl) (by kernel_rfl) (by kernel_rfl) (fun _ _ _ h => h) (Or.inl ⟨by rfl, ?_⟩) ?_
        rotate_left
        · intro Z; go_simp; try with_reducible rfl
        simp only [Act.put, List.setIfInBounds_toArray, List.set_cons_zero, List.set_cons_succ]
        refine wpAny_take (i := 1) (oi := { dst := some 19, op := Go.Op.move (Go.Operand.tmp 3), type := 26, pos := "law.go:73", after := #[], guard := none }) (v := ?_) rfl (by kernel_rfl) (by kernel_rfl) (by kernel_rfl) (fun _ _ _ h => h) (Or.inl ⟨by rfl, ?_⟩) ?_
        rotate_left
        · intro Z; go_simp; try with_reducible rfl
        simp only [Act.put, List.setIfInBounds_toArray, List.set_cons_zero, List.set_cons_succ]
        refine wpAny_take (i := 2) (oi := { dst := some 20, op := Go.Op.move (Go.Operand.tmp 4), type := 3, pos := "law.go:73", after := #[], guard := none }) (v := ?_) rfl (by kernel_rfl) (by kernel_rfl) (by kernel_rfl) (fun _ _ _ h => h) (Or.inl ⟨by rfl, ?_⟩) ?_
        rotate_left
        · intro Z; go_simp; try with_reducible rfl
        simp only [Act.put, List.setIfInBounds_toArray, List.set_cons_zero, List.set_cons_succ]
        refine wpAny_take (i := 3) (oi := { dst := some 21, op := Go.Op.indexAddr 26 (Go.Operand.tmp 19) (Go.Operand.tmp 20), type := 0, pos := "law.go:73", after := #[{ on := 1, ground := Go.Ground.data }, { on := 2, ground := Go.Ground.data }], guard := none }) (v := ?_) rfl (by kernel_rfl) (by kernel_rfl) (by kernel_rfl) (fun _ _ _ h => h) (Or.inl ⟨by rfl, ?_⟩) ?_
        rotate_left
        · intro Z; go_simp; try with_reducible rfl
        simp only [Act.put, List.setIfInBounds_toArray, List.set_cons_zero, List.set_cons_succ]
        refine wpAny_ready (rs := [4]) (by kernel_rfl) (by simp) ?_
        refine AllReady.cons (o := { dst := some 22, op := Go.Op.load 3 (Go.Operand.tmp 21), type := 3, pos := "law.go:73", after := #[{ on := 3, ground := Go.Ground.data }], guard := none }) rfl (fun K hK => ?_) AllReady.nil
        go_simp; refine hK _ _ ?_; clear hK K
        refine wpAny_ready (rs := [5]) (by kernel_rfl) (by simp) ?_
        refine AllReady.cons (o := { dst := some 23, op := Go.Op.call { callee := Go.Callee.value (Go.Operand.func 16), args := #[Go.Operand.tmp 18, Go.Operand.tmp 22], argTypes := #[22, 3] }, type := 22, pos := "law.go:73", after := #[{ on := 0, ground := Go.Ground.data }, { on := 4, ground := Go.Ground.data }], guard := none }) rfl (fun K hK => ?_) AllReady.nil
        rw [if_pos (by rfl)]; go_simp; refine (kind_some A c L x _ (HR.out.l.later (by repeat (first | assumption | exact Below.refl _ _ | refine Below.drew ?_))) (by omega) HXM.out).mono ?_; rintro e w' ⟨Ao, no, co, rfl, hno, hb'⟩; have hD' := belowS (show Below wr.heap.size wr _ from by repeat (first | assumption | exact Below.refl _ _ | refine Below.drew ?_)) hb'; have z0 := (hD'.cell (p := ⟨b, o + j, none⟩) hbl).trans k0; clear hb'; dsimp only; refine hK _ _ ?_; clear hK K
        refine wpAny_take (i := 6) (oi := { dst := some 24, op := Go.Op.call { callee := Go.Callee.builtin Go.Builtin.len, args := #[Go.Operand.tmp 23], argTypes := #[22] }, type := 3, pos := "law.go:73", after := #[{ on := 5, ground := Go.Ground.data }], guard := none }) (v := ?_) rfl (by kernel_rfl) (by kernel_rfl) (by kernel_rfl) (fun _ _ _ h => h) (Or.inl ⟨by rfl, ?_⟩) ?_
        rotate_left
        · intro Z; go_simp; try with_reducible rfl
        simp only [Act.put, List.setIfInBounds_toArray, List.set_cons_zero, List.set_cons_succ]
        refine wpAny_take (i := 7) (oi := { dst := some 25, op := Go.Op.binOp Go.BinOp.eql 3 (Go.Operand.tmp 24) (Go.Operand.const (Go.Value.int Go.IntKind.i64 0)) 3, type := 4, pos := "law.go:73", after := #[{ on := 6, ground := Go.Ground.data }], guard := none }) (v := ?_) rfl (by kernel_rfl) (by kernel_rfl) (by kernel_rfl) (fun _ _ _ h => h) (Or.inl ⟨by rfl, ?_⟩) ?_
        rotate_left
        · intro Z; go_simp; try with_reducible rfl
        simp only [Act.put, List.setIfInBounds_toArray, List.set_cons_zero, List.set_cons_succ]
        refine wpAny_take (i := 8) (oi := { dst := some 26, op := Go.Op.move (Go.Operand.tmp 25), type := 4, pos := "law.go:73", after := #[{ on := 7, ground := Go.Ground.data }, { on := 5, ground := Go.Ground.chain }], guard := none }) (v := ?_) rfl (by kernel_rfl) (by kernel_rfl) (by kernel_rfl) (fun _ _ _ h => h) (Or.inl ⟨by rfl, ?_⟩) ?_
        rotate_left
        · intro Z; go_simp; try with_reducible rfl
        simp only [Act.put, List.setIfInBounds_toArray, List.set_cons_zero, List.set_cons_succ]
        refine wpAny_take (i := 9) (oi := { dst := some 27, op := Go.Op.move (Go.Operand.tmp 4), type := 3, pos := "law.go:73", after := #[{ on := 8, ground := Go.Ground.guard }], guard := some (8, false) }) (v := ?_) rfl (by kernel_rfl) (by kernel_rfl) (by kernel_rfl) (fun _ _ _ h => h) (Or.inl ⟨by rfl, ?_⟩) ?_
        rotate_left
        · intro Z; go_simp; try with_reducible rfl
        simp only [Act.put, List.setIfInBounds_toArray, List.set_cons_zero, List.set_cons_succ]
        refine wpAny_take (i := 10) (oi := { dst := some 28, op := Go.Op.binOp Go.BinOp.gtr 3 (Go.Operand.tmp 27) (Go.Operand.const (Go.Value.int Go.IntKind.i64 0)) 3, type := 4, pos := "law.go:73", after := #[{ on := 9, ground := Go.Ground.data }, { on := 8, ground := Go.Ground.guard }], guard := some (8, false) }) (v := ?_) rfl (by kernel_rfl) (by kernel_rfl) (by kernel_rfl) (fun _ _ _ h => h) (Or.inl ⟨by rfl, ?_⟩) ?_
        rotate_left
        · intro Z; go_simp; try with_reducible rfl
        simp only [Act.put, List.setIfInBounds_toArray, List.set_cons_zero, List.set_cons_succ]
        refine wpAny_take (i := 11) (oi := { dst := some 29, op := Go.Op.move (Go.Operand.tmp 28), type := 4, pos := "law.go:73", after := #[{ on := 10, ground := Go.Ground.data }, { on := 8, ground := Go.Ground.chain }, { on := 8, ground := Go.Ground.guard }], guard := some (8, false) }) (v := ?_) rfl (by kernel_rfl) (by kernel_rfl) (by kernel_rfl) (fun _ _ _ h => h) (Or.inl ⟨by rfl, ?_⟩) ?_
        rotate_left
        · intro Z; go_simp; try with_reducible rfl
        simp only [Act.put, List.setIfInBounds_toArray, List.set_cons_zero, List.set_cons_succ]
        refine wpAny_take (i := 12) (oi := { dst := some 30, op := Go.Op.move (Go.Operand.tmp 3), type := 26, pos := "law.go:73", after := #[{ on := 11, ground := Go.Ground.guard }], guard := some (11, true) }) (v := undef) rfl (by kernel_rfl) (by kernel_rfl) (by kernel_rfl) (fun _ _ _ h => h) (Or.inr ⟨by rfl, rfl⟩) ?_
        simp only [Act.put, List.setIfInBounds_toArray, List.set_cons_zero, List.set_cons_succ]
        refine wpAny_take (i := 13) (oi := { dst := some 31, op := Go.Op.move (Go.Operand.tmp 4), type := 3, pos := "law.go:73", after := #[{ on := 11, ground := Go.Ground.guard }], guard := some (11, true) }) (v := undef) rfl (by kernel_rfl) (by kernel_rfl) (by kernel_rfl) (fun _ _ _ h => h) (Or.inr ⟨by rfl, rfl⟩) ?_
        simp only [Act.put, List.setIfInBounds_toArray, List.set_cons_zero, List.set_cons_succ]
        refine wpAny_take (i := 14) (oi := { dst := some 32, op := Go.Op.binOp Go.BinOp.sub 3 (Go.Operand.tmp 31) (Go.Operand.const (Go.Value.int Go.IntKind.i64 1)) 3, type := 3, pos := "law.go:73", after := #[{ on := 13, ground := Go.Ground.data }, { on := 11, ground := Go.Ground.guard }], guard := some (11, true) }) (v := undef) rfl (by kernel_rfl) (by kernel_rfl) (by kernel_rfl) (fun _ _ _ h => h) (Or.inr ⟨by rfl, rfl⟩) ?_
        simp only [Act.put, List.setIfInBounds_toArray, List.set_cons_zero, List.set_cons_succ]
        refine wpAny_take (i := 15) (oi := { dst := some 33, op := Go.Op.indexAddr 26 (Go.Operand.tmp 30) (Go.Operand.tmp 32), type := 0, pos := "law.go:73", after := #[{ on := 12, ground := Go.Ground.data }, { on := 14, ground := Go.Ground.data }, { on := 11, ground := Go.Ground.guard }], guard := some (11, true) }) (v := undef) rfl (by kernel_rfl) (by kernel_rfl) (by kernel_rfl) (fun _ _ _ h => h) (Or.inr ⟨by rfl, rfl⟩) ?_
        simp only [Act.put, List.setIfInBounds_toArray, List.set_cons_zero, List.set_cons_succ]
        refine wpAny_take (i := 16) (oi := { dst := some 34, op := Go.Op.load 3 (Go.Operand.tmp 33), type := 3, pos := "law.go:73", after := #[{ on := 15, ground := Go.Ground.data }, { on := 11, ground := Go.Ground.guard }], guard := some (11, true) }) (v := undef) rfl (by kernel_rfl) (by kernel_rfl) (by kernel_rfl) (fun _ _ _ h => h) (Or.inr ⟨by rfl, rfl⟩) ?_
        simp only [Act.put, List.setIfInBounds_toArray, List.set_cons_zero, List.set_cons_succ]
        refine wpAny_take (i := 17) (oi := { dst := some 35, op := Go.Op.move (Go.Operand.tmp 3), type := 26, pos := "law.go:73", after := #[{ on := 11, ground := Go.Ground.guard }], guard := some (11, true) }) (v := undef) rfl (by kernel_rfl) (by kernel_rfl) (by kernel_rfl) (fun _ _ _ h => h) (Or.inr ⟨by rfl, rfl⟩) ?_
        simp only [Act.put, List.setIfInBounds_toArray, List.set_cons_zero, List.set_cons_succ]
        refine wpAny_take (i := 18) (oi := { dst := some 36, op := Go.Op.move (Go.Operand.tmp 4), type := 3, pos := "law.go:73", after := #[{ on := 11, ground := Go.Ground.guard }], guard := some (11, true) }) (v := undef) rfl (by kernel_rfl) (by kernel_rfl) (by kernel_rfl) (fun _ _ _ h => h) (Or.inr ⟨by rfl, rfl⟩) ?_
        simp only [Act.put, List.setIfInBounds_toArray, List.set_cons_zero, List.set_cons_succ]
        refine wpAny_take (i := 19) (oi := { dst := some 37, op := Go.Op.indexAddr 26 (Go.Operand.tmp 35) (Go.Operand.tmp 36), type := 0, pos := "law.go:73", after := #[{ on := 17, ground := Go.Ground.data }, { on := 18, ground := Go.Ground.data }, { on := 11, ground := Go.Ground.guard }], guard := some (11, true) }) (v := undef) rfl (by kernel_rfl) (by kernel_rfl) (by kernel_rfl) (fun _ _ _ h => h) (Or.inr ⟨by rfl, rfl⟩) ?_
        simp only [Act.put, List.setIfInBounds_toArray, List.set_cons_zero, List.set_cons_succ]
        refine wpAny_take (i := 20) (oi := { dst := some 38, op := Go.Op.load 3 (Go.Operand.tmp 37), type := 3, pos := "law.go:73", after := #[{ on := 19, ground := Go.Ground.data }, { on := 11, ground := Go.Ground.guard }], guard := some (11, true) }) (v := undef) rfl (by kernel_rfl) (by kernel_rfl) (by kernel_rfl) (fun _ _ _ h => h) (Or.inr ⟨by rfl, rfl⟩) ?_
        simp only [Act.put, List.setIfInBounds_toArray, List.set_cons_zero, List.set_cons_succ]
        refine wpAny_take (i := 21) (oi := { dst := some 39, op := Go.Op.binOp Go.BinOp.geq 3 (Go.Operand.tmp 34) (Go.Operand.tmp 38) 3, type := 4, pos := "law.go:73", after := #[{ on := 16, ground := Go.Ground.data }, { on := 20, ground := Go.Ground.data }, { on := 11, ground := Go.Ground.guard }], guard := some (11, true) }) (v := undef) rfl (by kernel_rfl) (by kernel_rfl) (by kernel_rfl) (fun _ _ _ h => h) (Or.inr ⟨by rfl, rfl⟩) ?_
        simp only [Act.put, List.setIfInBounds_toArray, List.set_cons_zero, List.set_cons_succ]
        refine wpAny_take (i := 22) (oi := { dst := some 40, op := Go.Op.pick (Go.Operand.tmp 29) (Go.Operand.tmp 39) (Go.Operand.const (Go.Value.bool false)), type := 4, pos := "law.go:73", after := #[{ on := 11, ground := Go.Ground.data }, { on := 21, ground := Go.Ground.data }, { on := 8, ground := Go.Ground.guard }], guard := some (8, false) }) (v := ?_) rfl (by kernel_rfl) (by kernel_rfl) (by kernel_rfl) (fun _ _ _ h => h) (Or.inl ⟨by rfl, ?_⟩) ?_
        rotate_left
        · intro Z; go_simp; try with_reducible rfl
        simp only [Act.put, List.setIfInBounds_toArray, List.set_cons_zero, List.set_cons_succ]
        refine wpAny_take (i := 23) (oi := { dst := some 41, op := Go.Op.pick (Go.Operand.tmp 26) (Go.Operand.const (Go.Value.bool true)) (Go.Operand.tmp 40), type := 4, pos := "law.go:73", after := #[{ on := 8, ground := Go.Ground.data }, { on := 22, ground := Go.Ground.data }], guard := none }) (v := ?_) rfl (by kernel_rfl) (by kernel_rfl) (by kernel_rfl) (fun _ _ _ h => h) (Or.inl ⟨by rfl, ?_⟩) ?_
        rotate_left
        · intro Z; go_simp; try with_reducible rfl
        simp only [Act.put, List.setIfInBounds_toArray, List.set_cons_zero, List.set_cons_succ]
        refine wpAny_done (by kernel_rfl) ?_ _
        refine at_world (fun Z => Below wr.heap.size wr Z) (by repeat (first | assumption | exact Below.refl _ _ | refine Below.drew ?_)) ?_
        intro Z hZ
        have HZ := Lib.hid (HR.out.later hZ)
        go_wp2_with fail
        go_roundw
        case rel => exact ⟨j + 1, by omega, by go_num, HZ.out⟩
        case measure => simp [intOf]; omega
      · obtain ⟨k, hk⟩ : ∃ k, j = k + 1 := ⟨j - 1, by omega⟩
        obtain ⟨b', o', e2, _, _, k1⟩ := HR.out.k.int (j := k) (by omega)
        simp only [Option.some.injEq, Addr.mk.injEq, and_true] at e2
        obtain ⟨rfl, rfl⟩ := e2
        have g1 := kinds_two HK.out hk hlt
        obtain ⟨y, hy⟩ : ∃ y, K.getD k 0 = y := ⟨_, rfl⟩
        rw [hy] at k1 g1
        rw [hx] at g1
        have d4 : decide ((0 : Int) < (j : Int)) = true := decide_eq_true (by omega)
        have d4' : decide (0 < j) = true := decide_eq_true (by omega)
        have d5 : decide (x ≤ y) = false := decide_eq_false (by omega)
        have v5 : IntKind.i64.wrap ((j : Int) - 1) = (k : Int) := by rw [IntWalk.i64_in _ (by omega)]; omega
        have i3 : (k : Int) < (K.length : Int) := by omega
        have i4 : (0 : Int) ≤ (k : Int) := by omega
        have HS := Lib.hid (show ∀ Z, Below wr.heap.size wr Z → (fun Z => Z.cell? ⟨b, o + j, none⟩ = some (.int .i64 x) ∧ Z.cell? ⟨b, o + k, none⟩ = some (.int .i64 y) ∧ Below wr.heap.size wr Z) Z from fun Z hZ => ⟨(hZ.cell (p := ⟨b, o + j, none⟩) hbl).trans k0, (hZ.cell (p := ⟨b, o + k, none⟩) hbl).trans k1, hZ⟩)
        clear hx hy hk g1
        go_wp2_with fail
        refine wp_region_any (by kernel_rfl) ?_
        change wpAny _ _ _ _ _ _ _ (World.drew _)
        refine wpAny_take (i := 0) (oi := { dst := some 18, op := Go.Op.move (Go.Operand.tmp 0), type := 22, pos := "law.go:73", after := #[], guard := none }) (v := ?_) rfl (by kernel_rfl) (by kernel_rfl) (by kernel_rfl) (fun _ _ _ h => h) (Or.inl ⟨by rfl, ?_⟩) ?_
        rotate_left
        · intro Z; go_simp; try with_reducible rfl
        simp only [Act.put, List.setIfInBounds_toArray, List.set_cons_zero, List.set_cons_succ]
        refine wpAny_take (i := 1) (oi := { dst := some 19, op := Go.Op.move (Go.Operand.tmp 3), type := 26, pos := "law.go:73", after := #[], guard := none }) (v := ?_) rfl (by kernel_rfl) (by kernel_rfl) (by kernel_rfl) (fun _ _ _ h => h) (Or.inl ⟨by rfl, ?_⟩) ?_
        rotate_left
        · intro Z; go_simp; try with_reducible rfl
        simp only [Act.put, List.setIfInBounds_toArray, List.set_cons_zero, List.set_cons_succ]
        refine wpAny_take (i := 2) (oi := { dst := some 20, op := Go.Op.move (Go.Operand.tmp 4), type := 3, pos := "law.go:73", after := #[], guard := none }) (v := ?_) rfl (by kernel_rfl) (by kernel_rfl) (by kernel_rfl) (fun _ _ _ h => h) (Or.inl ⟨by rfl, ?_⟩) ?_
        rotate_left
        · intro Z; go_simp; try with_reducible rfl
        simp only [Act.put, List.setIfInBounds_toArray, List.set_cons_zero, List.set_cons_succ]
        refine wpAny_take (i := 3) (oi := { dst := some 21, op := Go.Op.indexAddr 26 (Go.Operand.tmp 19) (Go.Operand.tmp 20), type := 0, pos := "law.go:73", after := #[{ on := 1, ground := Go.Ground.data }, { on := 2, ground := Go.Ground.data }], guard := none }) (v := ?_) rfl (by kernel_rfl) (by kernel_rfl) (by kernel_rfl) (fun _ _ _ h => h) (Or.inl ⟨by rfl, ?_⟩) ?_
        rotate_left
        · intro Z; go_simp; try with_reducible rfl
        simp only [Act.put, List.setIfInBounds_toArray, List.set_cons_zero, List.set_cons_succ]
        refine wpAny_ready (rs := [4]) (by kernel_rfl) (by simp) ?_
        refine AllReady.cons (o := { dst := some 22, op := Go.Op.load 3 (Go.Operand.tmp 21), type := 3, pos := "law.go:73", after := #[{ on := 3, ground := Go.Ground.data }], guard := none }) rfl (fun K hK => ?_) AllReady.nil
        go_simp; refine hK _ _ ?_; clear hK K
        refine wpAny_ready (rs := [5]) (by kernel_rfl) (by simp) ?_
        refine AllReady.cons (o := { dst := some 23, op := Go.Op.call { callee := Go.Callee.value (Go.Operand.func 16), args := #[Go.Operand.tmp 18, Go.Operand.tmp 22], argTypes := #[22, 3] }, type := 22, pos := "law.go:73", after := #[{ on := 0, ground := Go.Ground.data }, { on := 4, ground := Go.Ground.data }], guard := none }) rfl (fun K hK => ?_) AllReady.nil
        rw [if_pos (by rfl)]; go_simp; refine (kind_some A c L x _ (HR.out.l.later (by repeat (first | assumption | exact Below.refl _ _ | refine Below.drew ?_))) (by omega) HXM.out).mono ?_; rintro e w' ⟨Ao, no, co, rfl, hno, hb'⟩; have hD' := belowS (show Below wr.heap.size wr _ from by repeat (first | assumption | exact Below.refl _ _ | refine Below.drew ?_)) hb'; have z0 := (hD'.cell (p := ⟨b, o + j, none⟩) hbl).trans k0; have z1 := (hD'.cell (p := ⟨b, o + k, none⟩) hbl).trans k1; clear hb'; dsimp only; refine hK _ _ ?_; clear hK K
        refine wpAny_take (i := 6) (oi := { dst := some 24, op := Go.Op.call { callee := Go.Callee.builtin Go.Builtin.len, args := #[Go.Operand.tmp 23], argTypes := #[22] }, type := 3, pos := "law.go:73", after := #[{ on := 5, ground := Go.Ground.data }], guard := none }) (v := ?_) rfl (by kernel_rfl) (by kernel_rfl) (by kernel_rfl) (fun _ _ _ h => h) (Or.inl ⟨by rfl, ?_⟩) ?_
        rotate_left
        · intro Z; go_simp; try with_reducible rfl
        simp only [Act.put, List.setIfInBounds_toArray, List.set_cons_zero, List.set_cons_succ]
        refine wpAny_take (i := 7) (oi := { dst := some 25, op := Go.Op.binOp Go.BinOp.eql 3 (Go.Operand.tmp 24) (Go.Operand.const (Go.Value.int Go.IntKind.i64 0)) 3, type := 4, pos := "law.go:73", after := #[{ on := 6, ground := Go.Ground.data }], guard := none }) (v := ?_) rfl (by kernel_rfl) (by kernel_rfl) (by kernel_rfl) (fun _ _ _ h => h) (Or.inl ⟨by rfl, ?_⟩) ?_
        rotate_left
        · intro Z; go_simp; try with_reducible rfl
        simp only [Act.put, List.setIfInBounds_toArray, List.set_cons_zero, List.set_cons_succ]
        refine wpAny_take (i := 8) (oi := { dst := some 26, op := Go.Op.move (Go.Operand.tmp 25), type := 4, pos := "law.go:73", after := #[{ on := 7, ground := Go.Ground.data }, { on := 5, ground := Go.Ground.chain }], guard := none }) (v := ?_) rfl (by kernel_rfl) (by kernel_rfl) (by kernel_rfl) (fun _ _ _ h => h) (Or.inl ⟨by rfl, ?_⟩) ?_
        rotate_left
        · intro Z; go_simp; try with_reducible rfl
        simp only [Act.put, List.setIfInBounds_toArray, List.set_cons_zero, List.set_cons_succ]
        refine wpAny_take (i := 9) (oi := { dst := some 27, op := Go.Op.move (Go.Operand.tmp 4), type := 3, pos := "law.go:73", after := #[{ on := 8, ground := Go.Ground.guard }], guard := some (8, false) }) (v := ?_) rfl (by kernel_rfl) (by kernel_rfl) (by kernel_rfl) (fun _ _ _ h => h) (Or.inl ⟨by rfl, ?_⟩) ?_
        rotate_left
        · intro Z; go_simp; try with_reducible rfl
        simp only [Act.put, List.setIfInBounds_toArray, List.set_cons_zero, List.set_cons_succ]
        refine wpAny_take (i := 10) (oi := { dst := some 28, op := Go.Op.binOp Go.BinOp.gtr 3 (Go.Operand.tmp 27) (Go.Operand.const (Go.Value.int Go.IntKind.i64 0)) 3, type := 4, pos := "law.go:73", after := #[{ on := 9, ground := Go.Ground.data }, { on := 8, ground := Go.Ground.guard }], guard := some (8, false) }) (v := ?_) rfl (by kernel_rfl) (by kernel_rfl) (by kernel_rfl) (fun _ _ _ h => h) (Or.inl ⟨by rfl, ?_⟩) ?_
        rotate_left
        · intro Z; go_simp; try with_reducible rfl
        simp only [Act.put, List.setIfInBounds_toArray, List.set_cons_zero, List.set_cons_succ]
        refine wpAny_take (i := 11) (oi := { dst := some 29, op := Go.Op.move (Go.Operand.tmp 28), type := 4, pos := "law.go:73", after := #[{ on := 10, ground := Go.Ground.data }, { on := 8, ground := Go.Ground.chain }, { on := 8, ground := Go.Ground.guard }], guard := some (8, false) }) (v := ?_) rfl (by kernel_rfl) (by kernel_rfl) (by kernel_rfl) (fun _ _ _ h => h) (Or.inl ⟨by rfl, ?_⟩) ?_
        rotate_left
        · intro Z; go_simp; try with_reducible rfl
        simp only [Act.put, List.setIfInBounds_toArray, List.set_cons_zero, List.set_cons_succ]
        refine wpAny_take (i := 12) (oi := { dst := some 30, op := Go.Op.move (Go.Operand.tmp 3), type := 26, pos := "law.go:73", after := #[{ on := 11, ground := Go.Ground.guard }], guard := some (11, true) }) (v := ?_) rfl (by kernel_rfl) (by kernel_rfl) (by kernel_rfl) (fun _ _ _ h => h) (Or.inl ⟨by rfl, ?_⟩) ?_
        rotate_left
        · intro Z; go_simp; try with_reducible rfl
        simp only [Act.put, List.setIfInBounds_toArray, List.set_cons_zero, List.set_cons_succ]
        refine wpAny_take (i := 13) (oi := { dst := some 31, op := Go.Op.move (Go.Operand.tmp 4), type := 3, pos := "law.go:73", after := #[{ on := 11, ground := Go.Ground.guard }], guard := some (11, true) }) (v := ?_) rfl (by kernel_rfl) (by kernel_rfl) (by kernel_rfl) (fun _ _ _ h => h) (Or.inl ⟨by rfl, ?_⟩) ?_
        rotate_left
        · intro Z; go_simp; try with_reducible rfl
        simp only [Act.put, List.setIfInBounds_toArray, List.set_cons_zero, List.set_cons_succ]
        refine wpAny_take (i := 14) (oi := { dst := some 32, op := Go.Op.binOp Go.BinOp.sub 3 (Go.Operand.tmp 31) (Go.Operand.const (Go.Value.int Go.IntKind.i64 1)) 3, type := 3, pos := "law.go:73", after := #[{ on := 13, ground := Go.Ground.data }, { on := 11, ground := Go.Ground.guard }], guard := some (11, true) }) (v := ?_) rfl (by kernel_rfl) (by kernel_rfl) (by kernel_rfl) (fun _ _ _ h => h) (Or.inl ⟨by rfl, ?_⟩) ?_
        rotate_left
        · intro Z; go_simp; try with_reducible rfl
        simp only [Act.put, List.setIfInBounds_toArray, List.set_cons_zero, List.set_cons_succ]
        refine wpAny_take (i := 15) (oi := { dst := some 33, op := Go.Op.indexAddr 26 (Go.Operand.tmp 30) (Go.Operand.tmp 32), type := 0, pos := "law.go:73", after := #[{ on := 12, ground := Go.Ground.data }, { on := 14, ground := Go.Ground.data }, { on := 11, ground := Go.Ground.guard }], guard := some (11, true) }) (v := ?_) rfl (by kernel_rfl) (by kernel_rfl) (by kernel_rfl) (fun _ _ _ h => h) (Or.inl ⟨by rfl, ?_⟩) ?_
        rotate_left
        · intro Z; go_simp; try with_reducible rfl
        simp only [Act.put, List.setIfInBounds_toArray, List.set_cons_zero, List.set_cons_succ]
        refine wpAny_take (i := 17) (oi := { dst := some 35, op := Go.Op.move (Go.Operand.tmp 3), type := 26, pos := "law.go:73", after := #[{ on := 11, ground := Go.Ground.guard }], guard := some (11, true) }) (v := ?_) rfl (by kernel_rfl) (by kernel_rfl) (by kernel_rfl) (fun _ _ _ h => h) (Or.inl ⟨by rfl, ?_⟩) ?_
        rotate_left
        · intro Z; go_simp; try with_reducible rfl
        simp only [Act.put, List.setIfInBounds_toArray, List.set_cons_zero, List.set_cons_succ]
        refine wpAny_take (i := 18) (oi := { dst := some 36, op := Go.Op.move (Go.Operand.tmp 4), type := 3, pos := "law.go:73", after := #[{ on := 11, ground := Go.Ground.guard }], guard := some (11, true) }) (v := ?_) rfl (by kernel_rfl) (by kernel_rfl) (by kernel_rfl) (fun _ _ _ h => h) (Or.inl ⟨by rfl, ?_⟩) ?_
        rotate_left
        · intro Z; go_simp; try with_reducible rfl
        simp only [Act.put, List.setIfInBounds_toArray, List.set_cons_zero, List.set_cons_succ]
        refine wpAny_take (i := 19) (oi := { dst := some 37, op := Go.Op.indexAddr 26 (Go.Operand.tmp 35) (Go.Operand.tmp 36), type := 0, pos := "law.go:73", after := #[{ on := 17, ground := Go.Ground.data }, { on := 18, ground := Go.Ground.data }, { on := 11, ground := Go.Ground.guard }], guard := some (11, true) }) (v := ?_) rfl (by kernel_rfl) (by kernel_rfl) (by kernel_rfl) (fun _ _ _ h => h) (Or.inl ⟨by rfl, ?_⟩) ?_
        rotate_left
        · intro Z; go_simp; try with_reducible rfl
        simp only [Act.put, List.setIfInBounds_toArray, List.set_cons_zero, List.set_cons_succ]
        refine wpAny_ready (rs := [16, 20]) (by kernel_rfl) (by simp) ?_
        refine AllReady.cons (o := { dst := some 34, op := Go.Op.load 3 (Go.Operand.tmp 33), type := 3, pos := "law.go:73", after := #[{ on := 15, ground := Go.Ground.data }, { on := 11, ground := Go.Ground.guard }], guard := some (11, true) }) rfl (fun K hK => ?_) (AllReady.cons (o := { dst := some 38, op := Go.Op.load 3 (Go.Operand.tmp 37), type := 3, pos := "law.go:73", after := #[{ on := 19, ground := Go.Ground.data }, { on := 11, ground := Go.Ground.guard }], guard := some (11, true) }) rfl (fun K hK => ?_) AllReady.nil)
        · go_simp; refine hK _ _ ?_; clear hK K
          refine wpAny_ready (rs := [20]) (by kernel_rfl) (by simp) ?_
          refine AllReady.cons (o := { dst := some 38, op := Go.Op.load 3 (Go.Operand.tmp 37), type := 3, pos := "law.go:73", after := #[{ on := 19, ground := Go.Ground.data }, { on := 11, ground := Go.Ground.guard }], guard := some (11, true) }) rfl (fun K hK => ?_) AllReady.nil
          go_simp; refine hK _ _ ?_; clear hK K
          refine wpAny_take (i := 21) (oi := { dst := some 39, op := Go.Op.binOp Go.BinOp.geq 3 (Go.Operand.tmp 34) (Go.Operand.tmp 38) 3, type := 4, pos := "law.go:73", after := #[{ on := 16, ground := Go.Ground.data }, { on := 20, ground := Go.Ground.data }, { on := 11, ground := Go.Ground.guard }], guard := some (11, true) }) (v := ?_) rfl (by kernel_rfl) (by kernel_rfl) (by kernel_rfl) (fun _ _ _ h => h) (Or.inl ⟨by rfl, ?_⟩) ?_
          rotate_left
          · intro Z; go_simp; try with_reducible rfl
          simp only [Act.put, List.setIfInBounds_toArray, List.set_cons_zero, List.set_cons_succ]
          refine wpAny_take (i := 22) (oi := { dst := some 40, op := Go.Op.pick (Go.Operand.tmp 29) (Go.Operand.tmp 39) (Go.Operand.const (Go.Value.bool false)), type := 4, pos := "law.go:73", after := #[{ on := 11, ground := Go.Ground.data }, { on := 21, ground := Go.Ground.data }, { on := 8, ground := Go.Ground.guard }], guard := some (8, false) }) (v := ?_) rfl (by kernel_rfl) (by kernel_rfl) (by kernel_rfl) (fun _ _ _ h => h) (Or.inl ⟨by rfl, ?_⟩) ?_
          rotate_left
          · intro Z; go_simp; try with_reducible rfl
          simp only [Act.put, List.setIfInBounds_toArray, List.set_cons_zero, List.set_cons_succ]
          refine wpAny_take (i := 23) (oi := { dst := some 41, op := Go.Op.pick (Go.Operand.tmp 26) (Go.Operand.const (Go.Value.bool true)) (Go.Operand.tmp 40), type := 4, pos := "law.go:73", after := #[{ on := 8, ground := Go.Ground.data }, { on := 22, ground := Go.Ground.data }], guard := none }) (v := ?_) rfl (by kernel_rfl) (by kernel_rfl) (by kernel_rfl) (fun _ _ _ h => h) (Or.inl ⟨by rfl, ?_⟩) ?_
          rotate_left
          · intro Z; go_simp; try with_reducible rfl
          simp only [Act.put, List.setIfInBounds_toArray, List.set_cons_zero, List.set_cons_succ]
          refine wpAny_done (by kernel_rfl) ?_ _
          refine at_world (fun Z => Below wr.heap.size wr Z) (by repeat (first | assumption | exact Below.refl _ _ | refine Below.drew ?_)) ?_
          intro Z hZ
          have HZ := Lib.hid (HR.out.later hZ)
          go_wp2_with fail
          go_roundw
          case rel => exact ⟨j + 1, by omega, by go_num, HZ.out⟩
          case measure => simp [intOf]; omega
        · go_simp; refine hK _ _ ?_; clear hK K
          refine wpAny_ready (rs := [16]) (by kernel_rfl) (by simp) ?_
          refine AllReady.cons (o := { dst := some 34, op := Go.Op.load 3 (Go.Operand.tmp 33), type := 3, pos := "law.go:73", after := #[{ on := 15, ground := Go.Ground.data }, { on := 11, ground := Go.Ground.guard }], guard := some (11, true) }) rfl (fun K hK => ?_) AllReady.nil
          go_simp; refine hK _ _ ?_; clear hK K
          refine wpAny_take (i := 21) (oi := { dst := some 39, op := Go.Op.binOp Go.BinOp.geq 3 (Go.Operand.tmp 34) (Go.Operand.tmp 38) 3, type := 4, pos := "law.go:73", after := #[{ on := 16, ground := Go.Ground.data }, { on := 20, ground := Go.Ground.data }, { on := 11, ground := Go.Ground.guard }], guard := some (11, true) }) (v := ?_) rfl (by kernel_rfl) (by kernel_rfl) (by kernel_rfl) (fun _ _ _ h => h) (Or.inl ⟨by rfl, ?_⟩) ?_
          rotate_left
          · intro Z; go_simp; try with_reducible rfl
          simp only [Act.put, List.setIfInBounds_toArray, List.set_cons_zero, List.set_cons_succ]
          refine wpAny_take (i := 22) (oi := { dst := some 40, op := Go.Op.pick (Go.Operand.tmp 29) (Go.Operand.tmp 39) (Go.Operand.const (Go.Value.bool false)), type := 4, pos := "law.go:73", after := #[{ on := 11, ground := Go.Ground.data }, { on := 21, ground := Go.Ground.data }, { on := 8, ground := Go.Ground.guard }], guard := some (8, false) }) (v := ?_) rfl (by kernel_rfl) (by kernel_rfl) (by kernel_rfl) (fun _ _ _ h => h) (Or.inl ⟨by rfl, ?_⟩) ?_
          rotate_left
          · intro Z; go_simp; try with_reducible rfl
          simp only [Act.put, List.setIfInBounds_toArray, List.set_cons_zero, List.set_cons_succ]
          refine wpAny_take (i := 23) (oi := { dst := some 41, op := Go.Op.pick (Go.Operand.tmp 26) (Go.Operand.const (Go.Value.bool true)) (Go.Operand.tmp 40), type := 4, pos := "law.go:73", after := #[{ on := 8, ground := Go.Ground.data }, { on := 22, ground := Go.Ground.data }], guard := none }) (v := ?_) rfl (by kernel_rfl) (by kernel_rfl) (by kernel_rfl) (fun _ _ _ h => h) (Or.inl ⟨by rfl, ?_⟩) ?_
          rotate_left
          · intro Z; go_simp; try with_reducible rfl
          simp only [Act.put, List.setIfInBounds_toArray, List.set_cons_zero, List.set_cons_succ]
          refine wpAny_done (by kernel_rfl) ?_ _
          refine at_world (fun Z => Below wr.heap.size wr Z) (by repeat (first | assumption | exact Below.refl _ _ | refine Below.drew ?_)) ?_
          intro Z hZ
          have HZ := Lib.hid (HR.out.later hZ)
          go_wp2_with fail
          go_roundw
          case rel => exact ⟨j + 1, by omega, by go_num, HZ.out⟩
          case measure => simp [intOf]; omega
    · obtain rfl : j = K.length := by omega
      have HX2 := Lib.hid HR.out
      clear hlt
      go_wp2_with fail
      go_loopw [5] (fun i wr => ∃ (j : Nat), j ≤ L.length ∧ i = .int .i64 j ∧ Hid (KdR W A L A2 K wr)) (fun i _ => L.length - (intOf i).toNat)
      case atStart => exact ⟨0, Nat.zero_le _, rfl, HX2.out⟩
      case round =>
        obtain ⟨j, hj, rfl, HR⟩ := hrel
        by_cases hlt : j < L.length
        · obtain ⟨x, rb, ro, hx, rfl, rbl, _, r0, _⟩ := HR.out.l.row hlt
          have hxm := Lib.hid (show x.k ∈ K from (HK.out.2 x.k).2 ⟨x, List.mem_of_getElem? hx, rfl⟩)
          have i1 : (j : Int) < (L.length : Int) := by omega
          have i2 : (0 : Int) ≤ (j : Int) := by omega
          obtain ⟨z, hz⟩ : ∃ z, x.k = z := ⟨_, rfl⟩
          rw [hz] at r0 hxm
          clear hx hz
          go_wp2_with fail
          go_loopw [6, 7] (fun t i wq => ∃ (n : Nat) (tb : Bool) (q : Nat), n ≤ K.length ∧ i = .int .i64 n ∧ t = .bool tb ∧ Hid (tb = true ↔ ∃ m, m < n ∧ K.getD m 0 = z) ∧ wq = wr.drewN q) (fun _ i _ => K.length - (intOf i).toNat)
          case atStart => exact ⟨0, false, 0, Nat.zero_le _, rfl, rfl, Lib.hid (by simp), rfl⟩
          case round =>
            obtain ⟨n, tb, q, hn, rfl, rfl, ht, hwr⟩ := hrel
            have HW := Lib.hid hwr
            have HQ := Lib.hid (hwr ▸ HR.out.later (selfDrew _ q))
            have r1 : wr.cell? ⟨rb, ro + j * 5, none⟩ = some (.int .i64 z) := by rw [hwr]; exact r0
            have hsz : rb < wr.heap.size := by rw [hwr]; exact rbl
            clear hwr
            by_cases hln : n < K.length
            · obtain ⟨b, o, rfl, hbl, _, k0⟩ := HQ.out.k.int hln
              obtain ⟨u, hu⟩ : ∃ u, K.getD n 0 = u := ⟨_, rfl⟩
              rw [hu] at k0
              have n1 : (n : Int) < (K.length : Int) := by omega
              have n2 : (0 : Int) ≤ (n : Int) := by omega
              have HU := Lib.hid hu
              clear hu
              by_cases huz : u = z
              · have d1 : (u == z) = true := beq_iff_eq.2 huz
                have HT := Lib.hid (show (true = true ↔ ∃ m, m < n + 1 ∧ K.getD m 0 = z) from ⟨fun _ => ⟨n, by omega, HU.out.trans huz⟩, fun _ => rfl⟩)
                clear huz
                go_wp2_with fail
                go_quiet (fail)
                go_wp2_with fail
                go_roundw
                case rel => exact ⟨n + 1, true, _, by omega, by go_num, rfl, Lib.hid (by simpa using HT.out), by rw [HW.out]; exact World.drewN_drewN _ _ _⟩
                case measure => simp [intOf]; omega
              · have d1 : (u == z) = false := beq_eq_false_iff_ne.2 huz
                have HT := Lib.hid (show (tb = true ↔ ∃ m, m < n + 1 ∧ K.getD m 0 = z) from by
                  rw [ht.out]
                  constructor
                  · rintro ⟨m, hm, e⟩
                    exact ⟨m, by omega, e⟩
                  · rintro ⟨m, hm, e⟩
                    rcases Nat.lt_or_eq_of_le (Nat.le_of_lt_succ hm) with h | h
                    · exact ⟨m, h, e⟩
                    · subst h
                      exact absurd (HU.out.symm.trans e) huz)
                clear huz
                go_wp2_with fail
                go_quiet (fail)
                go_wp2_with fail
                go_roundw
                case rel => exact ⟨n + 1, tb, _, by omega, by go_num, rfl, HT, by rw [HW.out]; exact World.drewN_drewN _ _ _⟩
                case measure => simp [intOf]; omega
            · obtain rfl : n = K.length := by omega
              obtain rfl : tb = true := ht.out.2 (mem_getD.1 hxm.out)
              clear hln
              go_wp2_with fail
              go_roundw
              case rel => exact ⟨j + 1, by omega, by go_num, HQ.out⟩
              case measure => simp [intOf]; omega
        · obtain rfl : j = L.length := by omega
          clear hlt
          go_wp2_with fail
          refine (awake_yes wr).mono ?_
          rintro e w4 ⟨rfl, hb4⟩
          have HR9 := Lib.hid (show YesL W (.returned (.bool true)) w4 from ⟨rfl, HR.out.b.trans (hb4.mono HR.out.b.size)⟩)
          clear hb4
          go_wp2_with fail
          go_ret
          exact HR9.out
end Go.Proofs.Ytkcielidjlgedaa
