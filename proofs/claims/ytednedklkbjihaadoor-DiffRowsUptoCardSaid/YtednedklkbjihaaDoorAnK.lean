/- ansi: the law's op, same, awake. -/
import Derived.Test.YtednedklkbjihaaDoorAnJ
namespace Go.Proofs.YtednedklkbjihaaDoor
open Go.RowKit
set_option linter.unusedVariables false
set_option linter.unusedSimpArgs false

theorem op_any (k a b : Int) (t : ByteArray) (w : World) :
    Calls Tryd.prog 17 #[opV k a b t] w fun e w' => e = .returned (opV k a b t) ∧ Below w.heap.size w w' := by
  have k0 : ∀ u v x y : Value, ∀ j, ((w.alloc (.cells (opC k a b t) 49)).alloc (.cells #[u, v, x, y] 51)).cell? ⟨w.heap.size + 1, j, none⟩ = #[u, v, x, y][j]? := fun u v x y => by
    have := (blk_new (w.alloc (.cells (opC k a b t) 49)) #[u, v, x, y] 51).2.1
    rwa [World.size_alloc] at this
  go_enter Tryd.func17, Tryd.ntmps17
  go_wp2
  refine at_world (fun X => X.cell? ⟨w.heap.size + 1, 0, none⟩ = some (.int .i64 k) ∧ X.cell? ⟨w.heap.size + 1, 1, none⟩ = some (.int .i64 a) ∧ X.cell? ⟨w.heap.size + 1, 2, none⟩ = some (.int .i64 b) ∧ X.cell? ⟨w.heap.size + 1, 3, none⟩ = some (.string t) ∧ Below w.heap.size w X) ⟨k0 _ _ _ _ 0, k0 _ _ _ _ 1, k0 _ _ _ _ 2, k0 _ _ _ _ 3, belPush (belAlloc _ _) _⟩ ?_
  rintro X ⟨x0, x1, x2, x3, hX⟩
  refine bodyPost_ret (v := opV k a b t) (by simp [results, Tryd.results17, go_sem, x0, x1, x2, x3]) rfl ⟨rfl, hX⟩

theorem eq_op (k a b : Int) (t : ByteArray) (w : World) : (Op.equalIn 10000 51 (opV k a b t) (opV k a b t)).run Tryd.prog w = .ok true w := by
  rw [show (10000 : Nat) = 9999 + 1 from rfl, run_equalIn_agg w 9999 51 _ _ (by kernel_rfl) (by kernel_rfl)]
  simp only [Program.fieldsOf, Tryd.underlying51]
  have u3 := Tryd.underlying3
  have u4 := Tryd.underlying9
  have a3 := Tryd.isAgg3
  have a4 := Tryd.isAgg9
  have z3 := Tryd.sizeOf3
  have z4 := Tryd.sizeOf9
  go_simp
theorem neq_op (k a b : Int) (t : ByteArray) (w : World) : (Go.binOp .neq 51 (opV k a b t) (opV k a b t)).run Tryd.prog w = .ok (.bool false) w := by
  rw [run_neq_struct, eq_op]
  rfl

def YesO (w : World) (e : Ending) (w' : World) : Prop := e = .returned (.bool true) ∧ Below w.heap.size w w'
set_option maxRecDepth 100000 in
set_option maxHeartbeats 4000000 in
theorem same_any (A B : Option Addr) (n c m d : Nat) (L : List Ob) (w : World) (hA : LiV 4 encO w (fun _ => True) (.slice A n c) L) (hB : LiV 4 encO w (fun _ => True) (.slice B m d) L) (hl : L.length ≤ 1000) :
    Calls Tryd.prog 23 #[.slice A n c, .slice B m d] w (YesO w) := by
  obtain ⟨rfl, la, _, hnc, hcm⟩ := hA.parts
  obtain ⟨rfl, lb, _, hmd, hdm⟩ := hB.parts
  have HL := Lib.hid (And.intro la lb)
  obtain ⟨N, hN⟩ : ∃ N, L.length = N := ⟨_, rfl⟩
  have HN := Lib.hid hN
  rw [hN] at hl hnc hmd ⊢
  clear hA hB la lb hN
  go_enter Tryd.func23, Tryd.ntmps23
  go_wp2
  go_loopw [5] (fun i wr => ∃ k : Nat, k ≤ N ∧ i = .int .i64 k ∧ Hid (Below w.heap.size w wr)) (fun i _ => N - (intOf i).toNat)
  case atStart => exact ⟨0, Nat.zero_le _, rfl, Below.refl _ _⟩
  case round =>
    obtain ⟨k, hk, rfl, HV⟩ := hrel
    by_cases hlt : k < N
    · have hkL : k < L.length := by rw [HN.out]; exact hlt
      obtain ⟨x, b, o, hx, rfl, hb, _⟩ := HL.out.1.ob hkL
      obtain ⟨x', b', o', hx', rfl, hb', _⟩ := HL.out.2.ob hkL
      rw [hx] at hx'
      injection hx' with hx'
      subst hx'
      have HS := Lib.hid (show ∀ X, Below w.heap.size w X → (fun X => X.cell? ⟨b, o + k * 4, none⟩ = some (.int .i64 x.k) ∧ X.cell? ⟨b, o + k * 4 + 1, none⟩ = some (.int .i64 x.a) ∧ X.cell? ⟨b, o + k * 4 + 2, none⟩ = some (.int .i64 x.b) ∧ X.cell? ⟨b, o + k * 4 + 3, none⟩ = some (.string x.t) ∧ X.cell? ⟨b', o' + k * 4, none⟩ = some (.int .i64 x.k) ∧ X.cell? ⟨b', o' + k * 4 + 1, none⟩ = some (.int .i64 x.a) ∧ X.cell? ⟨b', o' + k * 4 + 2, none⟩ = some (.int .i64 x.b) ∧ X.cell? ⟨b', o' + k * 4 + 3, none⟩ = some (.string x.t)) X from fun X hX => by
        obtain ⟨y, b1, o1, hy, e1, _, c0, c1, c2, c3⟩ := (HL.out.1.later hX).ob hkL
        obtain ⟨z, b2, o2, hz, e2, _, d0, d1, d2, d3⟩ := (HL.out.2.later hX).ob hkL
        rw [hx] at hy hz
        injection hy with hy
        injection hz with hz
        injection e1 with e1
        injection e1 with e1 f1
        injection e2 with e2
        injection e2 with e2 f2
        subst e1; subst f1; subst e2; subst f2; subst hy; subst hz
        exact ⟨c0, c1, c2, c3, d0, d1, d2, d3⟩)
      obtain ⟨xk, xa, xb, xt⟩ := x
      dsimp only at HS
      have g1 : (k : Int) < (N : Int) := by omega
      have g2 : (0 : Int) ≤ (k : Int) := by omega
      have hne := neq_op xk xa xb xt
      have hV := HV.out
      obtain ⟨c0, c1, c2, c3, d0, d1, d2, d3⟩ := HS.out wr HV.out
      clear hx hb hb'
      go_wp2_with fail
      go_region_held3 (fun X => X.cell? ⟨b, o + k * 4, none⟩ = some (.int .i64 xk) ∧ X.cell? ⟨b, o + k * 4 + 1, none⟩ = some (.int .i64 xa) ∧ X.cell? ⟨b, o + k * 4 + 2, none⟩ = some (.int .i64 xb) ∧ X.cell? ⟨b, o + k * 4 + 3, none⟩ = some (.string xt) ∧ X.cell? ⟨b', o' + k * 4, none⟩ = some (.int .i64 xk) ∧ X.cell? ⟨b', o' + k * 4 + 1, none⟩ = some (.int .i64 xa) ∧ X.cell? ⟨b', o' + k * 4 + 2, none⟩ = some (.int .i64 xb) ∧ X.cell? ⟨b', o' + k * 4 + 3, none⟩ = some (.string xt))
        (first | exact HS.out _ (by assumption) | go_keep)
        (first | (go_at_call 17; refine (op_any _ _ _ _ _).mono ?_; rintro e w3 ⟨rfl, hb3⟩; have hB3 := belowStepA (A := w) (by first | assumption | exact HV.out | exact HV.out.drew) hb3; clear hb3))
      all_goals
        have H3 := Lib.hid hB3
        clear hB3
        go_wp2_with fail
        go_roundw
        case rel => exact ⟨k + 1, by omega, by go_num, H3.out⟩
        case measure => simp [intOf]; omega
    · obtain rfl : k = N := by omega
      go_wp2_with fail
      go_ret
      exact ⟨rfl, HV.out⟩
end Go.Proofs.YtednedklkbjihaaDoor
