/- diff: the law's sameOps; Go. -/
import Derived.Test.YtednedklkbjihaaDoorAnL
namespace Go.Proofs.YtednedklkbjihaaDoor
open Go.RowKit
set_option linter.unusedVariables false
set_option linter.unusedSimpArgs false
set_option maxRecDepth 100000

set_option maxHeartbeats 4000000 in
theorem sameops_any (A B : Option Addr) (n c m d : Nat) (L : List Ob) (w : World) (hA : LiV 4 encO w (fun _ => True) (.slice A n c) L) (hB : LiV 4 encO w (fun _ => True) (.slice B m d) L) (hl : L.length ≤ 100000) :
    Calls Tryd.prog 9 #[.slice A n c, .slice B m d] w (YesO w) := by
  obtain ⟨rfl, la, _, hnc, hcm⟩ := hA.parts
  obtain ⟨rfl, lb, _, hmd, hdm⟩ := hB.parts
  have HL := Lib.hid (And.intro la lb)
  obtain ⟨N, hN⟩ : ∃ N, L.length = N := ⟨_, rfl⟩
  have HN := Lib.hid hN
  rw [hN] at hl hnc hmd ⊢
  clear hA hB la lb hN
  go_enter Tryd.func9, Tryd.ntmps9
  go_wp2
  go_loopw [5] (fun i wr => ∃ k : Nat, k ≤ N ∧ i = .int .i64 k ∧ Hid (Below w.heap.size w wr)) (fun i _ => N - (intOf i).toNat)
  case atStart => exact ⟨0, Nat.zero_le _, rfl, Below.refl _ _⟩
  case round =>
    obtain ⟨k, hk, rfl, HV⟩ := hrel
    by_cases hlt : k < N
    · have hkL : k < L.length := by rw [HN.out]; exact hlt
      obtain ⟨x, b, o, hx, rfl, hb, c0, c1, c2, c3⟩ := (HL.out.1.later HV.out).ob hkL
      obtain ⟨x', b', o', hx', rfl, hb', d0, d1, d2, d3⟩ := (HL.out.2.later HV.out).ob hkL
      rw [hx] at hx'
      injection hx' with hx'
      subst hx'
      obtain ⟨xk, xa, xb, xt⟩ := x
      dsimp only at c0 c1 c2 c3 d0 d1 d2 d3
      have g1 : (k : Int) < (N : Int) := by omega
      have g2 : (0 : Int) ≤ (k : Int) := by omega
      have e1 : (xk != xk) = false := by simp
      have e2 : (xa != xa) = false := by simp
      have e3 : (xb != xb) = false := by simp
      clear hx hb hb'
      go_wp2_with fail
      go_quiet (fail)
      go_wp2_with fail
      go_roundw
      case rel => exact ⟨k + 1, by omega, by go_num, belDrew HV.out _⟩
      case measure => simp [intOf]; omega
    · obtain rfl : k = N := by omega
      go_wp2_with fail
      go_ret
      exact ⟨rfl, HV.out⟩

def goD (kn : Bool) (a b c d : Int) : List Ob := if kn then wayL a b c d else moveL c d
set_option maxHeartbeats 4000000 in
theorem go_any (kn : Bool) (a b c d : Int) (w : World) (hW : TabW w.heap.size w) (a0 : 0 ≤ a) (a1 : a ≤ 100000) (b0 : 0 ≤ b) (b1 : b ≤ 100000) (c0 : 0 ≤ c) (c1 : c ≤ 100000) (d0 : 0 ≤ d) (d1 : d ≤ 100000) :
    Calls Tryd.prog 10 #[.agg #[.int .i64 a, .int .i64 b], .bool kn, .agg #[.int .i64 c, .int .i64 d]] w (TellsL 4 encO (goD kn a b c d) w) := by
  cases kn
  · have e : goD false a b c d = [⟨2, c, d, ⟨#[]⟩⟩] := rfl
    rw [e]
    have HN := Lib.hid (fun Y B (hB : B = Y.heap.size) => op_newT Y 2 c d ⟨#[]⟩ 51 B hB)
    go_enter Tryd.func10, Tryd.ntmps10
    go_wp2
    go_ret
    exact ⟨_, 1, 1, rfl, (HN.out _ _ (by simp)).mono fun q hq => by (simp only [World.size_alloc] at hq; omega), belPush (belPush (belAlloc _ _) _) _⟩
  · have e : goD true a b c d = wayL a b c d := rfl
    rw [e]
    have C := Lib.hid (fun X hX => way_any a b c d X hX a0 a1 b0 b1 c0 c1 d0 d1)
    have HW := Lib.hid hW
    clear hW
    go_enter Tryd.func10, Tryd.ntmps10
    go_wp2_with fail
    refine at_callsA (fun X => Below w.heap.size w X) (belPush (belAlloc _ _) _) ?_
    intro X hX
    have HX := Lib.hid hX
    clear hX
    refine (C.out X (tabW_next HW.out (Nat.le_refl _) HX.out)).mono ?_
    rintro e w1 ⟨A, n, c', rfl, h1, b1⟩
    have H1 := Lib.hid (And.intro (h1.mono (S' := fun q => w.heap.size ≤ q) fun q hq => Nat.le_trans HX.out.size hq) (belowStepA HX.out b1))
    clear h1 b1
    go_wp2_with fail
    go_ret
    exact ⟨_, _, _, rfl, H1.out.1, H1.out.2⟩
set_option maxHeartbeats 4000000 in
theorem rgo_any (kn : Bool) (a b c d : Int) (w : World) (a0 : 0 ≤ a) (a1 : a ≤ 100000) (b0 : 0 ≤ b) (b1 : b ≤ 100000) (c0 : 0 ≤ c) (c1 : c ≤ 100000) (d0 : 0 ≤ d) (d1 : d ≤ 100000) :
    Calls Tryd.prog 11 #[.agg #[.int .i64 a, .int .i64 b], .bool kn, .agg #[.int .i64 c, .int .i64 d]] w (TellsL 4 encO (goD kn a b c d) w) := by
  cases kn
  · have e : goD false a b c d = [⟨2, c, d, ⟨#[]⟩⟩] := rfl
    rw [e]
    have HN := Lib.hid (fun Y B (hB : B = Y.heap.size) => op_newT Y 2 c d ⟨#[]⟩ 49 B hB)
    go_enter Tryd.func11, Tryd.ntmps11
    go_wp2
    go_ret
    exact ⟨_, 1, 1, rfl, (HN.out _ _ (by simp)).mono fun q hq => by (simp only [World.size_alloc] at hq; omega), belPush (belPush (belAlloc _ _) _) _⟩
  · have e : goD true a b c d = wayL a b c d := rfl
    rw [e]
    have C := Lib.hid (fun X => rway_any a b c d X a0 a1 b0 b1 c0 c1 d0 d1)
    go_enter Tryd.func11, Tryd.ntmps11
    go_wp2_with fail
    refine at_callsA (fun X => Below w.heap.size w X) (belPush (belAlloc _ _) _) ?_
    intro X hX
    have HX := Lib.hid hX
    clear hX
    refine (C.out X).mono ?_
    rintro e w1 ⟨A, n, c', rfl, h1, b1⟩
    have H1 := Lib.hid (And.intro (h1.mono (S' := fun q => w.heap.size ≤ q) fun q hq => Nat.le_trans HX.out.size hq) (belowStepA HX.out b1))
    clear h1 b1
    go_wp2_with fail
    go_ret
    exact ⟨_, _, _, rfl, H1.out.1, H1.out.2⟩
end Go.Proofs.YtednedklkbjihaaDoor
