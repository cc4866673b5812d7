/- shift: ShiftDoes' walk. -/
import Derived.Test.YtknanodojdamlaaSh3
import Derived.Deep.RegionHeld3
import Derived.IntWalk
namespace Go.Proofs.Ytknanodojdamlaa
open Go.RowKit
set_option linter.unusedVariables false
set_option linter.unusedSimpArgs false

/-- What Few leaves: the beginning of the text, where the text is. -/
def Cut (v : Value) (l : List Int) (k : Nat) (w : World) (e : Ending) (w' : World) : Prop := ∃ A c l', e = .returned (.slice A l'.length c) ∧ Hid (l'.length ≤ k ∧ ∀ (X : World) (S : Nat → Prop), TxtS X S v l → TxtS X S (.slice A l'.length c) l') ∧ w = w'
theorem few80 (v : Value) (l : List Int) (w : World) (h : Txt w v l) : Calls Try.prog 4 #[v, .int .i64 80] w (Cut v l 80 w) := (few_any v l 80 w h (by decide)).mono fun e w' ⟨A, c, he, ht, hw⟩ => ⟨A, c, _, he, Lib.hid ⟨by rw [List.length_take]; omega, ht⟩, hw⟩
theorem few40 (v : Value) (l : List Int) (w : World) (h : Txt w v l) : Calls Try.prog 4 #[v, .int .i64 40] w (Cut v l 40 w) := (few_any v l 40 w h (by decide)).mono fun e w' ⟨A, c, he, ht, hw⟩ => ⟨A, c, _, he, Lib.hid ⟨by rw [List.length_take]; omega, ht⟩, hw⟩

def YesW (w : World) (e : Ending) (w' : World) : Prop := e = .returned (.bool true) ∧ Below w.heap.size w w'

set_option maxHeartbeats 4000000 in
set_option maxRecDepth 100000 in
theorem walk_ShiftDoes (w : World) (v o n : Value) (at_ : Int) (l lo ln : List Int) (hl : Txt w v l) (ho : Txt w o lo) (hn : Txt w n ln) :
    Calls Try.prog 3 #[v, .agg #[.int .i64 at_, o, n]] w (YesW w) := by
  have HV := Lib.hid (And.intro hl (And.intro ho hn))
  obtain ⟨Av, cv, rfl, _⟩ := Sl.is hl
  obtain ⟨Ao, co, rfl, _⟩ := Sl.is ho
  obtain ⟨An, cn, rfl, _⟩ := Sl.is hn
  have hbw : Below w.heap.size w (w.alloc (.cells #[.int .i64 at_, .slice Ao lo.length co, .slice An ln.length cn] 24)) := (Below.refl _ _).alloc (Nat.le_refl _) _
  have C0 := Lib.hid (few80 (.slice Av l.length cv) l (w.alloc (.cells #[.int .i64 at_, .slice Ao lo.length co, .slice An ln.length cn] 24)) (hl.later hbw))
  have C1 := Lib.hid (few40 (.slice Ao lo.length co) lo (w.alloc (.cells #[.int .i64 at_, .slice Ao lo.length co, .slice An ln.length cn] 24)) (ho.later hbw))
  clear hl ho hn hbw
  go_enter Try.func3, Try.ntmps3
  go_wp2_with fail
  (with_reducible refine C0.out.mono ?_)
  rintro e w1 ⟨A0, c0, l0, rfl, T0, rfl⟩
  go_wp2_with fail
  (with_reducible refine C1.out.mono ?_)
  rintro e w1 ⟨A1, c1, l1, rfl, T1, rfl⟩
  go_wp2_with fail
  have C2 := Lib.hid (few40 (.slice An ln.length cn) ln (w.alloc (.cells #[.int .i64 at_, .slice A1 l1.length c1, .slice An ln.length cn] 24)) (HV.out.2.2.later ((Below.refl _ _).alloc (Nat.le_refl _) _)))
  (with_reducible refine C2.out.mono ?_)
  rintro e w1 ⟨A2, c2, l2, rfl, T2, rfl⟩
  clear C0 C1 C2
  go_wp2_with fail
  have hbz : Below w.heap.size w (w.alloc (.cells #[.int .i64 at_, .slice A1 l1.length c1, .slice A2 l2.length c2] 24)) := (Below.refl _ _).alloc (Nat.le_refl _) _
  have HT0 : Hid (Txt w (.slice A0 l0.length c0) l0) := Lib.hid (T0.out.2 _ _ HV.out.1)
  have HT1 : Hid (Txt w (.slice A1 l1.length c1) l1) := Lib.hid (T1.out.2 _ _ HV.out.2.1)
  have HT2 : Hid (Txt w (.slice A2 l2.length c2) l2) := Lib.hid (T2.out.2 _ _ HV.out.2.2)
  have HB0 := Lib.hid (blk_new w #[.int .i64 at_, .slice A1 l1.length c1, .slice A2 l2.length c2] 24)
  have n0 : l0.length ≤ 80 := T0.out.1
  have n1 : l1.length ≤ 40 := T1.out.1
  have n2 : l2.length ≤ 40 := T2.out.1
  have HZ := Lib.hid hbz
  clear HV T0 T1 T2 hbz
  obtain ⟨p0, q0⟩ : l0.length ≤ c0 ∧ c0 ≤ 9223372036854775807 := (Sl.parts HT0.out).2.2.2
  by_cases hneg : at_ < 0
  · have d0 : decide (at_ < 0) = true := decide_eq_true hneg
    have C3 := Lib.hid (do_neg at_ (.slice A1 l1.length c1) (.slice A2 l2.length c2) (.slice A0 l0.length c0) l1 (w.alloc (.cells #[.int .i64 at_, .slice A1 l1.length c1, .slice A2 l2.length c2] 24)) d0)
    (with_reducible refine C3.out.mono ?_)
    rintro e w3 ⟨A3, n3, c3, rfl, ht3, hb3⟩
    obtain rfl : n3 = 0 := Txt.len ht3
    have B3 := Lib.hid (And.intro (HB0.out.later hb3 HB0.out.1) (HZ.out.trans (hb3.mono HZ.out.size)))
    clear ht3 hb3 C3
    obtain ⟨y3, k3, j3⟩ := (show _ from B3.out.1)
    go_wp2
    go_quiet (fail)
    go_wp2_with fail
    (with_reducible refine (awake_yes _).mono ?_)
    rintro e w4 ⟨rfl, hb4⟩
    clear y3 k3 j3
    go_wp2
    go_ret
    exact ⟨rfl, (below_drewN B3.out.2 _).trans (hb4.mono (below_drewN B3.out.2 _).size)⟩
  by_cases hfar : (l0.length : Int) - (l1.length : Int) < at_
  · have d0 : decide (at_ < 0) = false := decide_eq_false hneg
    have d1 : decide ((l0.length : Int) - (l1.length : Int) < at_) = true := decide_eq_true hfar
    have C3 := Lib.hid (do_far at_ (.slice A1 l1.length c1) (.slice A2 l2.length c2) (.slice A0 l0.length c0) l1 l0 (w.alloc (.cells #[.int .i64 at_, .slice A1 l1.length c1, .slice A2 l2.length c2] 24)) d0 d1 (HT0.out.later HZ.out) (HT1.out.later HZ.out) (by omega) (by omega))
    (with_reducible refine C3.out.mono ?_)
    rintro e w3 ⟨A3, n3, c3, rfl, ht3, hb3⟩
    obtain rfl : n3 = 0 := Txt.len ht3
    have B3 := Lib.hid (And.intro (HB0.out.later hb3 HB0.out.1) (HZ.out.trans (hb3.mono HZ.out.size)))
    clear ht3 hb3 C3
    obtain ⟨y3, k3, j3⟩ := (show _ from B3.out.1)
    go_wp2
    go_quiet (fail)
    go_wp2_with fail
    (with_reducible refine (awake_yes _).mono ?_)
    rintro e w4 ⟨rfl, hb4⟩
    clear y3 k3 j3
    go_wp2
    go_ret
    exact ⟨rfl, (below_drewN B3.out.2 _).trans (hb4.mono (below_drewN B3.out.2 _).size)⟩
  obtain ⟨a, rfl⟩ := Int.eq_ofNat_of_zero_le (show 0 ≤ at_ by omega)
  have hfit : a + l1.length ≤ l0.length := by omega
  have d0 : decide ((a : Int) < 0) = false := decide_eq_false hneg
  have d1 : decide ((l0.length : Int) - (l1.length : Int) < (a : Int)) = false := decide_eq_false hfar
  obtain ⟨E, hE⟩ : ∃ E : Nat, a + l1.length = E := ⟨_, rfl⟩
  have e0 : ((a : Int) + (l1.length : Int)) = (E : Int) := by omega
  have e1 : (a : Int) ≤ (E : Int) := by omega
  have e2 : (E : Int) ≤ (c0 : Int) := by omega
  have e3 : (0 : Int) ≤ (a : Int) := by omega
  have e4 : (E : Int) ≤ (l0.length : Int) := by omega
  have e5 : (0 : Int) ≤ (E : Int) := by omega
  have e6 : (a : Int) ≤ (c0 : Int) := by omega
  have hEo : E - a = l1.length := by omega
  obtain ⟨AA, hAA⟩ : ∃ AA, (if c0 = a then A0 else Option.map (fun x => x.add a) A0) = AA := ⟨_, rfl⟩
  obtain ⟨AE, hAE⟩ : ∃ AE, (if c0 = E then A0 else Option.map (fun x => x.add E) A0) = AE := ⟨_, rfl⟩
  have HS : Hid (∀ (X : World) n, Below w.heap.size w X → Calls Try.prog 6 #[.slice AA (E - a) (c0 - a), .slice A1 l1.length c1] (X.drewN n) fun e w'' => e = .returned (.bool (decide ((l0.drop a).take l1.length = l1))) ∧ ∃ m, w'' = X.drewN m) := Lib.hid (fun X n hX => (same_is _ _ _ _ (X.drewN n) (hAA ▸ sub_txt (HT0.out.later (below_drewN hX n)) a E (by omega) (by omega)) (HT1.out.later (below_drewN hX n))).mono fun e w'' hh => ⟨by rw [hh.1, hEo], by obtain ⟨k, e⟩ := hh.2; exact ⟨_, e.trans (World.drewN_drewN _ _ _)⟩⟩)
  by_cases hsame : (l0.drop a).take l1.length = l1
  · have HSE : Hid (Txt w (.slice AE (l0.length - E) (c0 - E)) (l0.drop E)) := Lib.hid (by
      have := sub_txt HT0.out E l0.length (by omega) (Nat.le_refl _)
      rw [hAE, List.take_of_length_le (by simp)] at this
      exact this)
    have HTA := Lib.hid (take_txt HT0.out a (by omega))
    have C3 := Lib.hid (do_yes a (.slice A1 l1.length c1) (.slice A2 l2.length c2) (.slice A0 l0.length c0) l1 l2 l0 (w.alloc (.cells #[.int .i64 a, .slice A1 l1.length c1, .slice A2 l2.length c2] 24)) hfit (HT0.out.later HZ.out) (HT1.out.later HZ.out) (HT2.out.later HZ.out) (by omega) (by omega) (by omega) hsame)
    simp only [hsame, decide_true] at HS
    have hlen : (l0.take a).length + l2.length + (l0.drop E).length ≤ 1000000 := by simp; omega
    have HL := Lib.hid hlen
    rw [hE] at C3
    clear hsame hE hEo hfit hlen hneg hfar
    (with_reducible refine C3.out.mono ?_)
    rintro e w3 ⟨A3, n3, c3, rfl, ht3, hb3⟩
    have B3 := Lib.hid (And.intro (HB0.out.later hb3 HB0.out.1) (And.intro (HZ.out.trans (hb3.mono HZ.out.size)) ht3))
    clear ht3 hb3 C3
    obtain ⟨y3, k3, j3⟩ := (show _ from B3.out.1)
    go_wp2
    go_quiet ((go_at_call 6; exact (HS.out _ _ B3.out.2.1)))
    go_wp2
    clear y3 k3 j3
    refine at_world (fun X => Blk X w.heap.size #[.int .i64 a, .slice A1 l1.length c1, .slice A2 l2.length c2] ∧ Below w.heap.size w X ∧ Txt X (.slice A3 n3 c3) (l0.take a ++ l2 ++ l0.drop E)) ⟨B3.out.1.drewN _, below_drewN B3.out.2.1 _, B3.out.2.2.later (below_drewN (Below.refl _ _) _)⟩ ?_
    rintro X HX
    have B4 := Lib.hid HX
    clear HX
    obtain ⟨y4, k4, j4⟩ := (show _ from B4.out.1)
    have HD : Hid (Txt X.drew (.slice A0 a c0) (l0.take a) ∧ Txt X.drew (.slice A2 l2.length c2) l2 ∧ Txt X.drew (.slice AE (l0.length - E) (c0 - E)) (l0.drop E)) := Lib.hid ⟨HTA.out.later B4.out.2.1.drew, HT2.out.later B4.out.2.1.drew, HSE.out.later B4.out.2.1.drew⟩
    have ew : IntKind.i64.wrap (E : Int) = (E : Int) := IntWalk.i64_in _ (by omega)
    have ew2 : IntKind.i64.wrap ((a : Int) + (l1.length : Int)) = (E : Int) := by rw [e0]; exact ew
    have CX := Lib.hid (show X.drew.cell? ⟨w.heap.size, 0, none⟩ = some (.int .i64 a) ∧ X.drew.cell? ⟨w.heap.size, 1, none⟩ = some (.slice A1 l1.length c1) ∧ X.drew.cell? ⟨w.heap.size, 2, none⟩ = some (.slice A2 l2.length c2) from ⟨k4 0, k4 1, k4 2⟩)
    go_region_held3 (fun w' => w'.cell? ⟨w.heap.size, 0, none⟩ = some (.int .i64 a) ∧ w'.cell? ⟨w.heap.size, 1, none⟩ = some (.slice A1 l1.length c1) ∧ w'.cell? ⟨w.heap.size, 2, none⟩ = some (.slice A2 l2.length c2))
      (first | exact CX.out | exact C5.out | exact C6.out | exact C7.out | go_keep)
      (first
      | (go_at_call 8
         (with_reducible refine (joined_any (.slice A0 a c0) (.slice A2 l2.length c2) (.slice AE (l0.length - E) (c0 - E)) (l0.take a) l2 (l0.drop E) X.drew HD.out.1 HD.out.2.1 HD.out.2.2 HL.out).mono ?_)
         rintro e w5 ⟨A5, n5, c5, rfl, ht5, hb5⟩
         have H5 : Hid (Txt w5 (.slice A5 n5 c5) (l0.take a ++ l2 ++ l0.drop E) ∧ Txt w5 (.slice A3 n3 c3) (l0.take a ++ l2 ++ l0.drop E) ∧ Below w.heap.size w w5) := Lib.hid ⟨ht5.any, B4.out.2.2.later ((Below.refl _ _).drew.trans hb5), B4.out.2.1.trans (((Below.refl _ _).drew.trans hb5).mono B4.out.2.1.size)⟩
         have D5 := Lib.hid (Blk.later B4.out.1 ((Below.refl _ _).drew.trans hb5) B4.out.1.1)
         have C5 := Lib.hid (show w5.cell? ⟨w.heap.size, 0, none⟩ = some (.int .i64 a) ∧ w5.cell? ⟨w.heap.size, 1, none⟩ = some (.slice A1 l1.length c1) ∧ w5.cell? ⟨w.heap.size, 2, none⟩ = some (.slice A2 l2.length c2) from ⟨D5.out.2.1 0, D5.out.2.1 1, D5.out.2.1 2⟩)
         clear ht5 hb5)
      | (go_at_call 6
         (with_reducible refine (same_is (.slice A3 n3 c3) (.slice A5 n5 c5) (l0.take a ++ l2 ++ l0.drop E) (l0.take a ++ l2 ++ l0.drop E) w5 H5.out.2.1 H5.out.1).mono ?_)
         rintro e w6 ⟨he, m6, rfl⟩
         rw [decide_eq_true rfl] at he
         subst he
         have C6 := Lib.hid (show (w5.drewN m6).cell? ⟨w.heap.size, 0, none⟩ = some (.int .i64 a) ∧ (w5.drewN m6).cell? ⟨w.heap.size, 1, none⟩ = some (.slice A1 l1.length c1) ∧ (w5.drewN m6).cell? ⟨w.heap.size, 2, none⟩ = some (.slice A2 l2.length c2) from C5.out))
      | (go_at_call 7
         refine (awake_yes _).mono ?_
         rintro e w7 ⟨rfl, hb7⟩
         have D7 := Lib.hid (Blk.later (D5.out.drewN m6) hb7 (D5.out.drewN m6).1)
         have C7 := Lib.hid (show w7.cell? ⟨w.heap.size, 0, none⟩ = some (.int .i64 a) ∧ w7.cell? ⟨w.heap.size, 1, none⟩ = some (.slice A1 l1.length c1) ∧ w7.cell? ⟨w.heap.size, 2, none⟩ = some (.slice A2 l2.length c2) from ⟨D7.out.2.1 0, D7.out.2.1 1, D7.out.2.1 2⟩)))
    all_goals go_wp2
    all_goals go_ret
    all_goals exact ⟨rfl, (below_drewN H5.out.2.2 _).trans (hb7.mono (below_drewN H5.out.2.2 _).size)⟩
  · have C3 := Lib.hid (do_not a (.slice A1 l1.length c1) (.slice A2 l2.length c2) (.slice A0 l0.length c0) l1 l0 (w.alloc (.cells #[.int .i64 a, .slice A1 l1.length c1, .slice A2 l2.length c2] 24)) hfit (HT0.out.later HZ.out) (HT1.out.later HZ.out) rfl (by omega) (by omega) hsame)
    rw [decide_eq_false hsame] at HS
    clear hsame hE hEo hfit hneg hfar
    (with_reducible refine C3.out.mono ?_)
    rintro e w3 ⟨A3, n3, c3, rfl, ht3, hb3⟩
    obtain rfl : n3 = 0 := Txt.len ht3
    have B3 := Lib.hid (And.intro (HB0.out.later hb3 HB0.out.1) (HZ.out.trans (hb3.mono HZ.out.size)))
    clear ht3 hb3 C3
    obtain ⟨y3, k3, j3⟩ := (show _ from B3.out.1)
    go_wp2
    go_quiet ((go_at_call 6; exact (HS.out _ _ B3.out.2)))
    go_wp2_with fail
    (with_reducible refine (awake_yes _).mono ?_)
    rintro e w4 ⟨rfl, hb4⟩
    clear y3 k3 j3
    go_wp2
    go_ret
    exact ⟨rfl, (below_drewN B3.out.2 _).trans (hb4.mono (below_drewN B3.out.2 _).size)⟩
end Go.Proofs.Ytknanodojdamlaa
