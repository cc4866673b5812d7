/- shift: (Edit).Do. -/
import Derived.Test.YtfmpldgeldocnaaSh1
import Derived.RegionTactic
import Derived.BigRegion
import Derived.BigQuiet
import Derived.StillTailTactics
namespace Go.Proofs.Ytfmpldgeldocnaa
open Go.RowKit
set_option linter.unusedVariables false
set_option linter.unusedSimpArgs false

/-- A text, and whether there is one. -/
def TellsE (l : List Int) (ok : Bool) (w : World) (e : Ending) (w' : World) : Prop := ∃ A n c, e = .returned (.tuple #[.slice A n c, .bool ok]) ∧ Txt w' (.slice A n c) l ∧ Below w.heap.size w w'

set_option maxHeartbeats 1000000 in
theorem do_neg (at_ : Int) (u v x : Value) (o : List Int) (w : World) (d0 : decide (at_ < 0) = true) : Calls Try.prog 20 #[.agg #[.int .i64 at_, u, v], x] w (TellsE [] false w) := by
  go_enter Try.func20, Try.ntmps20
  go_wp2
  go_ret2
  exact ⟨_, _, _, rfl, Sl.nil _ _ _, (Below.refl _ _).alloc (Nat.le_refl _) _⟩

set_option maxHeartbeats 1000000 in
theorem do_far (at_ : Int) (u v x : Value) (o l : List Int) (w : World) (d0 : decide (at_ < 0) = false) (d1 : decide ((l.length : Int) - (o.length : Int) < at_) = true) (hl : Txt w x l) (ho : Txt w u o) (hll : l.length ≤ 1000000) (hol : o.length ≤ 1000000) : Calls Try.prog 20 #[.agg #[.int .i64 at_, u, v], x] w (TellsE [] false w) := by
  obtain ⟨A, ca, rfl, _⟩ := Sl.is hl
  obtain ⟨B, cb, rfl, _⟩ := Sl.is ho
  clear hl ho
  go_enter Try.func20, Try.ntmps20
  go_wp2
  go_ret2
  exact ⟨_, _, _, rfl, Sl.nil _ _ _, (Below.refl _ _).alloc (Nat.le_refl _) _⟩

/-- A part of a slice. -/
theorem sub_txt {w : World} {S : Nat → Prop} {A : Option Addr} {k c : Nat} {l : List Int} (h : TxtS w S (.slice A k c) l) (a b : Nat) (hab : a ≤ b) (hb : b ≤ l.length) :
    TxtS w S (.slice (if c = a then A else Option.map (fun x => x.add a) A) (b - a) (c - a)) ((l.drop a).take (b - a)) := by
  obtain ⟨A', c', e, hr, h0, h1, h2, h3⟩ := h
  injection e with e1 e2 e3
  subst e1; subst e2; subst e3
  have hl : ((l.drop a).take (b - a)).length = b - a := by simp; omega
  unfold maxLen at *
  refine ⟨_, _, by rw [hl], ?_, ?_, by rw [hl]; omega, by unfold maxLen; omega, ?_⟩
  · rw [hl]
    intro j hj
    obtain ⟨g, o, e1, hlt, hc⟩ := hr (a + j) (by omega)
    subst e1
    rw [if_neg (by omega)]
    refine ⟨g, o + a, (by rw [Option.map_some, Go.WideShapes.add_plain]), hlt, ?_⟩
    rw [Nat.add_assoc, hc]
    simp only [liR, List.getD, List.getElem?_take, List.getElem?_drop, hj, if_true]
  · intro e
    rw [hl]
    by_cases hca : c = a
    · rw [if_pos hca] at e
      have := h0 e
      omega
    · rw [if_neg hca] at e
      cases A with
      | none => have := h0 rfl; omega
      | some q => cases e
  · rw [hl]
    intro q hq hn
    rw [if_neg (by omega)] at hq
    cases A with
    | none => cases hq
    | some q0 =>
      injection hq with hq
      subst hq
      have := h3 q0 rfl (by omega)
      obtain ⟨g, o, e1, _⟩ := hr a (by omega)
      injection e1 with e1
      subst e1
      simp only [Go.WideShapes.add_plain]
      exact this

theorem take_txt {w : World} {S : Nat → Prop} {A : Option Addr} {k c : Nat} {l : List Int} (h : TxtS w S (.slice A k c) l) (n : Nat) (hn : n ≤ l.length) : TxtS w S (.slice A n c) (l.take n) := by
  have hlen : (l.take n).length = n := by simp; omega
  have := Sl.take h n hn
  unfold TxtS
  rw [hlen]
  exact this.congr fun j hj => by simp [liR, List.getD, List.getElem?_take, hj]

set_option maxHeartbeats 1000000 in
theorem do_not (at_ : Nat) (u v x : Value) (o l : List Int) (w : World) (hat : at_ + o.length ≤ l.length) (hl : Txt w x l) (ho : Txt w u o) (hv : v.oneCell' = true) (hll : l.length ≤ 1000000) (hol : o.length ≤ 1000000) (hne : (l.drop at_).take o.length ≠ o) : Calls Try.prog 20 #[.agg #[.int .i64 at_, u, v], x] w (TellsE [] false w) := by
  obtain ⟨A, ca, rfl, _⟩ := Sl.is hl
  obtain ⟨B, cb, rfl, _⟩ := Sl.is ho
  have d0 : decide ((at_ : Int) < 0) = false := by simp
  have d1 : decide ((l.length : Int) - (o.length : Int) < (at_ : Int)) = false := by simp; omega
  obtain ⟨E, hE⟩ : ∃ E : Nat, at_ + o.length = E := ⟨_, rfl⟩
  have e0 : ((at_ : Int) + (o.length : Int)) = (E : Int) := by omega
  have e1 : (at_ : Int) ≤ (E : Int) := by omega
  have e2 : (E : Int) ≤ (ca : Int) := by omega
  have e3 : (0 : Int) ≤ (at_ : Int) := by omega
  have hEo : E - at_ = o.length := by omega
  have hq : decide ((l.drop at_).take (E - at_) = o) = false := by rw [hEo]; exact decide_eq_false hne
  have HS : Hid (∀ (X : World) n, Below w.heap.size w X → Calls Try.prog 29 #[.slice (if ca = at_ then A else Option.map (fun x => x.add at_) A) (E - at_) (ca - at_), .slice B o.length cb] (X.drewN n) fun e w'' => e = .returned (.bool false) ∧ ∃ m, w'' = X.drewN m) := Lib.hid (fun X n hX => (equal_is _ _ _ _ (X.drewN n) (sub_txt (hl.later (below_drewN hX n)) at_ E (by omega) (by omega)) (ho.later (below_drewN hX n))).mono fun e w'' hh => ⟨by rw [hh.1, hq], by obtain ⟨k, e⟩ := hh.2; exact ⟨_, e.trans (World.drewN_drewN _ _ _)⟩⟩)
  clear hl ho hne hq hEo hE
  go_enter Try.func20, Try.ntmps20
  go_wp2
  go_quiet ((go_at_call 29; exact (HS.out _ _ ((Below.refl _ _).alloc (Nat.le_refl _) _))))
  go_wp2
  all_goals go_ret2
  all_goals exact ⟨_, _, _, rfl, Sl.nil _ _ _, below_drewN ((Below.refl _ _).alloc (Nat.le_refl _) _) _⟩

/-- Three values, by the place. -/
def three (a b c : Value) (j : Nat) : Value := if j = 0 then a else if j = 1 then b else c
theorem three_new (w : World) (a b c : Value) (t : TypeId) : Rd (w.alloc (.cells #[a, b, c] t)) (some ⟨w.heap.size, 0, none⟩) 3 (three a b c) :=
  rd_new w _ t 3 _ fun j hj => by
    obtain rfl | rfl | rfl : j = 0 ∨ j = 1 ∨ j = 2 := by omega
    · rfl
    · rfl
    · rfl

theorem concatR3 (B : Option Addr) (d n1 c1 n2 c2 n3 c3 : Nat) (A1 A2 A3 : Option Addr) (l1 l2 l3 : List Int) (w : World) (hB : Rd w B 3 (three (.slice A1 n1 c1) (.slice A2 n2 c2) (.slice A3 n3 c3))) (h1 : Txt w (.slice A1 n1 c1) l1) (h2 : Txt w (.slice A2 n2 c2) l2) (h3 : Txt w (.slice A3 n3 c3) l3) (hl : l1.length + l2.length + l3.length ≤ 1000000) :
    Calls Try.prog 30 #[.slice B 3 d] w (TellsT (l1 ++ l2 ++ l3) w) := by
  obtain ⟨rfl, r1, z1, p1, q1⟩ := Sl.parts h1
  obtain ⟨rfl, r2, z2, p2, q2⟩ := Sl.parts h2
  obtain ⟨rfl, r3, z3, p3, q3⟩ := Sl.parts h3
  have hm : slRMany w 3 (fun j => if j = 0 then A1 else if j = 1 then A2 else A3) (fun j => if j = 0 then l1.length else if j = 1 then l2.length else l3.length) (fun j => if j = 0 then c1 else if j = 1 then c2 else c3) (fun j i => if j = 0 then liR l1 i else if j = 1 then liR l2 i else liR l3 i) := by
    refine ⟨fun j hj => ?_, fun j hj => ?_, fun j i => ?_⟩
    · obtain rfl | rfl | rfl : j = 0 ∨ j = 1 ∨ j = 2 := by omega
      · exact r1
      · exact r2
      · exact r3
    · obtain rfl | rfl | rfl : j = 0 ∨ j = 1 ∨ j = 2 := by omega
      · exact z1
      · exact z2
      · exact z3
    · by_cases hj : j = 0
      · simp only [hj, if_true]; rfl
      · by_cases hk : j = 1
        · simp only [hk, if_false, if_true]; rfl
        · simp only [hj, hk, if_false]; rfl
  refine (slR_concat B 3 d _ _ _ _ w (by omega) (hB.congr fun j hj => ?_) hm ?_).mono fun e w' h => ?_
  · obtain rfl | rfl | rfl : j = 0 ∨ j = 1 ∨ j = 2 := by omega
    · rfl
    · rfl
    · rfl
  · show 0 + l1.length + l2.length + l3.length ≤ _
    omega
  · obtain ⟨A, c, he, hown, hb⟩ := h
    refine ⟨_, _, _, he, txt_own (base := w.heap.size) (e := 21) (l := l1 ++ l2 ++ l3) (by simp [sumTo, Nat.add_assoc]) ?_, hb⟩
    have hc : catTo (fun j => if j = 0 then l1.length else if j = 1 then l2.length else l3.length) (fun j i => if j = 0 then liR l1 i else if j = 1 then liR l2 i else liR l3 i) 3 = (l1 ++ l2 ++ l3).map (Value.int .i32) := by
      simp only [catTo, if_pos, show ¬ (1 = 0) by omega, show ¬ (2 = 0) by omega, show ¬ (2 = 1) by omega, if_false, List.nil_append, List.map_append]
      rw [← liR_map l1, ← liR_map l2, ← liR_map l3]
    rw [hc] at hown
    exact hown

set_option maxHeartbeats 1000000 in
theorem do_yes (at_ : Nat) (u v x : Value) (o n l : List Int) (w : World) (hat : at_ + o.length ≤ l.length) (hl : Txt w x l) (ho : Txt w u o) (hv : Txt w v n) (hll : l.length ≤ 100000) (hol : o.length ≤ 1000000) (hnl : n.length ≤ 100000) (he : (l.drop at_).take o.length = o) : Calls Try.prog 20 #[.agg #[.int .i64 at_, u, v], x] w (TellsE (l.take at_ ++ n ++ l.drop (at_ + o.length)) true w) := by
  obtain ⟨A, ca, rfl, _⟩ := Sl.is hl
  obtain ⟨B, cb, rfl, _⟩ := Sl.is ho
  obtain ⟨N, cn, rfl, _⟩ := Sl.is hv
  have d0 : decide ((at_ : Int) < 0) = false := by simp
  have d1 : decide ((l.length : Int) - (o.length : Int) < (at_ : Int)) = false := by simp; omega
  obtain ⟨E, hE⟩ : ∃ E : Nat, at_ + o.length = E := ⟨_, rfl⟩
  have e0 : ((at_ : Int) + (o.length : Int)) = (E : Int) := by omega
  have e1 : (at_ : Int) ≤ (E : Int) := by omega
  have e2 : (E : Int) ≤ (ca : Int) := by omega
  have e3 : (0 : Int) ≤ (at_ : Int) := by omega
  have e4 : (E : Int) ≤ (l.length : Int) := by omega
  have e5 : (0 : Int) ≤ (E : Int) := by omega
  have e6 : (at_ : Int) ≤ (ca : Int) := by omega
  have hEo : E - at_ = o.length := by omega
  have hq : decide ((l.drop at_).take (E - at_) = o) = true := by rw [hEo]; exact decide_eq_true he
  obtain ⟨AA, hAA⟩ : ∃ AA, (if ca = at_ then A else Option.map (fun x => x.add at_) A) = AA := ⟨_, rfl⟩
  obtain ⟨AE, hAE⟩ : ∃ AE, (if ca = E then A else Option.map (fun x => x.add E) A) = AE := ⟨_, rfl⟩
  have HT := Lib.hid (And.intro (take_txt hl at_ (by omega)) (And.intro hv (show Txt w (.slice AE (l.length - E) (ca - E)) (l.drop (at_ + o.length)) from by
    have := sub_txt hl E l.length (by omega) (Nat.le_refl _)
    rw [hAE, List.take_of_length_le (by simp)] at this
    rw [hE]; exact this)))
  have hlen : (l.take at_).length + n.length + (l.drop (at_ + o.length)).length ≤ 1000000 := by simp; omega
  have HLn := Lib.hid hlen
  have HS : Hid (∀ (X : World) n, Below w.heap.size w X → Calls Try.prog 29 #[.slice AA (E - at_) (ca - at_), .slice B o.length cb] (X.drewN n) fun e w'' => e = .returned (.bool true) ∧ ∃ m, w'' = X.drewN m) := Lib.hid (fun X n hX => (equal_is _ _ _ _ (X.drewN n) (hAA ▸ sub_txt (hl.later (below_drewN hX n)) at_ E (by omega) (by omega)) (ho.later (below_drewN hX n))).mono fun e w'' hh => ⟨by rw [hh.1, hq], by obtain ⟨k, e⟩ := hh.2; exact ⟨_, e.trans (World.drewN_drewN _ _ _)⟩⟩)
  clear hl ho hv he hq hEo hE hlen
  go_enter Try.func20, Try.ntmps20
  go_wp2
  go_quiet ((go_at_call 29; exact (HS.out _ _ ((Below.refl _ _).alloc (Nat.le_refl _) _))))
  go_wp2
  refine at_world (fun X => Blk X w.heap.size #[.int .i64 at_, .slice B o.length cb, .slice N n.length cn] ∧ Below w.heap.size w X) ⟨(blk_new w _ _).drewN _, below_drewN ((Below.refl _ _).alloc (Nat.le_refl _) _) _⟩ ?_
  rintro X ⟨HB, HW⟩
  have HBW := Lib.hid (And.intro HB HW)
  obtain ⟨y0, k0, j0⟩ := (show _ from HB)
  clear HB HW
  go_still_tail 9, (by kernel_rfl)
  change wpList _ _ _ _ _ X.drew
  refine at_world (fun Y => Below w.heap.size w Y) HBW.out.2.drew ?_
  rintro Y HY
  have HYY := Lib.hid HY
  have C := Lib.hid (concatR3 (some ⟨Y.heap.size, 0, none⟩) 3 at_ ca n.length cn (l.length - E) (ca - E) A N AE _ _ _ (Y.alloc (.cells #[.slice A at_ ca, .slice N n.length cn, .slice AE (l.length - E) (ca - E)] 27)) (three_new _ _ _ _ _) (HT.out.1.later (HY.alloc HY.size _)) (HT.out.2.1.later (HY.alloc HY.size _)) (HT.out.2.2.later (HY.alloc HY.size _)) HLn.out)
  clear y0 k0 j0 HY
  go_wp2_with fail
  (with_reducible refine C.out.mono ?_)
  rintro e w1 ⟨A1, n1, c1, rfl, ht1, hb1⟩
  have H1 := Lib.hid (And.intro ht1 (HYY.out.trans (((Below.refl _ _).alloc (Nat.le_refl _) _).trans (hb1.mono (by simp [World.size_alloc])) |>.mono HYY.out.size)))
  clear ht1 hb1
  go_wp2
  go_ret2
  exact ⟨_, _, _, rfl, H1.out.1.any, H1.out.2⟩
end Go.Proofs.Ytfmpldgeldocnaa
