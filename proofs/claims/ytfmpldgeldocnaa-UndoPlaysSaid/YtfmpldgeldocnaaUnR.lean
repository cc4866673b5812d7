/- undo: the document's Back. -/
import Derived.Test.YtfmpldgeldocnaaUnP
import Derived.RegionTactic
import Derived.BigRegion
import Derived.BigQuiet
import Derived.StillTailTactics
import Derived.IntWalk
namespace Go.Proofs.Ytfmpldgeldocnaa
open Go.RowKit
set_option linter.unusedVariables false
set_option linter.unusedSimpArgs false

theorem bStep {W w w' : World} (h : Below W.heap.size W w) (h' : Below w.heap.size w w') : Below W.heap.size W w' := h.trans (h'.mono h.size)
set_option maxHeartbeats 1000000 in
theorem rb_neg (at_ : Int) (u : Value) (B : Option Addr) (m d : Nat) (A : Option Addr) (n c : Nat) (w : World) (d0 : decide (at_ < 0) = true) : Calls Try.prog 36 #[.agg #[.int .i64 at_, u, .slice B m d], .slice A n c] w (TellsE [] false w) := by
  go_enter Try.func36, Try.ntmps36
  go_wp2
  go_quiet (fail)
  go_wp2
  go_ret2
  exact ⟨_, _, _, rfl, Sl.nil _ _ _, below_drewN (belAlloc _ _) _⟩

set_option maxHeartbeats 1000000 in
theorem rb_far (at_ : Int) (u : Value) (B : Option Addr) (d : Nat) (A : Option Addr) (c : Nat) (N M : Nat) (w : World) (hN : N ≤ 1000000) (hM : M ≤ 1000000) (d0 : decide (at_ < 0) = false) (d1 : decide ((N : Int) - (M : Int) < at_) = true) : Calls Try.prog 36 #[.agg #[.int .i64 at_, u, .slice B M d], .slice A N c] w (TellsE [] false w) := by
  go_enter Try.func36, Try.ntmps36
  go_wp2
  go_quiet (fail)
  go_wp2
  go_ret2
  exact ⟨_, _, _, rfl, Sl.nil _ _ _, below_drewN (belAlloc _ _) _⟩

set_option maxHeartbeats 1000000 in
theorem rb_not (at_ : Nat) (O : Option Addr) (on oc : Nat) (B : Option Addr) (m cb : Nat) (A : Option Addr) (ln ca : Nat) (o l : List Int) (w : World) (hat : at_ + o.length ≤ l.length) (hl : Txt w (.slice A ln ca) l) (ho : Txt w (.slice B m cb) o) (hll : l.length ≤ 1000000) (hol : o.length ≤ 1000000) (hne : (l.drop at_).take o.length ≠ o) :
    Calls Try.prog 36 #[.agg #[.int .i64 at_, .slice O on oc, .slice B m cb], .slice A ln ca] w (TellsE [] false w) := by
  obtain ⟨A', ca', e, hca, _⟩ := Sl.is hl
  injection e with e1 e2 e3
  subst e1; subst e2; subst e3
  obtain ⟨B', cb', e, hcb, _⟩ := Sl.is ho
  injection e with e1 e2 e3
  subst e1; subst e2; subst e3
  have d0 : decide ((at_ : Int) < 0) = false := by simp
  have d1 : decide ((l.length : Int) - (o.length : Int) < (at_ : Int)) = false := by simp; omega
  obtain ⟨E, hE⟩ : ∃ E : Nat, at_ + o.length = E := ⟨_, rfl⟩
  have e0 : ((at_ : Int) + (o.length : Int)) = (E : Int) := by omega
  have e1 : (at_ : Int) ≤ (E : Int) := by omega
  have e2 : (E : Int) ≤ (ca : Int) := by omega
  have e3 : (0 : Int) ≤ (at_ : Int) := by omega
  have hEo : E - at_ = o.length := by omega
  have hq : decide ((l.drop at_).take (E - at_) = o) = false := by rw [hEo]; exact decide_eq_false hne
  have HS : Hid (∀ (X : World) n, Below w.heap.size w X → Calls Try.prog 19 #[.slice (if ca = at_ then A else Option.map (fun x => x.add at_) A) (E - at_) (ca - at_), .slice B o.length cb] (X.drewN n) fun e w'' => e = .returned (.bool false) ∧ ∃ m, w'' = X.drewN m) := Lib.hid (fun X n hX => (same_is _ _ _ _ (X.drewN n) (sub_txt (hl.later (below_drewN hX n)) at_ E (by omega) (by omega)) (ho.later (below_drewN hX n))).mono fun e w'' hh => ⟨by rw [hh.1, hq], by obtain ⟨k, e⟩ := hh.2; exact ⟨_, e.trans (World.drewN_drewN _ _ _)⟩⟩)
  clear hl ho hne hq hEo hE
  go_enter Try.func36, Try.ntmps36
  go_wp2
  go_quiet ((go_at_call 19; exact (HS.out _ _ (belAlloc _ _))))
  go_wp2
  all_goals go_ret2
  all_goals exact ⟨_, _, _, rfl, Sl.nil _ _ _, below_drewN (belAlloc _ _) _⟩

set_option maxHeartbeats 2000000 in
theorem rb_yes (at_ : Nat) (O : Option Addr) (on oc : Nat) (B : Option Addr) (m cb : Nat) (A : Option Addr) (ln ca : Nat) (o n l : List Int) (w : World) (hat : at_ + o.length ≤ l.length) (hl : Txt w (.slice A ln ca) l) (ho : Txt w (.slice B m cb) o) (hv : Txt w (.slice O on oc) n) (hll : l.length ≤ 100000) (hol : o.length ≤ 1000000) (hnl : n.length ≤ 100000) (he : (l.drop at_).take o.length = o) :
    Calls Try.prog 36 #[.agg #[.int .i64 at_, .slice O on oc, .slice B m cb], .slice A ln ca] w (TellsE (l.take at_ ++ n ++ l.drop (at_ + o.length)) true w) := by
  obtain ⟨A', ca', e, hca, _⟩ := Sl.is hl
  injection e with e1 e2 e3
  subst e1; subst e2; subst e3
  obtain ⟨B', cb', e, hcb, _⟩ := Sl.is ho
  injection e with e1 e2 e3
  subst e1; subst e2; subst e3
  have d0 : decide ((at_ : Int) < 0) = false := by simp
  have d1 : decide ((l.length : Int) - (o.length : Int) < (at_ : Int)) = false := by simp; omega
  obtain ⟨E, hE⟩ : ∃ E : Nat, at_ + o.length = E := ⟨_, rfl⟩
  have e0 : ((at_ : Int) + (o.length : Int)) = (E : Int) := by omega
  have e1 : (at_ : Int) ≤ (E : Int) := by omega
  have e2 : (E : Int) ≤ (ca : Int) := by omega
  have e3 : (0 : Int) ≤ (at_ : Int) := by omega
  have e4 : (E : Int) ≤ (l.length : Int) := by omega
  have e5 : (0 : Int) ≤ (E : Int) := by omega
  have e6 : (at_ : Int) ≤ (ca : Int) := by omega
  have hEo : E - at_ = o.length := by omega
  have hq : decide ((l.drop at_).take (E - at_) = o) = true := by rw [hEo]; exact decide_eq_true he
  obtain ⟨AA, hAA⟩ : ∃ AA, (if ca = at_ then A else Option.map (fun x => x.add at_) A) = AA := ⟨_, rfl⟩
  obtain ⟨AE, hAE⟩ : ∃ AE, (if ca = E then A else Option.map (fun x => x.add E) A) = AE := ⟨_, rfl⟩
  have HT := Lib.hid (And.intro (take_txt hl at_ (by omega)) (And.intro hv (show Txt w (.slice AE (l.length - E) (ca - E)) (l.drop (at_ + o.length)) from by
    have := sub_txt hl E l.length (by omega) (Nat.le_refl _)
    rw [hAE, List.take_of_length_le (by simp)] at this
    rw [hE]; exact this)))
  have hlen : (l.take at_).length + n.length + (l.drop (at_ + o.length)).length ≤ 1000000 := by simp; omega
  have HLn := Lib.hid hlen
  have HS : Hid (∀ (X : World) n, Below w.heap.size w X → Calls Try.prog 19 #[.slice AA (E - at_) (ca - at_), .slice B o.length cb] (X.drewN n) fun e w'' => e = .returned (.bool true) ∧ ∃ m, w'' = X.drewN m) := Lib.hid (fun X n hX => (same_is _ _ _ _ (X.drewN n) (hAA ▸ sub_txt (hl.later (below_drewN hX n)) at_ E (by omega) (by omega)) (ho.later (below_drewN hX n))).mono fun e w'' hh => ⟨by rw [hh.1, hq], by obtain ⟨k, e⟩ := hh.2; exact ⟨_, e.trans (World.drewN_drewN _ _ _)⟩⟩)
  clear hl ho hv he hq hEo hE hlen
  go_enter Try.func36, Try.ntmps36
  go_wp2
  go_quiet ((go_at_call 19; exact (HS.out _ _ (belAlloc _ _))))
  go_wp2
  refine at_world (fun X => Blk X w.heap.size #[.int .i64 at_, .slice O on oc, .slice B o.length cb] ∧ Below w.heap.size w X) ⟨(blk_new w _ _).drewN _, below_drewN (belAlloc _ _) _⟩ ?_
  rintro X ⟨HB, HW⟩
  have HBW := Lib.hid (And.intro HB HW)
  obtain ⟨y0, k0, j0⟩ := (show _ from HB)
  have ew : IntKind.i64.wrap (E : Int) = (E : Int) := IntWalk.i64_in _ (by omega)
  clear HB HW
  go_still_tail 14, (by kernel_rfl)
  change wpList _ _ _ _ _ X.drew
  refine at_world (fun Y => Below w.heap.size w Y) HBW.out.2.drew ?_
  rintro Y HY
  have HYY := Lib.hid HY
  have C := Lib.hid (joined_any (.slice A at_ ca) (.slice O on oc) (.slice AE (l.length - E) (ca - E)) _ _ _ Y (HT.out.1.later HY) (HT.out.2.1.later HY) (HT.out.2.2.later HY) HLn.out)
  clear y0 k0 j0 HY
  go_wp2_with fail
  (with_reducible refine C.out.mono ?_)
  rintro e w1 ⟨A1, n1, c1, rfl, ht1, hb1⟩
  have H1 := Lib.hid (And.intro ht1 (HYY.out.trans (hb1.mono HYY.out.size)))
  clear ht1 hb1
  go_wp2
  go_ret2
  exact ⟨_, _, _, rfl, H1.out.1.any, H1.out.2⟩

theorem rb_is (at_ : Int) (O : Option Addr) (on oc : Nat) (I : Option Addr) (im ic : Nat) (A : Option Addr) (n c : Nat) (e : AE) (l : List Int) (w : World) (he : EdIs w ⟨at_, O, on, oc, I, im, ic⟩ e) (hx : Txt w (.slice A n c) l) (hl : l.length ≤ 100000) (ho : e.old.length ≤ 1000) (hn : e.new.length ≤ 1000) :
    Calls Try.prog 36 #[.agg #[.int .i64 at_, .slice O on oc, .slice I im ic], .slice A n c] w (TellsE ((doE e.back l).getD []) (doE e.back l).isSome w) := by
  obtain ⟨h1, h2, h3⟩ := he
  dsimp only at h1 h2 h3
  subst h1
  have hon : e.back.old = e.new := rfl
  have hat : e.back.at_ = e.at_ := rfl
  rcases Int.lt_or_le e.at_ 0 with hneg | hpos
  · rw [show doE e.back l = none from if_neg (fun h => by rw [hat] at h; omega)]
    exact rb_neg _ _ _ _ _ _ _ _ w (by simpa using hneg)
  · rcases Int.lt_or_le ((l.length : Int) - e.new.length) e.at_ with hfar | hnear
    · rw [show doE e.back l = none from if_neg (fun h => by rw [hat, hon] at h; omega)]
      obtain rfl := Txt.len hx
      obtain rfl := Txt.len h3
      exact rb_far _ _ _ _ _ _ _ _ w (by omega) (by omega) (by simp; omega) (by simpa using hfar)
    · obtain ⟨k, hk⟩ := Int.eq_ofNat_of_zero_le hpos
      rw [hk] at hnear ⊢
      by_cases hq : (l.drop k).take e.new.length = e.new
      · rw [show doE e.back l = some (l.take k ++ e.old ++ l.drop (k + e.new.length)) from by unfold doE; rw [hat, hk, if_pos ⟨by omega, hnear, show (l.drop k).take e.new.length = e.new from hq⟩]; rfl]
        exact rb_yes k _ _ _ _ _ _ _ _ _ e.new e.old l w (by omega) hx h3 h2 hl (by omega) (by omega) hq
      · rw [show doE e.back l = none from by unfold doE; rw [hat, hk]; exact if_neg (fun h => hq (by have := h.2.2; rw [hon, Int.toNat_natCast] at this; exact this))]
        exact rb_not k _ _ _ _ _ _ _ _ _ e.new l w (by omega) hx h3 (by omega) (by omega) hq
end Go.Proofs.Ytfmpldgeldocnaa
