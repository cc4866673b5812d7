/- utf: what Feed tells is new. -/
import Derived.Test.YtpfldppoebgfgaaUtfWb
namespace Go.Proofs.Ytpfldppoebgfgaa
open Go.RowKit
set_option linter.unusedVariables false
set_option linter.unusedSimpArgs false

def FeedNew (x y z n : Int) (l : List Int) (w : World) (e : Ending) (w' : World) : Prop :=
  ∃ A c, e = .returned (.tuple #[.agg #[.int .u8 x, .int .u8 y, .int .u8 z, .int .i64 n], .slice A l.length c]) ∧ Rd w' A l.length (li l) ∧ (∀ p, A = some p → w.heap.size ≤ p.block ∧ p.block < w'.heap.size) ∧ (A = none → l.length = 0 ∧ c = 0) ∧ Below w.heap.size w w'

set_option maxHeartbeats 4000000 in
theorem feed_new (h0 h1 h2 m b x y z n : Int) (l : List Int) (w : World) (hs : ∀ w, Calls Try.prog 24 #[dcd h0 h1 h2 m, .int .u8 b] w (StepIs x y z n l w)) :
    Calls Try.prog 13 #[dcd h0 h1 h2 m, .int .u8 b] w (FeedNew x y z n l w) := by
  have Hs := Lib.hid hs
  clear hs
  go_enter Try.func13, Try.ntmps13
  go_wp2_with (go_at_call 24; refine (Hs.out _).mono ?_; rintro e w1 ⟨p, q, (⟨rfl, rfl⟩ | ⟨rfl, rfl⟩ | ⟨rfl, rfl⟩), hb1⟩ <;> obtain ⟨⟨z0, z1⟩, B0, B1, hbw⟩ := two_later hb1 <;> obtain ⟨_, k0, j0⟩ := (show _ from B0) <;> obtain ⟨_, k1, j1⟩ := (show _ from B1))
  · go_region
    simp only [Exit.then]
    refine at_world (FDone w (.int .u8 x) (.int .u8 y) (.int .u8 z) (.int .i64 n) none 0 (li [])) ?_ ?_
    rotate_left
    · rintro X ⟨c1, hrd, hX⟩
      clear k0 k1 j0 j1 z0 z1 hb1 B0 B1
      go_wp2
      refine bodyPost_ret (v := .tuple #[dcd x y z n, .slice _ 0 _]) (by simp [results, Try.results13, go_sem, c1]; rfl) rfl ⟨_, _, rfl, hrd, ?_, ?_, hX⟩
      · exact fun p h => by cases h
      · exact fun _ => ⟨rfl, rfl⟩
    · exact fdone_none (four_set hbw B1).2 (four_set hbw B1).1 _ _
  · have hcap : ¬ 281474976710656 < Builtin.nextslicecap 1 0 * Try.t21.bytes := of_decide_eq_true (by kernel_rfl)
    go_region
    simp only [Exit.then]
    refine at_world (FDone w (.int .u8 x) (.int .u8 y) (.int .u8 z) (.int .i64 n) (some ⟨w1.heap.size + 1 + 1, 0, none⟩) 1 (li [p])) ?_ ?_
    rotate_left
    · rintro X ⟨c1, hrd, hX⟩
      clear k0 k1 j0 j1 z0 z1 hb1 B0 B1
      go_wp2
      refine bodyPost_ret (v := .tuple #[dcd x y z n, .slice _ 1 _]) (by simp [results, Try.results13, go_sem, c1]; rfl) rfl ⟨_, _, rfl, hrd, ?_, ?_, hX⟩
      · intro p h
        cases h
        obtain ⟨b, o, e, hl, _⟩ := hrd 0 (by simp)
        cases e
        exact ⟨by have := hbw.size; simp; omega, hl⟩
      · exact fun h => by cases h
    · refine fdone_some (four_set hbw B1).2 (four_set hbw B1).1 _ _ _ _ (by simp only [World.size_setCell]) ?_
      intro j hj
      rw [Array.getElem?_append_left (by simpa using hj)]
      obtain rfl : j = 0 := by omega
      simp [li]
  · have hcap : ¬ 281474976710656 < Builtin.nextslicecap 2 0 * Try.t21.bytes := of_decide_eq_true (by kernel_rfl)
    go_region
    simp only [Exit.then]
    refine at_world (FDone w (.int .u8 x) (.int .u8 y) (.int .u8 z) (.int .i64 n) (some ⟨w1.heap.size + 1 + 1, 0, none⟩) 2 (li [p, q])) ?_ ?_
    rotate_left
    · rintro X ⟨c1, hrd, hX⟩
      clear k0 k1 j0 j1 z0 z1 hb1 B0 B1
      go_wp2
      refine bodyPost_ret (v := .tuple #[dcd x y z n, .slice _ 2 _]) (by simp [results, Try.results13, go_sem, c1]; rfl) rfl ⟨_, _, rfl, hrd, ?_, ?_, hX⟩
      · intro p h
        cases h
        obtain ⟨b, o, e, hl, _⟩ := hrd 0 (by simp)
        cases e
        exact ⟨by have := hbw.size; simp; omega, hl⟩
      · exact fun h => by cases h
    · refine fdone_some (four_set hbw B1).2 (four_set hbw B1).1 _ _ _ _ (by simp only [World.size_setCell]) ?_
      intro j hj
      rw [Array.getElem?_append_left (by simpa using hj)]
      obtain rfl | rfl : j = 0 ∨ j = 1 := by omega
      · simp [li]
      · simp [li]

theorem feed_is2 (h0 h1 h2 m b : Int) (hs : DS.Ok ⟨h0, h1, h2, m⟩) (b0 : 0 ≤ b) (b1 : b ≤ 255) {x y z n : Int} {l : List Int} (e : stepD ⟨h0, h1, h2, m⟩ b = (⟨x, y, z, n⟩, l)) (w : World) :
    Calls Try.prog 13 #[dcd h0 h1 h2 m, .int .u8 b] w (FeedNew x y z n l w) :=
  feed_new h0 h1 h2 m b x y z n l w (fun w => step_is h0 h1 h2 m b hs b0 b1 e w)

theorem Rd.set4 {w : World} {A : Option Addr} {n g : Nat} {f : Nat → Value} (h : Rd w A n f) (hA : ∀ p, A = some p → p.block ≠ g) (a b c d : Value) :
    Rd ((((w.setCell ⟨g, 0, none⟩ a).setCell ⟨g, 1, none⟩ b).setCell ⟨g, 2, none⟩ c).setCell ⟨g, 3, none⟩ d) A n f := by
  intro j hj
  obtain ⟨b', o, e, hl, hc⟩ := h j hj
  have hne := hA _ e
  refine ⟨b', o, e, by simpa [World.size_setCell] using hl, ?_⟩
  have hne' : ∀ i : Nat, (⟨g, i, none⟩ : Addr).block ≠ (⟨b', o + j, none⟩ : Addr).block := fun i e => hne e.symm
  rw [World.cell?_setCell_far _ _ _ _ (hne' 3), World.cell?_setCell_far _ _ _ _ (hne' 2), World.cell?_setCell_far _ _ _ _ (hne' 1), World.cell?_setCell_far _ _ _ _ (hne' 0)]
  exact hc

end Go.Proofs.Ytpfldppoebgfgaa
