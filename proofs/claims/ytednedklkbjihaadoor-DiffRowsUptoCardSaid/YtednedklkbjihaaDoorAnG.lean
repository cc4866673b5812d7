/- ansi: what Way tries. -/
import Derived.Test.YtednedklkbjihaaDoorAnF
namespace Go.Proofs.YtednedklkbjihaaDoor
open Go.RowKit
set_option linter.unusedVariables false
set_option linter.unusedSimpArgs false

/-- The least and the best, behind one try more. -/
def tryS (s : Int) (M : List Ob) : Int := if s < 0 ∨ ((allB M).length : Int) < s then ((allB M).length : Int) else s
def tryL (s : Int) (L M : List Ob) : List Ob := if s < 0 ∨ ((allB M).length : Int) < s then M else L
theorem allS_size (M : List Ob) : (allS M).size = (allB M).length := by simp [allS, ByteArray.size]
def Keeps (gl gb : Nat) (X Y : World) : Prop := Chg (fun k => k = gl ∨ k = gb) X Y
theorem LiV.chg {α : Type} {k : Nat} {enc : α → List Value} {X Y : World} {S T : Nat → Prop} {v : Value} {L : List α} (h : LiV k enc X S v L) (hc : Chg T X Y) (hs : ∀ b, S b → ¬ T b) : LiV k enc Y S v L := by
  obtain ⟨A, c, e, hl, hx⟩ := h
  refine ⟨A, c, e, ?_, hx⟩
  intro j x hj
  obtain ⟨b, o, e, hl, hS, hcc⟩ := hl j x hj
  exact ⟨b, o, e, Nat.lt_of_lt_of_le hl hc.size, hS, fun i u hu => (World.cell?_of_block (a := ⟨b, o + (j * k + i), none⟩) (hc.block b hl (hs b hS))).trans (hcc i u hu)⟩
theorem keeps_two {X Y : World} (h : Below X.heap.size X Y) (gl gb : Nat) (u u' : Value) : Keeps gl gb X ((Y.setCell ⟨gb, 0, none⟩ u).setCell ⟨gl, 0, none⟩ u') :=
  (((chg_below h).mono (T := fun k => k = gl ∨ k = gb) fun k _ hf => hf.elim).setCell gb 0 (Or.inr rfl) u).setCell gl 0 (Or.inl rfl) u'

def Tried (w : World) (gl gb : Nat) (s : Int) (L M : List Ob) (X : World) (e : Ending) (w' : World) : Prop := (∃ v, e = .returned v) ∧ (∃ A n c, Tri w gl gb (tryS s M) (.slice A n c) (tryL s L M) w') ∧ Keeps gl gb X w'

set_option maxRecDepth 100000 in
set_option maxHeartbeats 2000000 in
theorem way_try (w X : World) (gl gb : Nat) (s : Int) (A0 : Option Addr) (n0 c0 : Nat) (L M : List Ob) (A : Option Addr) (n c : Nat) (hT : Tri w gl gb s (.slice A0 n0 c0) L X) (hM : LiV 4 encO X (fun q => w.heap.size ≤ q ∧ q ≠ gl ∧ q ≠ gb) (.slice A n c) M) (hl : M.length ≤ 10) (hF : ∀ x ∈ M, Fit 0 x) (hW : TabW w.heap.size w) (s1 : s ≤ 1000000) :
    Calls Tryd.prog 43 #[.slice A n c, .pointer (some ⟨gl, 0, none⟩), .pointer (some ⟨gb, 0, none⟩)] X (Tried w gl gb s L M X) := by
  obtain ⟨rfl, hli, _, hnc, hcm⟩ := hM.parts
  have hsz : (allB M).length ≤ 1000000 := by
    have := allB_len hF
    have : M.length * (0 + 50) ≤ 10 * 50 := Nat.mul_le_mul_right _ hl
    omega
  have C := Lib.hid (all_any A c M X (hli.mono fun _ _ => trivial) 0 hF (by omega) (tabW_next hW (Nat.le_refl _) hT.below))
  have HT := Lib.hid hT
  have HM := Lib.hid hM
  have hss := allS_size M
  obtain ⟨N, hN⟩ : ∃ N, (allB M).length = N := ⟨_, rfl⟩
  obtain ⟨T, hTT⟩ : ∃ T, allS M = T := ⟨_, rfl⟩
  rw [hN] at hss hsz
  rw [hTT] at hss C
  have HN := Lib.hid hN
  clear hT hM hli hF hW hN hTT
  by_cases hs : s < 0
  · have eS : tryS s M = (N : Int) := by rw [← HN.out]; exact if_pos (Or.inl hs)
    have eL : tryL s L M = M := if_pos (Or.inl hs)
    unfold Tried
    rw [eS, eL]
    clear eS eL
    go_enter Tryd.func43, Tryd.ntmps43
    go_wp2_with fail
    refine C.out.mono ?_
    rintro e w1 ⟨rfl, b1⟩
    have H1 := Lib.hid (And.intro (HT.out.later b1) (And.intro (HM.out.later b1) b1))
    obtain ⟨y1, k1, j1⟩ := (show _ from H1.out.1.l)
    obtain ⟨y2, k2, j2⟩ := (show _ from H1.out.1.b)
    have k3 : ∀ u, (w1.setCell ⟨gb, 0, none⟩ u).cell? ⟨gl, 0, none⟩ = some (.int .i64 s) := fun u => (H1.out.1.l.far (p := ⟨gb, 0, none⟩) (fun e => H1.out.1.ne e.symm) u).2.1 0
    have j3 : ∀ u, (w1.setCell ⟨gb, 0, none⟩ u).frozen? ⟨gl, 0, none⟩ = false := fun u => (H1.out.1.l.far (p := ⟨gb, 0, none⟩) (fun e => H1.out.1.ne e.symm) u).2.2 0
    clear b1
    go_wp2_with fail
    refine bodyPost_end (results_none rfl _ _ _) rfl ?_
    exact ⟨⟨_, rfl⟩, ⟨_, _, _, H1.out.1.takes H1.out.2.1⟩, keeps_two H1.out.2.2 _ _ _ _⟩
  · by_cases hs2 : (N : Int) < s
    · have eS : tryS s M = (N : Int) := by rw [← HN.out]; exact if_pos (Or.inr (by rw [HN.out]; exact hs2))
      have eL : tryL s L M = M := if_pos (Or.inr (by rw [HN.out]; exact hs2))
      unfold Tried
      rw [eS, eL]
      clear eS eL
      have hd2 : decide ((T.size : Int) < s) = true := by rw [hss]; simpa using hs2
      go_enter Tryd.func43, Tryd.ntmps43
      go_wp2_with fail
      refine C.out.mono ?_
      rintro e w1 ⟨rfl, b1⟩
      have H1 := Lib.hid (And.intro (HT.out.later b1) (And.intro (HM.out.later b1) b1))
      obtain ⟨y1, k1, j1⟩ := (show _ from H1.out.1.l)
      obtain ⟨y2, k2, j2⟩ := (show _ from H1.out.1.b)
      have k3 : ∀ u, (w1.setCell ⟨gb, 0, none⟩ u).cell? ⟨gl, 0, none⟩ = some (.int .i64 s) := fun u => (H1.out.1.l.far (p := ⟨gb, 0, none⟩) (fun e => H1.out.1.ne e.symm) u).2.1 0
      have j3 : ∀ u, (w1.setCell ⟨gb, 0, none⟩ u).frozen? ⟨gl, 0, none⟩ = false := fun u => (H1.out.1.l.far (p := ⟨gb, 0, none⟩) (fun e => H1.out.1.ne e.symm) u).2.2 0
      clear b1
      go_wp2_with fail
      refine bodyPost_end (results_none rfl _ _ _) rfl ?_
      exact ⟨⟨_, rfl⟩, ⟨_, _, _, H1.out.1.takes H1.out.2.1⟩, keeps_two H1.out.2.2 _ _ _ _⟩
    · have eS : tryS s M = s := if_neg (by rw [HN.out]; omega)
      have eL : tryL s L M = L := if_neg (by rw [HN.out]; omega)
      unfold Tried
      rw [eS, eL]
      clear eS eL
      have hd2 : decide ((T.size : Int) < s) = false := by rw [hss]; simpa using hs2
      go_enter Tryd.func43, Tryd.ntmps43
      go_wp2_with fail
      refine C.out.mono ?_
      rintro e w1 ⟨rfl, b1⟩
      have H1 := Lib.hid (And.intro (HT.out.later b1) (And.intro (HM.out.later b1) b1))
      obtain ⟨y1, k1, j1⟩ := (show _ from H1.out.1.l)
      obtain ⟨y2, k2, j2⟩ := (show _ from H1.out.1.b)
      have k3 : ∀ u, (w1.setCell ⟨gb, 0, none⟩ u).cell? ⟨gl, 0, none⟩ = some (.int .i64 s) := fun u => (H1.out.1.l.far (p := ⟨gb, 0, none⟩) (fun e => H1.out.1.ne e.symm) u).2.1 0
      have j3 : ∀ u, (w1.setCell ⟨gb, 0, none⟩ u).frozen? ⟨gl, 0, none⟩ = false := fun u => (H1.out.1.l.far (p := ⟨gb, 0, none⟩) (fun e => H1.out.1.ne e.symm) u).2.2 0
      clear b1
      go_wp2_with fail
      refine bodyPost_end (results_none rfl _ _ _) rfl ?_
      exact ⟨⟨_, rfl⟩, ⟨_, _, _, H1.out.1⟩, (chg_below H1.out.2.2).mono fun k _ hf => hf.elim⟩
end Go.Proofs.YtednedklkbjihaaDoor
