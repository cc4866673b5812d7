/- columns: the fewest rows that go into a width. -/
import Derived.Test.YtpelmbiogamcpaaColL
namespace Go.Proofs.Ytpelmbiogamcpaa
open Go.RowKit
set_option linter.unusedVariables false
set_option linter.unusedSimpArgs false

set_option maxHeartbeats 400000 in
theorem max_any (A : Option Addr) (n c : Nat) (f : Nat → Nat) (w : World) (hA : Rd w A n (nv f)) (hf : ∀ j, j < n → f j ≤ 1023) (h0 : 0 < n) (hn : n ≤ 60) :
    Calls Try.prog 18 #[.slice A n c] w fun e w' => e = .returned (.int .i64 (mx f 0 n : Nat)) ∧ w = w' := by
  have HF := Lib.hid hf
  have HA := Lib.hid hA
  obtain ⟨b, o, rfl, _, hc⟩ := hA 0 h0
  rw [Nat.add_zero] at hc
  obtain ⟨u0, hu0⟩ : ∃ u, f 0 = u := ⟨_, rfl⟩
  unfold nv at hc
  rw [hu0] at hc
  have HU := Lib.hid hu0
  have d0 : ¬ (n : Int) < 1 := by omega
  clear hA hf hu0
  go_enter Try.func18, Try.ntmps18
  go_wp2
  go_loopw [3, 4] (fun a i wr => ∃ k t : Nat, 0 < k ∧ k ≤ n ∧ i = .int .i64 k ∧ a = .int .i64 t ∧ Hid (t = mx f 0 k) ∧ Hid (wr = w)) (fun _ i _ => n - (intOf i).toNat)
  case atStart => exact ⟨1, u0, by omega, h0, rfl, rfl, (show u0 = mx f 0 1 by rw [← HU.out]; simp [mx]), rfl⟩
  case round =>
    obtain ⟨k, t, hk0, hk, rfl, rfl, ht, hw⟩ := hrel
    obtain rfl := hw.out
    by_cases hlt : k < n
    · obtain ⟨b', o', e, _, hc2⟩ := HA.out k hlt
      injection e with e
      injection e with e1 e2 _
      subst e1
      subst e2
      obtain ⟨x, hx⟩ : ∃ x, f k = x := ⟨_, rfl⟩
      unfold nv at hc2
      rw [hx] at hc2
      have HX := Lib.hid (show mx f 0 (k + 1) = max t x by rw [ht.out, ← hx, show mx f 0 (k + 1) = max (mx f 0 k) (f (0 + k)) from rfl, Nat.zero_add])
      clear hx
      by_cases htx : t < x
      · have dx : (t : Int) < (x : Int) := by omega
        go_wp2
        go_roundw
        case rel => exact ⟨k + 1, x, by omega, by omega, by go_num, rfl, (show x = mx f 0 (k + 1) by rw [HX.out]; omega), Lib.hid trivial⟩
        case measure => simp [intOf]; omega
      · have dx : ¬ (t : Int) < (x : Int) := by omega
        go_wp2
        go_roundw
        case rel => exact ⟨k + 1, t, by omega, by omega, by go_num, rfl, (show t = mx f 0 (k + 1) by rw [HX.out]; omega), Lib.hid trivial⟩
        case measure => simp [intOf]; omega
    · obtain rfl : k = n := by omega
      go_wp2
      go_ret
      exact ⟨congrArg (fun z : Nat => Ending.returned (.int .i64 (z : Int))) ht.out, rfl⟩

theorem Rd.far {w : World} {A : Option Addr} {n : Nat} {f : Nat → Value} (h : Rd w A n f) {g i : Nat} (hne : ∀ b o, A = some ⟨b, o, none⟩ → b ≠ g) (u : Value) : Rd (w.setCell ⟨g, i, none⟩ u) A n f := by
  intro j hj
  obtain ⟨b, o, e, hl, hc⟩ := h j hj
  have hb : (w.setCell ⟨g, i, none⟩ u).heap[b]? = w.heap[b]? := Below.heap_setCell w ⟨g, i, none⟩ u b (fun k => hne b o e k)
  exact ⟨b, o, e, by rw [World.size_setCell]; exact hl, (World.cell?_of_block (a := ⟨b, o + j, none⟩) hb).trans hc⟩

/-- What r rows of the words take. -/
def totP (f : Nat → Nat) (n r : Nat) : Nat := totN (colW f n r) (colsN n r)

/-- The fewest rows. -/
structure FitIs (f : Nat → Nat) (n : Nat) (cols : Int) (R : Nat) : Prop where
  pos : 1 ≤ R
  le : R ≤ n
  few : ∀ r, 1 ≤ r → r < R → cols < (totP f n r : Int)
  fits : R < n → (totP f n R : Int) ≤ cols

theorem FitIs.one {f : Nat → Nat} {n : Nat} {cols : Int} {R S : Nat} (h : FitIs f n cols R) (k : FitIs f n cols S) : R = S := by
  rcases Nat.lt_trichotomy R S with h1 | h1 | h1
  · have := k.few R h.pos h1
    have := h.fits (by have := k.le; omega)
    omega
  · exact h1
  · have := h.few S k.pos h1
    have := k.fits (by have := h.le; omega)
    omega

theorem cols_one {n : Nat} (h : 0 < n) : colsN n n = 1 := by
  have h0 := (lt_cols (n := n) (r := n) (i := 0) h).2 (by omega)
  have h1 : ¬ 1 < colsN n n := fun h2 => by have := (lt_cols (n := n) (r := n) (i := 1) h).1 h2; omega
  omega

/-- What Fit tells. -/
def TellsFit (f : Nat → Nat) (n : Nat) (cols : Int) (w : World) (e : Ending) (w' : World) : Prop :=
  ∃ R A c, e = .returned (.agg #[.int .i64 (R : Nat), .slice A (colsN n R) c]) ∧ FitIs f n cols R ∧ Rd w' A (colsN n R) (nv (colW f n R)) ∧ Below w.heap.size w w'

/-- Fit's variable. -/
def FitVar (w w1 : World) (f : Nat → Nat) (n r : Nat) (cols : Int) (wr : World) : Prop :=
  Blk wr w.heap.size #[.int .i64 0, .slice none 0 0] ∧ Below w.heap.size w wr ∧ Below w1.heap.size w1 wr ∧ ∀ s, 1 ≤ s → s < r → cols < (totP f n s : Int)

theorem one_more {w w1 : World} {cs : Array Value} {t : TypeId} (hb : Below (w.alloc (.cells cs t)).heap.size (w.alloc (.cells cs t)) w1) : Blk w1 w.heap.size cs ∧ Below w.heap.size w w1 :=
  ⟨(blk_new w cs t).later hb (blk_new w cs t).1, ((Below.refl _ _).alloc (Nat.le_refl _) _).trans (hb.mono (by simp [World.size_alloc]))⟩

set_option maxHeartbeats 4000000 in
set_option maxRecDepth 100000 in
theorem fit_none (A : Option Addr) (c : Nat) (cols : Int) (w : World) :
    Calls Try.prog 10 #[.slice A 0 c, .int .i64 cols] w fun e w' => e = .returned (.agg #[.int .i64 0, .slice none 0 0]) ∧ Below w.heap.size w w' := by
  go_enter Try.func10, Try.ntmps10
  go_wp2
  refine at_world (fun X => X.cell? ⟨w.heap.size, 0, none⟩ = some (.int .i64 0) ∧ X.cell? ⟨w.heap.size, 1, none⟩ = some (.slice none 0 0) ∧ Below w.heap.size w X) ?_ ?_
  · have B := blk_new w #[.int .i64 0, .slice none 0 0] 24
    exact ⟨B.2.1 0, B.2.1 1, (Below.refl _ _).alloc (Nat.le_refl _) _⟩
  rintro X ⟨x0, x1, hX⟩
  exact bodyPost_ret (v := .agg #[.int .i64 0, .slice none 0 0]) (by simp [results, Try.results10, go_sem, x0, x1]) rfl ⟨rfl, hX⟩

set_option maxHeartbeats 4000000 in
set_option maxRecDepth 100000 in
theorem fit_some (A : Option Addr) (n c : Nat) (cols : Int) (f : Nat → Nat) (w : World) (hA : Rd w A n (nv f)) (hf : ∀ j, j < n → f j ≤ 1023) (h0 : 0 < n) (hn : n ≤ 60) :
    Calls Try.prog 10 #[.slice A n c, .int .i64 cols] w (TellsFit f n cols w) := by
  have HA := Lib.hid (And.intro hA hf)
  have C1 := Lib.hid (widest_of A n c f (w.alloc (.cells #[.int .i64 0, .slice none 0 0] 24)) (hA.later ((Below.refl _ _).alloc (Nat.le_refl _) _)) hf h0 hn)
  have d0 : ((n : Int) == 0) = false := by simp; omega
  clear hA hf
  go_enter Try.func10, Try.ntmps10
  go_wp2_with fail
  (with_reducible refine C1.out.mono ?_)
  rintro e w1 ⟨A1, Lv, c1, rfl, hT, hL, hLv, hb1⟩
  have H1 := Lib.hid (And.intro hT (And.intro hL (one_more hb1)))
  clear hT hL hb1
  go_wp2
  go_loopw [6, 7, 8] (fun i _ _ wr => ∃ r : Nat, 1 ≤ r ∧ r ≤ n + 1 ∧ i = .int .i64 r ∧ Hid (FitVar w w1 f n r cols wr)) (fun i _ _ _ => n + 1 - (intOf i).toNat)
  case atStart => exact ⟨1, Nat.le_refl _, by omega, rfl, H1.out.2.2.1, H1.out.2.2.2, Below.refl _ _, fun s h1 h2 => absurd h2 (by omega)⟩
  case round =>
    obtain ⟨r, hr, hrn, rfl, HV⟩ := hrel
    obtain ⟨y0, k0, j0⟩ := (show Blk _ _ _ from HV.out.1)
    by_cases hlt : r ≤ n
    · have C2 := Lib.hid (plan_any A1 Lv c1 n r cols f wr (H1.out.1.later HV.out.2.2.1) H1.out.2.1 (by omega) hlt hn HA.out.2)
      go_wp2_with fail
      (with_reducible refine C2.out.mono ?_)
      rintro e w2 ⟨hb2, (⟨A2, c2, rfl, hR2, hA2, htot⟩ | ⟨rfl, htot⟩)⟩
      · have H2 := Lib.hid (And.intro hb2 (And.intro hR2 (And.intro hA2 htot)))
        have B2 := Lib.hid ((show Blk _ _ _ from HV.out.1).later hb2 HV.out.1.1)
        obtain ⟨z0, m0, n0⟩ := (show _ from B2.out)
        clear hb2 hR2 htot hA2 k0 j0
        go_wp2
        refine at_world (fun X => X.cell? ⟨w.heap.size, 0, none⟩ = some (.int .i64 r) ∧ X.cell? ⟨w.heap.size, 1, none⟩ = some (.slice A2 (colsN n r) c2) ∧ Rd X A2 (colsN n r) (nv (colW f n r)) ∧ Below w.heap.size w X) ?_ ?_
        · have B3 := ((B2.out.set_ 0 (by simp) (.int .i64 r)).set_ 1 (by simp) (.slice A2 (colsN n r) c2)).alloc (.cells #[.int .i64 r, .slice A2 (colsN n r) c2] 24)
          have hne : ∀ b o, A2 = some ⟨b, o, none⟩ → b ≠ w.heap.size := fun b o e => by have := H2.out.2.2.1 b o e; omega
          have hbw : Below w.heap.size w w2 := HV.out.2.1.trans (H2.out.1.mono HV.out.2.1.size)
          exact ⟨B3.2.1 0, B3.2.1 1, ((H2.out.2.1.far hne _).far hne _).later ((Below.refl _ _).alloc (Nat.le_refl _) _), ((hbw.setCell (p := ⟨w.heap.size, 0, none⟩) (Nat.le_refl _) _).setCell (p := ⟨w.heap.size, 1, none⟩) (Nat.le_refl _) _).alloc (by simp only [World.size_setCell]; exact hbw.size) _⟩
        rintro X ⟨x0, x1, hR, hX⟩
        exact bodyPost_ret (v := .agg #[.int .i64 r, .slice A2 (colsN n r) c2]) (by simp [results, Try.results10, go_sem, x0, x1]) rfl ⟨r, A2, c2, rfl, ⟨hr, hlt, HV.out.2.2.2, fun _ => H2.out.2.2.2⟩, hR, hX⟩
      · have H2 := Lib.hid (And.intro hb2 htot)
        clear hb2 htot y0 k0 j0
        go_wp2
        refine ⟨⟨r + 1, by omega, by omega, by go_num, ?_⟩, by simp [intOf]; omega⟩
        have hbw : Below w.heap.size w w2 := HV.out.2.1.trans (H2.out.1.mono HV.out.2.1.size)
        have hb1 : Below w1.heap.size w1 w2 := HV.out.2.2.1.trans (H2.out.1.mono HV.out.2.2.1.size)
        exact ⟨((show Blk _ _ _ from HV.out.1).later H2.out.1 HV.out.1.1).alloc _, hbw.alloc hbw.size _, hb1.alloc hb1.size _, fun s h1 h2 => by
          rcases Nat.lt_or_ge s r with h | h
          · exact HV.out.2.2.2 s h1 h
          · rw [show s = r by omega]; exact H2.out.2⟩
    · obtain rfl : r = n + 1 := by omega
      have C3 := Lib.hid (max_any A n c f wr (HA.out.1.later HV.out.2.1) HA.out.2 h0 hn)
      go_wp2_with fail
      (with_reducible refine C3.out.mono ?_)
      rintro e w2 ⟨rfl, rfl⟩
      go_wp2
      refine at_world (fun X => X.cell? ⟨w.heap.size, 0, none⟩ = some (.int .i64 n) ∧ X.cell? ⟨w.heap.size, 1, none⟩ = some (.slice (some ⟨wr.heap.size, 0, none⟩) 1 1) ∧ Rd X (some ⟨wr.heap.size, 0, none⟩) 1 (nv (colW f n n)) ∧ Below w.heap.size w X) ?_ ?_
      · have B3 := (((show Blk _ _ _ from HV.out.1).set_ 0 (by simp) (.int .i64 n)).set_ 1 (by simp) (.slice (some ⟨wr.heap.size, 0, none⟩) 1 1)).alloc (.cells #[.int .i64 (mx f 0 n : Nat)] 3)
        have hN := rd_new ((wr.setCell ⟨w.heap.size, 0, none⟩ (.int .i64 n)).setCell ⟨w.heap.size, 1, none⟩ (.slice (some ⟨wr.heap.size, 0, none⟩) 1 1)) #[.int .i64 (mx f 0 n : Nat)] 3 1 (nv (colW f n n)) (fun j hj => by
          obtain rfl : j = 0 := by omega
          unfold nv colW
          simp)
        simp only [World.size_setCell] at hN
        exact ⟨B3.2.1 0, B3.2.1 1, hN, ((HV.out.2.1.setCell (p := ⟨w.heap.size, 0, none⟩) (Nat.le_refl _) _).setCell (p := ⟨w.heap.size, 1, none⟩) (Nat.le_refl _) _).alloc (by simp only [World.size_setCell]; exact HV.out.2.1.size) _⟩
      rintro X ⟨x0, x1, hR, hX⟩
      have e1 := cols_one h0
      refine bodyPost_ret (v := .agg #[.int .i64 n, .slice (some ⟨wr.heap.size, 0, none⟩) 1 1]) (by simp [results, Try.results10, go_sem, x0, x1]) rfl ⟨n, _, _, by rw [e1], ⟨h0, Nat.le_refl _, fun s h1 h2 => HV.out.2.2.2 s h1 (by omega), fun h => absurd h (by omega)⟩, by rw [e1]; exact hR, hX⟩
end Go.Proofs.Ytpelmbiogamcpaa
