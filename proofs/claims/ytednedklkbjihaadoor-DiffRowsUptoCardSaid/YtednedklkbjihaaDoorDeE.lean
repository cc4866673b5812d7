/- diff: grids of deeds. -/
import Derived.Test.YtednedklkbjihaaDoorDeD
import Derived.Test.YtednedklkbjihaaDoorGeQ
namespace Go.Proofs.YtednedklkbjihaaDoor
open Go.RowKit
set_option linter.unusedVariables false
set_option linter.unusedSimpArgs false
set_option maxRecDepth 100000

abbrev dC (k r c : Int) (t : ByteArray) (wd : Int) : Array Value := #[.int .i64 k, .int .i64 r, .int .i64 c, .string t, .int .i64 wd]
/-- Two stretches of blocks that are apart, below B. -/
structure Apart (lo hi lo' hi' B : Nat) : Prop where
  a : hi ≤ lo' ∨ hi' ≤ lo
  b : hi ≤ B
  c : hi' ≤ B
def Two (lo hi lo' hi' k : Nat) : Prop := Iv lo hi k ∨ Iv lo' hi' k
theorem PG.two {w v : World} {lo hi lo' hi' g cb C R n : Nat} {F : Nat → Nat → Cl} (h : PG w lo hi g cb C R n F) (A : hi ≤ lo' ∨ hi' ≤ lo) (k : Chg (Iv lo' hi') w v) : PG v lo hi g cb C R n F := h.chg k fun j h1 h2 h3 => by unfold Iv at h3; omega
theorem RG.two {w v : World} {lo hi lo' hi' ob Co R n : Nat} {rb Cr : Nat → Nat} {F : Nat → Nat → Cl} (h : RG w lo' hi' ob Co R n rb Cr F) (A : hi ≤ lo' ∨ hi' ≤ lo) (k : Chg (Iv lo hi) w v) : RG v lo' hi' ob Co R n rb Cr F := h.chg k fun j h1 h2 h3 => by unfold Iv at h3; omega
theorem Blk.two' {w v : World} {b lo hi : Nat} {cs : Array Value} (h : Blk w b cs) (k : Chg (Iv lo hi) w v) (hb : hi ≤ b) : Blk v b cs := h.chg k fun h3 => by unfold Iv at h3; omega
theorem chg_two_below {w v : World} {lo hi lo' hi' B : Nat} (h : Chg (Two lo hi lo' hi') w v) (hB : B ≤ w.heap.size) (hl : B ≤ lo) (hl' : B ≤ lo') : Below B w v := h.below hB fun k hk hs => by unfold Two Iv at hs; omega
/-- What a deed does here. -/
def dealF (R n : Nat) (F : Nat → Nat → Cl) (d : Dd) : Nat → Nat → Cl := if d.k = 3 then eraF R n F d.r d.c else putF R n F d.r d.c d.t d.wd
def dealsF (R n : Nat) (D : Nat → Dd) : Nat → Nat → Nat → Cl
  | 0 => blankF
  | k + 1 => dealF R n (dealsF R n D k) (D k)

set_option maxHeartbeats 4000000 in
set_option maxRecDepth 100000 in
theorem made_any (R m : Nat) (h1 : 1 ≤ R) (h1' : R ≤ 500) (h2 : 2 ≤ m) (h2' : m ≤ 1000) (A : Option Addr) (n c : Nat) (D : Nat → Dd) (W : World) (hn : n ≤ c) (hc : c ≤ maxLen) (hD : ∀ i, i < n → DeedAt W A i (D i)) :
    Calls Tryd.prog 6 #[.int .i64 R, .int .i64 m, .slice A n c] W fun e w' => ∃ g cb C ob Co rb Cr M M2, e = .returned (.tuple #[ptr g, gv ob R Co]) ∧ PG w' W.heap.size M g cb C R m (dealsF R m D (min n 30)) ∧ RG w' M M2 ob Co R m rb Cr (dealsF R m D (min n 30)) ∧ W.heap.size ≤ M ∧ M ≤ M2 ∧ M2 ≤ w'.heap.size ∧ Below W.heap.size W w' := by
  have HD := Lib.hid hD
  unfold maxLen at hc
  clear hD
  go_enter Tryd.func6, Tryd.ntmps6
  go_wp2_with fail
  refine (new_in (R := R) (n := m) W h1 (by omega) h2 (by omega)).mono ?_
  rintro e w1 ⟨g, cb, C, rfl, P1, b1⟩
  have H1 := Lib.hid (And.intro P1 b1)
  clear P1 b1
  go_wp2_with fail
  refine (newR_in (R := R) (n := m) w1 h1 (by omega) h2 (by omega)).mono ?_
  rintro e w2 ⟨ob, Co, rb, Cr, rfl, P2, b2⟩
  have H2 := Lib.hid (And.intro (H1.out.1.later b2) (And.intro P2 (And.intro (belowStep H1.out.2 b2) b2.size)))
  have hCo := P2.cap
  have z1 := Lib.hid H1.out.2.size
  clear P2 b2
  go_wp2_with fail
  go_loopw [10] (fun i wr => ∃ k : Nat, k ≤ n ∧ k ≤ 30 ∧ i = .int .i64 k ∧ Hid (PG wr W.heap.size w1.heap.size g cb C R m (dealsF R m D k) ∧ RG wr w1.heap.size w2.heap.size ob Co R m rb Cr (dealsF R m D k) ∧ Below W.heap.size W wr ∧ w2.heap.size ≤ wr.heap.size)) (fun i _ => n - (intOf i).toNat)
  case atStart => exact ⟨0, Nat.zero_le _, Nat.zero_le _, rfl, ⟨H2.out.1, H2.out.2.1, H2.out.2.2.1, Nat.le_refl _⟩⟩
  case round =>
    obtain ⟨k, hk, hk30, rfl, HF⟩ := hrel
    by_cases hlt : k < n ∧ k < 30
    · obtain ⟨hkn, hk4⟩ := hlt
      have h4 : (k : Int) < 30 := by omega
      obtain ⟨b, o, rfl, hbl, c0, c1, c2, c3, c4⟩ := (HD.out k hkn).below HF.out.2.2.1
      obtain ⟨d, hd⟩ : ∃ d, D k = d := ⟨_, rfl⟩
      rw [hd] at c0 c1 c2 c3 c4
      obtain ⟨F, hF⟩ : ∃ F, dealsF R m D k = F := ⟨_, rfl⟩
      have HDF := Lib.hid (show dealsF R m D (k + 1) = dealF R m F d by unfold dealsF; rw [hF, hd])
      rw [hF] at HF
      clear hd hF
      have HA := Lib.hid (show Apart W.heap.size w1.heap.size w1.heap.size w2.heap.size wr.heap.size from ⟨.inl (Nat.le_refl _), Nat.le_trans H2.out.2.2.2 HF.out.2.2.2, HF.out.2.2.2⟩)
      by_cases hk3 : d.k = 3
      · have d3 : (d.k == 3) = true := by simpa using hk3
        have HE := Lib.hid (show dealF R m F d = eraF R m F d.r d.c from if_pos hk3)
        clear hk3
        go_wp2_with fail
        refine at_calls (fun X => Below wr.heap.size wr X ∧ Blk X wr.heap.size (dC d.k d.r d.c d.t d.wd)) ⟨(Below.refl _ _).alloc (Nat.le_refl _) _, blk_new _ _ _⟩ ?_
        rintro X ⟨hX, hB⟩
        have HX := Lib.hid (And.intro hX hB)
        have HP := Lib.hid (HF.out.1.later hX)
        have HR := Lib.hid (HF.out.2.1.later hX)
        clear hX hB c0 c1 c2 c3 c4
        refine (erase_all HP.out d.r d.c).mono ?_
        rintro e w3 ⟨⟨v, rfl⟩, hp3⟩
        have B3 := HX.out.2.two' hp3.2 HA.out.b
        have H3 := Lib.hid hp3
        have R3 := Lib.hid (HR.out.two HA.out.a hp3.2)
        have l1 := B3.2.1 1
        have l2 := B3.2.1 2
        simp at l1 l2
        clear hp3 B3
        go_wp2_with fail
        refine (eraseR_all R3.out d.r d.c).mono ?_
        rintro e w4 ⟨⟨v, rfl⟩, hp4⟩
        have H4 := Lib.hid hp4
        clear hp4 l1 l2
        have c1' := ((Chg.refl (Two W.heap.size w1.heap.size w1.heap.size w2.heap.size) wr).later HX.out.1).trans (H3.out.2.mono fun j _ hj => Or.inl hj)
        have c2' := Lib.hid (c1'.trans (H4.out.2.mono fun j _ hj => Or.inr hj))
        clear c1'
        go_wp2_with fail
        go_roundw
        case rel => exact ⟨k + 1, by omega, by omega, by go_num, by rw [HDF.out, HE.out]; exact ⟨H3.out.1.two HA.out.a H4.out.2, H4.out.1, HF.out.2.2.1.trans (chg_two_below c2'.out HF.out.2.2.1.size (Nat.le_refl _) z1.out), Nat.le_trans HF.out.2.2.2 c2'.out.size⟩⟩
        case measure => simp [intOf]; omega
      · have d3 : (d.k == 3) = false := by simpa using hk3
        have HE := Lib.hid (show dealF R m F d = putF R m F d.r d.c d.t d.wd from if_neg hk3)
        clear hk3
        go_wp2_with fail
        refine at_calls (fun X => Below wr.heap.size wr X ∧ Blk X wr.heap.size (dC d.k d.r d.c d.t d.wd)) ⟨(Below.refl _ _).alloc (Nat.le_refl _) _, blk_new _ _ _⟩ ?_
        rintro X ⟨hX, hB⟩
        have HX := Lib.hid (And.intro hX hB)
        have HP := Lib.hid (HF.out.1.later hX)
        have HR := Lib.hid (HF.out.2.1.later hX)
        have hzX := Lib.hid hX.size
        clear hX hB c0 c1 c2 c3 c4
        refine (put_all HP.out d.r d.c d.t d.wd).mono ?_
        rintro e w3 ⟨rfl, hp3⟩
        have B3 := HX.out.2.two' hp3.2 HA.out.b
        have H3 := Lib.hid hp3
        have R3 := Lib.hid (HR.out.two HA.out.a hp3.2)
        have z3 := Lib.hid hp3.2.size
        have l1 := B3.2.1 1
        have l2 := B3.2.1 2
        have l3 := B3.2.1 3
        have l4 := B3.2.1 4
        simp at l1 l2 l3 l4
        clear hp3 B3
        go_wp2_with fail
        refine (putR_all R3.out (Nat.le_trans HA.out.c (Nat.le_trans hzX.out z3.out)) d.r d.c d.t d.wd).mono ?_
        rintro e w4 ⟨rfl, hp4⟩
        have H4 := Lib.hid hp4
        clear hp4 l1 l2 l3 l4
        have c1' := ((Chg.refl (Two W.heap.size w1.heap.size w1.heap.size w2.heap.size) wr).later HX.out.1).trans (H3.out.2.mono fun j _ hj => Or.inl hj)
        have c2' := Lib.hid (c1'.trans (H4.out.2.mono fun j _ hj => Or.inr hj))
        clear c1'
        go_wp2_with fail
        go_roundw
        case rel => exact ⟨k + 1, by omega, by omega, by go_num, by rw [HDF.out, HE.out]; exact ⟨H3.out.1.two HA.out.a H4.out.2, H4.out.1, HF.out.2.2.1.trans (chg_two_below c2'.out HF.out.2.2.1.size (Nat.le_refl _) z1.out), Nat.le_trans HF.out.2.2.2 c2'.out.size⟩⟩
        case measure => simp [intOf]; omega
    · have hx : n ≤ k ∨ (k < n ∧ 30 ≤ k) := by omega
      have HK := Lib.hid (show k = min n 30 by omega)
      clear hlt
      rcases hx with hx | ⟨hx, hx2⟩
      all_goals
        go_wp2_with fail
        go_ret2
        exact ⟨g, cb, C, ob, Co, rb, Cr, w1.heap.size, w2.heap.size, rfl, by rw [← HK.out]; exact HF.out.1, by rw [← HK.out]; exact HF.out.2.1, z1.out, H2.out.2.2.2, HF.out.2.2.2, HF.out.2.2.1⟩
end Go.Proofs.YtednedklkbjihaaDoor
