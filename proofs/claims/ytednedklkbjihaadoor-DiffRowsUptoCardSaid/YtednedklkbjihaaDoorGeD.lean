/- grid: Clear, New, Copy. -/
import Derived.Test.YtednedklkbjihaaDoorGeC

namespace Go.Proofs.YtednedklkbjihaaDoor

open Go.RowKit

set_option linter.unusedVariables false

set_option linter.unusedSimpArgs false
set_option maxRecDepth 100000

theorem belowStep {A w w' : World} (h : Below A.heap.size A w) (k : Below w.heap.size w w') : Below A.heap.size A w' := h.trans (k.mono h.size)

/-- The cells from 0 on that are blank. -/
def BlankTo (cs : Array Value) (k : Nat) : Prop := ∀ j, j < k → cs[j * 2]? = some (.string blank.1) ∧ cs[j * 2 + 1]? = some (.int .i64 blank.2)

theorem BlankTo.push {cs : Array Value} {k : Nat} (h : BlankTo cs k) (hs : k * 2 + 1 < cs.size) : BlankTo (put2 cs (k * 2) blank) (k + 1) := by
  intro j hj
  by_cases e : j = k
  · subst e; exact ⟨put2_fst _ (by omega), put2_snd _ (by omega)⟩
  · rw [put2_other _ (by omega) (by omega), put2_other _ (by omega) (by omega)]
    exact h j (by omega)

theorem clear_nil (w : World) : Calls Tryd.prog 46 #[.pointer none] w fun e w' => (∃ v, e = .returned v) ∧ w = w' := by
  go_enter Tryd.func46, Tryd.ntmps46
  go_wp2
  exact bodyPost_ret (results_none rfl _ _ _) rfl ⟨⟨_, rfl⟩, rfl⟩

set_option maxHeartbeats 2000000 in
theorem clear_raw {w : World} {g cb N C : Nat} {a b : Value} {cs : Array Value} (hg : Blk w g #[a, b, .slice (some ⟨cb, 0, none⟩) N C]) (hc : Blk w cb cs) (hs : N * 2 ≤ cs.size) (hN : N ≤ 500000) (hne : g ≠ cb) :
    Calls Tryd.prog 46 #[ptr g] w fun e w' => (∃ v, e = .returned v) ∧ ∃ cs', Blk w' cb cs' ∧ cs'.size = cs.size ∧ BlankTo cs' N ∧ Chg (fun j => j = cb) w w' := by
  have l2 := hg.2.1 2
  simp at l2
  have HG := Lib.hid hg
  have HC := Lib.hid hc
  have HSz := Lib.hid hs
  clear hg hc hs
  go_enter Tryd.func46, Tryd.ntmps46
  go_wp2
  go_loopw [10] (fun i wr => ∃ k : Nat, k ≤ N ∧ i = .int .i64 k ∧ Hid (∃ cs', Blk wr cb cs' ∧ cs'.size = cs.size ∧ BlankTo cs' k ∧ Chg (fun j => j = cb) w wr)) (fun i _ => N - (intOf i).toNat)
  case atStart => exact ⟨0, Nat.zero_le _, rfl, ⟨cs, HC.out, rfl, fun j h => absurd h (by omega), Chg.refl _ _⟩⟩
  case round =>
    clear l2
    obtain ⟨k, hk, rfl, HR⟩ := hrel
    by_cases hlt : k < N
    · go_wp2_with fail
      obtain ⟨cs1, B1, S1, T1, C1⟩ := HR.out
      have hz : k * 2 + 1 < cs1.size := by have := HSz.out; omega
      have HX := Lib.hid (And.intro B1 (And.intro hz (And.intro T1 (And.intro C1 S1))))
      have HS : Hid (∀ X, Below wr.heap.size wr X → (fun X => X.cell? ⟨g, 2, none⟩ = some (.slice (some ⟨cb, 0, none⟩) N C)) X) := Lib.hid (by
        intro X hX
        have := ((HG.out.chg C1 hne).later hX (HG.out.chg C1 hne).1).2.1 2
        simpa using this)
      have HS2 : Hid (∀ X, Below wr.heap.size wr X → ∀ u v, ((X.setCell ⟨cb, k * 2, none⟩ u).setCell ⟨cb, k * 2 + 1, none⟩ v).cell? ⟨g, 2, none⟩ = some (.slice (some ⟨cb, 0, none⟩) N C)) := Lib.hid (by
        intro X hX u v
        have := ((((HG.out.chg C1 hne).later hX (HG.out.chg C1 hne).1).far (p := ⟨cb, k * 2, none⟩) (Ne.symm hne) u).far (p := ⟨cb, k * 2 + 1, none⟩) (Ne.symm hne) v).2.1 2
        simpa using this)
      clear HR B1 S1 T1 C1 hz
      have hD := (Below.refl wr.heap.size wr).drew
      go_region_held3 (fun X => X.cell? ⟨g, 2, none⟩ = some (.slice (some ⟨cb, 0, none⟩) N C))
        (first | exact HS.out _ (by assumption) | exact HS2.out _ (by assumption) _ _ | go_keep)
        (first | (go_at_call 59; refine (blank_any _).mono ?_; rintro e w3 ⟨rfl, hb3⟩; have hB3 := belowStep (A := wr) (by assumption) hb3; clear hb3; have T3 := Lib.hid ((HX.out.1.later hB3 HX.out.1.1).two HX.out.2.1 (.string ⟨#[32]⟩)); obtain ⟨u1, v1, q1, q2, q3, q4⟩ := T3.out))
      all_goals
        have B3 := HX.out.1.later hB3 HX.out.1.1
        have C3 := HX.out.2.2.2.1.later hB3
        refine at_world (fun Y => Blk Y cb (put2 cs1 (k * 2) blank) ∧ Chg (fun j => j = cb) w Y) ⟨B3.put2 HX.out.2.1 blank, C3.put2 rfl blank⟩ ?_
        rintro Y ⟨B4, C4⟩
        have HY := Lib.hid (And.intro B4 C4)
        clear B3 C3 B4 C4 HS HS2 hB3 q1 q2 q3 q4
        go_wp2
        go_roundw
        case rel => exact ⟨k + 1, by omega, by go_num, ⟨_, HY.out.1, (put2_size _ _ _).trans HX.out.2.2.2.2, HX.out.2.2.1.push HX.out.2.1, HY.out.2⟩⟩
        case measure => simp [intOf]; omega
    · go_wp2
      obtain rfl : k = N := by omega
      obtain ⟨cs1, B1, S1, T1, C1⟩ := HR.out
      exact bodyPost_end (results_none rfl _ _ _) rfl ⟨⟨_, rfl⟩, cs1, B1, S1, T1, C1⟩

theorem clear_any {w : World} {lo hi g cb C R n : Nat} {F : Nat → Nat → Cl} (h : PG w lo hi g cb C R n F) :
    Calls Tryd.prog 46 #[ptr g] w fun e w' => (∃ v, e = .returned v) ∧ PG w' lo hi g cb C R n (fun _ _ => blank) ∧ Chg (fun j => j = cb) w w' := by
  obtain ⟨cs, hb, hs, _⟩ := h.cells
  refine (clear_raw h.blk hb hs (Nat.mul_le_mul h.r2 h.n2) h.ne).mono ?_
  rintro e w' ⟨he, cs', B, S, T, c⟩
  refine ⟨he, ⟨h.blk.chg c h.ne, ⟨cs', B, by rw [S]; exact hs, fun r hr j hj => ?_⟩, fun r hr j hj => .inr (.inr rfl), h.g1, h.g2, h.c1, h.c2, h.ne, h.r1, h.r2, h.n1, h.n2, h.cap, h.cap2⟩, c⟩
  have hf := row_fits (n := n) hr
  have := T (r * n + j) (by omega)
  rw [Nat.add_mul] at this
  exact this

/-! ### New -/
theorem new_no {R n : Int} (w : World) (h : ¬ (1 ≤ R ∧ R ≤ 500 ∧ 2 ≤ n ∧ n ≤ 1000)) : Calls Tryd.prog 24 #[.int .i64 R, .int .i64 n] w fun e w' => e = .returned (.pointer none) ∧ w = w' := by
  have hc : R < 1 ∨ (1 ≤ R ∧ 500 < R) ∨ (1 ≤ R ∧ R ≤ 500 ∧ n < 2) ∨ (1 ≤ R ∧ R ≤ 500 ∧ 2 ≤ n ∧ 1000 < n) := by omega
  clear h
  rcases hc with h | ⟨h, h1⟩ | ⟨h, h1, h2⟩ | ⟨h, h1, h2, h3⟩
  all_goals
    go_enter Tryd.func24, Tryd.ntmps24
    go_wp2
    go_ret
    exact ⟨rfl, rfl⟩

set_option maxHeartbeats 1000000 in
theorem new_in {R n : Nat} (w : World) (h1 : 1 ≤ R) (h2 : R ≤ 500) (h3 : 2 ≤ n) (h4 : n ≤ 1000) : Calls Tryd.prog 24 #[.int .i64 R, .int .i64 n] w fun e w' => ∃ g cb C, e = .returned (ptr g) ∧ PG w' w.heap.size w'.heap.size g cb C R n (fun _ _ => blank) ∧ Below w.heap.size w w' := by
  obtain ⟨N, hN⟩ : ∃ N, R * n = N := ⟨_, rfl⟩
  have hN2 : N ≤ 500000 := by rw [← hN]; exact Nat.mul_le_mul h2 h4
  have hN3 : 0 < N := by rw [← hN]; exact Nat.mul_pos h1 (by omega)
  have e1 : (R : Int) * (n : Int) = (N : Int) := by rw [← hN]; simp
  have e2 : IntKind.i64.wrap (N : Int) = N := IntWalk.i64_in _ (by omega)
  obtain ⟨i0, hi0, hz0, hs0, hb0⟩ := info_parts (P := Tryd.prog) (e := 102) (z := .agg #[.string ⟨#[]⟩, .int .i64 0]) (size := 2) (bytes := 24) (by kernel_rfl)
  have HN := Lib.hid hN
  clear hN
  go_enter Tryd.func24, Tryd.ntmps24
  go_wp2_with (at_make; refine wpList_make_full w rfl _ _ _ rfl w.heap.size 102 i0 _ 2 Tryd.underlying75 hi0 hz0 hs0 .i64 .i64 _ _ N rfl rfl rfl rfl (by rw [hb0]; omega) (by unfold maxLen; omega) (Nat.le_refl _) ?_; intro w2 hown hg; have HO := Lib.hid (And.intro hown hg); clear hown hg)
  obtain ⟨g0, cs, hg0, _, hB, _, _, hsz, _⟩ := own_blk HO.out.1 (by omega)
  injection hg0 with hg0
  injection hg0 with hg0
  subst hg0
  have hb2 : Below w.heap.size w w2 := (Below.refl w.heap.size w).grown HO.out.2 (Nat.le_refl _) (fun k hk => by cases hk)
  have HX := Lib.hid (And.intro hB (And.intro hsz hb2))
  clear hB hsz hb2
  refine at_calls (fun X => Blk X w2.heap.size #[.int .i64 R, .int .i64 n, .slice (some ⟨w.heap.size, 0, none⟩) N N] ∧ Blk X w.heap.size cs ∧ Below w.heap.size w X) ⟨blk_new _ _ _, HX.out.1.alloc _, HX.out.2.2.alloc HX.out.2.2.size _⟩ ?_
  rintro X ⟨b1, b2, b3⟩
  have HB := Lib.hid (And.intro b1 (And.intro b2 b3))
  have hne : w2.heap.size ≠ w.heap.size := by have := HX.out.1.1; omega
  refine (clear_raw b1 b2 (by have := HX.out.2.1; omega) hN2 hne).mono ?_
  clear b1 b2 b3
  rintro e w3 ⟨⟨v, rfl⟩, cs3, c1, c2, c3, c4⟩
  have HC := Lib.hid (And.intro c1 (And.intro c2 (And.intro c3 c4)))
  clear c1 c2 c3 c4
  go_wp2
  go_ret
  have b1 := HB.out.1.chg HC.out.2.2.2 hne
  have hcs : N * 2 ≤ cs3.size := by rw [HC.out.2.1]; have := HX.out.2.1; omega
  refine ⟨w2.heap.size, w.heap.size, N, rfl, ⟨by rw [HN.out]; exact b1, ⟨cs3, HC.out.1, by rw [HN.out]; exact hcs, fun r hr j hj => ?_⟩, fun r hr j hj => .inr (.inr rfl), ?_, b1.1, Nat.le_refl _, HC.out.1.1, hne, h1, h2, h3, h4, Nat.le_of_eq HN.out, by omega⟩, ?_⟩
  · have hf := row_fits (n := n) hr
    have := HC.out.2.2.1 (r * n + j) (by have := HN.out; omega)
    rw [Nat.add_mul] at this
    exact this
  · have := HX.out.1.1; omega
  · exact ⟨HC.out.2.2.2.os.trans HB.out.2.2.os, HC.out.2.2.2.tape.trans HB.out.2.2.tape, HC.out.2.2.2.output.trans HB.out.2.2.output, Nat.le_trans HB.out.2.2.size HC.out.2.2.2.size, fun k hk => (HC.out.2.2.2.block k (Nat.lt_of_lt_of_le hk HB.out.2.2.size) (by omega)).trans (HB.out.2.2.block k hk)⟩

/-! ### Copy -/
theorem flat_is {cs : Array Value} {R n : Nat} {F : Nat → Nat → Cl} (hn : 0 < n) (h : ∀ r, r < R → Is cs (r * n * 2) n (F r)) : Is cs 0 (R * n) (fun j => F (j / n) (j % n)) := by
  intro j hj
  have h1 : j / n < R := Nat.div_lt_of_lt_mul (by rw [Nat.mul_comm]; exact hj)
  have h2 : j % n < n := Nat.mod_lt _ hn
  have e : j / n * n * 2 + j % n * 2 = 0 + j * 2 := by
    have := Nat.div_add_mod j n
    rw [Nat.mul_comm] at this
    omega
  have := h (j / n) h1 (j % n) h2
  rw [e] at this
  exact this
theorem is_flat {cs : Array Value} {R n : Nat} {F : Nat → Nat → Cl} (hn : 0 < n) (h : Is cs 0 (R * n) (fun j => F (j / n) (j % n))) {r : Nat} (hr : r < R) : Is cs (r * n * 2) n (F r) := by
  intro j hj
  have hf := row_fits (n := n) hr
  have := h (r * n + j) (by omega)
  simp only at this
  rw [show (r * n + j) / n = r by rw [Nat.mul_comm, Nat.mul_add_div hn, Nat.div_eq_of_lt hj]; rfl, show (r * n + j) % n = j by rw [Nat.mul_comm, Nat.mul_add_mod, Nat.mod_eq_of_lt hj], show 0 + (r * n + j) * 2 = r * n * 2 + j * 2 by omega] at this
  exact this

end Go.Proofs.YtednedklkbjihaaDoor
