/- diff: change. -/
import Derived.Test.YtednedklkbjihaaDoorDeB
import Derived.Test.YtednedklkbjihaaDoorBldI
namespace Go.Proofs.YtednedklkbjihaaDoor
open Go.RowKit
set_option linter.unusedVariables false
set_option linter.unusedSimpArgs false
set_option maxRecDepth 100000

/-- The texts of cells, one behind the other. -/
def textL (G : Nat → Cl) : Nat → Nat → List UInt8
  | _, 0 => []
  | a, k + 1 => textL G a k ++ (G (a + k)).1.data.toList
set_option maxHeartbeats 2000000 in
set_option maxRecDepth 100000 in
theorem change_any {w : World} {b b' n C C' : Nat} {cs cs' : Array Value} {G G' : Nat → Cl} (hB : Blk w b cs) (hI : Is cs 0 n G) (hB' : Blk w b' cs') (hI' : Is cs' 0 n G') (hn : n ≤ 1000) (hC : n ≤ C') (hC2 : C' ≤ 9223372036854775807) (r f : Nat) (hf : f ≤ n) (hs : ∀ j, j ≤ n - f → (textL G' f j).length ≤ 1000000000) :
    Calls Tryd.prog 32 #[.slice (some ⟨b, 0, none⟩) n C, .slice (some ⟨b', 0, none⟩) n C', .int .i64 r, .int .i64 f] w fun e w' => e = .returned (.agg #[.int .i64 r, .int .i64 f, .int .i64 (max (filledN G' n) f : Nat), .string ⟨(textL G' f (max (filledN G' n) f - f)).toArray⟩, .bool (decide (max (filledN G' n) f < filledN G n))]) ∧ Below w.heap.size w w' := by
  have HF1 := Lib.hid (fun X (hX : Below w.heap.size w X) => filled_any (C := C) (w := X) (hB.later hX hB.1) hI (by omega))
  have HF2 := Lib.hid (fun X (hX : Below w.heap.size w X) => filled_any (C := C') (w := X) (hB'.later hX hB'.1) hI' (by omega))
  have hle := filledN_le G' n
  have HC2 := Lib.hid (fun X (hX : Below w.heap.size w X) c (hc : c < n) => show X.cell? ⟨b', c * 2, none⟩ = some (.string (G' c).1) ∧ X.cell? ⟨b', c * 2 + 1, none⟩ = some (.int .i64 (G' c).2) from by have h := hI' c hc; rw [Nat.zero_add] at h; exact ⟨((hB'.later hX hB'.1).2.1 _).trans h.1, ((hB'.later hX hB'.1).2.1 _).trans h.2⟩)
  have HS := Lib.hid hs
  obtain ⟨N, hN⟩ : ∃ N, filledN G n = N := ⟨_, rfl⟩
  obtain ⟨N', hN'⟩ : ∃ N', filledN G' n = N' := ⟨_, rfl⟩
  rw [hN] at HF1 ⊢
  rw [hN'] at HF2 hle ⊢
  obtain ⟨M, hM⟩ : ∃ M, max N' f = M := ⟨_, rfl⟩
  have hMl : f ≤ M ∧ M ≤ n := by omega
  have e1 : max (N' : Int) (f : Int) = (M : Int) := by omega
  rw [hM]
  obtain ⟨TX, hTX⟩ : ∃ TX, textL G' f (M - f) = TX := ⟨_, rfl⟩
  rw [hTX]
  have HTX0 := Lib.hid hTX
  clear hN hN' hM hB hB' hs hTX
  go_enter Tryd.func32, Tryd.ntmps32
  go_wp2_with fail
  refine at_calls (fun X => Below w.heap.size w X ∧ Blk X w.heap.size #[.int .i64 0, .int .i64 0, .int .i64 0, .string ⟨#[]⟩, .bool false]) ⟨(Below.refl _ _).alloc (Nat.le_refl _) _, blk_new _ _ _⟩ ?_
  rintro X ⟨hX, hBX⟩
  have HX := Lib.hid (And.intro hX hBX)
  clear hX hBX
  refine (HF2.out X HX.out.1).mono ?_
  rintro e w1 ⟨rfl, b1⟩
  have H1 := Lib.hid (And.intro (belowStep HX.out.1 b1) (HX.out.2.later b1 HX.out.2.1))
  clear b1
  by_cases hlt : f < C'
  · have m1 : (f : Int) ≤ (M : Int) := by omega
    have m2 : (M : Int) ≤ (C' : Int) := by omega
    go_wp2_with fail
    go_loopw [22] (fun v wr => ∃ k : Nat, k ≤ M - f ∧ v = .int .i64 k ∧ Hid (BldIs w1.heap.size (textL G' f k) wr ∧ Below w1.heap.size w1 wr)) (fun v _ => M - f - (intOf v).toNat)
    case atStart => exact ⟨0, Nat.zero_le _, rfl, bldIs_new _, (Below.refl _ _).alloc (Nat.le_refl _) _⟩
    case round =>
      obtain ⟨k, hk, rfl, HK⟩ := hrel
      by_cases hkl : k < M - f
      · obtain ⟨q0, q1⟩ := HC2.out wr (H1.out.1.trans (HK.out.2.mono H1.out.1.size)) (f + k) (by omega)
        obtain ⟨u, hu⟩ : ∃ u, G' (f + k) = u := ⟨_, rfl⟩
        rw [hu] at q0 q1
        rw [show (f + k) * 2 = f * 2 + k * 2 by omega] at q0 q1
        have hs1 := HS.out (k + 1) (by omega)
        have htx : textL G' f (k + 1) = textL G' f k ++ u.1.data.toList := by unfold textL; rw [hu]; cases k <;> rfl
        have HTX := Lib.hid htx
        rw [htx, List.length_append] at hs1
        have hs2 : (textL G' f k).length + u.1.size ≤ 1000000000 := hs1
        have g1 : (0 : Int) ≤ (k : Int) := by omega
        have g2 : (k : Int) < ((M - f : Nat) : Int) := by omega
        have T1 := Lib.hid (bldIs_write (w0 := w1) (HK.out.2.alloc HK.out.2.size (.cells #[.string u.1, .int .i64 u.2] 102)) (HK.out.1.alloc _) u.1 (by omega))
        clear htx hs1 hs2 hu
        go_wp2_with fail
        (with_reducible refine T1.out.mono ?_)
        rintro e w3 ⟨rfl, h3, b3⟩
        have H3 := Lib.hid (And.intro h3 b3)
        clear h3 b3 T1
        go_wp2_with fail
        go_roundw
        case rel => exact ⟨k + 1, by omega, by go_num, by rw [HTX.out]; exact H3.out.1, H3.out.2⟩
        case measure => simp [intOf]; omega
      · obtain rfl : k = M - f := by omega
        have T1 := Lib.hid (bldIs_text (w0 := w1) (l := TX) HK.out.2 (by have h := HK.out.1; first | exact h | (rw [HTX0.out] at h; exact h)))
        go_wp2_with fail
        (with_reducible refine T1.out.mono ?_)
        rintro e w3 ⟨rfl, b3⟩
        have H3 := Lib.hid (And.intro (H1.out.1.trans (b3.mono H1.out.1.size)) (H1.out.2.later b3 H1.out.2.1))
        clear b3 T1 HK
        go_wp2_with fail
        refine (HF1.out w3 H3.out.1).mono ?_
        rintro e w4 ⟨rfl, b4⟩
        have H4 := Lib.hid (And.intro (belowStep H3.out.1 b4) (H3.out.2.later b4 H3.out.2.1))
        obtain ⟨y0, k0, j0⟩ := (show Blk _ _ _ from H4.out.2)
        have c0 := k0 0
        have c1 := k0 1
        have c2 := k0 2
        have c3 := k0 3
        have c4 := k0 4
        have d0 := j0 0
        have d1 := j0 1
        have d2 := j0 2
        have d3 := j0 3
        have d4 := j0 4
        simp at c0 c1 c2 c3 c4
        clear b4 H3 k0 j0
        go_wp2_with fail
        refine at_world (fun Y => Y.cell? ⟨w.heap.size, 0, none⟩ = some (.int .i64 r) ∧ Y.cell? ⟨w.heap.size, 1, none⟩ = some (.int .i64 f) ∧ Y.cell? ⟨w.heap.size, 2, none⟩ = some (.int .i64 M) ∧ Y.cell? ⟨w.heap.size, 3, none⟩ = some (.string ⟨TX.toArray⟩) ∧ Y.cell? ⟨w.heap.size, 4, none⟩ = some (.bool (decide (M < N))) ∧ Below w.heap.size w Y) ?_ ?_
        · have B5 := ((((H4.out.2.set_ 0 (by simp) (.int .i64 r)).set_ 1 (by simp) (.int .i64 f)).set_ 2 (by simp) (.int .i64 M)).set_ 3 (by simp) (.string ⟨TX.toArray⟩)).set_ 4 (by simp) (.bool (decide (M < N)))
          refine ⟨B5.2.1 0, B5.2.1 1, B5.2.1 2, B5.2.1 3, B5.2.1 4, ?_⟩
          exact ((((H4.out.1.setCell (p := ⟨w.heap.size, 0, none⟩) (Nat.le_refl _) _).setCell (p := ⟨w.heap.size, 1, none⟩) (Nat.le_refl _) _).setCell (p := ⟨w.heap.size, 2, none⟩) (Nat.le_refl _) _).setCell (p := ⟨w.heap.size, 3, none⟩) (Nat.le_refl _) _).setCell (p := ⟨w.heap.size, 4, none⟩) (Nat.le_refl _) _
        rintro Y ⟨x0, x1, x2, x3, x4, hY⟩
        exact bodyPost_ret (v := .agg #[.int .i64 r, .int .i64 f, .int .i64 M, .string ⟨TX.toArray⟩, .bool (decide (M < N))]) (by simp [results, Tryd.results32, go_sem, x0, x1, x2, x3, x4]) rfl ⟨rfl, hY⟩
  · obtain rfl : f = n := by omega
    obtain rfl : f = C' := by omega
    obtain rfl : M = f := by omega
    have HT0 := Lib.hid (show TX = [] by rw [← HTX0.out, Nat.sub_self]; rfl)
    go_wp2_with fail
    go_loopw [22] (fun v wr => v = .int .i64 0 ∧ Hid (BldIs w1.heap.size TX wr ∧ Below w1.heap.size w1 wr)) (fun v _ => 0)
    case atStart => exact ⟨rfl, by rw [HT0.out]; exact bldIs_new _, (Below.refl _ _).alloc (Nat.le_refl _) _⟩
    case round =>
      obtain ⟨rfl, HK⟩ := hrel
      · skip
        have T1 := Lib.hid (bldIs_text (w0 := w1) (l := TX) HK.out.2 (by have h := HK.out.1; first | exact h | (rw [HTX0.out] at h; exact h)))
        go_wp2_with fail
        (with_reducible refine T1.out.mono ?_)
        rintro e w3 ⟨rfl, b3⟩
        have H3 := Lib.hid (And.intro (H1.out.1.trans (b3.mono H1.out.1.size)) (H1.out.2.later b3 H1.out.2.1))
        clear b3 T1 HK
        go_wp2_with fail
        refine (HF1.out w3 H3.out.1).mono ?_
        rintro e w4 ⟨rfl, b4⟩
        have H4 := Lib.hid (And.intro (belowStep H3.out.1 b4) (H3.out.2.later b4 H3.out.2.1))
        obtain ⟨y0, k0, j0⟩ := (show Blk _ _ _ from H4.out.2)
        have c0 := k0 0
        have c1 := k0 1
        have c2 := k0 2
        have c3 := k0 3
        have c4 := k0 4
        have d0 := j0 0
        have d1 := j0 1
        have d2 := j0 2
        have d3 := j0 3
        have d4 := j0 4
        simp at c0 c1 c2 c3 c4
        clear b4 H3 k0 j0
        go_wp2_with fail
        refine at_world (fun Y => Y.cell? ⟨w.heap.size, 0, none⟩ = some (.int .i64 r) ∧ Y.cell? ⟨w.heap.size, 1, none⟩ = some (.int .i64 M) ∧ Y.cell? ⟨w.heap.size, 2, none⟩ = some (.int .i64 M) ∧ Y.cell? ⟨w.heap.size, 3, none⟩ = some (.string ⟨TX.toArray⟩) ∧ Y.cell? ⟨w.heap.size, 4, none⟩ = some (.bool (decide (M < N))) ∧ Below w.heap.size w Y) ?_ ?_
        · have B5 := ((((H4.out.2.set_ 0 (by simp) (.int .i64 r)).set_ 1 (by simp) (.int .i64 M)).set_ 2 (by simp) (.int .i64 M)).set_ 3 (by simp) (.string ⟨TX.toArray⟩)).set_ 4 (by simp) (.bool (decide (M < N)))
          refine ⟨B5.2.1 0, B5.2.1 1, B5.2.1 2, B5.2.1 3, B5.2.1 4, ?_⟩
          exact ((((H4.out.1.setCell (p := ⟨w.heap.size, 0, none⟩) (Nat.le_refl _) _).setCell (p := ⟨w.heap.size, 1, none⟩) (Nat.le_refl _) _).setCell (p := ⟨w.heap.size, 2, none⟩) (Nat.le_refl _) _).setCell (p := ⟨w.heap.size, 3, none⟩) (Nat.le_refl _) _).setCell (p := ⟨w.heap.size, 4, none⟩) (Nat.le_refl _) _
        rintro Y ⟨x0, x1, x2, x3, x4, hY⟩
        exact bodyPost_ret (v := .agg #[.int .i64 r, .int .i64 M, .int .i64 M, .string ⟨TX.toArray⟩, .bool (decide (M < N))]) (by simp [results, Tryd.results32, go_sem, x0, x1, x2, x3, x4]) rfl ⟨rfl, hY⟩
end Go.Proofs.YtednedklkbjihaaDoor
