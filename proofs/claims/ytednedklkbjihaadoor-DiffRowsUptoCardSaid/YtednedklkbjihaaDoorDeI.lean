/- diff: the document's Rows. -/
import Derived.Test.YtednedklkbjihaaDoorDeH
import Derived.Test.YtednedklkbjihaaDoorStepN
import Derived.Test.YtednedklkbjihaaDoorStepL
import Derived.BigQuiet
namespace Go.Proofs.YtednedklkbjihaaDoor
open Go.RowKit
set_option linter.unusedVariables false
set_option linter.unusedSimpArgs false
set_option maxRecDepth 100000

theorem rdr_elt : Elt Tryd.prog 31 35 5 48 := elt_of Tryd.underlying31 (z := .agg #[.int .i64 0, .int .i64 0, .int .i64 0, .string ⟨#[]⟩, .bool false]) (by kernel_rfl) rfl (by decide)
theorem agreeR_diff (G G' : Nat → Cl) (n : Nat) : agreeR G G' n = !decide (diffN G G' n 0 < n) := by
  obtain ⟨h1, h2⟩ := diffN_spec G G' n 0
  by_cases h : diffN G G' n 0 < n
  · rw [decide_eq_true h]
    exact agreeR_no h (h2 (by omega))
  · rw [decide_eq_false h]
    exact agreeR_yes.2 fun c hc => h1 c (Nat.zero_le _) (by omega)

theorem encD_one : ∀ x : Dr, ∀ u ∈ encD x, u.oneCell' = true := by
  intro x u hu
  simp [encD] at hu
  rcases hu with rfl | rfl | rfl | rfl | rfl <;> rfl
theorem dr_newT (Y : World) (d : Dr) (ty : TypeId) : LiV 5 encD (Y.alloc (.cells #[.int .i64 d.r, .int .i64 d.f, .int .i64 d.t, .string d.x, .bool d.e] ty)) (fun b => Y.heap.size ≤ b) (.slice (some ⟨Y.heap.size, 0, none⟩) 1 1) [d] :=
  ⟨_, 1, rfl, Li.new encD_len Y _ ty (by simp [flatL, encD]), (fun h => by cases h), Nat.le_refl _, by decide⟩

set_option maxHeartbeats 8000000 in
theorem rrows_any {w : World} {lo hi ob Co R n lo' hi' ob' Co' : Nat} {rb Cr rb' Cr' : Nat → Nat} {F F' : Nat → Nat → Cl} (h : RG w lo hi ob Co R n rb Cr F) (h' : RG w lo' hi' ob' Co' R n rb' Cr' F') (hs : Short F F' n R) :
    Calls Tryd.prog 8 #[gv ob R Co, gv ob' R Co'] w (TellsO 35 5 encD (rowsD F F' n R) w) := by
  have HH := Lib.hid (fun X (hX : Below w.heap.size w X) => And.intro (h.later hX) (h'.later hX))
  have HS := Lib.hid hs
  have hR := h.r2
  have hR1 := h.r1
  have hn := h.n2
  have d1 : ((R : Int) != (R : Int)) = false := by simp
  have d2 : ((n : Int) != (n : Int)) = false := by simp
  have d3 : decide ((0 : Int) < (R : Int)) = true := by simp; omega
  have d4 : decide (0 < R) = true := by simp; omega
  have z1 := h.out 0 hR1
  have z2 := h'.out 0 hR1
  have hcap := h.cap
  have hcap' := h'.cap
  have g0 : (0 : Int) < (R : Int) := by omega
  clear h h' hs
  go_enter Tryd.func8, Tryd.ntmps8
  go_wp2_with fail
  go_quiet (fail)
  go_wp2_with fail
  clear z1 z2
  go_loopw [5, 6] (fun u v wr => ∃ k A no co, k ≤ R ∧ v = .int .i64 (k : Nat) ∧ u = .slice A no co ∧ no ≤ k ∧ Hid (Grows w 35 5 encD A no co (rowsD F F' n k) wr)) (fun _ v _ => R - (intOf v).toNat)
  case atStart => exact ⟨0, none, 0, 0, Nat.zero_le _, rfl, rfl, Nat.le_refl _, ⟨World.ownsRow_nil _ _ _ _, below_drewN (Below.refl _ _) _⟩⟩
  case round =>
    obtain ⟨k, A, no, co, hk, rfl, rfl, hno, HG⟩ := hrel
    by_cases hlt : k < R
    · obtain ⟨P1, P2⟩ := HH.out wr HG.out.below
      obtain ⟨cs1, B1, S1, I1⟩ := P1.rows k hlt
      obtain ⟨cs2, B2, S2, I2⟩ := P2.rows k hlt
      have l1 := P1.out k hlt
      have l2 := P2.out k hlt
      obtain ⟨f, hf⟩ : ∃ f, diffN (F k) (F' k) n 0 = f := ⟨_, rfl⟩
      have hfl := (diffN_le (F k) (F' k) n 0).2
      rw [hf, Nat.zero_add] at hfl
      obtain ⟨bb, hbb⟩ : ∃ bb, decide (f < n) = bb := ⟨_, rfl⟩
      have C0 := fun m => samerow_any (w := wr.drewN m) (Ca := Cr k) (Cb := Cr' k) (B1.drewN m) I1 (B2.drewN m) I2 (by omega)
      rw [agreeR_diff, hf, hbb] at C0
      obtain ⟨r1, hr1⟩ : ∃ r1, rb k = r1 := ⟨_, rfl⟩
      obtain ⟨r2, hr2⟩ : ∃ r2, rb' k = r2 := ⟨_, rfl⟩
      obtain ⟨c1, hc1⟩ : ∃ c1, Cr k = c1 := ⟨_, rfl⟩
      obtain ⟨c2, hc2⟩ : ∃ c2, Cr' k = c2 := ⟨_, rfl⟩
      have HB := Lib.hid (And.intro (hr1 ▸ B1) (And.intro I1 (And.intro (hr2 ▸ B2) I2)))
      rw [hr1, hr2, hc1, hc2] at C0
      rw [hr1, hc1] at l1
      rw [hr2, hc2] at l2
      have C2 : Hid (∀ m, Calls Tryd.prog 34 #[.slice (some ⟨r1, 0, none⟩) n c1, .slice (some ⟨r2, 0, none⟩) n c2] (wr.drewN m) fun e w'' => e = .returned (.bool (!bb)) ∧ ∃ m, w'' = wr.drewN m) := Lib.hid (fun m => Calls.quiet_of (C0 m))
      have HF := Lib.hid hf
      have HBB := Lib.hid hbb
      have g1 : (k : Int) < (R : Int) := by omega
      have g2 : (0 : Int) ≤ (k : Int) := by omega
      have HOut := Lib.hid (fun X (hX : Below w.heap.size w X) => show X.cell? ⟨ob, k, none⟩ = some (.slice (some ⟨r1, 0, none⟩) n c1) ∧ X.cell? ⟨ob', k, none⟩ = some (.slice (some ⟨r2, 0, none⟩) n c2) from by
        have hh := HH.out X hX
        exact ⟨by rw [← hr1, ← hc1]; exact hh.1.out k hlt, by rw [← hr2, ← hc2]; exact hh.2.out k hlt⟩)
      clear P1 P2 B1 B2 S1 S2 I1 I2 C0 hr1 hr2 hc1 hc2 hf hbb
      cases bb
      · have HD := Lib.hid (show rowsD F F' n (k + 1) = rowsD F F' n k from by
          conv => lhs; unfold rowsD
          rw [HF.out, if_neg (of_decide_eq_false HBB.out)]
          simp)
        go_wp2_with fail
        go_quiet ((go_at_call 34; exact C2.out _))
        go_wp2_with fail
        go_roundw
        case rel => exact ⟨k + 1, A, no, co, by omega, by go_num, rfl, by omega, by rw [HD.out]; exact ⟨ownDrew HG.out.own _, below_drewN HG.out.below _⟩⟩
        case measure => simp [intOf]; omega
      · have hfn : f < n := of_decide_eq_true HBB.out
        go_wp2_with fail
        go_quiet ((go_at_call 34; exact C2.out _))
        go_wp2_with fail
        refine at_world (fun X => Below wr.heap.size wr X ∧ Grows w 35 5 encD A no co (rowsD F F' n k) X) ⟨below_drewN (Below.refl _ _) _, ⟨ownDrew HG.out.own _, below_drewN HG.out.below _⟩⟩ ?_
        rintro X1 ⟨hX1, hG1⟩
        have H1 := Lib.hid (And.intro hX1 hG1)
        obtain ⟨l3, l4⟩ := HOut.out X1 hG1.below
        clear hX1 hG1 l1 l2 HG C2
        have HBX := Lib.hid (fun X (hX : Below X1.heap.size X1 X) => HOut.out X (H1.out.2.later hX).below)
        have C1 := Lib.hid (fun X (hX : Below X1.heap.size X1 X) => one_any (w := X) (C := c1) (C' := c2) (HB.out.1.later (H1.out.1.trans (hX.mono H1.out.1.size)) HB.out.1.1) HB.out.2.1 (HB.out.2.2.1.later (H1.out.1.trans (hX.mono H1.out.1.size)) HB.out.2.2.1.1) HB.out.2.2.2 hn k f HF.out hfn (by have := HS.out k hlt (by rw [HF.out]; exact hfn); rw [HF.out] at this; exact this))
        obtain ⟨T, hT⟩ : ∃ T, max (filledN (F' k) n) f = T := ⟨_, rfl⟩
        obtain ⟨X, hX⟩ : ∃ X, (ByteArray.mk (textL (F' k) f (T - f)).toArray) = X := ⟨_, rfl⟩
        obtain ⟨E, hE⟩ : ∃ E, decide (T < filledN (F k) n) = E := ⟨_, rfl⟩
        rw [hT, hX, hE] at C1
        have HD := Lib.hid (show rowsD F F' n (k + 1) = rowsD F F' n k ++ [⟨k, f, T, X, E⟩] from by
          conv => lhs; unfold rowsD
          rw [HF.out, if_pos hfn]
          unfold changeD
          rw [hT, hX, hE])
        clear hT hX hE
        go_region_held3 (fun X => X.cell? ⟨ob, k, none⟩ = some (.slice (some ⟨r1, 0, none⟩) n c1) ∧ X.cell? ⟨ob', k, none⟩ = some (.slice (some ⟨r2, 0, none⟩) n c2))
          (first | exact HBX.out _ (by first | assumption | exact B5.out) | exact HOut.out _ V6.out.below | go_keep)
          (first
          | (go_at_call 35; refine (C1.out _ (by first | exact Below.refl _ _ | exact (Below.refl _ _).drew | exact selfDrew _ _)).mono ?_; rintro e w5 ⟨rfl, b5⟩; have B5 := Lib.hid (belowStep (A := X1) (by first | exact Below.refl _ _ | exact (Below.refl _ _).drew | exact selfDrew _ _) b5); have V5 := Lib.hid (H1.out.2.later B5.out); have hz5 := V5.out.below.size; clear b5)
          | (refine step_pushN (cs := #[.int .i64 k, .int .i64 f, .int .i64 T, .string X, .bool E]) rdr_elt V5.out.own hz5 (by rfl) (by rfl) (by rfl) (by rfl) (by rfl) (by rfl) (by rfl) (by rfl) (by unfold maxLen; omega) (by omega) ?_; intro A6 c6 w6 hp; have V6 := Lib.hid (V5.out.push (x := ⟨k, f, T, X, E⟩) (Below.refl _ _) hp); clear hp)
          | (refine step_li (M := [⟨k, f, T, X, E⟩]) encD_len encD_one rdr_elt (V5.out.later ((Below.refl _ _).alloc (Nat.le_refl _) _)).own (by simp; omega) rfl rfl (by rfl) (by rfl) (dr_newT w5 ⟨k, f, T, X, E⟩ 35) (by unfold maxLen; omega) (by omega) ?_; intro A6 c6 w6 hp; have V6 := Lib.hid (V5.out.pushM (M := [⟨k, f, T, X, E⟩]) ((Below.refl _ _).alloc (Nat.le_refl _) _) rfl hp); clear hp)
          | (at_builtin; refine wpList_push rdr_elt V5.out.own hz5 rfl rfl rfl rfl rfl rfl rfl (by unfold maxLen; omega) (by omega) ?_; intro A6 c6 w6 hp; have V6 := Lib.hid (V5.out.push (x := ⟨k, f, T, X, E⟩) (Below.refl _ _) hp); clear hp))
        all_goals
          go_wp2_with fail
          go_roundw
          case rel => exact ⟨k + 1, A6, no + 1, c6, by omega, by go_num, rfl, by omega, by rw [HD.out]; exact V6.out⟩
          case measure => simp [intOf]; omega
    · obtain rfl : k = R := by omega
      have HT := Lib.hid (HG.out.tells)
      go_wp2_with fail
      go_ret
      exact HT.out
end Go.Proofs.YtednedklkbjihaaDoor
