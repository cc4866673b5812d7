/- store: Read; the example. -/
import Derived.Test.YtfnieoffgnnldaaDoorStG
import Derived.BigQuiet
namespace Go.Proofs.YtfnieoffgnnldaaDoor
open Go.RowKit
set_option linter.unusedVariables false
set_option linter.unusedSimpArgs false

theorem same_txt (u v : Value) (l : List Int) (w : World) (hu : Txt w u l) (hv : Txt w v l) : Calls Tryd.prog 34 #[u, v] w fun e w' => e = .returned (.bool true) ∧ ∃ k, w' = w.drewN k := by
  obtain ⟨A, c, rfl, hA, _, h1, h2, _⟩ := hu
  obtain ⟨B, d, rfl, hB, _⟩ := hv
  unfold maxLen at h2
  exact same_yes A B l.length c d (fun j => l.getD j 0) w (by omega) hA hB
/-! ### SameTexts -/
set_option maxHeartbeats 1000000 in
theorem sametexts_yes (u v : Value) (L : List (List Int)) (w : World) (hu : Txts w u L) (hv : Txts w v L) (hn : L.length ≤ 1000) : Calls Tryd.prog 16 #[u, v] w fun e w' => e = .returned (.bool true) ∧ Below w.heap.size w w' := by
  obtain ⟨A, c, rfl, hc, hc2⟩ := hu.is
  obtain ⟨B, d, rfl, hd, hd2⟩ := hv.is
  have HU := Lib.hid (And.intro hu hv)
  have h1 : (((L.length : Int) == (L.length : Int))) = true := by simp
  have h2 : (((L.length : Int) != (L.length : Int))) = false := by simp
  clear hu hv
  go_enter Tryd.func16, Tryd.ntmps16
  go_wp2
  go_loopw [5] (fun i wr => ∃ k : Nat, k ≤ L.length ∧ i = .int .i64 k ∧ Hid (Below w.heap.size w wr)) (fun i _ => L.length - (intOf i).toNat)
  case atStart => exact ⟨0, Nat.zero_le _, rfl, Lib.hid (Below.refl _ _)⟩
  case round =>
    obtain ⟨k, hk, rfl, HQ⟩ := hrel
    by_cases hlt : k < L.length
    · obtain ⟨a, i, A1, n1, c1, rfl, _, hca, hta⟩ := (HU.out.1.later HQ.out).at_ hlt
      obtain ⟨b, j, B1, n2, c2, rfl, _, hcb, htb⟩ := (HU.out.2.later HQ.out).at_ hlt
      have HS : Hid (∀ n, Calls Tryd.prog 34 #[.slice A1 n1 c1, .slice B1 n2 c2] (wr.drewN n) fun e w'' => e = .returned (.bool true) ∧ ∃ m, w'' = wr.drewN m) := Lib.hid (fun n => (same_txt (.slice A1 n1 c1) (.slice B1 n2 c2) _ (wr.drewN n) (hta.any.later (below_drewN (Below.refl _ _) _)) (htb.any.later (below_drewN (Below.refl _ _) _))).mono fun e w'' hh => ⟨hh.1, by obtain ⟨k, e⟩ := hh.2; exact ⟨_, e.trans (World.drewN_drewN _ _ _)⟩⟩)
      clear hta htb
      go_wp2
      go_quiet ((go_at_call 34; exact (HS.out _)))
      go_wp2
      go_roundw
      case rel => exact ⟨k + 1, by omega, by go_num, Lib.hid (HQ.out.trans (below_drewN (Below.refl _ _) _ |>.mono HQ.out.size))⟩
      case measure => simp [intOf]; omega
    · go_wp2
      go_ret
      exact ⟨rfl, HQ.out⟩


def YesO (w : World) (e : Ending) (w' : World) : Prop := e = .returned (.bool true) ∧ Below w.heap.size w w'
theorem below_next {w w1 w2 : World} (h1 : Below w.heap.size w w1) (h2 : Below w1.heap.size w1 w2) : Below w.heap.size w w2 := h1.trans (h2.mono h1.size)
theorem rdL_len : ∀ (l cur : List Int) (i : Nat), (rdL cur i l).length ≤ l.length
  | [], cur, i => Nat.le_refl _
  | b :: t, cur, i => by
    show (if b = 10 then (match linP cur with | none => [] | some l => (l, i + 1) :: rdL [] (i + 1) t) else rdL (cur ++ [b]) (i + 1) t).length ≤ _
    split
    · cases linP cur with
      | none => simp
      | some l =>
        have := rdL_len t [] (i + 1)
        simp
        omega
    · have := rdL_len t (cur ++ [b]) (i + 1)
      simp
      omega
def lastE (R : List (List Int × Nat)) : Nat := (R.map (·.2)).getD (R.length - 1) 0
set_option maxHeartbeats 4000000 in
theorem Read_any (s : ByteArray) (hs : s.size ≤ 10000) (w : World) (hM : MaxW w) : Calls Tryd.prog 14 #[.string s] w fun e w' => ∃ A c, e = .returned (.tuple #[.slice A (rdL [] 0 (bts s)).length c, .int .i64 (lastE (rdL [] 0 (bts s)) : Nat)]) ∧ Txts w' (.slice A (rdL [] 0 (bts s)).length c) ((rdL [] 0 (bts s)).map (·.1)) ∧ Below w.heap.size w w' := by
  have C1 := Lib.hid (read_any s hs w hM)
  obtain ⟨R, hR⟩ : ∃ R, rdL [] 0 (bts s) = R := ⟨_, rfl⟩
  have hRl : R.length ≤ 10000 := by
    have := rdL_len (bts s) [] 0
    rw [hR, bts_length] at this
    omega
  rw [hR] at C1 ⊢
  clear hR hM
  obtain ⟨N, hN⟩ : ∃ N, R.length = N := ⟨_, rfl⟩
  have HN := Lib.hid hN
  clear hN
  go_enter Tryd.func14, Tryd.ntmps14
  go_wp2_with fail
  refine C1.out.mono ?_
  rintro e w1 ⟨A, c, B, d, rfl, h1⟩
  have H1 := Lib.hid h1
  clear h1 C1
  by_cases h0 : R.length = 0
  · have hR0 : R = [] := List.eq_nil_of_length_eq_zero h0
    subst hR0
    have e0 : (([] : List (List Int × Nat)).length : Int) = 0 := rfl
    have HO := Lib.hid (show Txts w1 (.slice none 0 0) (([] : List (List Int × Nat)).map (·.1)) from ⟨fun _ => .nilIface, Sl.nil _ _ _, fun j hj => absurd hj (by simp)⟩)
    go_wp2_with fail
    go_ret2
    exact ⟨none, 0, rfl, HO.out, H1.out.below⟩
  · have hlast := H1.out.ends (R.length - 1) (by omega)
    obtain ⟨b, o, rfl, hbl, hc⟩ := hlast
    have hc : w1.cell? ⟨b, o + (R.length - 1), none⟩ = some (.int .i64 (lastE R : Nat)) := hc
    have HT := Lib.hid H1.out.txts
    have HB := Lib.hid H1.out.below
    obtain ⟨M, hM⟩ : ∃ M, R.map (·.1) = M := ⟨_, rfl⟩
    obtain ⟨n, hn⟩ : ∃ n, R.length = n := ⟨_, rfl⟩
    obtain ⟨z, hz⟩ : ∃ z, lastE R = z := ⟨_, rfl⟩
    have HF := Lib.hid (And.intro hM (And.intro hn hz))
    rw [hM] at HT
    rw [hn] at HT hc h0 ⊢
    rw [hz] at hc
    clear hM hz H1 HN
    have e0 : ((n : Int) == 0) = false := by rw [beq_eq_false_iff_ne]; omega
    have e1 : ((n : Int) - 1).toNat = n - 1 := by omega
    have v1 : IntKind.i64.wrap ((n : Int) - 1) = (n : Int) - 1 := IntWalk.i64_in _ (by omega)
    clear hn hRl
    have g1 : (0 : Int) ≤ (n : Int) - 1 := by omega
    have g2 : (n : Int) - 1 < (n : Int) := by omega
    go_wp2_with fail
    go_quiet (fail)
    go_wp2_with fail
    go_ret2
    rw [HF.out.1, HF.out.2.1, HF.out.2.2]
    exact ⟨A, c, rfl, HT.out.later (below_drewN (Below.refl _ _) _), below_drewN HB.out _⟩
/-- One scalar, laid anew. -/
theorem txt_new (w : World) (x : Int) (t : TypeId) : Txt (w.alloc (.cells #[.int .i32 x] t)) (.slice (some ⟨w.heap.size, 0, none⟩) 1 1) [x] :=
  ⟨_, _, rfl, rd_new w _ t 1 _ fun j hj => (by obtain rfl : j = 0 := (by omega); rfl), (fun e => by cases e), Nat.le_refl _, by decide, fun _ _ _ => trivial⟩
theorem txts_new (w : World) (x : Int) (t t' : TypeId) : Txts ((w.alloc (.cells #[.int .i32 x] t)).alloc (.cells #[.slice (some ⟨w.heap.size, 0, none⟩) 1 1] t')) (.slice (some ⟨w.heap.size + 1, 0, none⟩) 1 1) [[x]] := by
  have h1 := (txt_new w x t).later (w' := (w.alloc (.cells #[.int .i32 x] t)).alloc (.cells #[.slice (some ⟨w.heap.size, 0, none⟩) 1 1] t')) ((Below.refl _ _).alloc (Nat.le_refl _) _)
  have hr := rd_new (w.alloc (.cells #[.int .i32 x] t)) #[.slice (some ⟨w.heap.size, 0, none⟩) 1 1] t' 1 (fun _ => .slice (some ⟨w.heap.size, 0, none⟩) 1 1) (fun j hj => (by obtain rfl : j = 0 := (by omega); rfl))
  rw [World.size_alloc] at hr
  refine ⟨fun _ => .slice (some ⟨w.heap.size, 0, none⟩) 1 1, ⟨_, _, rfl, hr, (fun e => by cases e), Nat.le_refl _, by decide, fun _ _ _ => trivial⟩, fun j hj => ?_⟩
  obtain rfl : j = 0 := by simp at hj; omega
  exact h1
theorem aw_app : appP ⟨#[]⟩ [97] = (⟨#[51, 97, 32, 97, 10]⟩, 0) := by
  have h : entI [97] = [51, 97, 32, 97, 10] := by decide +kernel
  unfold appP
  rw [h]
  rfl
theorem aw_read : rdL [] 0 (bts ⟨#[51, 97, 32, 97, 10]⟩) = [([97], 5)] := by decide +kernel
set_option maxRecDepth 100000 in
set_option maxHeartbeats 4000000 in
theorem awake_yes (w : World) (hM : MaxW w) : Calls Tryd.prog 13 #[] w (YesO w) := by
  have HM := Lib.hid hM
  have hA : Rd (w.alloc (.cells #[.int .i32 97] 21)) (some ⟨w.heap.size, 0, none⟩) 1 (iv fun _ => 97) := rd_new w _ _ 1 _ fun j hj => (by obtain rfl : j = 0 := (by omega); rfl)
  have hb0 : Below w.heap.size w (w.alloc (.cells #[.int .i32 97] 21)) := (Below.refl _ _).alloc (Nat.le_refl _) _
  have C1 := Lib.hid (append_any ⟨#[]⟩ (by decide) (some ⟨w.heap.size, 0, none⟩) 1 1 (fun _ => 97) _ (hM.later hb0) (by decide) hA (fun j hj => by omega))
  rw [show upTo (fun _ => 97) 1 = [97] from rfl, aw_app] at C1
  have H0 := Lib.hid hb0
  clear hM hA hb0
  go_enter Tryd.func13, Tryd.ntmps13
  go_wp2_with fail
  refine C1.out.mono ?_
  rintro e w1 ⟨rfl, b1⟩
  have H1 := Lib.hid (below_next H0.out b1)
  clear b1 C1
  have C2 := Lib.hid (Read_any ⟨#[51, 97, 32, 97, 10]⟩ (by decide) w1 (HM.out.later H1.out))
  rw [aw_read] at C2
  dsimp only
  go_wp2_with fail
  refine C2.out.mono ?_
  rintro e w2 ⟨A, c, rfl, h2, b2⟩
  have H2 := Lib.hid (And.intro h2 (below_next H1.out b2))
  clear h2 b2 C2
  have C3 := Lib.hid (sametexts_yes (.slice A 1 c) (.slice (some ⟨w2.heap.size + 1, 0, none⟩) 1 1) [[97]] ((w2.alloc (.cells #[.int .i32 97] 21)).alloc (.cells #[.slice (some ⟨w2.heap.size, 0, none⟩) 1 1] 22)) (H2.out.1.later (((Below.refl _ _).alloc (Nat.le_refl _) _).alloc (by simp) _)) (txts_new w2 97 21 22) (by decide))
  rw [show ([([97], 5)] : List (List Int × Nat)).length = 1 from rfl, show lastE [([97], 5)] = 5 from rfl]
  go_wp2_with fail
  refine C3.out.mono ?_
  rintro e w3 ⟨rfl, b3⟩
  have H3 := Lib.hid (show Below w.heap.size w w3 from (((H2.out.2.alloc H2.out.2.size _).alloc (by have := H2.out.2.size; simp; omega) _).trans (b3.mono (by have := H2.out.2.size; simp; omega))))
  clear b3 C3
  go_wp2_with fail
  go_ret
  exact ⟨rfl, H3.out⟩
end Go.Proofs.YtfnieoffgnnldaaDoor
