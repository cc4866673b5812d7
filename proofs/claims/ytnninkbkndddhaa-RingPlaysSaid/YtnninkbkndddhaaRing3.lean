/- ring: Top, Turn. -/
import Derived.Test.YtnninkbkndddhaaRing2
import Derived.RegionTactic
import Derived.BigRegion
namespace Go.Proofs.Ytnninkbkndddhaa
open Go.RowKit
set_option linter.unusedVariables false
set_option linter.unusedSimpArgs false

/-- A text, and that there is one. -/
def TellsTop (l : List Int) (ok : Bool) (w : World) (e : Ending) (w' : World) : Prop := ∃ A n c, e = .returned (.tuple #[.slice A n c, .bool ok]) ∧ Txt w' (.slice A n c) l ∧ Below w.heap.size w w'

set_option maxHeartbeats 1000000 in
theorem top_none (u : Value) (k : Int) (w : World) (hL : Txts w u []) : Calls Try.prog 12 #[.agg #[u, .int .i64 k]] w (TellsTop [] false w) := by
  obtain ⟨A, c, rfl, hc, hc2⟩ := hL.is
  clear hL
  go_enter Try.func12, Try.ntmps12
  go_wp2
  go_ret2
  exact ⟨_, _, _, rfl, Sl.nil _ _ _, (Below.refl _ _).alloc (Nat.le_refl _) _⟩

set_option maxHeartbeats 1000000 in
theorem top_some (u : Value) (k : Nat) (L : List (List Int)) (w : World) (hL : Txts w u L) (hk : k < L.length) (hl : (L.getD k []).length ≤ 1000000) : Calls Try.prog 12 #[.agg #[u, .int .i64 k]] w (TellsTop (L.getD k []) true w) := by
  obtain ⟨A, c, rfl, hc, hc2⟩ := hL.is
  obtain ⟨b, o, Aj, nj, cj, rfl, hbl, hcell, ht⟩ := hL.at_ hk
  have h0 : ((L.length : Int) == 0) = false := beq_eq_false_iff_ne.2 (by omega)
  have HT := Lib.hid ht
  clear hL ht
  go_enter Try.func12, Try.ntmps12
  go_wp2_with (go_at_call 17; refine (clone_any _ _ _ (HT.out.later ((Below.refl _ _).alloc (Nat.le_refl _) _)) (by omega)).mono ?_; rintro e w1 ⟨A1, n1, c1, rfl, ht1, hb1⟩)
  go_ret2
  exact ⟨_, _, _, rfl, ht1.any, ((Below.refl w.heap.size w).alloc (Nat.le_refl _) _).trans (hb1.mono (by simp [World.size_alloc]))⟩

set_option maxHeartbeats 1000000 in
theorem turn_none (u : Value) (k : Nat) (w : World) (S : Nat → Prop) (hL : TxtsS w S u []) : Calls Try.prog 13 #[.agg #[u, .int .i64 k]] w (TellsR [] k S w) := by
  obtain ⟨A, c, rfl, hc, hc2⟩ := hL.is
  have HL := Lib.hid hL
  clear hL
  go_enter Try.func13, Try.ntmps13
  go_wp2
  refine at_world (Stored w S (w.heap.size + 1) (.slice A 0 c) (.int .i64 k) []) ?_ ?_
  · exact stored_new _ _ _ _ _ _ _ HL.out
  rintro X ⟨x0, x1, hts, hX⟩
  refine bodyPost_ret (v := .agg #[.slice A 0 c, .int .i64 k]) (by simp [results, Try.results13, go_sem, x0, x1]) rfl ⟨_, _, _, rfl, hts, hX⟩

set_option maxHeartbeats 1000000 in
theorem turn_some (u : Value) (k : Nat) (L : List (List Int)) (w : World) (S : Nat → Prop) (hL : TxtsS w S u L) (hn : 0 < L.length) (hn2 : L.length ≤ 1000) (hk : k < L.length) : Calls Try.prog 13 #[.agg #[u, .int .i64 k]] w (TellsR L ((k + 1) % L.length) S w) := by
  obtain ⟨A, c, rfl, hc, hc2⟩ := hL.is
  have h0 : ((L.length : Int) == 0) = false := beq_eq_false_iff_ne.2 (by omega)
  have HL := Lib.hid hL
  have hm : Int.tmod ((k : Int) + 1) (L.length : Int) = (((k + 1) % L.length : Nat) : Int) := by
    rw [Int.tmod_eq_emod_of_nonneg (by omega), Int.natCast_emod, Int.natCast_add]; rfl
  clear hL
  go_enter Try.func13, Try.ntmps13
  go_wp2
  go_region
  go_wp2
  refine at_world (Stored w S (w.heap.size + 1) (.slice A L.length c) (.int .i64 ((k + 1) % L.length : Int)) L) ?_ ?_
  · exact (stored_new _ _ _ _ _ _ _ HL.out).drew
  rintro X ⟨x0, x1, hts, hX⟩
  refine bodyPost_ret (v := .agg #[.slice A L.length c, .int .i64 ((k + 1) % L.length : Int)]) (by simp [results, Try.results13, go_sem, x0, x1]) rfl ⟨_, _, _, by rw [Int.natCast_emod, Int.natCast_add]; rfl, hts, hX⟩

/-! ### Join -/
def joinL (L : List (List Int)) (l : List Int) (ahead : Bool) : List (List Int) :=
  match L with
  | [] => [l]
  | t :: L => (if ahead then l ++ t else t ++ l) :: L

set_option maxHeartbeats 1000000 in
theorem join_none (u v : Value) (l : List Int) (k : Int) (ahead : Bool) (S : Nat → Prop) (w : World) (hL : TxtsS w S u []) (hl : Txt w v l) (hm : l.length ≤ 1000000) :
    Calls Try.prog 18 #[.agg #[u, .int .i64 k], v, .bool ahead] w (TellsR [l] 0 S w) := by
  have HV := Lib.hid (And.intro hL.old hl)
  obtain ⟨A, c, rfl, hc, hc2⟩ := hL.is
  clear hL hl
  go_enter Try.func18, Try.ntmps18
  go_wp2_with fail
  refine (add_any _ v [] l k _ _ (HV.out.1.later (below_two w _ _)) (by simp) (HV.out.2.later (below_two w _ _)) hm).mono ?_
  rintro e w1 ⟨A1, n1, c1, rfl, ht1, hb1⟩
  obtain ⟨⟨z0, z1⟩, B0, B1, hbw⟩ := two_later hb1
  have ht2 : TxtsS w1 (Out2 w S) (.slice A1 n1 c1) [l] := ht1.mono fun b hb => by
    rcases hb with hb | hb
    · exact .inr (by simpa [World.size_alloc] using hb)
    · exact .inl hb
  have H := Lib.hid (And.intro ht2 hbw)
  have HB := Lib.hid B1
  obtain ⟨_, k1, j1⟩ := (show _ from B1)
  clear ht1 hb1 B0 B1 hbw ht2
  go_wp2
  refine at_world (Stored w S (w.heap.size + 1) (.slice A1 n1 c1) (.int .i64 0) [l]) ?_ ?_
  · exact stored_of HB.out H.out.2 H.out.1
  rintro X ⟨x0, x1, hts, hX⟩
  refine bodyPost_ret (v := .agg #[.slice A1 n1 c1, .int .i64 0]) (by simp [results, Try.results18, go_sem, x0, x1]) rfl ⟨_, _, _, rfl, hts, hX⟩
end Go.Proofs.Ytnninkbkndddhaa
