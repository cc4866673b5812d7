/- slices.* at []typebar/macro.Step,typebar/macro.Step. -/
import Derived.Test.YtgdfcojgifgjcaaLiC
import Derived.Handy
import Derived.Lib.AppendZerosOnto
namespace Go.Proofs.Ytgdfcojgifgjcaa
open Go.RowKit
set_option linter.unusedVariables false
set_option linter.unusedSimpArgs false

theorem stp_elt : Elt Try.prog 33 32 6 48 := elt_of Try.underlying33 (z := .agg #[.int .i64 0, .int .i32 0, .bool false, .slice none 0 0, .bool false, .int .i32 0]) (by kernel_rfl) rfl (by decide)
theorem stp_info : (Try.prog.info? 32).map (fun i => (i.zero, i.size, i.bytes)) = some (some (.agg #[.int .i64 0, .int .i32 0, .bool false, .slice none 0 0, .bool false, .int .i32 0]), 6, 48) := by kernel_rfl

set_option maxRecDepth 100000 in
set_option maxHeartbeats 1000000 in
theorem stp_clone {α : Type} {enc : α → List Value} (hk : ∀ x, (enc x).length = 6) (hk1 : ∀ x, ∀ u ∈ enc x, u.oneCell' = true) (A : Option Addr) (c : Nat) (L : List α) (w : World) (h : LiV 6 enc w (fun _ => True) (.slice A L.length c) L) (hl : L.length ≤ 100000000) : Calls Try.prog 34 #[.slice A L.length c] w (TellsO 32 6 enc L w) := by
  obtain ⟨_, hli, hnil, hcap, hmx⟩ := h.parts
  have HV := Lib.hid h
  clear h
  rcases A with _ | a
  · obtain ⟨h0, rfl⟩ := hnil rfl
    obtain rfl : L = [] := List.eq_nil_of_length_eq_zero h0
    have hq := Lib.run_eql_slice_nil (P := Try.prog) w 33 32 none 0 0 0 0 Try.underlying33
    go_enter Try.func34, Try.ntmps34
    go_wp2
    go_ret
    exact ⟨_, _, _, rfl, World.ownsRow_nil _ _ _ _, Below.refl _ _⟩
  · have hq := Lib.run_eql_slice_nil (P := Try.prog) w 33 32 (some a) L.length c 0 0 Try.underlying33
    simp only [Option.isNone] at hq
    have hown := own_newN w #[] 32 6 0 rfl (Nat.zero_le _)
    have HO := Lib.hid hown
    clear hnil hown hli
    go_enter Try.func34, Try.ntmps34
    go_wp2_with (at_builtin; refine wpList_li hk hk1 stp_elt HO.out (by simp [World.size_alloc]) rfl rfl rfl rfl (HV.out.later ((Below.refl _ _).alloc (Nat.le_refl _) _)) (by unfold maxLen; omega) (by omega) ?_; intro A3 c3 w3 hp; have HP := Lib.hid hp; clear hp)
    go_ret
    refine ⟨_, _, _, rfl, ?_, ?_⟩
    · have hx := HP.out.own
      rw [Nat.zero_add] at hx
      simpa using hx
    · exact ((Below.refl w.heap.size w).alloc (Nat.le_refl _) _).grown HP.out.grown (by simp [World.size_alloc]) (fun k hk => (HO.out.lt k hk).1)

end Go.Proofs.Ytgdfcojgifgjcaa
