/- wrap: WrapLays' walk. -/
import Derived.Test.YtmckoabhgjfiiaaWrG
import Derived.Test.YtmckoabhgjfiiaaWrM
namespace Go.Proofs.Ytmckoabhgjfiiaa
open Go.RowKit
set_option linter.unusedVariables false
set_option linter.unusedSimpArgs false

set_option maxHeartbeats 8000000 in
set_option maxRecDepth 100000 in
theorem walk_WrapLays (W : World) (A : Option Addr) (c : Nat) (L : List Gl) (hL : GlIn W A c L) (rows : Int) (g1 : (Lit.int .i64 rows).wf = true) (cols : Int) (g2 : (Lit.int .i64 cols).wf = true) (top : Int) (g3 : (Lit.int .i64 top).wf = true) :
    Calls Try.prog 4 #[.slice A L.length c, .int .i64 rows, .int .i64 cols, .int .i64 top] W (YesL W) := by
  have hmx := hL.mx
  have F1 := Lib.hid (few_any A c L W hL.li (by have := hL.le; unfold maxLen at hmx; omega))
  have h63 := (wf_i64 g2).2
  obtain ⟨M, hM⟩ : ∃ M, fewP L = M := ⟨_, rfl⟩
  have ht : Thin M := hM ▸ fewP_thin L
  have hl : M.length ≤ 100 := hM ▸ fewP_len L
  rw [hM] at F1
  have HT := Lib.hid ht
  clear hM hL hmx g1 g2 g3 ht
  by_cases htop : -1000 ≤ top ∧ top ≤ 1000
  · obtain ⟨t1, t2⟩ := htop
    have d1 : decide (top < -1000) = false := decide_eq_false (by omega)
    have d2 : decide (1000 < top) = false := decide_eq_false (by omega)
    have key : ∀ rs : Int, rs ≤ 40 → ∀ (w1 : World) (A1 A2 : Option Addr) (c1 c2 : Nat), Li 2 encG w1 (fun _ => True) A1 M → Li 2 encG w1 (fun _ => True) A2 M → M.length ≤ c1 → M.length ≤ c2 → Below W.heap.size W w1 →
        Calls Try.prog 12 #[.slice A1 M.length c1, .int .i64 rs, .int .i64 cols, .int .i64 top] w1 fun e w2 => ∃ v, e = .returned v ∧ Below W.heap.size W w2 ∧
          Calls Try.prog 13 #[.slice A2 M.length c2, .int .i64 rs, .int .i64 cols, .int .i64 top] w2 fun e w3 => ∃ u, e = .returned u ∧
            Calls Try.prog 11 #[v, u] w3 fun e w4 => e = .returned (.bool true) ∧ Below W.heap.size W w4 := by
      intro rs hrs w1 A1 A2 c1 c2 l1 l2 m1 m2 hb1
      by_cases hok : 1 ≤ rs ∧ rs ≤ 500 ∧ 2 ≤ cols ∧ cols ≤ 1000
      · obtain ⟨o1, o2, o3, o4⟩ := hok
        obtain ⟨R, rfl⟩ := Int.eq_ofNat_of_zero_le (show 0 ≤ rs by omega)
        obtain ⟨n, rfl⟩ := Int.eq_ofNat_of_zero_le (show 0 ≤ cols by omega)
        refine (lay_any A1 c1 M R n top w1 l1 HT.out (by omega) m1 (by omega) (by omega) (by omega) (by omega) t1 t2).mono ?_
        rintro e w2 ⟨lo, hi, g, cb, C, rfl, hp, hlo, hhi, hb2⟩
        refine ⟨_, rfl, belowS hb1 hb2, ?_⟩
        refine (rlay_any A2 c2 M R n top w2 (l2.later hb2) HT.out (by omega) (by omega) (by omega) (by omega) (by omega) t1 t2).mono ?_
        rintro e w3 ⟨lo', hi', ob, Co, rb, Cr, rfl, hr, hb3⟩
        refine ⟨_, rfl, ?_⟩
        rw [layF_end] at hp
        refine (lawsame_any (hp.later hb3) hr).mono ?_
        rintro e w4 ⟨rfl, hb4⟩
        exact ⟨rfl, belowS (belowS (belowS hb1 hb2) hb3) hb4⟩
      · refine (lay_no A1 M.length c1 rs cols top w1 hok).mono ?_
        rintro e w2 ⟨rfl, hb2⟩
        refine ⟨_, rfl, belowS hb1 hb2, ?_⟩
        refine (rlay_no A2 c2 M rs cols top w2 (l2.later hb2) HT.out (by omega) h63 hok).mono ?_
        rintro e w3 ⟨rfl, hb3⟩
        refine ⟨_, rfl, ?_⟩
        refine (lawsame_nil w3).mono ?_
        rintro e w4 ⟨rfl, rfl⟩
        exact ⟨rfl, belowS (belowS hb1 hb2) hb3⟩
    have HK := Lib.hid key
    clear key
    by_cases h40 : 40 < rows
    · have d3 : decide (40 < rows) = true := decide_eq_true h40
      go_enter Try.func4, Try.ntmps4
      go_wp2_with fail
      refine F1.out.mono ?_
      rintro e w1 ⟨A1, c1, A2, c2, rfl, hv1, hv2, hb1⟩
      obtain ⟨_, l1, _, m1, _⟩ := hv1.parts
      obtain ⟨_, l2, _, m2, _⟩ := hv2.parts
      have K1 := Lib.hid (HK.out 40 (by omega) w1 A1 A2 c1 c2 l1 l2 m1 m2 hb1)
      clear hv1 hv2 l1 l2 m1 m2 hb1 F1 HK
      go_wp2_with fail
      refine K1.out.mono ?_
      rintro e w2 ⟨v, rfl, hb2, hk2⟩
      have K2 := Lib.hid hk2
      clear hk2 K1 hb2
      go_wp2_with fail
      refine K2.out.mono ?_
      rintro e w3 ⟨u, rfl, hk3⟩
      have K3 := Lib.hid hk3
      clear hk3 K2
      go_wp2_with fail
      refine K3.out.mono ?_
      rintro e w4 ⟨rfl, hb4⟩
      have K4 := Lib.hid hb4
      clear hb4 K3
      go_wp2_with fail
      refine (awake_yes w4).mono ?_
      rintro e w5 ⟨rfl, hb5⟩
      have HY := Lib.hid (belowS K4.out hb5)
      clear hb5
      go_wp2_with fail
      go_ret
      exact ⟨rfl, HY.out⟩
    · have d3 : decide (40 < rows) = false := decide_eq_false h40
      go_enter Try.func4, Try.ntmps4
      go_wp2_with fail
      refine F1.out.mono ?_
      rintro e w1 ⟨A1, c1, A2, c2, rfl, hv1, hv2, hb1⟩
      obtain ⟨_, l1, _, m1, _⟩ := hv1.parts
      obtain ⟨_, l2, _, m2, _⟩ := hv2.parts
      have K1 := Lib.hid (HK.out rows (by omega) w1 A1 A2 c1 c2 l1 l2 m1 m2 hb1)
      clear hv1 hv2 l1 l2 m1 m2 hb1 F1 HK
      go_wp2_with fail
      refine K1.out.mono ?_
      rintro e w2 ⟨v, rfl, hb2, hk2⟩
      have K2 := Lib.hid hk2
      clear hk2 K1 hb2
      go_wp2_with fail
      refine K2.out.mono ?_
      rintro e w3 ⟨u, rfl, hk3⟩
      have K3 := Lib.hid hk3
      clear hk3 K2
      go_wp2_with fail
      refine K3.out.mono ?_
      rintro e w4 ⟨rfl, hb4⟩
      have K4 := Lib.hid hb4
      clear hb4 K3
      go_wp2_with fail
      refine (awake_yes w4).mono ?_
      rintro e w5 ⟨rfl, hb5⟩
      have HY := Lib.hid (belowS K4.out hb5)
      clear hb5
      go_wp2_with fail
      go_ret
      exact ⟨rfl, HY.out⟩
  · have htop' : top < -1000 ∨ (-1000 ≤ top ∧ 1000 < top) := by omega
    clear htop F1 HT
    rcases htop' with h | ⟨h, h'⟩
    all_goals
      go_enter Try.func4, Try.ntmps4
      go_wp2_with fail
      refine (awake_yes W).mono ?_
      rintro e w4 ⟨rfl, hb4⟩
      have HY := Lib.hid hb4
      clear hb4
      go_wp2_with fail
      go_ret
      exact ⟨rfl, HY.out⟩
end Go.Proofs.Ytmckoabhgjfiiaa
