/- keys: Same keys. -/
import Derived.Test.YtkkenabckhmkoaaKyT
namespace Go.Proofs.Ytkkenabckhmkoaa
open Go.RowKit
set_option linter.unusedVariables false
set_option linter.unusedSimpArgs false
set_option maxRecDepth 100000

theorem below_drawn {B : Nat} {w v : World} (h : Below B w v) (q : Nat) : Below B w (v.drewN q) := ⟨h.os, h.tape, h.output, h.size, h.block⟩
theorem KyW.key {X : World} {A : Option Addr} {n c : Nat} {ks : List Ky} (h : KyW X (.slice A n c) ks) {j : Nat} {y : Ky} (hj : ks[j]? = some y) : ∃ b o A1 c1, A = some ⟨b, o, none⟩ ∧ b < X.heap.size ∧ X.cell? ⟨b, o + j * 4, none⟩ = some (.int .i64 y.k) ∧ X.cell? ⟨b, o + j * 4 + 1, none⟩ = some (.int .i32 y.r) ∧ X.cell? ⟨b, o + j * 4 + 2, none⟩ = some (.bool y.m) ∧ X.cell? ⟨b, o + j * 4 + 3, none⟩ = some (.slice A1 y.t.length c1) ∧ Rd X A1 y.t.length (li y.t) := by
  obtain ⟨hs, h1, h2⟩ := h
  obtain ⟨A', c', e, hli, _⟩ := h1
  injection e with e1 e2 e3
  subst e1
  have hlt : j < hs.length := by rw [h2.1]; exact (List.getElem?_eq_some_iff.1 hj).1
  obtain ⟨x, hx⟩ : ∃ x, hs[j]? = some x := ⟨_, List.getElem?_eq_getElem hlt⟩
  obtain ⟨y', k1, k2, k3, k4, k5, k6⟩ := h2.2 j x hx
  obtain rfl : y = y' := Option.some.inj (hj.symm.trans k1)
  obtain ⟨b, o, e', hl, _, hc⟩ := hli j x hx
  refine ⟨b, o, x.A, x.c, e', hl, ?_, ?_, ?_, ?_, by rw [← k5]; exact k6⟩
  · rw [← k2]; exact hc 0 _ rfl
  · rw [← k3]; exact hc 1 _ rfl
  · rw [← k4]; exact hc 2 _ rfl
  · rw [← k5]; exact hc 3 _ rfl

set_option maxHeartbeats 4000000 in
theorem sameK_eq (u v : Value) (ks : List Ky) (w : World) (hu : KyW w u ks) (hv : KyW w v ks) (hk : ks.length ≤ 1000000) (ht : ∀ y ∈ ks, y.t.length ≤ 1000000) : Calls Try.prog 11 #[u, v] w fun e w' => e = .returned (.bool true) ∧ Below w.heap.size w w' := by
  obtain ⟨A, c, rfl, _, _⟩ := hu.is
  obtain ⟨B, c', rfl, _, _⟩ := hv.is
  have HU := Lib.hid (And.intro hu hv)
  have HT := Lib.hid ht
  obtain ⟨n, hn⟩ : ∃ n, ks.length = n := ⟨_, rfl⟩
  rw [hn] at HU hk ⊢
  have HN := Lib.hid hn
  clear hu hv hn ht
  go_enter Try.func11, Try.ntmps11
  go_wp2_with fail
  go_loopw [5] (fun i wr => ∃ k : Nat, k ≤ n ∧ i = .int .i64 (k : Nat) ∧ Hid (Below w.heap.size w wr)) (fun i _ => n - (intOf i).toNat)
  case atStart => exact ⟨0, Nat.zero_le _, rfl, Below.refl _ _⟩
  case round =>
    obtain ⟨k, hk, rfl, HG⟩ := hrel
    by_cases hlt : k < n
    · obtain ⟨y, hy⟩ : ∃ y, ks[k]? = some y := ⟨_, List.getElem?_eq_getElem (by rw [HN.out]; exact hlt)⟩
      have hyt := HT.out y (List.mem_of_getElem? hy)
      obtain ⟨b, o, A1, c1, rfl, hbl, a0, a1, a2, a3, ar⟩ := HU.out.1.key hy
      obtain ⟨b', o', A2, c2, rfl, hbl', d0, d1, d2, d3, dr⟩ := HU.out.2.key hy
      obtain ⟨yk, yr, ym, yt⟩ := y
      dsimp only at hyt a0 a1 a2 a3 ar d0 d1 d2 d3 dr
      obtain ⟨n1, hn1⟩ : ∃ n, yt.length = n := ⟨_, rfl⟩
      rw [hn1] at hyt a3 ar d3 dr
      have HS := Lib.hid (show ∀ Z, Below w.heap.size w Z → (fun X => X.cell? ⟨b, o + k * 4, none⟩ = some (.int .i64 yk) ∧ X.cell? ⟨b, o + k * 4 + 1, none⟩ = some (.int .i32 yr) ∧ X.cell? ⟨b, o + k * 4 + 2, none⟩ = some (.bool ym) ∧ X.cell? ⟨b, o + k * 4 + 3, none⟩ = some (.slice A1 n1 c1) ∧ X.cell? ⟨b', o' + k * 4, none⟩ = some (.int .i64 yk) ∧ X.cell? ⟨b', o' + k * 4 + 1, none⟩ = some (.int .i32 yr) ∧ X.cell? ⟨b', o' + k * 4 + 2, none⟩ = some (.bool ym) ∧ X.cell? ⟨b', o' + k * 4 + 3, none⟩ = some (.slice A2 n1 c2)) Z from fun Z hZ => ⟨(hZ.cell (p := ⟨b, o + k * 4, none⟩) hbl).trans a0, (hZ.cell (p := ⟨b, o + k * 4 + 1, none⟩) hbl).trans a1, (hZ.cell (p := ⟨b, o + k * 4 + 2, none⟩) hbl).trans a2, (hZ.cell (p := ⟨b, o + k * 4 + 3, none⟩) hbl).trans a3, (hZ.cell (p := ⟨b', o' + k * 4, none⟩) hbl').trans d0, (hZ.cell (p := ⟨b', o' + k * 4 + 1, none⟩) hbl').trans d1, (hZ.cell (p := ⟨b', o' + k * 4 + 2, none⟩) hbl').trans d2, (hZ.cell (p := ⟨b', o' + k * 4 + 3, none⟩) hbl').trans d3⟩)
      have CT := Lib.hid (fun Z (hZ : Below w.heap.size w Z) => sameT_eq A1 A2 n1 c1 c2 yt Z (ar.later hZ) (dr.later hZ) hn1.symm hyt)
      have g1 : (k : Int) < (n : Int) := by omega
      have g2 : (0 : Int) ≤ (k : Int) := by omega
      have hV := HG.out
      have hD := HG.out.drew
      clear a0 a1 a2 a3 ar d0 d1 d2 d3 dr hn1 hyt hy hbl hbl'
      go_wp2_with fail
      go_region_held3 (fun X => X.cell? ⟨b, o + k * 4, none⟩ = some (.int .i64 yk) ∧ X.cell? ⟨b, o + k * 4 + 1, none⟩ = some (.int .i32 yr) ∧ X.cell? ⟨b, o + k * 4 + 2, none⟩ = some (.bool ym) ∧ X.cell? ⟨b, o + k * 4 + 3, none⟩ = some (.slice A1 n1 c1) ∧ X.cell? ⟨b', o' + k * 4, none⟩ = some (.int .i64 yk) ∧ X.cell? ⟨b', o' + k * 4 + 1, none⟩ = some (.int .i32 yr) ∧ X.cell? ⟨b', o' + k * 4 + 2, none⟩ = some (.bool ym) ∧ X.cell? ⟨b', o' + k * 4 + 3, none⟩ = some (.slice A2 n1 c2))
        (first | exact HS.out _ (by assumption) | go_keep)
        (first | (go_at_call 33; refine (CT.out _ (by first | assumption | exact HG.out | exact HG.out.drew)).mono ?_; rintro e w3 ⟨rfl, q3, hq3⟩; have hB3 : Below w.heap.size w w3 := (by rw [hq3]; first | exact below_drawn HG.out.drew _ | exact below_drawn HG.out _); clear hq3))
      all_goals
        have HB3 := Lib.hid hB3
        clear hV hD hB3
        go_wp2_with fail
        go_roundw
        case rel => exact ⟨k + 1, by omega, by go_num, HB3.out⟩
        case measure => simp [intOf]; omega
    · obtain rfl : k = n := by omega
      go_wp2_with fail
      go_ret
      exact ⟨rfl, HG.out⟩
end Go.Proofs.Ytkkenabckhmkoaa
