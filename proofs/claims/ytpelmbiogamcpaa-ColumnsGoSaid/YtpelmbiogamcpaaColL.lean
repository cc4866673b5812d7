/- columns: the plan of so many rows. -/
import Derived.Test.YtpelmbiogamcpaaColK
namespace Go.Proofs.Ytpelmbiogamcpaa
open Go.RowKit
set_option linter.unusedVariables false
set_option linter.unusedSimpArgs false

/-- The plan's variables: the result, the plan that grows. -/
structure PlanVar (w : World) (r k : Nat) (W : Nat → Nat) (A : Option Addr) (c : Nat) (wr : World) : Prop where
  res : Blk wr w.heap.size #[.int .i64 0, .slice none 0 0]
  var : Blk wr (w.heap.size + 1) #[.int .i64 r, .slice A k c]
  own : wr.ownsRow (w.heap.size + 1 + 1) 3 1 (.slice A k c) k ((List.range k).map (nv W))
  below : Below w.heap.size w wr

theorem PlanVar.start (w : World) (r : Nat) (W : Nat → Nat) (s t : TypeId) : PlanVar w r 0 W none 0 ((w.alloc (.cells #[.int .i64 0, .slice none 0 0] s)).alloc (.cells #[.int .i64 r, .slice none 0 0] t)) := by
  refine ⟨(blk_new w _ s).alloc _, ?_, World.ownsRow_nil _ _ _ _, ((Below.refl _ _).alloc (Nat.le_refl _) _).alloc (by simp [World.size_alloc]) _⟩
  have h := blk_new (w.alloc (.cells #[.int .i64 0, .slice none 0 0] s)) #[.int .i64 r, .slice none 0 0] t
  rwa [World.size_alloc] at h

theorem PlanVar.push {w wr w3 : World} {r k : Nat} {W : Nat → Nat} {A A3 : Option Addr} {c c3 q : Nat} (h : PlanVar w r k W A c wr)
    (P : Pushed (wr.drewN q) w3 (w.heap.size + 1 + 1) 3 1 (.slice A k c) (k + 1) ((List.range k).map (nv W) ++ [nv W k]) A3 c3) :
    PlanVar w r (k + 1) W A3 c3 (w3.setCell ⟨w.heap.size + 1, 1, none⟩ (.slice A3 (k + 1) c3)) := by
  have hne : ∀ g, g < w.heap.size + 1 + 1 → some g ≠ (Value.slice A k c).ownBlock := fun g hg e => by have := (h.own.lt g e.symm).1; omega
  refine ⟨((h.res.drewN q).grown P.grown (hne _ (by omega))).far (by simp) _, ?_, ?_, ?_⟩
  · exact ((h.var.drewN q).grown P.grown (hne _ (by omega))).set_ 1 (by simp) _
  · rw [← map_push]
    exact ownsRow_setCell_below P.own (a := ⟨w.heap.size + 1, 1, none⟩) (Nat.lt_succ_self _) _
  · exact (P.below (below_drewN h.below q) (own_drewN h.own q) (by omega)).setCell (p := ⟨w.heap.size + 1, 1, none⟩) (by simp) _

theorem PlanVar.res3 {w wr w3 : World} {r k n : Nat} {W : Nat → Nat} {A A3 : Option Addr} {c c3 q : Nat} {xs : List Value} (h : PlanVar w r k W A c wr)
    (P : Pushed (wr.drewN q) w3 (w.heap.size + 1 + 1) 3 1 (.slice A k c) n xs A3 c3) : Blk w3 w.heap.size #[.int .i64 0, .slice none 0 0] :=
  (h.res.drewN q).grown P.grown fun e => by have := (h.own.lt _ e.symm).1; omega

theorem PlanVar.var3 {w wr w3 : World} {r k n : Nat} {W : Nat → Nat} {A A3 : Option Addr} {c c3 q : Nat} {xs : List Value} (h : PlanVar w r k W A c wr)
    (P : Pushed (wr.drewN q) w3 (w.heap.size + 1 + 1) 3 1 (.slice A k c) n xs A3 c3) : Blk w3 (w.heap.size + 1) #[.int .i64 r, .slice A k c] :=
  (h.var.drewN q).grown P.grown fun e => by have := (h.own.lt _ e.symm).1; omega

theorem PlanVar.drewN {w wr : World} {r k : Nat} {W : Nat → Nat} {A : Option Addr} {c : Nat} (h : PlanVar w r k W A c wr) (q : Nat) : PlanVar w r k W A c (wr.drewN q) :=
  ⟨h.res.drewN q, h.var.drewN q, own_drewN h.own q, below_drewN h.below q⟩

/-- What plan tells. -/
def TellsPlan (f : Nat → Nat) (n r : Nat) (cols : Int) (w : World) (e : Ending) (w' : World) : Prop :=
  Below w.heap.size w w' ∧ ((∃ A c, e = .returned (.tuple #[.agg #[.int .i64 r, .slice A (colsN n r) c], .bool true]) ∧ Rd w' A (colsN n r) (nv (colW f n r)) ∧ (∀ b o, A = some ⟨b, o, none⟩ → w.heap.size ≤ b) ∧ (totN (colW f n r) (colsN n r) : Int) ≤ cols) ∨
    (e = .returned (.tuple #[.agg #[.int .i64 0, .slice none 0 0], .bool false]) ∧ cols < (totN (colW f n r) (colsN n r) : Int)))

theorem colW_small {f : Nat → Nat} {n r i : Nat} (hf : ∀ j, j < n → f j ≤ 1023) (hi : i * r < n) : colW f n r i ≤ 1023 := mx_small hf (by omega)

theorem tot_mono {W : Nat → Nat} {k K : Nat} (h : k + 1 ≤ K) : 2 * (k + 1) + sumN W (k + 1) ≤ totN W K + 2 := by
  have := sumN_mono (f := W) h
  unfold totN
  omega

set_option maxHeartbeats 4000000 in
set_option maxRecDepth 100000 in
theorem plan_any (A : Option Addr) (Lv c n r : Nat) (cols : Int) (f : Nat → Nat) (w : World) (hT : TabAt w A Lv n f) (hL : Levels Lv n) (hr : 0 < r) (hrn : r ≤ n) (hn : n ≤ 60) (hf : ∀ j, j < n → f j ≤ 1023) :
    Calls Try.prog 17 #[.slice A Lv c, .int .i64 r, .int .i64 cols] w (TellsPlan f n r cols w) := by
  obtain ⟨K, hK⟩ : ∃ K, colsN n r = K := ⟨_, rfl⟩
  have hK1 : K ≤ n := hK ▸ cols_le hr
  have HK := Lib.hid (And.intro hK (fun i => hK ▸ lt_cols (n := n) (i := i) hr))
  have HT := Lib.hid (And.intro hT (And.intro hL hf))
  have HS := Lib.hid (fun k (hk : k ≤ K) => sumN_le (f := colW f n r) (n := K) (b := 1023) (fun j hj => colW_small hf ((HK.out.2 j).1 hj)) k hk)
  have hLv : 0 < Lv := (hL 0).2 (by simp; omega)
  clear hT hL hf hK
  go_enter Try.func17, Try.ntmps17
  go_wp2
  go_loopw [9, 10, 11] (fun t i _ wr => ∃ k x s : Nat, k ≤ K ∧ x ≤ 120 ∧ i = .int .i64 x ∧ t = .int .i64 ((s : Int) - 2) ∧ s ≤ 62000 ∧ Hid (x = k * r ∧ s = 2 * k + sumN (colW f n r) k ∧ (0 < k → (s : Int) - 2 ≤ cols)) ∧ Hid (∃ A1 c1, PlanVar w r k (colW f n r) A1 c1 wr)) (fun _ i _ _ => n + r - (intOf i).toNat)
  case atStart => exact ⟨0, 0, 0, Nat.zero_le _, Nat.zero_le _, rfl, rfl, Nat.zero_le _, ⟨(Nat.zero_mul _).symm, rfl, fun h => absurd h (by omega)⟩, none, 0, PlanVar.start w r _ _ _⟩
  case round =>
    obtain ⟨k, x, s, hk, hx, rfl, rfl, hs, HX, HV⟩ := hrel
    obtain ⟨A1, c1, V⟩ := HV.out
    have V1 := Lib.hid V
    obtain ⟨y0, k0, j0⟩ := (show _ from V.res)
    obtain ⟨y1, k1, j1⟩ := (show _ from V.var)
    obtain ⟨b, o, b2, o2, C, rfl, hc, _⟩ := TabAt.cells (k := 0) (p := 1) (HT.out.1.later V.below) ((HT.out.2.1 0).2 (by simp; omega)) rfl (by omega)
    rw [show n + 1 - 1 = n by omega, Nat.add_zero] at hc
    clear V HV
    by_cases hlt : x < n
    · have hkK : k < K := (HK.out.2 k).2 (HX.out.1 ▸ hlt)
      obtain ⟨m, hm⟩ : ∃ m, min r (n - x) = m := ⟨_, rfl⟩
      have hm1 : 0 < m ∧ m ≤ r ∧ x + m ≤ n ∧ (n < x + r → x + m = n) ∧ (¬ n < x + r → m = r) := by omega
      obtain ⟨y, hy⟩ : ∃ y, mx f x m = y := ⟨_, rfl⟩
      have hyw : y = colW f n r k := by rw [← hy]; unfold colW; rw [← HX.out.1, hm]
      have hyb : y ≤ 1023 := by rw [← hy]; exact mx_small HT.out.2.2 hm1.2.2.1
      have C1 := of_any (some ⟨b, o, none⟩) Lv c n x m f wr (HT.out.1.later V1.out.below) HT.out.2.1 hm1.1 hm1.2.2.1 hn HT.out.2.2
      rw [hy] at C1
      have HN := Lib.hid (show x + r = (k + 1) * r by rw [Nat.succ_mul, HX.out.1])
      have HSY := Lib.hid (show s + 2 + y = 2 * (k + 1) + sumN (colW f n r) (k + 1) by rw [HX.out.2.1, hyw, show sumN (colW f n r) (k + 1) = sumN (colW f n r) k + colW f n r k from rfl]; omega)
      have HYW := Lib.hid hyw
      have hA1 : k + 1 ≤ maxLen := by unfold maxLen; omega
      have hA2 : (k + 1) * 8 ≤ 140737488355328 := by omega
      clear hm hy hyw
      by_cases hnr : n < x + r
      · have dm : (n : Int) < (x : Int) + (r : Int) := by omega
        rw [hm1.2.2.2.1 hnr] at C1
        have C1 := Lib.hid C1
        go_wp2_with fail
        (with_reducible refine C1.out.mono ?_)
        rintro e w1 ⟨rfl, q, rfl⟩
        go_wp2_with (at_builtin; refine wpList_push colI_elt (own_drewN V1.out.own q) (Nat.succ_le_of_lt y1) rfl rfl rfl rfl (by simp) rfl rfl hA1 hA2 ?_; intro A3 c3 w3 hp; have HP := Lib.hid hp; clear hp; obtain ⟨z0, m0, n0⟩ := (show Blk _ _ _ from V1.out.res3 HP.out); obtain ⟨z1, m1, n1⟩ := (show Blk _ _ _ from V1.out.var3 HP.out))
        · rename_i hcc
          refine at_world (fun X => X.cell? ⟨w.heap.size, 0, none⟩ = some (.int .i64 0) ∧ X.cell? ⟨w.heap.size, 1, none⟩ = some (.slice none 0 0) ∧ Below w.heap.size w X) ?_ ?_
          · have V3 := PlanVar.push V1.out (by have h := HP.out; rw [HYW.out] at h; exact h)
            have B3 := (V3.res.set_ 0 (by simp) (.int .i64 0)).set_ 1 (by simp) (.slice none 0 0)
            exact ⟨B3.2.1 0, B3.2.1 1, (V3.below.setCell (p := ⟨w.heap.size, 0, none⟩) (Nat.le_refl _) _).setCell (p := ⟨w.heap.size, 1, none⟩) (Nat.le_refl _) _⟩
          rintro X ⟨x0, x1, hX⟩
          refine bodyPost_ret (v := .tuple #[.agg #[.int .i64 0, .slice none 0 0], .bool false]) (by simp [results, Try.results17, go_sem, x0, x1]) rfl ⟨hX, .inr ⟨rfl, ?_⟩⟩
          have h1 := tot_mono (W := colW f n r) (show k + 1 ≤ K by omega)
          have h2 := HSY.out
          rw [HK.out.1]
          omega
        · rename_i hcc
          have h3 := HS.out (k + 1) (by omega)
          have h2 := HSY.out
          refine ⟨⟨k + 1, x + r, s + 2 + y, by omega, by omega, by go_num, (by congr 1; omega), by omega, ⟨HN.out, HSY.out, fun _ => by omega⟩, A3, c3, PlanVar.push V1.out (by have h := HP.out; rw [HYW.out] at h; exact h)⟩, ?_⟩
          simp [intOf]
          omega
      · have dm : ¬ (n : Int) < (x : Int) + (r : Int) := by omega
        rw [hm1.2.2.2.2 hnr] at C1
        have C1 := Lib.hid (show Calls _ _ #[_, _, .int .i64 ((x : Int) + (r : Int))] _ _ from C1)
        go_wp2_with fail
        (with_reducible refine C1.out.mono ?_)
        rintro e w1 ⟨rfl, q, rfl⟩
        go_wp2_with (at_builtin; refine wpList_push colI_elt (own_drewN V1.out.own q) (Nat.succ_le_of_lt y1) rfl rfl rfl rfl (by simp) rfl rfl hA1 hA2 ?_; intro A3 c3 w3 hp; have HP := Lib.hid hp; clear hp; obtain ⟨z0, m0, n0⟩ := (show Blk _ _ _ from V1.out.res3 HP.out); obtain ⟨z1, m1, n1⟩ := (show Blk _ _ _ from V1.out.var3 HP.out))
        · rename_i hcc
          refine at_world (fun X => X.cell? ⟨w.heap.size, 0, none⟩ = some (.int .i64 0) ∧ X.cell? ⟨w.heap.size, 1, none⟩ = some (.slice none 0 0) ∧ Below w.heap.size w X) ?_ ?_
          · have V3 := PlanVar.push V1.out (by have h := HP.out; rw [HYW.out] at h; exact h)
            have B3 := (V3.res.set_ 0 (by simp) (.int .i64 0)).set_ 1 (by simp) (.slice none 0 0)
            exact ⟨B3.2.1 0, B3.2.1 1, (V3.below.setCell (p := ⟨w.heap.size, 0, none⟩) (Nat.le_refl _) _).setCell (p := ⟨w.heap.size, 1, none⟩) (Nat.le_refl _) _⟩
          rintro X ⟨x0, x1, hX⟩
          refine bodyPost_ret (v := .tuple #[.agg #[.int .i64 0, .slice none 0 0], .bool false]) (by simp [results, Try.results17, go_sem, x0, x1]) rfl ⟨hX, .inr ⟨rfl, ?_⟩⟩
          have h1 := tot_mono (W := colW f n r) (show k + 1 ≤ K by omega)
          have h2 := HSY.out
          rw [HK.out.1]
          omega
        · rename_i hcc
          have h3 := HS.out (k + 1) (by omega)
          have h2 := HSY.out
          refine ⟨⟨k + 1, x + r, s + 2 + y, by omega, by omega, by go_num, (by congr 1; omega), by omega, ⟨HN.out, HSY.out, fun _ => by omega⟩, A3, c3, PlanVar.push V1.out (by have h := HP.out; rw [HYW.out] at h; exact h)⟩, ?_⟩
          simp [intOf]
          omega
    · obtain rfl : k = K := by
        rcases Nat.lt_or_ge k K with h | h
        · have := (HK.out.2 k).1 h
          rw [← HX.out.1] at this
          omega
        · omega
      go_wp2
      refine at_world (fun X => X.cell? ⟨w.heap.size, 0, none⟩ = some (.int .i64 r) ∧ X.cell? ⟨w.heap.size, 1, none⟩ = some (.slice A1 k c1) ∧ Rd X A1 k (nv (colW f n r)) ∧ Below w.heap.size w X) ?_ ?_
      · have B3 := (V1.out.res.set_ 0 (by simp) (.int .i64 r)).set_ 1 (by simp) (.slice A1 k c1)
        have O3 := ownsRow_setCell_below (ownsRow_setCell_below V1.out.own (a := ⟨w.heap.size, 0, none⟩) (by simp only; omega) (.int .i64 r)) (a := ⟨w.heap.size, 1, none⟩) (by simp only; omega) (.slice A1 k c1)
        exact ⟨B3.2.1 0, B3.2.1 1, rd_own O3 (fun j hj => by simp [hj]), (V1.out.below.setCell (p := ⟨w.heap.size, 0, none⟩) (Nat.le_refl _) _).setCell (p := ⟨w.heap.size, 1, none⟩) (Nat.le_refl _) _⟩
      rintro X ⟨x0, x1, hR, hX⟩
      refine bodyPost_ret (v := .tuple #[.agg #[.int .i64 r, .slice A1 k c1], .bool true]) (by simp [results, Try.results17, go_sem, x0, x1]) rfl ⟨hX, .inl ⟨A1, c1, ?_, ?_, ?_, ?_⟩⟩
      · rw [HK.out.1]
      · rw [HK.out.1]; exact hR
      · intro b' o' e'
        subst e'
        have := (V1.out.own.lt b' rfl).1
        omega
      · rw [HK.out.1]
        have h2 := HX.out.2.1
        have h3 : 0 < k := (HK.out.2 0).2 (by omega)
        have h4 := HX.out.2.2 h3
        unfold totN
        omega
end Go.Proofs.Ytpelmbiogamcpaa
