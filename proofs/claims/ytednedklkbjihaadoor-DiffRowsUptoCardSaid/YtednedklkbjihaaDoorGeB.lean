/- grid: a grid in memory; Size, row, At. -/
import Derived.Test.YtednedklkbjihaaDoorGeP

import Derived.Test.YtednedklkbjihaaDoorCat

namespace Go.Proofs.YtednedklkbjihaaDoor

open Go.RowKit

set_option linter.unusedVariables false

set_option linter.unusedSimpArgs false
set_option maxRecDepth 100000

abbrev ptr (g : Nat) : Value := .pointer (some ⟨g, 0, none⟩)

/-- A grid of R rows, n columns each, whose cells are F's, in blocks from lo on and below hi. -/
structure PG (w : World) (lo hi g cb C R n : Nat) (F : Nat → Nat → Cl) : Prop where
  blk : Blk w g #[.int .i64 R, .int .i64 n, .slice (some ⟨cb, 0, none⟩) (R * n) C]
  cells : ∃ cs, Blk w cb cs ∧ R * n * 2 ≤ cs.size ∧ ∀ r, r < R → Is cs (r * n * 2) n (F r)
  wf : ∀ r, r < R → WF n (F r)
  g1 : lo ≤ g
  g2 : g < hi
  c1 : lo ≤ cb
  c2 : cb < hi
  ne : g ≠ cb
  r1 : 1 ≤ R
  r2 : R ≤ 500
  n1 : 2 ≤ n
  n2 : n ≤ 1000
  cap : R * n ≤ C
  cap2 : C ≤ 9223372036854775807

def Iv (lo hi k : Nat) : Prop := lo ≤ k ∧ k < hi

theorem PG.chg {S : Nat → Prop} {w v : World} {lo hi g cb C R n : Nat} {F : Nat → Nat → Cl} (h : PG w lo hi g cb C R n F) (k : Chg S w v) (hS : ∀ j, lo ≤ j → j < hi → ¬ S j) : PG v lo hi g cb C R n F := by
  obtain ⟨cs, hc, hx⟩ := h.cells
  exact ⟨h.blk.chg k (hS g h.g1 h.g2), ⟨cs, hc.chg k (hS cb h.c1 h.c2), hx⟩, h.wf, h.g1, h.g2, h.c1, h.c2, h.ne, h.r1, h.r2, h.n1, h.n2, h.cap, h.cap2⟩
theorem PG.later {w v : World} {lo hi g cb C R n : Nat} {F : Nat → Nat → Cl} (h : PG w lo hi g cb C R n F) (k : Below w.heap.size w v) : PG v lo hi g cb C R n F := h.chg (chg_below k) fun _ _ _ => id
theorem PG.drewN {w : World} {lo hi g cb C R n : Nat} {F : Nat → Nat → Cl} (h : PG w lo hi g cb C R n F) (q : Nat) : PG (w.drewN q) lo hi g cb C R n F := ⟨h.blk, h.cells, h.wf, h.g1, h.g2, h.c1, h.c2, h.ne, h.r1, h.r2, h.n1, h.n2, h.cap, h.cap2⟩

set_option maxHeartbeats 1000000 in
theorem size_any {w : World} {lo hi g cb C R n : Nat} {F : Nat → Nat → Cl} (h : PG w lo hi g cb C R n F) :
    Calls Tryd.prog 30 #[ptr g] w fun e w' => e = .returned (.tuple #[.int .i64 R, .int .i64 n]) ∧ ∃ q, w' = w.drewN q := by
  have k0 := h.blk.2.1 0
  have k1 := h.blk.2.1 1
  simp at k0 k1
  clear h
  go_enter Tryd.func30, Tryd.ntmps30
  go_wp2
  go_quiet (fail)
  go_wp2
  go_ret2
  exact ⟨rfl, _, rfl⟩

theorem size_nil (w : World) : Calls Tryd.prog 30 #[.pointer none] w fun e w' => e = .returned (.tuple #[.int .i64 0, .int .i64 0]) ∧ w = w' := by
  go_enter Tryd.func30, Tryd.ntmps30
  go_wp2
  go_ret2
  exact ⟨rfl, rfl⟩

theorem row_nil (r : Int) (w : World) : Calls Tryd.prog 48 #[.pointer none, .int .i64 r] w fun e w' => e = .returned (.slice none 0 0) ∧ w = w' := by
  go_enter Tryd.func48, Tryd.ntmps48
  go_wp2
  go_ret
  exact ⟨rfl, rfl⟩

theorem row_out {w : World} {lo hi g cb C R n : Nat} {F : Nat → Nat → Cl} (h : PG w lo hi g cb C R n F) {r : Int} (hr : ¬ (0 ≤ r ∧ r < R)) :
    Calls Tryd.prog 48 #[ptr g, .int .i64 r] w fun e w' => e = .returned (.slice none 0 0) ∧ w = w' := by
  have k0 := h.blk.2.1 0
  simp at k0
  have h2 := h.r2
  clear h
  by_cases h0 : r < 0
  · go_enter Tryd.func48, Tryd.ntmps48
    go_wp2
    go_ret
    exact ⟨rfl, rfl⟩
  · have hd : (R : Int) ≤ r := by omega
    clear hr
    go_enter Tryd.func48, Tryd.ntmps48
    go_wp2
    go_ret
    exact ⟨rfl, rfl⟩

set_option maxHeartbeats 1000000 in
theorem row_in {w : World} {lo hi g cb C R n : Nat} {F : Nat → Nat → Cl} (h : PG w lo hi g cb C R n F) {r : Nat} (hr : r < R) :
    Calls Tryd.prog 48 #[ptr g, .int .i64 r] w fun e w' => e = .returned (.slice (some ⟨cb, r * n * 2, none⟩) n (C - r * n)) ∧ ∃ q, w' = w.drewN q := by
  obtain ⟨N, hN⟩ : ∃ N, R * n = N := ⟨_, rfl⟩
  obtain ⟨P, hP⟩ : ∃ P, r * n = P := ⟨_, rfl⟩
  obtain ⟨Q, hQ⟩ : ∃ Q, (r + 1) * n = Q := ⟨_, rfl⟩
  have k0 := h.blk.2.1 0
  have k1 := h.blk.2.1 1
  have k2 := h.blk.2.1 2
  simp at k0 k1 k2
  rw [hN] at k2
  have hcap := h.cap
  have hcap2 := h.cap2
  rw [hN] at hcap
  have q1 : P + n = Q := by rw [← hP, ← hQ, Nat.succ_mul]
  have q2 : Q ≤ N := by rw [← hQ, ← hN]; exact Nat.mul_le_mul_right n hr
  have q3 : N ≤ 500000 := by rw [← hN]; exact Nat.mul_le_mul h.r2 h.n2
  have q4 : P < N := by have := h.n1; omega
  have e1 : (r : Int) * (n : Int) = (P : Int) := by rw [← hP]; simp
  have e2 : ((r : Int) + 1) * (n : Int) = (Q : Int) := by rw [← hQ]; simp
  have e3 : IntKind.i64.wrap (P : Int) = P := IntWalk.i64_in _ (by omega)
  have e4 : IntKind.i64.wrap (Q : Int) = Q := IntWalk.i64_in _ (by omega)
  have e5 : IntKind.i64.wrap ((r : Int) + 1) = (r : Int) + 1 := IntWalk.i64_in _ (by have := h.r2; omega)
  have e6 : (P : Int) ≤ Q := by omega
  have e7 : (Q : Int) ≤ C := by omega
  have e8 : (0 : Int) ≤ P := by omega
  have e9 : P < C := by omega
  have hr' : (r : Int) < (R : Int) := by omega
  have HQ := Lib.hid (And.intro q1 hP)
  have hr2 := h.r2
  clear h hN hP hQ q1
  go_enter Tryd.func48, Tryd.ntmps48
  go_wp2
  go_quiet (fail)
  go_wp2
  go_ret
  refine ⟨?_, _, rfl⟩
  show Ending.returned (.slice (some ⟨cb, P * 2, none⟩) (Q - P) (C - P)) = _
  rw [show Q - P = n by have := HQ.out.1; omega, HQ.out.2]

/-- What a call tells that lays its result. -/
def Tell2 (v : Cl) (w : World) (e : Ending) (w' : World) : Prop := e = .returned (.agg #[.string v.1, .int .i64 v.2]) ∧ Below w.heap.size w w'

theorem PG.at_ {w : World} {lo hi g cb C R n : Nat} {F : Nat → Nat → Cl} (h : PG w lo hi g cb C R n F) {r c : Nat} (hr : r < R) (hc : c < n) :
    w.cell? ⟨cb, r * n * 2 + c * 2, none⟩ = some (.string (F r c).1) ∧ w.cell? ⟨cb, r * n * 2 + c * 2 + 1, none⟩ = some (.int .i64 (F r c).2) := by
  obtain ⟨cs, hb, _, hi⟩ := h.cells
  exact ⟨(hb.2.1 _).trans (hi r hr c hc).1, (hb.2.1 _).trans (hi r hr c hc).2⟩

theorem PG.alloc {w : World} {lo hi g cb C R n : Nat} {F : Nat → Nat → Cl} (h : PG w lo hi g cb C R n F) (o : Obj) : PG (w.alloc o) lo hi g cb C R n F := h.later ((Below.refl _ _).alloc (Nat.le_refl _) _)

theorem below_drewN {B : Nat} {w v : World} (h : Below B w v) (q : Nat) : Below B w (v.drewN q) := ⟨h.os, h.tape, h.output, h.size, h.block⟩

set_option maxHeartbeats 1000000 in
theorem at_in {w : World} {lo hi g cb C R n : Nat} {F : Nat → Nat → Cl} (h : PG w lo hi g cb C R n F) {r c : Nat} (hr : r < R) (hc : c < n) :
    Calls Tryd.prog 52 #[ptr g, .int .i64 r, .int .i64 c] w (Tell2 (F r c) w) := by
  have H := Lib.hid h
  have b2 := h.n2
  have b3 := h.g2
  have HR := Lib.hid (fun X (hX : PG X lo hi g cb C R n F) => row_in hX hr)
  have HA := Lib.hid (fun X (hX : PG X lo hi g cb C R n F) => hX.at_ hr hc)
  obtain ⟨v, hv⟩ : ∃ v, F r c = v := ⟨_, rfl⟩
  obtain ⟨O, hO⟩ : ∃ O, r * n * 2 = O := ⟨_, rfl⟩
  obtain ⟨K, hK⟩ : ∃ K, C - r * n = K := ⟨_, rfl⟩
  rw [hO, hK] at HR
  rw [hO, hv] at HA
  rw [hv]
  clear h hv hO hK
  go_enter Tryd.func52, Tryd.ntmps52
  go_wp2_with fail
  refine at_calls (fun X => PG X lo hi g cb C R n F ∧ Below w.heap.size w X ∧ Blk X w.heap.size #[.string ⟨#[]⟩, .int .i64 0]) ⟨H.out.alloc _, (Below.refl _ _).alloc (Nat.le_refl _) _, blk_new _ _ _⟩ ?_
  rintro X ⟨HP, hb, B⟩
  refine (HR.out X HP).mono ?_
  rintro e w1 ⟨rfl, q, rfl⟩
  obtain ⟨l1, l2⟩ := HA.out _ (HP.drewN q)
  have HB := Lib.hid (B.drewN q)
  have HT := Lib.hid (HB.out.two (p := 0) (by simp) (.string v.1))
  obtain ⟨s1, s2, q1, q2, q3, q4⟩ := HT.out
  have Hb := Lib.hid (below_drewN hb q)
  clear HP hb B
  go_wp2_with fail
  refine at_world (fun Y => Y.cell? ⟨w.heap.size, 0, none⟩ = some (.string v.1) ∧ Y.cell? ⟨w.heap.size, 1, none⟩ = some (.int .i64 v.2) ∧ Below w.heap.size w Y) ?_ ?_
  · have B3 := HB.out.put2 (p := 0) (by simp) v
    exact ⟨B3.2.1 0, B3.2.1 1, (Hb.out.setCell (p := ⟨w.heap.size, 0, none⟩) (Nat.le_refl _) _).setCell (p := ⟨w.heap.size, 1, none⟩) (Nat.le_refl _) _⟩
  rintro Y ⟨x0, x1, hY⟩
  exact bodyPost_ret (v := .agg #[.string v.1, .int .i64 v.2]) (by simp [results, Tryd.results52, go_sem, x0, x1]) rfl ⟨rfl, hY⟩

set_option maxHeartbeats 1000000 in
theorem at_col {w : World} {lo hi g cb C R n : Nat} {F : Nat → Nat → Cl} (h : PG w lo hi g cb C R n F) {r : Nat} {c : Int} (hr : r < R) (hc : ¬ (0 ≤ c ∧ c < n)) :
    Calls Tryd.prog 52 #[ptr g, .int .i64 r, .int .i64 c] w (Tell2 nought w) := by
  have H := Lib.hid h
  have b2 := h.n2
  have b3 := h.g2
  have HR := Lib.hid (fun X (hX : PG X lo hi g cb C R n F) => row_in hX hr)
  obtain ⟨O, hO⟩ : ∃ O, r * n * 2 = O := ⟨_, rfl⟩
  obtain ⟨K, hK⟩ : ∃ K, C - r * n = K := ⟨_, rfl⟩
  rw [hO, hK] at HR
  clear h hO hK
  by_cases h0 : c < 0
  · skip
    go_enter Tryd.func52, Tryd.ntmps52
    go_wp2_with fail
    refine at_calls (fun X => PG X lo hi g cb C R n F ∧ Below w.heap.size w X ∧ Blk X w.heap.size #[.string ⟨#[]⟩, .int .i64 0]) ⟨H.out.alloc _, (Below.refl _ _).alloc (Nat.le_refl _) _, blk_new _ _ _⟩ ?_
    rintro X ⟨HP, hb, B⟩
    refine (HR.out X HP).mono ?_
    rintro e w1 ⟨rfl, q, rfl⟩
    have HB := Lib.hid (B.drewN q)
    have HT := Lib.hid (HB.out.two (p := 0) (by simp) (.string nought.1))
    obtain ⟨s1, s2, q1, q2, q3, q4⟩ := HT.out
    simp only [nought] at q3 q4
    have Hb := Lib.hid (below_drewN hb q)
    clear HP hb B
    go_wp2_with fail
    refine at_world (fun Y => Y.cell? ⟨w.heap.size, 0, none⟩ = some (.string nought.1) ∧ Y.cell? ⟨w.heap.size, 1, none⟩ = some (.int .i64 nought.2) ∧ Below w.heap.size w Y) ?_ ?_
    · have B3 := HB.out.put2 (p := 0) (by simp) nought
      exact ⟨B3.2.1 0, B3.2.1 1, (Hb.out.setCell (p := ⟨w.heap.size, 0, none⟩) (Nat.le_refl _) _).setCell (p := ⟨w.heap.size, 1, none⟩) (Nat.le_refl _) _⟩
    rintro Y ⟨x0, x1, hY⟩
    exact bodyPost_ret (v := .agg #[.string nought.1, .int .i64 nought.2]) (by simp [results, Tryd.results52, go_sem, x0, x1]) rfl ⟨rfl, hY⟩
  · have h1 : (n : Int) ≤ c := by omega
    go_enter Tryd.func52, Tryd.ntmps52
    go_wp2_with fail
    refine at_calls (fun X => PG X lo hi g cb C R n F ∧ Below w.heap.size w X ∧ Blk X w.heap.size #[.string ⟨#[]⟩, .int .i64 0]) ⟨H.out.alloc _, (Below.refl _ _).alloc (Nat.le_refl _) _, blk_new _ _ _⟩ ?_
    rintro X ⟨HP, hb, B⟩
    refine (HR.out X HP).mono ?_
    rintro e w1 ⟨rfl, q, rfl⟩
    have HB := Lib.hid (B.drewN q)
    have HT := Lib.hid (HB.out.two (p := 0) (by simp) (.string nought.1))
    obtain ⟨s1, s2, q1, q2, q3, q4⟩ := HT.out
    simp only [nought] at q3 q4
    have Hb := Lib.hid (below_drewN hb q)
    clear HP hb B
    go_wp2_with fail
    refine at_world (fun Y => Y.cell? ⟨w.heap.size, 0, none⟩ = some (.string nought.1) ∧ Y.cell? ⟨w.heap.size, 1, none⟩ = some (.int .i64 nought.2) ∧ Below w.heap.size w Y) ?_ ?_
    · have B3 := HB.out.put2 (p := 0) (by simp) nought
      exact ⟨B3.2.1 0, B3.2.1 1, (Hb.out.setCell (p := ⟨w.heap.size, 0, none⟩) (Nat.le_refl _) _).setCell (p := ⟨w.heap.size, 1, none⟩) (Nat.le_refl _) _⟩
    rintro Y ⟨x0, x1, hY⟩
    exact bodyPost_ret (v := .agg #[.string nought.1, .int .i64 nought.2]) (by simp [results, Tryd.results52, go_sem, x0, x1]) rfl ⟨rfl, hY⟩

set_option maxHeartbeats 1000000 in
theorem at_row {w : World} {lo hi g cb C R n : Nat} {F : Nat → Nat → Cl} (h : PG w lo hi g cb C R n F) {r c : Int} (hr : ¬ (0 ≤ r ∧ r < R)) :
    Calls Tryd.prog 52 #[ptr g, .int .i64 r, .int .i64 c] w (Tell2 nought w) := by
  have H := Lib.hid h
  have b2 := h.n2
  have b3 := h.g2
  have HR := Lib.hid (fun X (hX : PG X lo hi g cb C R n F) => row_out hX hr)
  clear h hr
  by_cases h0 : c < 0
  · skip
    go_enter Tryd.func52, Tryd.ntmps52
    go_wp2_with fail
    refine at_calls (fun X => PG X lo hi g cb C R n F ∧ Below w.heap.size w X ∧ Blk X w.heap.size #[.string ⟨#[]⟩, .int .i64 0]) ⟨H.out.alloc _, (Below.refl _ _).alloc (Nat.le_refl _) _, blk_new _ _ _⟩ ?_
    rintro X ⟨HP, hb, B⟩
    refine (HR.out X HP).mono ?_
    rintro e w1 ⟨rfl, rfl⟩
    have HB := Lib.hid B
    have HT := Lib.hid (HB.out.two (p := 0) (by simp) (.string nought.1))
    obtain ⟨s1, s2, q1, q2, q3, q4⟩ := HT.out
    simp only [nought] at q3 q4
    have Hb := Lib.hid hb
    clear HP hb B
    go_wp2_with fail
    refine at_world (fun Y => Y.cell? ⟨w.heap.size, 0, none⟩ = some (.string nought.1) ∧ Y.cell? ⟨w.heap.size, 1, none⟩ = some (.int .i64 nought.2) ∧ Below w.heap.size w Y) ?_ ?_
    · have B3 := HB.out.put2 (p := 0) (by simp) nought
      exact ⟨B3.2.1 0, B3.2.1 1, (Hb.out.setCell (p := ⟨w.heap.size, 0, none⟩) (Nat.le_refl _) _).setCell (p := ⟨w.heap.size, 1, none⟩) (Nat.le_refl _) _⟩
    rintro Y ⟨x0, x1, hY⟩
    exact bodyPost_ret (v := .agg #[.string nought.1, .int .i64 nought.2]) (by simp [results, Tryd.results52, go_sem, x0, x1]) rfl ⟨rfl, hY⟩
  · have h1 : (0 : Int) ≤ c := by omega
    go_enter Tryd.func52, Tryd.ntmps52
    go_wp2_with fail
    refine at_calls (fun X => PG X lo hi g cb C R n F ∧ Below w.heap.size w X ∧ Blk X w.heap.size #[.string ⟨#[]⟩, .int .i64 0]) ⟨H.out.alloc _, (Below.refl _ _).alloc (Nat.le_refl _) _, blk_new _ _ _⟩ ?_
    rintro X ⟨HP, hb, B⟩
    refine (HR.out X HP).mono ?_
    rintro e w1 ⟨rfl, rfl⟩
    have HB := Lib.hid B
    have HT := Lib.hid (HB.out.two (p := 0) (by simp) (.string nought.1))
    obtain ⟨s1, s2, q1, q2, q3, q4⟩ := HT.out
    simp only [nought] at q3 q4
    have Hb := Lib.hid hb
    clear HP hb B
    go_wp2_with fail
    refine at_world (fun Y => Y.cell? ⟨w.heap.size, 0, none⟩ = some (.string nought.1) ∧ Y.cell? ⟨w.heap.size, 1, none⟩ = some (.int .i64 nought.2) ∧ Below w.heap.size w Y) ?_ ?_
    · have B3 := HB.out.put2 (p := 0) (by simp) nought
      exact ⟨B3.2.1 0, B3.2.1 1, (Hb.out.setCell (p := ⟨w.heap.size, 0, none⟩) (Nat.le_refl _) _).setCell (p := ⟨w.heap.size, 1, none⟩) (Nat.le_refl _) _⟩
    rintro Y ⟨x0, x1, hY⟩
    exact bodyPost_ret (v := .agg #[.string nought.1, .int .i64 nought.2]) (by simp [results, Tryd.results52, go_sem, x0, x1]) rfl ⟨rfl, hY⟩

set_option maxHeartbeats 1000000 in
theorem at_nil (r c : Int) (w : World) : Calls Tryd.prog 52 #[.pointer none, .int .i64 r, .int .i64 c] w (Tell2 nought w) := by
  by_cases h0 : c < 0
  · skip
    go_enter Tryd.func52, Tryd.ntmps52
    go_wp2_with fail
    refine at_calls (fun X => Below w.heap.size w X ∧ Blk X w.heap.size #[.string ⟨#[]⟩, .int .i64 0]) ⟨(Below.refl _ _).alloc (Nat.le_refl _) _, blk_new _ _ _⟩ ?_
    rintro X ⟨hb, B⟩
    refine (row_nil r X).mono ?_
    rintro e w1 ⟨rfl, rfl⟩
    have HB := Lib.hid B
    have HT := Lib.hid (HB.out.two (p := 0) (by simp) (.string nought.1))
    obtain ⟨s1, s2, q1, q2, q3, q4⟩ := HT.out
    simp only [nought] at q3 q4
    have Hb := Lib.hid hb
    clear hb B
    go_wp2_with fail
    refine at_world (fun Y => Y.cell? ⟨w.heap.size, 0, none⟩ = some (.string nought.1) ∧ Y.cell? ⟨w.heap.size, 1, none⟩ = some (.int .i64 nought.2) ∧ Below w.heap.size w Y) ?_ ?_
    · have B3 := HB.out.put2 (p := 0) (by simp) nought
      exact ⟨B3.2.1 0, B3.2.1 1, (Hb.out.setCell (p := ⟨w.heap.size, 0, none⟩) (Nat.le_refl _) _).setCell (p := ⟨w.heap.size, 1, none⟩) (Nat.le_refl _) _⟩
    rintro Y ⟨x0, x1, hY⟩
    exact bodyPost_ret (v := .agg #[.string nought.1, .int .i64 nought.2]) (by simp [results, Tryd.results52, go_sem, x0, x1]) rfl ⟨rfl, hY⟩
  · have h1 : (0 : Int) ≤ c := by omega
    go_enter Tryd.func52, Tryd.ntmps52
    go_wp2_with fail
    refine at_calls (fun X => Below w.heap.size w X ∧ Blk X w.heap.size #[.string ⟨#[]⟩, .int .i64 0]) ⟨(Below.refl _ _).alloc (Nat.le_refl _) _, blk_new _ _ _⟩ ?_
    rintro X ⟨hb, B⟩
    refine (row_nil r X).mono ?_
    rintro e w1 ⟨rfl, rfl⟩
    have HB := Lib.hid B
    have HT := Lib.hid (HB.out.two (p := 0) (by simp) (.string nought.1))
    obtain ⟨s1, s2, q1, q2, q3, q4⟩ := HT.out
    simp only [nought] at q3 q4
    have Hb := Lib.hid hb
    clear hb B
    go_wp2_with fail
    refine at_world (fun Y => Y.cell? ⟨w.heap.size, 0, none⟩ = some (.string nought.1) ∧ Y.cell? ⟨w.heap.size, 1, none⟩ = some (.int .i64 nought.2) ∧ Below w.heap.size w Y) ?_ ?_
    · have B3 := HB.out.put2 (p := 0) (by simp) nought
      exact ⟨B3.2.1 0, B3.2.1 1, (Hb.out.setCell (p := ⟨w.heap.size, 0, none⟩) (Nat.le_refl _) _).setCell (p := ⟨w.heap.size, 1, none⟩) (Nat.le_refl _) _⟩
    rintro Y ⟨x0, x1, hY⟩
    exact bodyPost_ret (v := .agg #[.string nought.1, .int .i64 nought.2]) (by simp [results, Tryd.results52, go_sem, x0, x1]) rfl ⟨rfl, hY⟩

end Go.Proofs.YtednedklkbjihaaDoor
