/- wrap: WrapApart's walk. -/
import Derived.Test.YtmckoabhgjfiiaaWrG
namespace Go.Proofs.Ytmckoabhgjfiiaa
open Go.RowKit
set_option linter.unusedVariables false
set_option linter.unusedSimpArgs false

theorem spAt_zero {cols : Int} (hc : 2 ≤ cols) {L : List Gl} (hL : Thin L) : spAt cols L 0 = ⟨0, 0⟩ := by
  cases L with
  | nil => simp [spAt, stAt, fin]; omega
  | cons g L =>
    rw [spAt_some (g := g) (by simp), adv_first hc hL (by simp)]
    rfl
/-- What stands next to a glyph. -/
theorem sp_next {cols : Int} (hc : 2 ≤ cols) {L : List Gl} (hL : Thin L) {k : Nat} {g : Gl} (hg : L[k]? = some g) :
    (spAt cols L k).c + g.w ≤ cols ∧ ((spAt cols L (k + 1) = ⟨(spAt cols L k).r, (spAt cols L k).c + g.w⟩) ∨ (spAt cols L (k + 1) = ⟨(spAt cols L k).r + 1, 0⟩ ∧ cols - 1 ≤ (spAt cols L k).c + g.w)) := by
  have hk := (List.getElem?_eq_some_iff.1 hg).1
  have e : stAt cols L (k + 1) = ⟨(spAt cols L k).r, (spAt cols L k).c + g.w⟩ := by rw [stAt_succ hg, spAt_some hg]; rfl
  have bd := stAt_bd hc hL (k + 1) (by omega)
  rw [e] at bd
  refine ⟨bd.2.2.2.2.1, ?_⟩
  rcases Nat.lt_or_ge (k + 1) L.length with h | h
  · have hx := List.getElem?_eq_getElem (l := L) (i := k + 1) h
    have hw := hL _ (List.getElem_mem (l := L) (n := k + 1) h)
    rw [spAt_some hx, e]
    unfold adv
    split
    · rename_i h'
      exact .inr ⟨rfl, by dsimp only at h'; omega⟩
    · exact .inl rfl
  · have e1 : k + 1 = L.length := by omega
    have e2 := spAt_end cols L
    rw [← e1, e] at e2
    rw [e2]
    unfold fin
    split
    · rename_i h'
      exact .inr ⟨rfl, by dsimp only at h'; omega⟩
    · exact .inl rfl
theorem spots_get {cols : Int} {L : List Gl} {k : Nat} (hk : k < L.length + 1) : (spots cols L)[k]? = some (spAt cols L k) := by
  simp [spots, hk]

set_option maxHeartbeats 4000000 in
set_option maxRecDepth 100000 in
theorem walk_WrapApart (W : World) (A : Option Addr) (c : Nat) (L : List Gl) (hL : GlIn W A c L) (cl : Int) (hk : (Lit.int .i64 cl).wf = true) :
    Calls Try.prog 5 #[.slice A L.length c, .int .i64 cl] W (YesL W) := by
  have hmx := hL.mx
  have F1 := Lib.hid (few_any A c L W hL.li (by have := hL.le; unfold maxLen at hmx; omega))
  obtain ⟨M, hM⟩ : ∃ M, fewP L = M := ⟨_, rfl⟩
  have ht : Thin M := hM ▸ fewP_thin L
  have hl : M.length ≤ 100 := hM ▸ fewP_len L
  rw [hM] at F1
  have hb := low15_bits cl
  have hb2 := low15_le cl
  obtain ⟨m, hm⟩ : ∃ m, low15 cl = m := ⟨_, rfl⟩
  rw [hm] at hb hb2
  have v0 : IntKind.i64.wrap (2 + (m : Int)) = 2 + (m : Int) := IntWalk.i64_in _ (by omega)
  have HT := Lib.hid ht
  clear hM hL hk hmx hm ht
  go_enter Try.func5, Try.ntmps5
  go_wp2_with fail
  refine F1.out.mono ?_
  rintro e w1 ⟨A1, c1, A2, c2, rfl, hv1, hv2, hb1⟩
  obtain ⟨_, l1, _, m1, x1⟩ := hv1.parts
  obtain ⟨cols, hcols⟩ : ∃ cols : Int, 2 + (m : Int) = cols := ⟨_, rfl⟩
  rw [hcols] at v0
  have hc2 : 2 ≤ cols := by omega
  have hc17 : cols ≤ 17 := by omega
  have P1 := Lib.hid (place_any A1 c1 M cols w1 l1 HT.out (by omega) m1 (by omega))
  have L1 := Lib.hid l1
  have HB1 := Lib.hid hb1
  have HC := Lib.hid hcols
  rw [← hcols] at P1
  clear hv1 hv2 l1 hb1 F1 hcols v0
  have v0 : IntKind.i64.wrap (2 + (m : Int)) = 2 + (m : Int) := IntWalk.i64_in _ (by omega)
  go_wp2_with fail
  refine P1.out.mono ?_
  rintro e w2 ⟨A3, n3, c3, rfl, ho3, hb3⟩
  rw [HC.out] at ho3 ⊢
  have hp : placeP cols M = spots cols M := if_neg (by omega)
  rw [hp] at ho3
  have hn3 := own_count encP_len (by decide) ho3
  rw [show (spots cols M).length = M.length + 1 by simp [spots]] at hn3
  subst hn3
  have hc3 := (LiV.own encP_len (by decide) ho3).parts.2.2.2
  rw [show (spots cols M).length = M.length + 1 by simp [spots]] at hc3
  have HL3 := Lib.hid (show Li 2 encP w2 (fun _ => True) A3 (spots cols M) from (Li.own encP_len (by decide) ho3).mono fun _ _ => trivial)
  have HL1 := Lib.hid (L1.out.later hb3)
  have HB3 := Lib.hid (belowS HB1.out hb3)
  have hsl : (spots cols M).length = M.length + 1 := by simp [spots]
  obtain ⟨p0, b0, o0, hp0, rfl, hbl0, _, z0, z1⟩ := HL3.out.spot (j := 0) (by rw [hsl]; omega)
  rw [spots_get (by omega), spAt_zero hc2 HT.out] at hp0
  injection hp0 with hp0
  subst hp0
  have q0 := neq_spot ⟨0, 0⟩ ⟨0, 0⟩
  simp only [decide_true, Bool.not_true] at q0
  have v1 : IntKind.i64.wrap ((M.length : Int) + 1) = (M.length : Int) + 1 := IntWalk.i64_in _ (by omega)
  have HSL := Lib.hid hsl
  clear ho3 hb3 P1 hp hsl HC
  have i0 : (0 : Int) < (M.length : Int) + 1 := by omega
  have e1 : (((M.length : Int) + 1) != ((M.length : Int) + 1)) = false := by simp
  have e2 : (((M.length + 1 : Nat) : Int) != ((M.length : Int) + 1)) = false := by simp
  rw [show o0 + 0 * 2 = o0 by omega] at z0 z1
  obtain ⟨N, hN⟩ : ∃ N, spots cols M = N := ⟨_, rfl⟩
  have HN := Lib.hid hN
  rw [hN] at HL3 HSL
  clear hN
  go_wp2_with fail
  go_loopw [8] (fun i wr => ∃ (k : Nat) (q : Nat), k ≤ M.length ∧ i = .int .i64 k ∧ wr = w2.drewN q) (fun i _ => M.length - (intOf i).toNat)
  case atStart => exact ⟨0, 0, Nat.zero_le _, rfl, rfl⟩
  case round =>
    obtain ⟨k, q, hk, rfl, hwr⟩ := hrel
    have HW := Lib.hid hwr
    have HA := Lib.hid (show Li 2 encP wr (fun _ => True) (some ⟨b0, o0, none⟩) N from hwr ▸ HL3.out.drewN q)
    have HG := Lib.hid (show Li 2 encG wr (fun _ => True) A1 M from hwr ▸ HL1.out.drewN q)
    have HBw := Lib.hid (show Below W.heap.size W wr from hwr ▸ belowS HB3.out (selfDrew w2 q))
    clear hwr
    by_cases hlt : k < M.length
    · obtain ⟨g, bg, og, hg, rfl, _, _, g0, g1⟩ := HG.out.glyph hlt
      obtain ⟨p, b, o, hp, e3, _, _, c0, c1⟩ := HA.out.spot (j := k) (by rw [HSL.out]; omega)
      simp only [Option.some.injEq, Addr.mk.injEq, and_true] at e3
      obtain ⟨rfl, rfl⟩ := e3
      obtain ⟨p', b', o', hp', e4, _, _, d0, d1⟩ := HA.out.spot (j := k + 1) (by rw [HSL.out]; omega)
      simp only [Option.some.injEq, Addr.mk.injEq, and_true] at e4
      obtain ⟨rfl, rfl⟩ := e4
      rw [← HN.out, spots_get (by omega)] at hp hp'
      injection hp with hp
      injection hp' with hp'
      have hn := sp_next hc2 HT.out hg
      have hbd := spAt_bd hc2 HT.out k (by omega)
      rw [hp] at hn hbd
      rw [hp'] at hn
      obtain ⟨hn1, hn2⟩ := hn
      obtain ⟨hw1, hw2⟩ := HT.out g (List.mem_of_getElem? hg)
      obtain ⟨x1', x2', x3', x4', x5'⟩ := hbd
      clear hp hp' hg g0
      have i1 : (k : Int) < (M.length : Int) := by omega
      have i2 : (0 : Int) ≤ (k : Int) := by omega
      have i3 : (k : Int) + 1 < ((M.length + 1 : Nat) : Int) := by omega
      have i4 : (k : Int) < ((M.length + 1 : Nat) : Int) := by omega
      have i5 : (0 : Int) ≤ (k : Int) + 1 := by omega
      have i6 : ((k : Int) + 1).toNat = k + 1 := by omega
      have i7 : (k : Int) + 1 < (M.length : Int) + 1 := by omega
      have i8 : (k : Int) < (M.length : Int) + 1 := by omega
      have u1 : IntKind.i64.wrap (p.c + g.w) = p.c + g.w := IntWalk.i64_in _ (by omega)
      have u2 : IntKind.i64.wrap ((k : Int) + 1) = (k : Int) + 1 := IntWalk.i64_in _ (by omega)
      have u3 : IntKind.i64.wrap (p.r + 1) = p.r + 1 := IntWalk.i64_in _ (by omega)
      have u4 : IntKind.i64.wrap (cols - 1) = cols - 1 := IntWalk.i64_in _ (by omega)
      have k1 : decide (cols < p.c + g.w) = false := decide_eq_false (by omega)
      rcases hn2 with rfl | ⟨rfl, hn3⟩
      · have k2 : (p.r == p.r) = true := by simp
        go_wp2_with fail
        go_quiet (fail)
        go_wp2_with fail
        go_quiet (fail)
        go_wp2_with fail
        go_roundw
        case rel => exact ⟨k + 1, _, by omega, by go_num, by rw [HW.out]; first | exact World.drewN_drewN _ _ _ | (simp only [World.drewN_drewN]; rfl)⟩
        case measure => simp [intOf]; omega
      · have k2 : (p.r + 1 == p.r) = false := beq_eq_false_iff_ne.2 (by omega)
        have k3 : decide (p.c + g.w < cols - 1) = false := decide_eq_false (by omega)
        clear hn3
        go_wp2_with fail
        go_quiet (fail)
        go_wp2_with fail
        go_quiet (fail)
        go_wp2_with fail
        go_quiet (fail)
        go_wp2_with fail
        go_roundw
        case rel => exact ⟨k + 1, _, by omega, by go_num, by rw [HW.out]; first | exact World.drewN_drewN _ _ _ | (simp only [World.drewN_drewN]; rfl)⟩
        case measure => simp [intOf]; omega
    · obtain rfl : k = M.length := by omega
      clear hlt
      go_wp2_with fail
      refine (awake_yes wr).mono ?_
      rintro e w4 ⟨rfl, hb4⟩
      have HY := Lib.hid (show YesL W (.returned (.bool true)) w4 from ⟨rfl, belowS HBw.out hb4⟩)
      clear hb4
      go_wp2_with fail
      go_ret
      exact HY.out
end Go.Proofs.Ytmckoabhgjfiiaa
