/- 'typebar/typebarlaw11.BackWalks' returns true for every input, and each argument reads behind the call as it read before. No condition. -/
import Derived.Test.YtggapcfjcdafpaaGreatGb33
import Derived.Test.YtggapcfjcdafpaaGreatGb31
namespace Go.Proofs.YtggapcfjcdafpaaGreat
open Go.RowKit
set_option linter.unusedVariables false
set_option linter.unusedSimpArgs false

section
variable {K : SG.Kinds} {l : List Int}
theorem getD_at {L : List Nat} {i d : Nat} (h : i < L.length) : L.getD i d = L[i] := by simp [List.getD, h]
theorem starts_lt {i d : Nat} (h : i < (SG.startsP K l).length) : (SG.startsP K l).getD i d < l.length := by
  rw [getD_at h]
  exact (SG.starts_mem (List.getElem_mem h)).1
theorem nextB_at {a : Nat} (h : a < l.length) : nextB K l a = SG.nextP K l (a + 1) := by
  unfold nextB
  rw [if_neg (by omega), if_neg (by omega), Int.toNat_natCast]
theorem walk_on {i : Nat} (h : i + 1 < (SG.startsP K l).length) : nextB K l ((SG.startsP K l).getD i 0 : Nat) = (SG.startsP K l).getD (i + 1) 0 := by
  rw [nextB_at (starts_lt (by omega)), getD_at h, getD_at (show i < _ by omega)]
  exact (starts_next h).1
theorem walk_end : nextB K l ((SG.startsP K l).getD ((SG.startsP K l).length - 1) 0 : Nat) = l.length := by
  rcases Nat.eq_zero_or_pos (SG.startsP K l).length with h | h
  · have h0 := SG.starts_nil h
    have : (SG.startsP K l).getD ((SG.startsP K l).length - 1) 0 = 0 := by rw [List.length_eq_zero_iff.1 h]; rfl
    rw [this]
    unfold nextB
    rw [if_neg (by omega), if_pos (by omega)]
  · rw [nextB_at (starts_lt (by omega)), getD_at (by omega)]
    exact (starts_last h).1
theorem walk_back {j : Nat} (h : j < (SG.startsP K l).length) : floorI K l (((SG.startsP K l).getD (j + 1) l.length : Nat) - 1 : Int) = (SG.startsP K l).getD j 0 := by
  rw [getD_at h]
  rcases Nat.lt_or_ge (j + 1) (SG.startsP K l).length with h1 | h1
  · have hlt := starts_lt (K := K) (l := l) (d := l.length) h1
    have hp := List.pairwise_iff_getElem.1 (SG.starts_sorted K l) j (j + 1) h h1 (by omega)
    rw [getD_at h1] at hlt ⊢
    rw [show (((SG.startsP K l)[j + 1] : Nat) : Int) - 1 = (((SG.startsP K l)[j + 1] - 1 : Nat) : Int) by omega, floorI_at (by omega)]
    exact (starts_next h1).2
  · have hj : j = (SG.startsP K l).length - 1 := by omega
    have hpos := starts_lt (K := K) (l := l) (d := 0) h
    have : (SG.startsP K l).getD (j + 1) l.length = l.length := by simp [List.getD, List.getElem?_eq_none h1]
    rw [this, show ((l.length : Nat) : Int) - 1 = ((l.length - 1 : Nat) : Int) by omega, floorI_at (by omega), (starts_last (by omega)).2]
    subst hj
    rfl
theorem walk_zero : (SG.startsP K l).getD 0 l.length = 0 := by
  rcases Nat.eq_zero_or_pos l.length with h | h
  · have : SG.startsP K l = [] := by unfold SG.startsP; rw [h]; rfl
    rw [this, h]; rfl
  · obtain ⟨q, hq⟩ := SG.starts_pos (K := K) h
    rw [hq]; rfl
end
set_option maxHeartbeats 8000000 in
set_option maxRecDepth 100000 in
theorem walk_BackWalks (w : World) (A0 : Option Addr) (n0 c0 : Nat) (f0 : Nat → Int) (hA : Rd w A0 n0 (fun j => .int .i32 (f0 j))) (hle : n0 ≤ c0) (hmax : c0 ≤ maxLen) (hp : ∀ j, j < n0 → (Lit.int .i32 (f0 j)).wf = true) :
    Calls Tryz.prog 10 #[.slice A0 n0 c0] w (Yes w) := by
  obtain ⟨T, hG, hT, C0⟩ := rows_li w
  obtain ⟨l, hll, hL0, hSc⟩ := came_text hA hp 120
  have hlc : l.length ≤ c0 := by omega
  have hl2 : l.length ≤ 120 := by omega
  have HG := Lib.hid hG
  have C0 := Lib.hid C0
  have HK := Lib.hid (show (KT T).tidy by rw [← hT]; exact rows_tidy)
  have AW := Lib.hid (fun X => awake11_yes X)
  have HL := Lib.hid (And.intro hL0 hSc)
  have CF := fews_any A0 n0 c0 120 w hle (by unfold maxLen at hmax; omega) (by omega)
  rw [← hll] at CF
  have CF := Lib.hid CF
  clear hG hA hp hT hL0 hSc hll hle hmax
  go_enter Tryz.func10, Tryz.ntmps10
  go_wp2_with fail
  refine CF.out.mono ?_
  rintro e w0 ⟨rfl, rfl⟩
  clear CF
  go_wp2_with fail
  refine C0.out.mono ?_
  rintro e w1 ⟨A, c, rfl, hL, hc, hm, hb1⟩
  have C1 := Lib.hid (build_tabs A c T w1 (hL.mono fun _ _ => trivial) hc HG.out)
  have L1 := Lib.hid (And.intro (hL.mono (S' := fun _ => True) fun _ _ => trivial) hb1)
  clear C0 hL hb1
  go_wp2_with fail
  refine C1.out.mono ?_
  rintro e w2 ⟨tp, rfl, hU, hb⟩
  have hT : T.length ≤ 100000 := by have := HG.out.len; omega
  have B0 := Lib.hid (show LB w T tp A c A0 c0 l w2 by
    have h := HL.out.1.later (L1.out.2.trans (hb.mono L1.out.2.size))
    exact ⟨⟨hU, HK.out, h, HL.out.2, hlc, by omega⟩, ⟨L1.out.1.later hb, hc, hT, h, HL.out.2, by omega⟩, L1.out.2.trans (hb.mono L1.out.2.size)⟩)
  clear hU hb C1 L1 HL HG hT
  have F1 := Lib.hid (fun Z (hZ : LB w T tp A c A0 c0 l Z) (a : Int) => pnext_any hZ.tt a)
  have F2 := Lib.hid (fun Z (hZ : LB w T tp A c A0 c0 l Z) (a : Int) h => pprev_any hZ.tt a h)
  have C3 := Lib.hid (rstarts_any c0 B0.out.rt hlc)
  obtain ⟨L, hL⟩ : ∃ L, SG.startsP (KT T) l = L := ⟨_, rfl⟩
  have W1 := Lib.hid (fun i (h : i + 1 < L.length) => show nextB (KT T) l (L.getD i 0 : Nat) = L.getD (i + 1) 0 by rw [← hL] at h ⊢; exact walk_on h)
  have W2 := Lib.hid (show nextB (KT T) l (L.getD (L.length - 1) 0 : Nat) = l.length by rw [← hL]; exact walk_end)
  have W3 := Lib.hid (fun j (h : j < L.length) => show floorI (KT T) l ((L.getD (j + 1) l.length : Nat) - 1 : Int) = L.getD j 0 by rw [← hL] at h ⊢; exact walk_back h)
  have W4 := Lib.hid (show L.getD 0 l.length = 0 by rw [← hL]; exact walk_zero)
  have W5 := Lib.hid (fun i d (h : i < L.length) => show L.getD i d < l.length by rw [← hL] at h ⊢; exact starts_lt h)
  have W6 := Lib.hid (show L.getD 0 0 = 0 by
    rcases Nat.eq_zero_or_pos L.length with h | h
    · rw [List.length_eq_zero_iff.1 h]; rfl
    · have := W4.out; rw [getD_at h] at this ⊢; exact this)
  have hs : L.length ≤ 120 := by
    rw [← hL]
    have := List.length_filter_le (SG.begAt (KT T) l) (List.range l.length)
    rw [List.length_range] at this
    exact Nat.le_trans this (by omega)
  rw [hL] at C3
  obtain ⟨M, hM⟩ : ∃ M, L.map natI = M := ⟨_, rfl⟩
  rw [hM] at C3
  have HM := Lib.hid hM
  clear hM hL HK
  go_wp2_with fail
  refine C3.out.mono ?_
  rintro e w3 ⟨A3, n3, c3, rfl, ho, hb⟩
  have hn3 := own_count encI_len1 (by decide) ho
  have hli := (LiV.own encI_len1 (by decide) ho).parts.2.1
  have hnl : L.length = n3 := by rw [← hn3, ← HM.out, List.length_map]
  have HD := Lib.hid (show ∀ j, j < n3 → ∃ b o, A3 = some ⟨b, o, none⟩ ∧ b < w3.heap.size ∧ w3.cell? ⟨b, o + j, none⟩ = some (.int .i64 (L.getD j 0 : Nat)) from fun j hj => by
    have h := rdI hli j (by rw [hn3]; exact hj)
    dsimp only at h
    rw [← HM.out, map_getD] at h
    exact h)
  have B1 := Lib.hid (B0.out.later hb)
  obtain ⟨N, hN⟩ : ∃ N, n3 = N := ⟨_, rfl⟩
  rw [hN] at hnl HD ⊢
  have HNL := Lib.hid hnl
  rw [hnl] at W1 W2 W3 W5 hs
  clear C3 ho hb hli B0 hn3 hN HM hnl
  go_wp2
  go_loopw [6, 7] (fun a i wr => ∃ p q : Nat, a = .int .i64 q ∧ i = .int .i64 ((p + 1 : Nat) : Int) ∧ (p + 1 ≤ N ∨ p = 0) ∧ Hid (q = L.getD p 0 ∧ Below w3.heap.size w3 wr)) (fun _ i _ => N - (intOf i).toNat)
  case atStart => exact ⟨0, 0, rfl, rfl, .inr rfl, Lib.hid ⟨W6.out.symm, Below.refl _ _⟩⟩
  case round =>
    obtain ⟨p, q, rfl, rfl, hp, H⟩ := hrel
    by_cases hlt : p + 1 < N
    · obtain ⟨b, o, rfl, hb, hcell⟩ := HD.out (p + 1) hlt
      have G := F1.out wr (B1.out.later H.out.2) (q : Nat)
      rw [H.out.1, W1.out p hlt] at G
      obtain ⟨V, hV⟩ : ∃ V, L.getD (p + 1) 0 = V := ⟨_, rfl⟩
      rw [hV] at G hcell
      have hq : L.getD p 0 = q := H.out.1.symm
      rw [hq] at G
      have G := Lib.hid G
      have HC := Lib.hid (fun Z (hZ : Below w3.heap.size w3 Z) => (hZ.cell (p := ⟨b, o + (p + 1), none⟩) hb).trans hcell)
      have HV := Lib.hid hV
      have d0 : (p : Int) + 1 < (N : Int) := by omega
      have d1 : (0 : Int) ≤ (p : Int) + 1 := by omega
      have e1 : ((V : Int) != (V : Int)) = false := by simp
      clear hV hcell hq
      go_wp2_with fail
      refine G.out.mono ?_
      rintro e w4 ⟨rfl, hb4⟩
      have H4 := Lib.hid (H.out.2.trans (hb4.mono H.out.2.size))
      have k0 := HC.out _ H4.out
      clear hb4 G H
      go_wp2
      go_roundw
      case rel => exact ⟨p + 1, V, rfl, by go_num, .inl (by omega), Lib.hid ⟨HV.out.symm, H4.out⟩⟩
      case measure => simp [intOf]; omega
    · have hpN : L.getD p 0 = L.getD (N - 1) 0 := by
        rcases Nat.eq_zero_or_pos N with h | h
        · subst h; rw [show p = 0 by omega]
        · rw [show p = N - 1 by omega]
      have G := F1.out wr (B1.out.later H.out.2) (q : Nat)
      rw [H.out.1, hpN, W2.out, ← hpN, ← H.out.1] at G
      have G := Lib.hid G
      have d0 : decide ((p : Int) + 1 < (N : Int)) = false := by simp; omega
      have e1 : (((l.length : Nat) : Int) != ((l.length : Nat) : Int)) = false := by simp
      clear hpN
      go_wp2_with fail
      refine G.out.mono ?_
      rintro e w4 ⟨rfl, hb4⟩
      have H4 := Lib.hid (H.out.2.trans (hb4.mono H.out.2.size))
      clear hb4 G H
      obtain ⟨wo, hwo⟩ : ∃ wo : World, wo = wr := ⟨_, rfl⟩
      subst hwo
      go_wp2
      go_loopw [6, 8] (fun a i wr => ∃ (j q : Nat) (z : Int), a = .int .i64 q ∧ i = .int .i64 z ∧ j ≤ N ∧ z = (j : Int) - 1 ∧ q ≤ l.length ∧ Hid (q = L.getD j l.length ∧ Below w3.heap.size w3 wr)) (fun _ i _ => (intOf i + 1).toNat)
      case atStart => exact ⟨N, l.length, (N : Int) - 1, rfl, by go_num, Nat.le_refl _, rfl, Nat.le_refl _, Lib.hid ⟨by simp [List.getD, List.getElem?_eq_none (Nat.le_of_eq HNL.out)], H4.out⟩⟩
      case round =>
        obtain ⟨j, q, z, rfl, rfl, hj, hz, hql, H⟩ := hrel
        rcases j with _ | j
        · have hq0 : q = 0 := by rw [H.out.1]; exact W4.out
          subst hq0
          have d1 : decide (0 ≤ z) = false := by simp; omega
          have G := F2.out wr (B1.out.later H.out.2) 0 (by decide)
          rw [floorI_low (by omega)] at G
          have G := Lib.hid G
          have H5 := Lib.hid H.out.2
          clear H
          go_wp2_with fail
          refine G.out.mono ?_
          rintro e w5 ⟨rfl, hb5⟩
          have B5 := Lib.hid (B1.out.later (H5.out.trans (hb5.mono H5.out.size)))
          clear hb5 G H5
          go_wp2_with fail
          refine (AW.out _).mono ?_
          rintro e w9 ⟨rfl, hb⟩
          have U9 := Lib.hid (bStepS B5.out.be hb)
          clear hb B5
          go_wp2
          go_ret
          exact ⟨rfl, U9.out⟩
        · obtain rfl : z = (j : Int) := by omega
          obtain ⟨b, o, rfl, hb, hcell⟩ := HD.out j (by omega)
          have G := F2.out wr (B1.out.later H.out.2) (q : Nat) (by omega)
          rw [show ((q : Nat) : Int) - 1 = ((L.getD (j + 1) l.length : Nat) : Int) - 1 by rw [H.out.1], W3.out j (by omega)] at G
          have hV2 := W5.out j 0 (by omega)
          obtain ⟨V, hV⟩ : ∃ V, L.getD j 0 = V := ⟨_, rfl⟩
          rw [hV] at G hcell hV2
          have G := Lib.hid G
          have HC := Lib.hid (fun Z (hZ : Below w3.heap.size w3 Z) => (hZ.cell (p := ⟨b, o + j, none⟩) hb).trans hcell)
          have HV := Lib.hid (show V = L.getD j l.length by rw [← hV, getD_at (show j < L.length by rw [HNL.out]; omega), getD_at (show j < L.length by rw [HNL.out]; omega)])
          have d0 : (j : Int) < (N : Int) := by omega
          have d1 : (0 : Int) ≤ (j : Int) := by omega
          have e1 : ((V : Int) != (V : Int)) = false := by simp
          clear hV hcell hz
          go_wp2_with fail
          refine G.out.mono ?_
          rintro e w5 ⟨rfl, hb5⟩
          have H5 := Lib.hid (H.out.2.trans (hb5.mono H.out.2.size))
          have k0 := HC.out _ H5.out
          clear hb5 G H
          go_wp2
          go_roundw
          case rel => exact ⟨j, V, (j : Int) - 1, rfl, by go_num, by omega, rfl, by omega, Lib.hid ⟨HV.out, H5.out⟩⟩
          case measure => simp [intOf]
end Go.Proofs.YtggapcfjcdafpaaGreat

namespace Go.Proofs.YtggapcfjcdafpaaGreat.backWalks
open Go.ChangeShapes Go.WideShapes Go.ChangeAt Go.RowKit Go.WideMaps Go.WideElems
open Go.ChangeMaps (open_string)

theorem own : ownKnob Tryz.prog.godebug = none := by kernel_rfl
theorem laidOut : laidOutB Tryz.prog = true := by kernel_rfl

set_option linter.unusedVariables false in
set_option maxRecDepth 100000 in
theorem lifted (os : Os) (started : os.Started) (H : Type) (enc : TypeId × Value → H) :
    ReturnsInHanded {} Tryz.checked os 10 .any (Rows.backWalksSpec.pre6 enc Tryz.prog Tryz.f10 Rows.backWalksRow.domain false) (Rows.backWalksSpec.post enc Tryz.prog Tryz.f10 false true false false) := by
  refine returnsInHanded_of_change (C := Tryz.checked) own started (by kernel_rfl) Tryz.func10
    (ChangeSpec.witness6 (enc := enc) (C := Tryz.checked) false ⟨#[], #[.slice none 0 0], []⟩ 8 (by kernel_rfl) (by kernel_rfl) (by kernel_rfl) (by kernel_rfl)) ?_
  intro W base args ds gs before hval0 hW hcnd _
  have hval : ∀ (j : Nat) t v, Tryz.f10.params[j]? = some t → args[j]? = some v → Value.okWide Tryz.prog W .any base t v := hval0
  have hW' := hW
  obtain ⟨p, q, hA0, hV, rfl, hfz, hnd⟩ := hW
  have hA : DataW.TrodAll enc Tryz.prog W 0 (fun _ => true) true Tryz.f10.params.toList args.toList ds p := hA0
  rw [Tryz.params10] at hA hval
  obtain ⟨v0, vs0, d0, ds0, p0, q0, hargs, rfl, rfl, h0, r0⟩ := trodAll_cons hA
  obtain ⟨rfl, rfl, rfl⟩ := trodAll_nil r0
  obtain rfl : args = #[v0] := by cases args; simp_all
  obtain ⟨rfl, rfl⟩ := trodVars_none hV
  obtain ⟨A0, n0, c0, f0, C0, w0⟩ := arg_ints Tryz.underlying22 Tryz.underlying21 (by kernel_rfl) (hval 0 22 v0 rfl rfl) h0
  obtain rfl := C0.eq
  refine (walk_BackWalks W A0 n0 c0 f0 C0.rd C0.le C0.max w0).mono fun e W' ⟨he, hb⟩ => ?_
  subst he
  exact ⟨_, rfl, law_post hW' rfl rfl rfl rfl laidOut (by kernel_rfl) rfl Tryz.underlying4 hb⟩

theorem over : Rows.backWalksRow.holds Tryz.pinned (OpenSpec.ofChange Rows.backWalksSpec) :=
  OpenClaim.holds_of_wide 10 Tryz.f10 rfl rfl rfl rfl rfl rfl rfl ⟨rfl, rfl, rfl, rfl, rfl⟩ rfl rfl rfl rfl rfl (by kernel_rfl) Tryz.func10 (by kernel_rfl)
    (of_decide_eq_true (by kernel_rfl)) (by unfold Func.isWrapper; first | (rw [if_pos (by decide +kernel)]; kernel_rfl) | (rw [if_neg (by decide +kernel)]; exact ⟨rfl, rfl⟩))
    (fun os started H enc _ => lifted os started H enc)

theorem proved : Rows.BackWalksSaid := over
#print axioms proved
end Go.Proofs.YtggapcfjcdafpaaGreat.backWalks
