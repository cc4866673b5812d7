/- back: pure: the boundaries around a place. -/
import Derived.Test.YtggapcfjcdafpaaGreatGb27
import Derived.Test.YtggapcfjcdafpaaGreatGb30
import Derived.Test.YtggapcfjcdafpaaGreatGb31
namespace Go.Proofs.YtggapcfjcdafpaaGreat.SG
open Go.RowKit
set_option linter.unusedVariables false
set_option linter.unusedSimpArgs false
/-- Whether a cluster begins with a scalar whatever stands ahead of the one ahead of it. -/
def knownP (K : Kinds) (a b : Int) : Bool := beginsS K (nextS K St.zero a) b && (K.cj b != 2 || K.cj a == 0 || K.cj a == 2) && (!K.pc b || K.br a != 5)
theorem rule_flag {a n : Int} {f g : Bool} (h : rule a n false false f = true) (hg : g = true → f = true) : rule a n false false g = true := by
  unfold rule at h ⊢
  by_cases h1 : a = 1 ∧ n = 2
  · rw [if_pos h1] at h; cases h
  · rw [if_neg h1] at h ⊢
    by_cases h2 : (controlB a || controlB n) = true
    · rw [if_pos h2]
    · rw [if_neg h2] at h ⊢
      by_cases h3 : syllB a n = true
      · rw [if_pos h3] at h; cases h
      · rw [if_neg h3] at h ⊢
        by_cases h4 : n = 4 ∨ n = 5 ∨ n = 8 ∨ a = 7
        · rw [if_pos h4] at h; cases h
        · rw [if_neg h4] at h ⊢
          cases f
          · cases g
            · rfl
            · exact absurd (hg rfl) Bool.false_ne_true
          · cases h
theorem known_begins {K : Kinds} {a b : Int} (p : List Int) (h : knownP K a b = true) : begins K (a :: p) b = true := by
  unfold knownP at h
  simp only [Bool.and_eq_true] at h
  obtain ⟨⟨h1, h2⟩, h3⟩ := h
  have e : beginsS K (nextS K St.zero a) b = rule (K.br a) (K.br b) (K.cj b == 2 && behindC 0 (K.cj a) == 2) (K.pc b && (false && K.br a == 5)) (K.br b == 6 && (K.br a == 6 && !false)) := rfl
  have e0 : (behindC 0 (K.cj a) == 2) = false := by
    unfold behindC
    split
    · rfl
    · split
      · rename_i h; exact absurd rfl h.2
      · split <;> rfl
  rw [e, e0] at h1
  simp only [Bool.and_false, Bool.false_and, Bool.not_false, Bool.and_true] at h1
  show rule (K.br a) (K.br b) (K.cj b == 2 && cjScan K (a :: p) false) (K.pc b && K.br a == 5 && pcScan K p) (K.br b == 6 && flags K (a :: p) % 2 == 1) = true
  have c1 : (K.cj b == 2 && cjScan K (a :: p) false) = false := by
    by_cases hb : K.cj b = 2
    · have ha : K.cj a = 0 ∨ K.cj a = 2 := by simpa [hb] using h2
      rw [cjScan_cons]
      rcases ha with e | e <;> simp [e]
    · simp [hb]
  have c2 : (K.pc b && K.br a == 5 && pcScan K p) = false := by
    by_cases hb : K.pc b = true
    · have ha : K.br a ≠ 5 := by simpa [hb] using h3
      simp [ha]
    · simp [hb]
  rw [c1, c2]
  refine rule_flag h1 fun hg => ?_
  simp only [Bool.and_eq_true, beq_iff_eq] at hg
  rw [flags_cons] at hg
  by_cases ha : K.br a = 6
  · simp [ha, hg.1]
  · rw [if_neg ha] at hg
    exact absurd hg.2 (by decide)
end Go.Proofs.YtggapcfjcdafpaaGreat.SG

namespace Go.Proofs.YtggapcfjcdafpaaGreat
open Go.RowKit
set_option linter.unusedVariables false
set_option linter.unusedSimpArgs false

set_option maxHeartbeats 8000000 in
set_option maxRecDepth 100000 in
theorem known_any {T : List RW.Row} {tp : Nat} (w : World) (hT : Tabs T tp w) (a b : Int) (a0 : -2147483648 ≤ a) (a1 : a ≤ 2147483647) (b0 : -2147483648 ≤ b) (b1 : b ≤ 2147483647) :
    Calls Tryz.prog 85 #[.pointer (some ⟨tp, 0, none⟩), .int .i32 a, .int .i32 b] w fun e w' => e = .returned (.bool (SG.knownP (KT T) a b)) ∧ Below w.heap.size w w' := by
  have HT := Lib.hid hT
  have C0 := step_tab hT SG.St.zero a a0 a1
  obtain ⟨s', hs'⟩ : ∃ s', SG.nextS (KT T) SG.St.zero a = s' := ⟨_, rfl⟩
  rw [hs'] at C0
  have c1 := fun X (hX : Below w.heap.size w X) => step_tab (hT.later hX) s' b b0 b1
  obtain ⟨q, hq⟩ : ∃ q, SG.beginsS (KT T) s' b = q := ⟨_, rfl⟩
  obtain ⟨s2, hs2⟩ : ∃ s2, SG.nextS (KT T) s' b = s2 := ⟨_, rfl⟩
  simp only [hq, hs2] at c1
  have ca := fun X (hX : Below w.heap.size w X) => tconj (hT.later hX) a a0 a1
  have cb := fun X (hX : Below w.heap.size w X) => tconj (hT.later hX) b b0 b1
  have cp := fun X (hX : Below w.heap.size w X) => tpict (hT.later hX) b b0 b1
  have cr := fun X (hX : Below w.heap.size w X) => tbreak (hT.later hX) a a0 a1
  obtain ⟨R, hR⟩ : ∃ R, SG.knownP (KT T) a b = R := ⟨_, rfl⟩
  rw [hR]
  unfold SG.knownP at hR
  rw [hs', hq] at hR
  obtain ⟨x, hx⟩ : ∃ x, (KT T).cj a = x := ⟨_, rfl⟩
  obtain ⟨y, hy⟩ : ∃ y, (KT T).cj b = y := ⟨_, rfl⟩
  obtain ⟨z, hz⟩ : ∃ z, (KT T).pc b = z := ⟨_, rfl⟩
  obtain ⟨u, hu⟩ : ∃ u, (KT T).br a = u := ⟨_, rfl⟩
  rw [hx, hy, hz, hu] at hR
  have hx2 : conjB (vget 6 T) (vget 4 T) a = x := hx
  have hy2 : conjB (vget 6 T) (vget 4 T) b = y := hy
  have hz2 : (at0 0 (vget 5 T) b == 1) = z := hz
  have hu2 : breakB (vget 4 T) a = u := hu
  first | simp only [hx] at ca | simp only [hx2] at ca
  first | simp only [hy] at cb | simp only [hy2] at cb
  first | simp only [hz] at cp | simp only [hz2] at cp
  first | simp only [hu] at cr | simp only [hu2] at cr
  have HR := Lib.hid hR
  obtain ⟨n0, n1, n2, n3, n4, n5⟩ := s'
  obtain ⟨m0, m1, m2, m3, m4, m5⟩ := s2
  dsimp only [vSt, SG.St.zero] at C0 c1
  have C0 := Lib.hid C0
  have C1 := Lib.hid c1
  have CA := Lib.hid ca
  have CB := Lib.hid cb
  have CP := Lib.hid cp
  have CR := Lib.hid cr
  clear c1 ca cb cp cr hs' hq hs2 hx hy hz hu hx2 hy2 hz2 hu2 hR hT
  go_enter Tryz.func85, Tryz.ntmps85
  go_wp2_with fail
  refine C0.out.mono ?_
  rintro e w1 ⟨rfl, hb1⟩
  have HB1 := Lib.hid hb1
  clear C0 hb1
  go_wp2_with fail
  refine atCalls (fun X => Below w.heap.size w X) ((HB1.out).alloc HB1.out.size _) ?_
  intro X0 hX0
  have HX0 := Lib.hid hX0
  clear hX0
  refine (C1.out X0 HX0.out).mono ?_
  rintro e w2 ⟨rfl, hb2⟩
  have HB2 := Lib.hid (bStepS HX0.out hb2)
  clear C1 hb2 HX0 HB1
  go_upto_region 3 with fail
  refine at_world (fun X => Below w.heap.size w X) ((HB2.out).alloc HB2.out.size _) ?_
  intro X0 hX0
  have HX0 := Lib.hid hX0
  clear hX0 HB2
  cases q
  case false =>
    obtain rfl : R = false := by rw [← HR.out]; rfl
    clear HR CA CB CP CR HT
    go_wp2
    go_ret
    exact ⟨rfl, HX0.out⟩
  case true =>
    by_cases y2 : y = 2
    · subst y2
      go_wp2_with fail
      refine (CB.out _ HX0.out).mono ?_
      rintro e w5 ⟨rfl, hb⟩
      have B1 := Lib.hid (bStepS HX0.out hb)
      clear hb HX0
      by_cases x0 : x = 0
      · subst x0
        go_wp2_with fail
        refine (CA.out _ B1.out).mono ?_
        rintro e w6 ⟨rfl, hb⟩
        have B2 := Lib.hid (bStepS B1.out hb)
        clear hb B1
        cases z
        case false =>
          go_wp2_with fail
          refine (CP.out _ B2.out).mono ?_
          rintro e w8 ⟨rfl, hb⟩
          have BP := Lib.hid (bStepS B2.out hb)
          clear hb B2
          obtain rfl : R = true := by rw [← HR.out]; simp
          clear HR HT CP CR
          go_wp2
          go_ret
          exact ⟨rfl, BP.out⟩
        case true =>
          go_wp2_with fail
          refine (CP.out _ B2.out).mono ?_
          rintro e w8 ⟨rfl, hb⟩
          have BP := Lib.hid (bStepS B2.out hb)
          clear hb B2
          by_cases u5 : u = 5
          · subst u5
            go_wp2_with fail
            refine (CR.out _ BP.out).mono ?_
            rintro e w9 ⟨rfl, hb⟩
            have BR := Lib.hid (bStepS BP.out hb)
            clear hb BP
            obtain rfl : R = false := by rw [← HR.out]; simp
            clear HR HT CP CR
            go_wp2
            go_ret
            exact ⟨rfl, BR.out⟩
          · have du : (u != 5) = true := by simpa using u5
            go_wp2_with fail
            refine (CR.out _ BP.out).mono ?_
            rintro e w9 ⟨rfl, hb⟩
            have BR := Lib.hid (bStepS BP.out hb)
            clear hb BP
            obtain rfl : R = true := by rw [← HR.out]; simp [du]
            clear HR HT CP CR
            go_wp2
            go_ret
            exact ⟨rfl, BR.out⟩
      · have dx : (x == 0) = false := by simpa using x0
        go_wp2_with fail
        refine (CA.out _ B1.out).mono ?_
        rintro e w6 ⟨rfl, hb⟩
        have B2 := Lib.hid (bStepS B1.out hb)
        clear hb B1
        by_cases x2 : x = 2
        · subst x2
          go_wp2_with fail
          refine (CA.out _ B2.out).mono ?_
          rintro e w7 ⟨rfl, hb⟩
          have B3 := Lib.hid (bStepS B2.out hb)
          clear hb B2
          cases z
          case false =>
            go_wp2_with fail
            refine (CP.out _ B3.out).mono ?_
            rintro e w8 ⟨rfl, hb⟩
            have BP := Lib.hid (bStepS B3.out hb)
            clear hb B3
            obtain rfl : R = true := by rw [← HR.out]; simp
            clear HR HT CP CR
            go_wp2
            go_ret
            exact ⟨rfl, BP.out⟩
          case true =>
            go_wp2_with fail
            refine (CP.out _ B3.out).mono ?_
            rintro e w8 ⟨rfl, hb⟩
            have BP := Lib.hid (bStepS B3.out hb)
            clear hb B3
            by_cases u5 : u = 5
            · subst u5
              go_wp2_with fail
              refine (CR.out _ BP.out).mono ?_
              rintro e w9 ⟨rfl, hb⟩
              have BR := Lib.hid (bStepS BP.out hb)
              clear hb BP
              obtain rfl : R = false := by rw [← HR.out]; simp
              clear HR HT CP CR
              go_wp2
              go_ret
              exact ⟨rfl, BR.out⟩
            · have du : (u != 5) = true := by simpa using u5
              go_wp2_with fail
              refine (CR.out _ BP.out).mono ?_
              rintro e w9 ⟨rfl, hb⟩
              have BR := Lib.hid (bStepS BP.out hb)
              clear hb BP
              obtain rfl : R = true := by rw [← HR.out]; simp [du]
              clear HR HT CP CR
              go_wp2
              go_ret
              exact ⟨rfl, BR.out⟩
        · have dx2 : (x == 2) = false := by simpa using x2
          go_wp2_with fail
          refine (CA.out _ B2.out).mono ?_
          rintro e w7 ⟨rfl, hb⟩
          have B3 := Lib.hid (bStepS B2.out hb)
          clear hb B2
          obtain rfl : R = false := by rw [← HR.out]; simp [dx, dx2]
          clear HR HT CA CB CP CR
          go_wp2
          go_ret
          exact ⟨rfl, B3.out⟩
    · have dy : (y != 2) = true := by simpa using y2
      go_wp2_with fail
      refine (CB.out _ HX0.out).mono ?_
      rintro e w5 ⟨rfl, hb⟩
      have B1 := Lib.hid (bStepS HX0.out hb)
      clear hb HX0
      cases z
      case false =>
        go_wp2_with fail
        refine (CP.out _ B1.out).mono ?_
        rintro e w8 ⟨rfl, hb⟩
        have BP := Lib.hid (bStepS B1.out hb)
        clear hb B1
        obtain rfl : R = true := by rw [← HR.out]; simp [dy]
        clear HR HT CP CR
        go_wp2
        go_ret
        exact ⟨rfl, BP.out⟩
      case true =>
        go_wp2_with fail
        refine (CP.out _ B1.out).mono ?_
        rintro e w8 ⟨rfl, hb⟩
        have BP := Lib.hid (bStepS B1.out hb)
        clear hb B1
        by_cases u5 : u = 5
        · subst u5
          go_wp2_with fail
          refine (CR.out _ BP.out).mono ?_
          rintro e w9 ⟨rfl, hb⟩
          have BR := Lib.hid (bStepS BP.out hb)
          clear hb BP
          obtain rfl : R = false := by rw [← HR.out]; simp [dy]
          clear HR HT CP CR
          go_wp2
          go_ret
          exact ⟨rfl, BR.out⟩
        · have du : (u != 5) = true := by simpa using u5
          go_wp2_with fail
          refine (CR.out _ BP.out).mono ?_
          rintro e w9 ⟨rfl, hb⟩
          have BR := Lib.hid (bStepS BP.out hb)
          clear hb BP
          obtain rfl : R = true := by rw [← HR.out]; simp [dy, du]
          clear HR HT CP CR
          go_wp2
          go_ret
          exact ⟨rfl, BR.out⟩
end Go.Proofs.YtggapcfjcdafpaaGreat

namespace Go.Proofs.YtggapcfjcdafpaaGreat
open Go.RowKit
set_option linter.unusedVariables false
set_option linter.unusedSimpArgs false

/-- Whether a place within a text, or its end, is a boundary. -/
def isP (K : SG.Kinds) (l : List Int) (i : Nat) : Bool := i == l.length || SG.begAt K l i
set_option maxHeartbeats 4000000 in
theorem ris_any {W : World} {A : Option Addr} {c : Nat} {T : List RW.Row} {A2 : Option Addr} {l : List Int} (c2 : Nat) (h : RT W A c T A2 l) (hc2 : l.length ≤ c2) (i : Nat) (hi : i ≤ l.length) :
    Calls Tryz.prog 31 #[.slice A T.length c, .slice A2 l.length c2, .int .i64 i] W fun e w' => e = .returned (.bool (isP (KT T) l i)) ∧ ∃ m, w' = W.drewN m := by
  have hln := h.ln
  rcases Nat.lt_or_ge i l.length with hlt | hge
  · have C := begins_any c2 h hc2 i hlt
    obtain ⟨q, hq⟩ : ∃ q, SG.begAt (KT T) l i = q := ⟨_, rfl⟩
    rw [hq] at C
    have C := Lib.hid C
    have e : isP (KT T) l i = q := by
      unfold isP
      rw [hq, show (i == l.length) = false by simp; omega, Bool.false_or]
    rw [e]
    clear h e hq
    have d0 : ((i : Int) == (l.length : Int)) = false := by simp; omega
    have d1 : decide ((l.length : Int) < (i : Int)) = false := by simp; omega
    have d2 : decide ((i : Int) < 0) = false := by simp
    go_enter Tryz.func31, Tryz.ntmps31
    go_wp2_with fail
    refine C.out.mono ?_
    rintro e w1 ⟨rfl, m, rfl⟩
    clear C
    go_wp2
    go_ret
    exact ⟨rfl, _, rfl⟩
  · obtain rfl : i = l.length := by omega
    rw [show isP (KT T) l l.length = true by unfold isP; simp]
    clear h hi hge
    have d0 : ((l.length : Int) == (l.length : Int)) = true := by simp
    have d1 : decide ((l.length : Int) < (l.length : Int)) = false := by simp
    have d2 : decide ((l.length : Int) < 0) = false := by simp
    go_enter Tryz.func31, Tryz.ntmps31
    go_wp2
    go_ret
    exact ⟨rfl, 0, rfl⟩
end Go.Proofs.YtggapcfjcdafpaaGreat

namespace Go.Proofs.YtggapcfjcdafpaaGreat
open Go.RowKit
set_option linter.unusedVariables false
set_option linter.unusedSimpArgs false

/-- The last boundary up to a place; 0. -/
def floorP (K : SG.Kinds) (l : List Int) : Nat → Nat
  | 0 => 0
  | n + 1 => if isP K l (n + 1) = true then n + 1 else floorP K l n
/-- Of any number. -/
def floorI (K : SG.Kinds) (l : List Int) (a : Int) : Nat := floorP K l (min a l.length).toNat
set_option maxHeartbeats 4000000 in
theorem rfloor_any {W : World} {A : Option Addr} {c : Nat} {T : List RW.Row} {A2 : Option Addr} {l : List Int} (c2 : Nat) (h : RT W A c T A2 l) (hc2 : l.length ≤ c2) (a : Int) (ha : -9223372036854775808 ≤ a) (ha2 : a ≤ 9223372036854775807) :
    Calls Tryz.prog 27 #[.slice A T.length c, .slice A2 l.length c2, .int .i64 a] W fun e w' => e = .returned (.int .i64 (floorI (KT T) l a : Nat)) ∧ ∃ m, w' = W.drewN m := by
  have HB := Lib.hid (fun (n : Nat) (i : Nat) (hi : i ≤ l.length) => ris_any c2 (h.later (selfDrew W n)) hc2 i hi)
  have hln := h.ln
  clear h
  obtain ⟨v, hv⟩ : ∃ v, floorI (KT T) l a = v := ⟨_, rfl⟩
  rw [hv]
  have HV := Lib.hid hv
  clear hv
  go_enter Tryz.func27, Tryz.ntmps27
  by_cases hb : (l.length : Int) < a
  · have d0 : decide ((l.length : Int) < a) = true := by simpa using hb
    have H0 := Lib.hid (show floorP (KT T) l l.length = v by rw [← HV.out]; unfold floorI; rw [Int.min_eq_right (by omega)]; rfl)
    clear hb HV
    go_wp2
    go_loopw [7] (fun i wr => ∃ k : Nat, k ≤ l.length ∧ i = .int .i64 k ∧ Hid (floorP (KT T) l k = v) ∧ ∃ m, wr = W.drewN m) (fun i _ => (intOf i).toNat)
    case atStart => exact ⟨l.length, Nat.le_refl _, rfl, H0, 0, rfl⟩
    case round =>
      obtain ⟨k, hk, rfl, HK, m, rfl⟩ := hrel
      rcases k with _ | k
      · obtain rfl : 0 = v := HK.out
        clear HK HB H0
        go_wp2
        go_ret
        exact ⟨rfl, _, rfl⟩
      · have C := HB.out m (k + 1) hk
        have hK := HK.out
        rw [floorP] at hK
        obtain ⟨q, hq⟩ : ∃ q, isP (KT T) l (k + 1) = q := ⟨_, rfl⟩
        rw [hq] at C hK
        have HK1 := Lib.hid hK
        have C := Lib.hid C
        clear hK hq HK H0
        have g0 : decide ((0 : Int) < ((k + 1 : Nat) : Int)) = true := by simp
        go_wp2_with fail
        refine C.out.mono ?_
        rintro e w1 ⟨rfl, m2, rfl⟩
        clear C
        cases q
        case false =>
          go_wp2
          go_roundw
          case rel => exact ⟨k, by omega, by go_num, Lib.hid (by simpa using HK1.out), _, rfl⟩
          case measure => simp [intOf]
        case true =>
          obtain rfl : k + 1 = v := by simpa using HK1.out
          clear HK1 HB
          go_wp2
          go_ret
          exact ⟨rfl, _, rfl⟩
  · have d0 : decide ((l.length : Int) < a) = false := by simpa using hb
    have H0 := Lib.hid (show floorP (KT T) l a.toNat = v by rw [← HV.out]; unfold floorI; rw [Int.min_eq_left (by omega)])
    have hal : a ≤ l.length := by omega
    clear hb HV
    go_wp2
    go_loopw [7] (fun i wr => ∃ z : Int, z ≤ l.length ∧ -9223372036854775808 ≤ z ∧ i = .int .i64 z ∧ Hid (floorP (KT T) l z.toNat = v) ∧ ∃ m, wr = W.drewN m) (fun i _ => (intOf i).toNat)
    case atStart => exact ⟨a, hal, ha, rfl, H0, 0, rfl⟩
    case round =>
      obtain ⟨z, hz, hz2, rfl, HK, m, rfl⟩ := hrel
      by_cases h0 : 0 < z
      · obtain ⟨k, rfl⟩ : ∃ k : Nat, z = ((k + 1 : Nat) : Int) := ⟨(z - 1).toNat, by omega⟩
        have C := HB.out m (k + 1) (by omega)
        have hK := HK.out
        rw [Int.toNat_natCast, floorP] at hK
        obtain ⟨q, hq⟩ : ∃ q, isP (KT T) l (k + 1) = q := ⟨_, rfl⟩
        rw [hq] at C hK
        have HK1 := Lib.hid hK
        have C := Lib.hid C
        have g0 : decide ((0 : Int) < ((k + 1 : Nat) : Int)) = true := by simp
        clear hK hq HK H0 h0
        go_wp2_with fail
        refine C.out.mono ?_
        rintro e w1 ⟨rfl, m2, rfl⟩
        clear C
        cases q
        case false =>
          go_wp2
          go_roundw
          case rel => exact ⟨k, by omega, by omega, by go_num, Lib.hid (by simpa using HK1.out), _, rfl⟩
          case measure => simp [intOf]
        case true =>
          obtain rfl : k + 1 = v := by simpa using HK1.out
          clear HK1 HB
          go_wp2
          go_ret
          exact ⟨rfl, _, rfl⟩
      · obtain rfl : 0 = v := by rw [← HK.out, show z.toNat = 0 by omega]; rfl
        have g0 : decide ((0 : Int) < z) = false := by simpa using h0
        clear HK HB H0
        go_wp2
        go_ret
        exact ⟨rfl, _, rfl⟩
/-- What is at a place within is what begins there. -/
theorem isP_lt (K : SG.Kinds) {l : List Int} {i : Nat} (h : i < l.length) : isP K l i = SG.begAt K l i := by
  unfold isP
  rw [show (i == l.length) = false by simp; omega, Bool.false_or]
set_option maxHeartbeats 4000000 in
theorem rceil_any {W : World} {A : Option Addr} {c : Nat} {T : List RW.Row} {A2 : Option Addr} {l : List Int} (c2 : Nat) (h : RT W A c T A2 l) (hc2 : l.length ≤ c2) (a : Int) (ha : -9223372036854775808 ≤ a) (ha2 : a ≤ 9223372036854775807) :
    Calls Tryz.prog 29 #[.slice A T.length c, .slice A2 l.length c2, .int .i64 a] W fun e w' => e = .returned (.int .i64 (SG.nextP (KT T) l a.toNat : Nat)) ∧ ∃ m, w' = W.drewN m := by
  have HB := Lib.hid (fun (n : Nat) (i : Nat) (hi : i ≤ l.length) => ris_any c2 (h.later (selfDrew W n)) hc2 i hi)
  have hln := h.ln
  clear h
  obtain ⟨v, hv⟩ : ∃ v, SG.nextP (KT T) l a.toNat = v := ⟨_, rfl⟩
  rw [hv]
  have HV := Lib.hid hv
  clear hv
  obtain ⟨s, hs, hs2⟩ : ∃ s : Nat, a.toNat = s ∧ (s : Int) ≤ 9223372036854775807 := ⟨_, rfl, by omega⟩
  rw [hs] at HV
  go_enter Tryz.func29, Tryz.ntmps29
  by_cases hb : a < 0
  · obtain rfl : s = 0 := by omega
    have d0 : decide (a < 0) = true := by simpa using hb
    clear hb hs
    go_wp2
    go_loopw [7] (fun i wr => ∃ k : Nat, (k : Int) ≤ 9223372036854775807 ∧ i = .int .i64 k ∧ Hid (SG.nextP (KT T) l k = v) ∧ ∃ m, wr = W.drewN m) (fun i _ => l.length - (intOf i).toNat)
    case atStart => exact ⟨0, by omega, rfl, HV, 0, rfl⟩
    case round =>
      obtain ⟨k, hk, rfl, HK, m, rfl⟩ := hrel
      by_cases hlt : k < l.length
      · have C := HB.out m k (by omega)
        rw [isP_lt _ hlt] at C
        obtain ⟨q, hq⟩ : ∃ q, SG.begAt (KT T) l k = q := ⟨_, rfl⟩
        rw [hq] at C
        have C := Lib.hid C
        have HQ := Lib.hid hq
        clear hq
        have g0 : (k : Int) < (l.length : Int) := by omega
        go_wp2_with fail
        refine C.out.mono ?_
        rintro e w1 ⟨rfl, m2, rfl⟩
        clear C
        cases q
        case false =>
          have HN := Lib.hid (show SG.nextP (KT T) l (k + 1) = v by rw [← SG.nextP_no hlt HQ.out]; exact HK.out)
          clear HK HQ
          go_wp2
          go_roundw
          case rel => exact ⟨k + 1, by omega, by go_num, HN, _, rfl⟩
          case measure => simp [intOf]; omega
        case true =>
          obtain rfl : k = v := by rw [← HK.out, SG.nextP_yes hlt HQ.out]
          clear HK HQ HB HV
          go_wp2
          go_ret
          exact ⟨rfl, _, rfl⟩
      · obtain rfl : l.length = v := by rw [← HK.out, SG.nextP_end (by omega)]
        have g0 : (l.length : Int) ≤ (k : Int) := by omega
        clear HK HB HV
        go_wp2
        go_ret
        exact ⟨rfl, _, rfl⟩
  · obtain rfl : a = s := by omega
    have d0 : decide ((s : Int) < 0) = false := by simp
    clear hb hs
    go_wp2
    go_loopw [7] (fun i wr => ∃ k : Nat, (k : Int) ≤ 9223372036854775807 ∧ i = .int .i64 k ∧ Hid (SG.nextP (KT T) l k = v) ∧ ∃ m, wr = W.drewN m) (fun i _ => l.length - (intOf i).toNat)
    case atStart => exact ⟨s, hs2, rfl, HV, 0, rfl⟩
    case round =>
      obtain ⟨k, hk, rfl, HK, m, rfl⟩ := hrel
      by_cases hlt : k < l.length
      · have C := HB.out m k (by omega)
        rw [isP_lt _ hlt] at C
        obtain ⟨q, hq⟩ : ∃ q, SG.begAt (KT T) l k = q := ⟨_, rfl⟩
        rw [hq] at C
        have C := Lib.hid C
        have HQ := Lib.hid hq
        clear hq
        have g0 : (k : Int) < (l.length : Int) := by omega
        go_wp2_with fail
        refine C.out.mono ?_
        rintro e w1 ⟨rfl, m2, rfl⟩
        clear C
        cases q
        case false =>
          have HN := Lib.hid (show SG.nextP (KT T) l (k + 1) = v by rw [← SG.nextP_no hlt HQ.out]; exact HK.out)
          clear HK HQ
          go_wp2
          go_roundw
          case rel => exact ⟨k + 1, by omega, by go_num, HN, _, rfl⟩
          case measure => simp [intOf]; omega
        case true =>
          obtain rfl : k = v := by rw [← HK.out, SG.nextP_yes hlt HQ.out]
          clear HK HQ HB HV
          go_wp2
          go_ret
          exact ⟨rfl, _, rfl⟩
      · obtain rfl : l.length = v := by rw [← HK.out, SG.nextP_end (by omega)]
        have g0 : (l.length : Int) ≤ (k : Int) := by omega
        clear HK HB HV
        go_wp2
        go_ret
        exact ⟨rfl, _, rfl⟩
end Go.Proofs.YtggapcfjcdafpaaGreat

namespace Go.Proofs.YtggapcfjcdafpaaGreat
open Go.RowKit
set_option linter.unusedVariables false
set_option linter.unusedSimpArgs false

/-- Behind a place where nothing begins up to one where something does, or the end. -/
theorem next_quiet {K : SG.Kinds} {l : List Int} {n : Nat} (hn : n ≤ l.length) (he : n = l.length ∨ SG.begAt K l n = true) : ∀ (d i : Nat), i + d = n → (∀ j, i ≤ j → j < n → SG.begAt K l j = false) → SG.nextP K l i = n := by
  intro d
  induction d with
  | zero =>
    intro i hi _
    obtain rfl : i = n := by omega
    rcases Nat.lt_or_ge i l.length with h | h
    · rcases he with e | e
      · omega
      · exact SG.nextP_yes h e
    · rw [SG.nextP_end h]; omega
  | succ d ih =>
    intro i hi hq
    rw [SG.nextP_no (by omega) (hq i (Nat.le_refl _) (by omega))]
    exact ih (i + 1) (by omega) fun j h1 h2 => hq j (by omega) h2
theorem floor_quiet {K : SG.Kinds} {l : List Int} {f : Nat} (hb : SG.begAt K l f = true) : ∀ (d a : Nat), f + d = a → a < l.length → (∀ j, f < j → j ≤ a → SG.begAt K l j = false) → floorP K l a = f := by
  intro d
  induction d with
  | zero =>
    intro a ha hal _
    obtain rfl : f = a := by omega
    cases f with
    | zero => rfl
    | succ f => rw [floorP, if_pos (by rw [isP_lt K hal]; exact hb)]
  | succ d ih =>
    intro a ha hal hq
    obtain ⟨a', rfl⟩ : ∃ a', a = a' + 1 := ⟨a - 1, by omega⟩
    rw [floorP, if_neg (by rw [isP_lt K hal, hq (a' + 1) (by omega) (Nat.le_refl _)]; exact Bool.false_ne_true)]
    exact ih a' (by omega) (by omega) fun j h1 h2 => hq j h1 (by omega)
/-- The two around a place. -/
theorem around_end {K : SG.Kinds} {l : List Int} {f n a : Nat} (hb : SG.begAt K l f = true) (hfa : f ≤ a) (han : a < n) (hn : n ≤ l.length) (he : n = l.length ∨ SG.begAt K l n = true) (hq : ∀ j, f < j → j < n → SG.begAt K l j = false) : floorP K l a = f ∧ SG.nextP K l (a + 1) = n :=
  ⟨floor_quiet hb (a - f) a (by omega) (by omega) fun j h1 h2 => hq j h1 (by omega), next_quiet hn he (n - (a + 1)) (a + 1) (by omega) fun j h1 h2 => hq j (by omega) h2⟩
theorem known_at {K : SG.Kinds} {l : List Int} {i : Nat} (hi : i + 1 < l.length) (h : SG.knownP K (l.getD i 0) (l.getD (i + 1) 0) = true) : SG.begAt K l (i + 1) = true := by
  unfold SG.begAt
  rw [SG.take_rev_succ (by omega)]
  exact SG.known_begins _ h
theorem floorI_low {K : SG.Kinds} {l : List Int} {a : Int} (h : a ≤ 0) : floorI K l a = 0 := by
  unfold floorI
  rw [show (min a (l.length : Int)).toNat = 0 by omega]
  rfl
theorem floorP_len (K : SG.Kinds) (l : List Int) : floorP K l l.length = l.length := by
  cases h : l.length with
  | zero => rfl
  | succ n => rw [floorP, if_pos (by unfold isP; simp [h])]
theorem floorI_high {K : SG.Kinds} {l : List Int} {a : Int} (h : (l.length : Int) ≤ a) : floorI K l a = l.length := by
  unfold floorI
  rw [Int.min_eq_right h]
  exact floorP_len K l
theorem floorI_at {K : SG.Kinds} {l : List Int} {a : Nat} (h : a ≤ l.length) : floorI K l a = floorP K l a := by
  unfold floorI
  rw [Int.min_eq_left (by omega)]
  rfl
theorem floorP_le (K : SG.Kinds) (l : List Int) : ∀ a, floorP K l a ≤ a := by
  intro a
  induction a with
  | zero => exact Nat.le_refl _
  | succ a ih =>
    rw [floorP]
    split
    · exact Nat.le_refl _
    · omega
theorem floorP_is (K : SG.Kinds) (l : List Int) (a : Nat) : (floorP K l a = a) ↔ (a = 0 ∨ isP K l a = true) := by
  cases a with
  | zero => exact ⟨fun _ => .inl rfl, fun _ => rfl⟩
  | succ a =>
    rw [floorP]
    by_cases h : isP K l (a + 1) = true
    · rw [if_pos h]; exact ⟨fun _ => .inr h, fun _ => rfl⟩
    · rw [if_neg h]
      have := floorP_le K l a
      constructor
      · intro e; omega
      · intro e; rcases e with e | e
        · omega
        · exact absurd e h
theorem isP_zero (K : SG.Kinds) (l : List Int) : isP K l 0 = true := by
  unfold isP
  rw [SG.begAt_zero, Bool.or_true]
theorem nextP_zero (K : SG.Kinds) (l : List Int) : SG.nextP K l 0 = 0 := by
  rcases Nat.eq_zero_or_pos l.length with h | h
  · rw [SG.nextP_end (by omega), h]
  · exact SG.nextP_yes h (SG.begAt_zero K l)
/-- Of a list that rises, what stands between two neighbours is none of it. -/
theorem between {L : List Nat} (hs : L.Pairwise (· < ·)) {i j : Nat} (hi : i + 1 < L.length) (h1 : L[i]'(by omega) < j) (h2 : j < L[i + 1]) : j ∉ L := by
  intro hm
  obtain ⟨k, hk, e⟩ := List.getElem_of_mem hm
  have hp := List.pairwise_iff_getElem.1 hs
  rcases Nat.lt_trichotomy k i with h | h | h
  · have := hp k i hk (by omega) h; omega
  · subst h; omega
  · rcases Nat.lt_trichotomy k (i + 1) with h' | h' | h'
    · omega
    · subst h'; omega
    · have := hp (i + 1) k hi hk h'; omega
theorem beyond {L : List Nat} (hs : L.Pairwise (· < ·)) {j : Nat} (hi : 0 < L.length) (h1 : L[L.length - 1]'(by omega) < j) : j ∉ L := by
  intro hm
  obtain ⟨k, hk, e⟩ := List.getElem_of_mem hm
  have hp := List.pairwise_iff_getElem.1 hs
  rcases Nat.lt_or_ge k (L.length - 1) with h | h
  · have := hp k (L.length - 1) hk (by omega) h; omega
  · have h3 : k = L.length - 1 := by omega
    subst h3; omega
theorem not_begins {K : SG.Kinds} {l : List Int} {j : Nat} (hj : j < l.length) (h : j ∉ SG.startsP K l) : SG.begAt K l j = false := by
  cases e : SG.begAt K l j with
  | false => rfl
  | true => exact absurd (List.mem_filter.2 ⟨List.mem_range.2 hj, e⟩) h
/-- The next of the places. -/
theorem starts_next {K : SG.Kinds} {l : List Int} {i : Nat} (hi : i + 1 < (SG.startsP K l).length) : SG.nextP K l ((SG.startsP K l)[i]'(by omega) + 1) = (SG.startsP K l)[i + 1] ∧ floorP K l ((SG.startsP K l)[i + 1] - 1) = (SG.startsP K l)[i]'(by omega) := by
  have hs := SG.starts_sorted K l
  have h0 := SG.starts_mem (List.getElem_mem (show i < (SG.startsP K l).length by omega))
  have h1 := SG.starts_mem (List.getElem_mem hi)
  have hlt := List.pairwise_iff_getElem.1 hs i (i + 1) (by omega) hi (by omega)
  have q : ∀ j, (SG.startsP K l)[i]'(by omega) < j → j < (SG.startsP K l)[i + 1] → SG.begAt K l j = false := fun j a b => not_begins (by omega) (between hs hi a b)
  have := around_end (a := (SG.startsP K l)[i + 1] - 1) h0.2 (by omega) (by omega) (by omega) (.inr h1.2) q
  exact ⟨next_quiet (by omega) (.inr h1.2) _ _ (Nat.add_sub_cancel' hlt) fun j a b => q j (by omega) b, this.1⟩
theorem starts_last {K : SG.Kinds} {l : List Int} (hi : 0 < (SG.startsP K l).length) : SG.nextP K l ((SG.startsP K l)[(SG.startsP K l).length - 1]'(by omega) + 1) = l.length ∧ floorP K l (l.length - 1) = (SG.startsP K l)[(SG.startsP K l).length - 1]'(by omega) := by
  have hs := SG.starts_sorted K l
  have h0 := SG.starts_mem (List.getElem_mem (show (SG.startsP K l).length - 1 < (SG.startsP K l).length by omega))
  have q : ∀ j, (SG.startsP K l)[(SG.startsP K l).length - 1]'(by omega) < j → j < l.length → SG.begAt K l j = false := fun j a b => not_begins b (beyond hs hi a)
  have := around_end (a := l.length - 1) h0.2 (by omega) (by omega) (by omega) (.inl rfl) q
  exact ⟨next_quiet (by omega) (.inl rfl) (l.length - ((SG.startsP K l)[(SG.startsP K l).length - 1]'(by omega) + 1)) _ (by omega) fun j a b => q j (by omega) b, this.1⟩
end Go.Proofs.YtggapcfjcdafpaaGreat
