/- seg: parts. -/
import Derived.Test.YtggapcfjcdafpaaGreatGb27
namespace Go.Proofs.YtggapcfjcdafpaaGreat
open Go.RowKit
set_option linter.unusedVariables false
set_option linter.unusedSimpArgs false

theorem par_int (S : Nat) : (((S : Int) % 2 == 1) : Bool) = ((6 : Int) == 6 && S % 2 == 1) := by
  have h : ((6 : Int) == 6) = true := rfl
  rw [h, Bool.true_and]
  rcases Nat.mod_two_eq_zero_or_one S with e | e
  · rw [e, show (S : Int) % 2 = 0 by omega]; rfl
  · rw [e, show (S : Int) % 2 = 1 by omega]; rfl
set_option maxHeartbeats 4000000 in
theorem flagged_any {W : World} {A : Option Addr} {c : Nat} {T : List RW.Row} {A2 : Option Addr} {l : List Int} (c2 : Nat) (h : RT W A c T A2 l) (hc2 : l.length ≤ c2) (i : Nat) (hi : i < l.length) :
    Calls Tryz.prog 58 #[.slice A T.length c, .slice A2 l.length c2, .int .i64 i] W fun e w' => e = .returned (.bool ((KT T).br (l.getD i 0) == 6 && SG.flags (KT T) (l.take i).reverse % 2 == 1)) ∧ W = w' := by
  obtain ⟨b, o, rfl, hb, _, hcell⟩ := h.txt.scs (by omega)
  have HC := Lib.hid hcell
  have hci := hcell i hi
  have HJ := Lib.hid (fun (j : Nat) (hj : j < l.length) => h.br hj)
  have C0 := Lib.hid (h.br hi)
  have hln := h.ln
  obtain ⟨v, hv⟩ : ∃ v, (KT T).br (l.getD i 0) = v := ⟨_, rfl⟩
  obtain ⟨r, hr⟩ : ∃ r, l.getD i 0 = r := ⟨_, rfl⟩
  rw [hv] at C0 ⊢
  rw [hr] at C0 hci
  have hi0 : (i : Int) < (l.length : Int) := by omega
  have hi1 : (0 : Int) ≤ (i : Int) := by omega
  obtain ⟨S, hS⟩ : ∃ S, SG.flags (KT T) (l.take i).reverse = S := ⟨_, rfl⟩
  rw [hS]
  have HS := Lib.hid hS
  clear h hcell hv hr hS
  by_cases e2 : v = 6
  · subst e2
    obtain ⟨Z, hZ⟩ : ∃ Z, ((6 : Int) == 6 && S % 2 == 1) = Z := ⟨_, rfl⟩
    rw [hZ]
    have HZ := Lib.hid hZ
    clear hZ
    go_enter Tryz.func58, Tryz.ntmps58
    go_wp2_with fail
    refine C0.out.mono ?_
    rintro e w1 ⟨rfl, rfl⟩
    clear C0 hci
    go_wp2
    go_loop [7, 8] (fun n z => ∃ (m x : Nat) (q : Int), m ≤ i ∧ x + m ≤ i ∧ n = .int .i64 x ∧ z = .int .i64 q ∧ Hid (q = (m : Int) - 1) ∧ Hid (S = SG.flags (KT T) (l.take m).reverse + x)) (fun _ z => (intOf z + 1).toNat)
    case atStart => exact ⟨i, 0, (i : Int) - 1, Nat.le_refl _, by omega, rfl, by go_num, Lib.hid rfl, Lib.hid HS.out.symm⟩
    case round =>
      obtain ⟨m, x, q, hm, hxm, rfl, rfl, HQ, HV⟩ := hrel
      by_cases h0 : 0 ≤ q
      · obtain ⟨j, e1, e3, hj⟩ := back_z HQ.out hm h0
        have hjl : j < l.length := by omega
        have hcj := HC.out j hjl
        have C1 := Lib.hid (HJ.out j hjl)
        have hV := HV.out
        rw [e1, SG.take_rev_succ hjl, SG.flags_cons] at hV
        obtain ⟨v, hv⟩ : ∃ v, (KT T).br (l.getD j 0) = v := ⟨_, rfl⟩
        obtain ⟨r', hr'⟩ : ∃ r', l.getD j 0 = r' := ⟨_, rfl⟩
        rw [hv] at C1 hV
        rw [hr'] at C1 hcj
        have HV1 := Lib.hid hV
        have HM := Lib.hid e1
        subst e3
        have j0 : (j : Int) < (l.length : Int) := by omega
        have j1 : (0 : Int) ≤ (j : Int) := by omega
        clear hV hv hr' e1 HV HQ h0
        go_wp2_with fail
        refine C1.out.mono ?_
        rintro e w1 ⟨rfl, rfl⟩
        clear C1 hcj
        by_cases a2 : v = 6
        · have HN := Lib.hid (show S = SG.flags (KT T) (l.take j).reverse + (x + 1) by rw [HV1.out, if_pos a2]; omega)
          subst a2
          clear HV1
          go_wp2
          go_round
          case rel => exact ⟨j, x + 1, (j : Int) - 1, by have := HM.out; omega, by have := HM.out; omega, by go_num, by go_num, Lib.hid rfl, HN⟩
          case measure => simp [intOf]
        · obtain rfl : S = x := by rw [HV1.out, if_neg a2, Nat.zero_add]
          have d2 : (v == 6) = false := by simpa using a2
          have hx0 : (0 : Int) ≤ (S : Int) := by omega
          clear HV1 HM
          go_wp2
          go_ret
          refine ⟨?_, rfl⟩
          rw [← HZ.out]
          exact congrArg (fun x => Ending.returned (.bool x)) (par_int S)
      · obtain rfl : m = 0 := by have := HQ.out; omega
        obtain rfl : S = x := by have := HV.out; rw [this]; exact Nat.zero_add x
        clear HV HQ
        go_wp2
        go_ret
        refine ⟨?_, rfl⟩
        rw [← HZ.out]
        exact congrArg (fun x => Ending.returned (.bool x)) (par_int S)
  · have d2 : (v != 6) = true := by simpa using e2
    have d3 : (v == 6) = false := by simpa using e2
    rw [d3]
    clear e2 d3
    go_enter Tryz.func58, Tryz.ntmps58
    go_wp2_with fail
    refine C0.out.mono ?_
    rintro e w1 ⟨rfl, rfl⟩
    clear C0 hci
    go_wp2
    go_ret
    exact ⟨rfl, rfl⟩

set_option maxHeartbeats 4000000 in
theorem pictured_any {W : World} {A : Option Addr} {c : Nat} {T : List RW.Row} {A2 : Option Addr} {l : List Int} (c2 : Nat) (h : RT W A c T A2 l) (hc2 : l.length ≤ c2) (i : Nat) (hi : i + 1 < l.length) :
    Calls Tryz.prog 57 #[.slice A T.length c, .slice A2 l.length c2, .int .i64 ((i : Int) + 1)] W fun e w' => e = .returned (.bool ((KT T).pc (l.getD (i + 1) 0) && (KT T).br (l.getD i 0) == 5 && SG.pcScan (KT T) (l.take i).reverse)) ∧ W = w' := by
  obtain ⟨b, o, rfl, hb, _, hcell⟩ := h.txt.scs (by omega)
  have HC := Lib.hid hcell
  have hci := hcell (i + 1) hi
  have hcj := hcell i (by omega)
  have HJ := Lib.hid (fun (j : Nat) (hj : j < l.length) => h.br hj)
  have HP := Lib.hid (fun (j : Nat) (hj : j < l.length) => h.pc hj)
  have C0 := Lib.hid (h.pc hi)
  have C1 := Lib.hid (h.br (show i < l.length by omega))
  have hln := h.ln
  have hpc : (KT T).pc (l.getD (i + 1) 0) = (at0 0 (vget 5 T) (l.getD (i + 1) 0) == 1) := rfl
  obtain ⟨v, hv⟩ : ∃ v, at0 0 (vget 5 T) (l.getD (i + 1) 0) = v := ⟨_, rfl⟩
  obtain ⟨u, hu⟩ : ∃ u, (KT T).br (l.getD i 0) = u := ⟨_, rfl⟩
  obtain ⟨r, hr⟩ : ∃ r, l.getD (i + 1) 0 = r := ⟨_, rfl⟩
  obtain ⟨r2, hr2⟩ : ∃ r, l.getD i 0 = r := ⟨_, rfl⟩
  rw [hpc, hv, hu]
  rw [hv, hr] at C0
  rw [hu, hr2] at C1
  rw [hr] at hci
  rw [hr2] at hcj
  have hi0 : (i : Int) + 1 < (l.length : Int) := by omega
  have hi1 : (0 : Int) ≤ (i : Int) + 1 := by omega
  have hi2 : (i : Int) < (l.length : Int) := by omega
  have hi3 : (0 : Int) ≤ (i : Int) := by omega
  obtain ⟨S, hS⟩ : ∃ S, SG.pcScan (KT T) (l.take i).reverse = S := ⟨_, rfl⟩
  rw [hS]
  have HS := Lib.hid hS
  clear h hcell hv hr hS hpc hu hr2
  by_cases e2 : v = 1
  · subst e2
    by_cases e5 : u = 5
    · subst e5
      go_enter Tryz.func57, Tryz.ntmps57
      go_wp2_with fail
      refine C0.out.mono ?_
      rintro e w1 ⟨rfl, rfl⟩
      clear C0 hci
      go_wp2_with fail
      refine C1.out.mono ?_
      rintro e w1 ⟨rfl, rfl⟩
      clear C1 hcj
      go_wp2
      go_loop [7] (fun z => ∃ (m : Nat) (q : Int), m ≤ i ∧ z = .int .i64 q ∧ Hid (q = (m : Int) - 1) ∧ Hid (S = SG.pcScan (KT T) (l.take m).reverse)) (fun z => (intOf z + 1).toNat)
      case atStart => exact ⟨i, (i : Int) - 1, Nat.le_refl _, by go_num, Lib.hid rfl, Lib.hid HS.out.symm⟩
      case round =>
        obtain ⟨m, q, hm, rfl, HQ, HV⟩ := hrel
        by_cases h0 : 0 ≤ q
        · obtain ⟨j, e1, e3, hj⟩ := back_z HQ.out hm h0
          have hjl : j < l.length := by omega
          have hcj := HC.out j hjl
          have C1 := Lib.hid (HP.out j hjl)
          have C2 := Lib.hid (HJ.out j hjl)
          have hV := HV.out
          rw [e1, SG.take_rev_succ hjl, SG.pcScan_cons] at hV
          have hpc : (KT T).pc (l.getD j 0) = (at0 0 (vget 5 T) (l.getD j 0) == 1) := rfl
          rw [hpc] at hV
          obtain ⟨v, hv⟩ : ∃ v, at0 0 (vget 5 T) (l.getD j 0) = v := ⟨_, rfl⟩
          obtain ⟨u, hu⟩ : ∃ v, (KT T).br (l.getD j 0) = v := ⟨_, rfl⟩
          obtain ⟨r', hr'⟩ : ∃ r', l.getD j 0 = r' := ⟨_, rfl⟩
          rw [hv] at C1
          rw [hu] at C2
          rw [hv, hu] at hV
          rw [hr'] at C1 C2 hcj
          have HV1 := Lib.hid hV
          have HM := Lib.hid e1
          subst e3
          have j0 : (j : Int) < (l.length : Int) := by omega
          have j1 : (0 : Int) ≤ (j : Int) := by omega
          clear hV hv hr' e1 HV HQ h0 hm hpc hu
          go_wp2_with fail
          refine C1.out.mono ?_
          rintro e w1 ⟨rfl, rfl⟩
          clear C1
          by_cases a2 : v = 1
          · obtain rfl : S = true := by rw [HV1.out, if_pos (by simpa using a2)]
            subst a2
            clear HV1 C2 hcj
            go_wp2
            go_ret
            exact ⟨rfl, rfl⟩
          · have d2 : (v == 1) = false := by simpa using a2
            go_wp2_with fail
            refine C2.out.mono ?_
            rintro e w1 ⟨rfl, rfl⟩
            clear C2 hcj
            by_cases a4 : u = 4
            · have HN := Lib.hid (show S = SG.pcScan (KT T) (l.take j).reverse by rw [HV1.out, if_neg (by simpa using a2), if_neg (by simpa using a4)])
              subst a4
              clear HV1 a2
              go_wp2
              go_round
              case rel => exact ⟨j, (j : Int) - 1, by have := HM.out; omega, by go_num, Lib.hid rfl, HN⟩
              case measure => simp [intOf]
            · have d4 : (u != 4) = true := by simpa using a4
              obtain rfl : S = false := by rw [HV1.out, if_neg (by simpa using a2), if_pos a4]
              clear HV1 a2 a4
              go_wp2
              go_ret
              exact ⟨rfl, rfl⟩
        · obtain rfl : m = 0 := by have := HQ.out; omega
          obtain rfl : S = false := HV.out
          clear HV HQ
          go_wp2
          go_ret
          exact ⟨rfl, rfl⟩
    · have d2 : (u != 5) = true := by simpa using e5
      have d3 : (u == 5) = false := by simpa using e5
      rw [d3]
      clear e5 d3
      go_enter Tryz.func57, Tryz.ntmps57
      go_wp2_with fail
      refine C0.out.mono ?_
      rintro e w1 ⟨rfl, rfl⟩
      clear C0 hci
      go_wp2_with fail
      refine C1.out.mono ?_
      rintro e w1 ⟨rfl, rfl⟩
      clear C1 hcj
      go_wp2
      go_ret
      exact ⟨rfl, rfl⟩
  · have d2 : (v != 1) = true := by simpa using e2
    have d3 : (v == 1) = false := by simpa using e2
    rw [d3]
    clear e2 d3
    go_enter Tryz.func57, Tryz.ntmps57
    go_wp2_with fail
    refine C0.out.mono ?_
    rintro e w1 ⟨rfl, rfl⟩
    clear C0 C1 hci hcj
    go_wp2
    go_ret
    exact ⟨rfl, rfl⟩
end Go.Proofs.YtggapcfjcdafpaaGreat

namespace Go.Proofs.YtggapcfjcdafpaaGreat
open Go.RowKit
set_option linter.unusedVariables false
set_option linter.unusedSimpArgs false

/-- What begins at a place behind the first, with all that it hangs on told by letters. -/
theorem begAt_succ (K : SG.Kinds) {l : List Int} {k : Nat} (hk : k < l.length) : SG.begAt K l (k + 1) = SG.rule (K.br (l.getD k 0)) (K.br (l.getD (k + 1) 0)) (K.cj (l.getD (k + 1) 0) == 2 && SG.cjScan K (l.take (k + 1)).reverse false) (K.pc (l.getD (k + 1) 0) && K.br (l.getD k 0) == 5 && SG.pcScan K (l.take k).reverse) (K.br (l.getD (k + 1) 0) == 6 && SG.flags K (l.take (k + 1)).reverse % 2 == 1) := by
  unfold SG.begAt
  rw [SG.take_rev_succ hk]
  rfl
theorem hard_is (a : Int) (p : Bool) (h : SG.controlB a = p) (X : World) : Calls Tryz.prog 54 #[.int .i64 a] X fun e w' => e = .returned (.bool p) ∧ X = w' := by
  subst h
  exact hard_any a X
theorem hangul_is (a b : Int) (p : Bool) (h : SG.syllB a b = p) (X : World) : Calls Tryz.prog 55 #[.int .i64 a, .int .i64 b] X fun e w' => e = .returned (.bool p) ∧ X = w' := by
  subst h
  exact hangul_any a b X
theorem ctrl_one : SG.controlB 1 = true := rfl

set_option maxHeartbeats 4000000 in
set_option maxRecDepth 100000 in
theorem begins_any {W : World} {A : Option Addr} {c : Nat} {T : List RW.Row} {A2 : Option Addr} {l : List Int} (c2 : Nat) (h : RT W A c T A2 l) (hc2 : l.length ≤ c2) (i : Nat) (hi : i < l.length) :
    Calls Tryz.prog 20 #[.slice A T.length c, .slice A2 l.length c2, .int .i64 i] W fun e w' => e = .returned (.bool (SG.begAt (KT T) l i)) ∧ ∃ m, w' = W.drewN m := by
  rcases i with _ | k
  · rw [show SG.begAt (KT T) l 0 = true from rfl, show ((0 : Nat) : Int) = 0 from rfl]
    clear h
    go_enter Tryz.func20, Tryz.ntmps20
    go_wp2
    go_ret
    exact ⟨rfl, 0, rfl⟩
  · rw [begAt_succ (KT T) (show k < l.length by omega)]
    have HJ := Lib.hid (fun (n : Nat) => conjoined_any c2 (h.later (selfDrew W n)) hc2 (k + 1) hi)
    have HP := Lib.hid (fun (n : Nat) => pictured_any c2 (h.later (selfDrew W n)) hc2 k hi)
    have HF := Lib.hid (fun (n : Nat) => flagged_any c2 (h.later (selfDrew W n)) hc2 (k + 1) hi)
    have C1 := Lib.hid (fun (n : Nat) => (h.later (selfDrew W n)).br (show k < l.length by omega))
    have C2 := Lib.hid (fun (n : Nat) => (h.later (selfDrew W n)).br hi)
    obtain ⟨b, o, rfl, hb, _, hcell⟩ := h.txt.scs (by omega)
    have l0 := hcell k (by omega)
    have l1 := hcell (k + 1) hi
    have hln := h.ln
    clear h hcell
    obtain ⟨z, hz⟩ : ∃ z, ((KT T).br (l.getD (k + 1) 0) == 6 && SG.flags (KT T) (l.take (k + 1)).reverse % 2 == 1) = z := ⟨_, rfl⟩
    obtain ⟨y, hy⟩ : ∃ z, ((KT T).pc (l.getD (k + 1) 0) && (KT T).br (l.getD k 0) == 5 && SG.pcScan (KT T) (l.take k).reverse) = z := ⟨_, rfl⟩
    obtain ⟨x, hx⟩ : ∃ z, ((KT T).cj (l.getD (k + 1) 0) == 2 && SG.cjScan (KT T) (l.take (k + 1)).reverse false) = z := ⟨_, rfl⟩
    rw [hx, hy, hz]
    rw [hx] at HJ
    rw [hy] at HP
    rw [hz] at HF
    obtain ⟨a, ha⟩ : ∃ a, (KT T).br (l.getD k 0) = a := ⟨_, rfl⟩
    obtain ⟨nw, hnw⟩ : ∃ a, (KT T).br (l.getD (k + 1) 0) = a := ⟨_, rfl⟩
    obtain ⟨r1, hr1⟩ : ∃ a, l.getD k 0 = a := ⟨_, rfl⟩
    obtain ⟨r2, hr2⟩ : ∃ a, l.getD (k + 1) 0 = a := ⟨_, rfl⟩
    rw [ha, hnw]
    rw [ha, hr1] at C1
    rw [hnw, hr2] at C2
    rw [hr1] at l0
    rw [hr2] at l1
    rw [show ((k + 1 : Nat) : Int) = (k : Int) + 1 from rfl] at HJ HF ⊢
    obtain ⟨R, hR⟩ : ∃ R, SG.rule a nw x y z = R := ⟨_, rfl⟩
    rw [hR]
    have HR := Lib.hid hR
    clear hx hy hz ha hnw hr1 hr2 hR
    have g0 : (k : Int) + 1 < (l.length : Int) := by omega
    have g1 : (0 : Int) ≤ (k : Int) + 1 := by omega
    have g2 : (k : Int) < (l.length : Int) := by omega
    have g3 : (0 : Int) ≤ (k : Int) := by omega
    have g4 : ((k : Int) + 1 == 0) = false := by simp; omega
    go_enter Tryz.func20, Tryz.ntmps20
    go_wp2_with fail
    go_quiet ((go_at_call 53; first | with_reducible exact quiet_here (C1.out _) | with_reducible exact quiet_here (C2.out _)))
    clear C1 C2 l0 l1
    by_cases a1 : a = 1
    · subst a1
      have CA := Lib.hid (fun X => hard_is 1 true rfl X)
      by_cases n2 : nw = 2
      · subst n2
        obtain rfl : R = false := by rw [← HR.out]; rfl
        clear HR HJ HP HF CA
        go_wp2
        go_ret
        exact ⟨rfl, _, rfl⟩
      · have d2 : (nw == 2) = false := by simpa using n2
        obtain rfl : R = true := by rw [← HR.out]; simp [SG.rule, n2, ctrl_one]
        clear HR HJ HP HF n2
        go_wp2_with fail
        refine (CA.out _).mono ?_
        rintro e w1 ⟨rfl, rfl⟩
        clear CA
        go_wp2
        go_ret
        exact ⟨rfl, _, rfl⟩
    · have d1 : (a == 1) = false := by simpa using a1
      obtain ⟨p, hp⟩ : ∃ p, SG.controlB a = p := ⟨_, rfl⟩
      have CA := Lib.hid (fun X => hard_is a p hp X)
      cases p
      case true =>
        obtain rfl : R = true := by rw [← HR.out]; simp [SG.rule, a1, hp]
        clear HR HJ HP HF a1 hp
        go_wp2_with fail
        refine (CA.out _).mono ?_
        rintro e w1 ⟨rfl, rfl⟩
        clear CA
        go_wp2
        go_ret
        exact ⟨rfl, _, rfl⟩
      case false =>
        obtain ⟨p, hp2⟩ : ∃ p, SG.controlB nw = p := ⟨_, rfl⟩
        have CB := Lib.hid (fun X => hard_is nw p hp2 X)
        go_wp2_with fail
        refine (CA.out _).mono ?_
        rintro e w1 ⟨rfl, rfl⟩
        clear CA
        go_wp2_with fail
        refine (CB.out _).mono ?_
        rintro e w1 ⟨rfl, rfl⟩
        clear CB
        cases p
        case true =>
          obtain rfl : R = true := by rw [← HR.out]; simp [SG.rule, a1, hp2]
          clear HR HJ HP HF a1 hp hp2
          go_wp2
          go_ret
          exact ⟨rfl, _, rfl⟩
        case false =>
          obtain ⟨p, hp3⟩ : ∃ p, SG.syllB a nw = p := ⟨_, rfl⟩
          have CS := Lib.hid (fun X => hangul_is a nw p hp3 X)
          have HR1 := Lib.hid (show R = if p = true then false else if nw = 4 ∨ nw = 5 ∨ nw = 8 ∨ a = 7 then false else !x && !y && !z by rw [← HR.out]; simp [SG.rule, a1, hp, hp2, hp3])
          clear HR hp hp2 hp3 a1
          go_wp2_with fail
          refine (CS.out _).mono ?_
          rintro e w1 ⟨rfl, rfl⟩
          clear CS
          cases p
          case true =>
            obtain rfl : R = false := HR1.out
            clear HR1 HJ HP HF
            go_wp2
            go_ret
            exact ⟨rfl, _, rfl⟩
          case false =>
            by_cases n4 : nw = 4
            · obtain rfl : R = false := by rw [HR1.out]; simp [n4]
              subst n4
              clear HR1 HJ HP HF
              go_wp2
              go_ret
              exact ⟨rfl, _, rfl⟩
            · have d4 : (nw == 4) = false := by simpa using n4
              by_cases n5 : nw = 5
              · obtain rfl : R = false := by rw [HR1.out]; simp [n5]
                subst n5
                clear HR1 HJ HP HF
                go_wp2
                go_ret
                exact ⟨rfl, _, rfl⟩
              · have d5 : (nw == 5) = false := by simpa using n5
                by_cases n8 : nw = 8
                · obtain rfl : R = false := by rw [HR1.out]; simp [n8]
                  subst n8
                  clear HR1 HJ HP HF
                  go_wp2
                  go_ret
                  exact ⟨rfl, _, rfl⟩
                · have d8 : (nw == 8) = false := by simpa using n8
                  by_cases a7 : a = 7
                  · obtain rfl : R = false := by rw [HR1.out]; simp [a7]
                    subst a7
                    clear HR1 HJ HP HF
                    go_wp2
                    go_ret
                    exact ⟨rfl, _, rfl⟩
                  · have d7 : (a == 7) = false := by simpa using a7
                    obtain rfl : R = (!x && !y && !z) := by rw [HR1.out]; simp [n4, n5, n8, a7]
                    clear HR1 n4 n5 n8 a7
                    go_wp2_with fail
                    refine (HJ.out _).mono ?_
                    rintro e w1 ⟨rfl, rfl⟩
                    clear HJ
                    cases x
                    case true =>
                      clear HP HF
                      go_wp2
                      go_ret
                      exact ⟨rfl, _, rfl⟩
                    case false =>
                      go_wp2_with fail
                      refine (HP.out _).mono ?_
                      rintro e w1 ⟨rfl, rfl⟩
                      clear HP
                      cases y
                      case true =>
                        clear HF
                        go_wp2
                        go_ret
                        exact ⟨rfl, _, rfl⟩
                      case false =>
                        go_wp2_with fail
                        refine (HF.out _).mono ?_
                        rintro e w1 ⟨rfl, rfl⟩
                        clear HF
                        cases z <;> (go_wp2; go_ret; exact ⟨rfl, _, rfl⟩)
end Go.Proofs.YtggapcfjcdafpaaGreat

namespace Go.Proofs.YtggapcfjcdafpaaGreat
open Go.RowKit
set_option linter.unusedVariables false
set_option linter.unusedSimpArgs false

set_option maxHeartbeats 8000000 in
set_option maxRecDepth 100000 in
theorem parts_any (s : SG.St) (now conj : Int) (pict : Bool) (w : World) : Calls Tryz.prog 52 #[vSt s, .int .i64 now, .int .i64 conj, .bool pict] w fun e w' => e = .returned (.bool (SG.partsB s now conj pict)) ∧ Below w.heap.size w w' := by
  obtain ⟨s0, a, s2, s3, s4, s5⟩ := s
  dsimp only [vSt]
  obtain ⟨V, hV⟩ : ∃ V, SG.partsB ⟨s0, a, s2, s3, s4, s5⟩ now conj pict = V := ⟨_, rfl⟩
  rw [hV]
  have HV := Lib.hid hV
  clear hV
  have CA := Lib.hid (fun X => control_any a X)
  have CN := Lib.hid (fun X => control_any now X)
  have CS := Lib.hid (fun X => syllable_any a now X)
  by_cases ea : a = 1
  · subst ea
    by_cases en : now = 2
    · subst en
      obtain rfl : false = V := by rw [← HV.out]; unfold SG.partsB SG.rule; simp []
      clear HV
      go_enter Tryz.func52, Tryz.ntmps52
      go_wp2
      go_ret
      exact ⟨rfl, (Below.refl _ _).alloc (Nat.le_refl _) _⟩
    · have dn : (now == 2) = false := by simpa using en
      have ca : SG.controlB 1 = true := rfl
      simp only [ca] at CA
      obtain rfl : true = V := by rw [← HV.out]; unfold SG.partsB SG.rule; simp [en, ca]
      clear HV en
      go_enter Tryz.func52, Tryz.ntmps52
      go_wp2_with fail
      refine (CA.out _).mono ?_
      rintro e w1 ⟨rfl, rfl⟩
      go_wp2
      go_ret
      exact ⟨rfl, (Below.refl _ _).alloc (Nat.le_refl _) _⟩
  · have da : (a == 1) = false := by simpa using ea
    obtain ⟨x, hx⟩ : ∃ x, SG.controlB a = x := ⟨_, rfl⟩
    obtain ⟨y, hy⟩ : ∃ y, SG.controlB now = y := ⟨_, rfl⟩
    obtain ⟨z, hz⟩ : ∃ z, SG.syllB a now = z := ⟨_, rfl⟩
    simp only [hx] at CA
    simp only [hy] at CN
    simp only [hz] at CS
    have HX := Lib.hid hx
    have HY := Lib.hid hy
    have HZ := Lib.hid hz
    clear hx hy hz
    cases x
    case true =>
      obtain rfl : true = V := by rw [← HV.out]; unfold SG.partsB SG.rule; simp [ea, HX.out]
      clear HV ea
      go_enter Tryz.func52, Tryz.ntmps52
      go_wp2_with fail
      refine (CA.out _).mono ?_
      rintro e w1 ⟨rfl, rfl⟩
      go_wp2
      go_ret
      exact ⟨rfl, (Below.refl _ _).alloc (Nat.le_refl _) _⟩
    case false =>
    cases y
    case true =>
      obtain rfl : true = V := by rw [← HV.out]; unfold SG.partsB SG.rule; simp [ea, HX.out, HY.out]
      clear HV ea
      go_enter Tryz.func52, Tryz.ntmps52
      go_wp2_with fail
      refine (CA.out _).mono ?_
      rintro e w1 ⟨rfl, rfl⟩
      go_wp2_with fail
      refine (CN.out _).mono ?_
      rintro e w1 ⟨rfl, rfl⟩
      go_wp2
      go_ret
      exact ⟨rfl, (Below.refl _ _).alloc (Nat.le_refl _) _⟩
    case false =>
    cases z
    case true =>
      obtain rfl : false = V := by rw [← HV.out]; unfold SG.partsB SG.rule; simp [ea, HX.out, HY.out, HZ.out]
      clear HV ea
      go_enter Tryz.func52, Tryz.ntmps52
      go_wp2_with fail
      refine (CA.out _).mono ?_
      rintro e w1 ⟨rfl, rfl⟩
      go_wp2_with fail
      refine (CN.out _).mono ?_
      rintro e w1 ⟨rfl, rfl⟩
      go_wp2_with fail
      refine (CS.out _).mono ?_
      rintro e w1 ⟨rfl, rfl⟩
      go_wp2
      go_ret
      exact ⟨rfl, (Below.refl _ _).alloc (Nat.le_refl _) _⟩
    case false =>
    by_cases en4 : now = 4
    · subst en4
      obtain rfl : false = V := by rw [← HV.out]; unfold SG.partsB SG.rule; simp [ea, HX.out, HY.out, HZ.out]
      clear HV ea
      go_enter Tryz.func52, Tryz.ntmps52
      go_wp2_with fail
      refine (CA.out _).mono ?_
      rintro e w1 ⟨rfl, rfl⟩
      go_wp2_with fail
      refine (CN.out _).mono ?_
      rintro e w1 ⟨rfl, rfl⟩
      go_wp2_with fail
      refine (CS.out _).mono ?_
      rintro e w1 ⟨rfl, rfl⟩
      go_wp2
      go_ret
      exact ⟨rfl, (Below.refl _ _).alloc (Nat.le_refl _) _⟩
    · have dn4 : (now == 4) = false := by simpa using en4
      by_cases en5 : now = 5
      · subst en5
        obtain rfl : false = V := by rw [← HV.out]; unfold SG.partsB SG.rule; simp [ea, HX.out, HY.out, HZ.out, en4]
        clear HV ea en4
        go_enter Tryz.func52, Tryz.ntmps52
        go_wp2_with fail
        refine (CA.out _).mono ?_
        rintro e w1 ⟨rfl, rfl⟩
        go_wp2_with fail
        refine (CN.out _).mono ?_
        rintro e w1 ⟨rfl, rfl⟩
        go_wp2_with fail
        refine (CS.out _).mono ?_
        rintro e w1 ⟨rfl, rfl⟩
        go_wp2
        go_ret
        exact ⟨rfl, (Below.refl _ _).alloc (Nat.le_refl _) _⟩
      · have dn5 : (now == 5) = false := by simpa using en5
        by_cases en8 : now = 8
        · subst en8
          obtain rfl : false = V := by rw [← HV.out]; unfold SG.partsB SG.rule; simp [ea, HX.out, HY.out, HZ.out, en4, en5]
          clear HV ea en4 en5
          go_enter Tryz.func52, Tryz.ntmps52
          go_wp2_with fail
          refine (CA.out _).mono ?_
          rintro e w1 ⟨rfl, rfl⟩
          go_wp2_with fail
          refine (CN.out _).mono ?_
          rintro e w1 ⟨rfl, rfl⟩
          go_wp2_with fail
          refine (CS.out _).mono ?_
          rintro e w1 ⟨rfl, rfl⟩
          go_wp2
          go_ret
          exact ⟨rfl, (Below.refl _ _).alloc (Nat.le_refl _) _⟩
        · have dn8 : (now == 8) = false := by simpa using en8
          by_cases ea7 : a = 7
          · subst ea7
            obtain rfl : false = V := by rw [← HV.out]; unfold SG.partsB SG.rule; simp [HX.out, HY.out, HZ.out, en4, en5, en8]
            clear HV en4 en5 en8
            go_enter Tryz.func52, Tryz.ntmps52
            go_wp2_with fail
            refine (CA.out _).mono ?_
            rintro e w1 ⟨rfl, rfl⟩
            go_wp2_with fail
            refine (CN.out _).mono ?_
            rintro e w1 ⟨rfl, rfl⟩
            go_wp2_with fail
            refine (CS.out _).mono ?_
            rintro e w1 ⟨rfl, rfl⟩
            go_wp2
            go_ret
            exact ⟨rfl, (Below.refl _ _).alloc (Nat.le_refl _) _⟩
          · have da7 : (a == 7) = false := by simpa using ea7
            by_cases ec : conj = 2
            · subst ec
              by_cases es : s2 = 2
              · subst es
                obtain rfl : false = V := by rw [← HV.out]; unfold SG.partsB SG.rule; simp [ea, HX.out, HY.out, HZ.out, en4, en5, en8, ea7]
                clear HV ea en4 en5 en8 ea7
                go_enter Tryz.func52, Tryz.ntmps52
                go_wp2_with fail
                refine (CA.out _).mono ?_
                rintro e w1 ⟨rfl, rfl⟩
                go_wp2_with fail
                refine (CN.out _).mono ?_
                rintro e w1 ⟨rfl, rfl⟩
                go_wp2_with fail
                refine (CS.out _).mono ?_
                rintro e w1 ⟨rfl, rfl⟩
                go_wp2
                go_ret
                exact ⟨rfl, (Below.refl _ _).alloc (Nat.le_refl _) _⟩
              · have ds : (s2 == 2) = false := by simpa using es
                cases pict
                case false =>
                  by_cases e6 : now = 6
                  · subst e6
                    obtain rfl : (!s5) = V := by rw [← HV.out]; unfold SG.partsB SG.rule; simp [ea, HX.out, HY.out, HZ.out, ea7, es]
                    clear HV ea ea7 es
                    go_enter Tryz.func52, Tryz.ntmps52
                    go_wp2_with fail
                    refine (CA.out _).mono ?_
                    rintro e w1 ⟨rfl, rfl⟩
                    go_wp2_with fail
                    refine (CN.out _).mono ?_
                    rintro e w1 ⟨rfl, rfl⟩
                    go_wp2_with fail
                    refine (CS.out _).mono ?_
                    rintro e w1 ⟨rfl, rfl⟩
                    go_wp2
                    go_ret
                    exact ⟨rfl, (Below.refl _ _).alloc (Nat.le_refl _) _⟩
                  · have d6 : (now == 6) = false := by simpa using e6
                    obtain rfl : true = V := by rw [← HV.out]; unfold SG.partsB SG.rule; simp [ea, HX.out, HY.out, HZ.out, en4, en5, en8, ea7, es, e6]
                    clear HV ea en4 en5 en8 ea7 es e6
                    go_enter Tryz.func52, Tryz.ntmps52
                    go_wp2_with fail
                    refine (CA.out _).mono ?_
                    rintro e w1 ⟨rfl, rfl⟩
                    go_wp2_with fail
                    refine (CN.out _).mono ?_
                    rintro e w1 ⟨rfl, rfl⟩
                    go_wp2_with fail
                    refine (CS.out _).mono ?_
                    rintro e w1 ⟨rfl, rfl⟩
                    go_wp2
                    go_ret
                    exact ⟨rfl, (Below.refl _ _).alloc (Nat.le_refl _) _⟩
                case true =>
                cases s4
                case true =>
                  obtain rfl : false = V := by rw [← HV.out]; unfold SG.partsB SG.rule; simp [ea, HX.out, HY.out, HZ.out, en4, en5, en8, ea7, es]
                  clear HV ea en4 en5 en8 ea7 es
                  go_enter Tryz.func52, Tryz.ntmps52
                  go_wp2_with fail
                  refine (CA.out _).mono ?_
                  rintro e w1 ⟨rfl, rfl⟩
                  go_wp2_with fail
                  refine (CN.out _).mono ?_
                  rintro e w1 ⟨rfl, rfl⟩
                  go_wp2_with fail
                  refine (CS.out _).mono ?_
                  rintro e w1 ⟨rfl, rfl⟩
                  go_wp2
                  go_ret
                  exact ⟨rfl, (Below.refl _ _).alloc (Nat.le_refl _) _⟩
                case false =>
                  by_cases e6 : now = 6
                  · subst e6
                    obtain rfl : (!s5) = V := by rw [← HV.out]; unfold SG.partsB SG.rule; simp [ea, HX.out, HY.out, HZ.out, ea7, es]
                    clear HV ea ea7 es
                    go_enter Tryz.func52, Tryz.ntmps52
                    go_wp2_with fail
                    refine (CA.out _).mono ?_
                    rintro e w1 ⟨rfl, rfl⟩
                    go_wp2_with fail
                    refine (CN.out _).mono ?_
                    rintro e w1 ⟨rfl, rfl⟩
                    go_wp2_with fail
                    refine (CS.out _).mono ?_
                    rintro e w1 ⟨rfl, rfl⟩
                    go_wp2
                    go_ret
                    exact ⟨rfl, (Below.refl _ _).alloc (Nat.le_refl _) _⟩
                  · have d6 : (now == 6) = false := by simpa using e6
                    obtain rfl : true = V := by rw [← HV.out]; unfold SG.partsB SG.rule; simp [ea, HX.out, HY.out, HZ.out, en4, en5, en8, ea7, es, e6]
                    clear HV ea en4 en5 en8 ea7 es e6
                    go_enter Tryz.func52, Tryz.ntmps52
                    go_wp2_with fail
                    refine (CA.out _).mono ?_
                    rintro e w1 ⟨rfl, rfl⟩
                    go_wp2_with fail
                    refine (CN.out _).mono ?_
                    rintro e w1 ⟨rfl, rfl⟩
                    go_wp2_with fail
                    refine (CS.out _).mono ?_
                    rintro e w1 ⟨rfl, rfl⟩
                    go_wp2
                    go_ret
                    exact ⟨rfl, (Below.refl _ _).alloc (Nat.le_refl _) _⟩
            · have dc : (conj == 2) = false := by simpa using ec
              cases pict
              case false =>
                by_cases e6 : now = 6
                · subst e6
                  obtain rfl : (!s5) = V := by rw [← HV.out]; unfold SG.partsB SG.rule; simp [ea, HX.out, HY.out, HZ.out, ea7, ec]
                  clear HV ea ea7 ec
                  go_enter Tryz.func52, Tryz.ntmps52
                  go_wp2_with fail
                  refine (CA.out _).mono ?_
                  rintro e w1 ⟨rfl, rfl⟩
                  go_wp2_with fail
                  refine (CN.out _).mono ?_
                  rintro e w1 ⟨rfl, rfl⟩
                  go_wp2_with fail
                  refine (CS.out _).mono ?_
                  rintro e w1 ⟨rfl, rfl⟩
                  go_wp2
                  go_ret
                  exact ⟨rfl, (Below.refl _ _).alloc (Nat.le_refl _) _⟩
                · have d6 : (now == 6) = false := by simpa using e6
                  obtain rfl : true = V := by rw [← HV.out]; unfold SG.partsB SG.rule; simp [ea, HX.out, HY.out, HZ.out, en4, en5, en8, ea7, ec, e6]
                  clear HV ea en4 en5 en8 ea7 ec e6
                  go_enter Tryz.func52, Tryz.ntmps52
                  go_wp2_with fail
                  refine (CA.out _).mono ?_
                  rintro e w1 ⟨rfl, rfl⟩
                  go_wp2_with fail
                  refine (CN.out _).mono ?_
                  rintro e w1 ⟨rfl, rfl⟩
                  go_wp2_with fail
                  refine (CS.out _).mono ?_
                  rintro e w1 ⟨rfl, rfl⟩
                  go_wp2
                  go_ret
                  exact ⟨rfl, (Below.refl _ _).alloc (Nat.le_refl _) _⟩
              case true =>
              cases s4
              case true =>
                obtain rfl : false = V := by rw [← HV.out]; unfold SG.partsB SG.rule; simp [ea, HX.out, HY.out, HZ.out, en4, en5, en8, ea7, ec]
                clear HV ea en4 en5 en8 ea7 ec
                go_enter Tryz.func52, Tryz.ntmps52
                go_wp2_with fail
                refine (CA.out _).mono ?_
                rintro e w1 ⟨rfl, rfl⟩
                go_wp2_with fail
                refine (CN.out _).mono ?_
                rintro e w1 ⟨rfl, rfl⟩
                go_wp2_with fail
                refine (CS.out _).mono ?_
                rintro e w1 ⟨rfl, rfl⟩
                go_wp2
                go_ret
                exact ⟨rfl, (Below.refl _ _).alloc (Nat.le_refl _) _⟩
              case false =>
                by_cases e6 : now = 6
                · subst e6
                  obtain rfl : (!s5) = V := by rw [← HV.out]; unfold SG.partsB SG.rule; simp [ea, HX.out, HY.out, HZ.out, ea7, ec]
                  clear HV ea ea7 ec
                  go_enter Tryz.func52, Tryz.ntmps52
                  go_wp2_with fail
                  refine (CA.out _).mono ?_
                  rintro e w1 ⟨rfl, rfl⟩
                  go_wp2_with fail
                  refine (CN.out _).mono ?_
                  rintro e w1 ⟨rfl, rfl⟩
                  go_wp2_with fail
                  refine (CS.out _).mono ?_
                  rintro e w1 ⟨rfl, rfl⟩
                  go_wp2
                  go_ret
                  exact ⟨rfl, (Below.refl _ _).alloc (Nat.le_refl _) _⟩
                · have d6 : (now == 6) = false := by simpa using e6
                  obtain rfl : true = V := by rw [← HV.out]; unfold SG.partsB SG.rule; simp [ea, HX.out, HY.out, HZ.out, en4, en5, en8, ea7, ec, e6]
                  clear HV ea en4 en5 en8 ea7 ec e6
                  go_enter Tryz.func52, Tryz.ntmps52
                  go_wp2_with fail
                  refine (CA.out _).mono ?_
                  rintro e w1 ⟨rfl, rfl⟩
                  go_wp2_with fail
                  refine (CN.out _).mono ?_
                  rintro e w1 ⟨rfl, rfl⟩
                  go_wp2_with fail
                  refine (CS.out _).mono ?_
                  rintro e w1 ⟨rfl, rfl⟩
                  go_wp2
                  go_ret
                  exact ⟨rfl, (Below.refl _ _).alloc (Nat.le_refl _) _⟩
end Go.Proofs.YtggapcfjcdafpaaGreat
