/- past: Index, IndexFunc, has; the functions that are handed in. -/
import Derived.Test.YtmhjhndnbgabjaaPxA
import Derived.BigQuiet
namespace Go.Proofs.Ytmhjhndnbgabjaa
open Go.RowKit
set_option linter.unusedVariables false
set_option linter.unusedSimpArgs false

/-- Where a test first fails; -1: nowhere. -/
def firstP (p : Int → Bool) (l : List Int) : Int := if (l.takeWhile p).length < l.length then ((l.takeWhile p).length : Int) else -1
theorem firstP_at {p : Int → Bool} {l : List Int} {j : Nat} (h : twAt p l j) (hj : j < l.length) (hp : p (l.getD j 0) = false) : firstP p l = (j : Int) := by
  unfold firstP
  rw [twAt_end h (.inr hp), if_pos hj]
theorem firstP_end {p : Int → Bool} {l : List Int} (h : twAt p l l.length) : firstP p l = -1 := by
  unfold firstP
  rw [twAt_end h (.inl (Nat.le_refl _)), if_neg (Nat.lt_irrefl _)]
set_option maxHeartbeats 4000000 in
theorem index_any (v : Value) (l : List Int) (w : World) (h : Txt w v l) (hl : l.length ≤ 100000) :
    Calls Try.prog 34 #[v, .int .i32 63] w fun e w' => e = .returned (.int .i64 (firstP notQ l)) ∧ w = w' := by
  obtain ⟨A, c, rfl, hc, hc2⟩ := Sl.is h
  have HT := Lib.hid h
  obtain ⟨R, hR⟩ : ∃ R, firstP notQ l = R := ⟨_, rfl⟩
  have HR := Lib.hid hR
  rw [hR]
  clear hR h
  go_enter Try.func34, Try.ntmps34
  go_wp2
  go_loop [5, 8] (fun _ i => ∃ j : Nat, j ≤ l.length ∧ i = .int .i64 j ∧ Hid (twAt notQ l j)) (fun _ i => l.length - (intOf i).toNat)
  case atStart => exact ⟨0, Nat.zero_le _, rfl, Lib.hid (twAt_zero _ _)⟩
  case round =>
    obtain ⟨j, hj, rfl, H⟩ := hrel
    by_cases hlt : j < l.length
    · obtain ⟨b, o, rfl, hb, hcell⟩ := txt_at HT.out hlt
      obtain ⟨x, hx⟩ : ∃ x, l.getD j 0 = x := ⟨_, rfl⟩
      rw [hx] at hcell
      have d1 : (j : Int) < (l.length : Int) := by omega
      have d2 : (0 : Int) ≤ (j : Int) := by omega
      by_cases hd : x = 63
      · obtain rfl : R = (j : Int) := by rw [← HR.out]; exact firstP_at H.out hlt (by rw [hx, hd]; rfl)
        subst hd
        clear hx H HR
        go_wp2
        go_ret
        exact ⟨rfl, rfl⟩
      · have HN := Lib.hid (twAt_succ H.out hlt (by rw [hx]; simp [notQ, hd]))
        have e1 : ((63 : Int) == x) = false := by simp; omega
        clear hx H
        go_wp2
        go_round
        case rel => exact ⟨j + 1, by omega, by go_num, HN⟩
        case measure => simp [intOf]; omega
    · obtain rfl : j = l.length := by omega
      obtain rfl : R = -1 := by rw [← HR.out]; exact firstP_end H.out
      have d0 : decide ((l.length : Int) < (l.length : Int)) = false := by simp
      clear H HR
      go_wp2
      go_ret
      exact ⟨rfl, rfl⟩
set_option maxHeartbeats 4000000 in
theorem ends_any (x : Int) (w : World) : Calls Try.prog 39 #[.int .i32 x] w fun e w' => e = .returned (.bool (!notEnd x)) ∧ w = w' := by
  unfold notEnd
  rw [Bool.not_not]
  by_cases h1 : x = 32
  · subst h1
    go_enter Try.func39, Try.ntmps39
    go_wp2
    go_ret
    exact ⟨rfl, rfl⟩
  · have d1 : (x == 32) = false := by simpa using h1
    rw [d1]
    by_cases h2 : x = 9
    · subst h2
      go_enter Try.func39, Try.ntmps39
      go_wp2
      go_ret
      exact ⟨rfl, rfl⟩
    · have d2 : (x == 9) = false := by simpa using h2
      rw [d2]
      go_enter Try.func39, Try.ntmps39
      go_wp2
      go_ret
      exact ⟨rfl, rfl⟩
set_option maxHeartbeats 4000000 in
theorem indexf_any (v : Value) (l : List Int) (w : World) (h : Txt w v l) (hl : l.length ≤ 100000) :
    Calls Try.prog 38 #[v, .func (.func 39) #[] #[]] w fun e w' => e = .returned (.int .i64 (firstP notEnd l)) ∧ w = w' := by
  obtain ⟨A, c, rfl, hc, hc2⟩ := Sl.is h
  have HT := Lib.hid h
  obtain ⟨R, hR⟩ : ∃ R, firstP notEnd l = R := ⟨_, rfl⟩
  have HR := Lib.hid hR
  rw [hR]
  clear hR h
  go_enter Try.func38, Try.ntmps38
  go_wp2
  go_loop [5, 8] (fun _ i => ∃ j : Nat, j ≤ l.length ∧ i = .int .i64 j ∧ Hid (twAt notEnd l j)) (fun _ i => l.length - (intOf i).toNat)
  case atStart => exact ⟨0, Nat.zero_le _, rfl, Lib.hid (twAt_zero _ _)⟩
  case round =>
    obtain ⟨j, hj, rfl, H⟩ := hrel
    by_cases hlt : j < l.length
    · obtain ⟨b, o, rfl, hb, hcell⟩ := txt_at HT.out hlt
      obtain ⟨x, hx⟩ : ∃ x, l.getD j 0 = x := ⟨_, rfl⟩
      rw [hx] at hcell
      have d1 : (j : Int) < (l.length : Int) := by omega
      have d2 : (0 : Int) ≤ (j : Int) := by omega
      have C := ends_any x w
      obtain ⟨q, hq⟩ : ∃ q, notEnd x = q := ⟨_, rfl⟩
      rw [hq] at C
      have C := Lib.hid C
      have HQ := Lib.hid hq
      have HX := Lib.hid hx
      clear hq hx
      go_wp2_with fail
      refine C.out.mono ?_
      rintro e w1 ⟨rfl, rfl⟩
      clear C
      cases q
      case false =>
        obtain rfl : R = (j : Int) := by rw [← HR.out]; exact firstP_at H.out hlt (by rw [HX.out]; exact HQ.out)
        clear H HR HQ HX
        go_wp2
        go_ret
        exact ⟨rfl, rfl⟩
      case true =>
        have HN := Lib.hid (twAt_succ H.out hlt (by rw [HX.out]; exact HQ.out))
        clear H HQ HX
        go_wp2
        go_round
        case rel => exact ⟨j + 1, by omega, by go_num, HN⟩
        case measure => simp [intOf]; omega
    · obtain rfl : j = l.length := by omega
      obtain rfl : R = -1 := by rw [← HR.out]; exact firstP_end H.out
      have d0 : decide ((l.length : Int) < (l.length : Int)) = false := by simp
      clear H HR
      go_wp2
      go_ret
      exact ⟨rfl, rfl⟩
/-- A part of a text. -/
theorem txt_sub {w : World} {A : Option Addr} {c : Nat} {l : List Int} (h : Txt w (.slice A l.length c) l) {i n : Nat} (hi : i + n ≤ l.length) : Txt w (.slice (if c = i then A else Option.map (fun x => x.add i) A) n (c - i)) ((l.drop i).take n) := by
  obtain ⟨-, hr, hn, hc, hm⟩ := Sl.parts h
  have hl : ((l.drop i).take n).length = n := by rw [List.length_take, List.length_drop]; omega
  refine ⟨_, _, by rw [hl], fun j hj => ?_, fun e => ?_, by omega, by unfold maxLen; omega, fun _ _ _ => trivial⟩
  · rw [hl] at hj
    obtain ⟨b, o, rfl, hb, hcell⟩ := hr (i + j) (by omega)
    rw [if_neg (by omega)]
    refine ⟨b, o + i, by simp [Addr.add], hb, ?_⟩
    rw [Nat.add_assoc, hcell]
    unfold liR
    simp [List.getD, List.getElem?_take, hj]
  · rw [hl]
    split at e
    · obtain ⟨h1, h2⟩ := hn e
      omega
    · cases A with
      | none => have := hn rfl; omega
      | some a => cases e
set_option maxHeartbeats 4000000 in
theorem has_any (u v : Value) (l m : List Int) (w : World) (hu : Txt w u l) (hv : Txt w v m) (hl : l.length ≤ 100000) (hm : m.length ≤ 100000) :
    Calls Try.prog 37 #[u, v] w fun e w' => e = .returned (.bool (hasP l m)) ∧ ∃ k, w' = w.drewN k := by
  obtain ⟨A, c, rfl, hc, hc2⟩ := Sl.is hu
  obtain ⟨B, d, rfl, hd, hd2⟩ := Sl.is hv
  have HU := Lib.hid (And.intro hu hv)
  obtain ⟨R, hR⟩ : ∃ R, hasP l m = R := ⟨_, rfl⟩
  have HR := Lib.hid hR
  rw [hR]
  clear hR hu hv
  go_enter Try.func37, Try.ntmps37
  go_wp2
  go_loopw [5] (fun i wr => ∃ j : Nat, j ≤ l.length + 1 ∧ i = .int .i64 j ∧ Hid (hasAt l m j) ∧ ∃ k, wr = w.drewN k) (fun i _ => l.length + 1 - (intOf i).toNat)
  case atStart => exact ⟨0, Nat.zero_le _, rfl, Lib.hid (hasAt_zero _ _), 0, rfl⟩
  case round =>
    obtain ⟨j, hj, rfl, H, k, rfl⟩ := hrel
    by_cases hlt : j + m.length ≤ l.length
    · obtain ⟨AA, hAA⟩ : ∃ AA, (if c = j then A else Option.map (fun x => x.add j) A) = AA := ⟨_, rfl⟩
      have ht := txt_sub (HU.out.1.later (below_drewN (Below.refl _ _) k)) hlt
      rw [hAA] at ht
      have C := equal_is _ _ _ _ (w.drewN k) ht (HU.out.2.later (below_drewN (Below.refl _ _) k))
      obtain ⟨q, hq⟩ : ∃ q, decide ((l.drop j).take m.length = m) = q := ⟨_, rfl⟩
      rw [hq] at C
      have C := Lib.hid C
      have HQ := Lib.hid (show begP (l.drop j) m = q by unfold begP; rw [hq, decide_eq_true (by rw [List.length_drop]; omega), Bool.true_and])
      obtain ⟨E, hE⟩ : ∃ E, j + m.length = E := ⟨_, rfl⟩
      have e1 : (j : Int) + (m.length : Int) = (E : Int) := by omega
      have e2 : IntKind.i64.wrap (E : Int) = (E : Int) := IntWalk.i64_in _ (by omega)
      have e3 : (E : Int) ≤ (l.length : Int) := by omega
      have e4 : E - j = m.length := by omega
      have e5 : (j : Int) ≤ (E : Int) := by omega
      have e6 : (E : Int) ≤ (c : Int) := by omega
      clear hq ht hE
      go_wp2_with fail
      refine C.out.mono ?_
      rintro e w1 ⟨rfl, k2, rfl⟩
      clear C
      cases q
      case false =>
        have HN := Lib.hid (hasAt_no H.out (by omega) HQ.out)
        clear H HQ
        go_wp2
        go_roundw
        case rel => exact ⟨j + 1, by omega, by go_num, HN, _, rfl⟩
        case measure => simp [intOf]; omega
      case true =>
        obtain rfl : R = true := by rw [← HR.out]; exact hasAt_yes H.out (by omega) HQ.out
        clear H HR HQ
        go_wp2
        go_ret
        exact ⟨rfl, _, rfl⟩
    · obtain rfl : R = false := by rw [← HR.out]; exact hasAt_end H.out (by omega)
      have e1 : decide ((j : Int) + (m.length : Int) ≤ (l.length : Int)) = false := by simp; omega
      clear H HR
      go_wp2
      go_ret
      exact ⟨rfl, _, rfl⟩
/-- What the third argument of a search by having tells. -/
theorem named1_any (v : Value) (l m : List Int) (B : Nat) (w : World) (hv : Txt w v l) (hB : ∃ u, w.cell? ⟨B, 0, none⟩ = some u ∧ Txt w u m) (hl : l.length ≤ 100000) (hm : m.length ≤ 100000) :
    Calls Try.prog 36 #[v, .pointer (some ⟨B, 0, none⟩)] w fun e w' => e = .returned (.bool (hasP l m)) ∧ ∃ k, w' = w.drewN k := by
  obtain ⟨u, hc, hu⟩ := hB
  obtain ⟨A, c, rfl, _, _⟩ := Sl.is hv
  obtain ⟨A', c', rfl, _, _⟩ := Sl.is hu
  have C := has_any _ _ l m w hv hu hl hm
  obtain ⟨q, hq⟩ : ∃ q, hasP l m = q := ⟨_, rfl⟩
  rw [hq] at C ⊢
  have C := Lib.hid C
  clear hq hv hu
  go_enter Try.func36, Try.ntmps36
  go_wp2_with fail
  refine C.out.mono ?_
  rintro e w1 ⟨rfl, k, rfl⟩
  clear C
  go_wp2
  go_ret
  exact ⟨rfl, _, rfl⟩
set_option maxHeartbeats 4000000 in
theorem named3_any (v : Value) (l m : List Int) (B : Nat) (w : World) (hv : Txt w v l) (hB : ∃ u, w.cell? ⟨B, 0, none⟩ = some u ∧ Txt w u m) (hl : l.length ≤ 100000) (hm : m.length ≤ 100000) :
    Calls Try.prog 40 #[v, .pointer (some ⟨B, 0, none⟩)] w fun e w' => e = .returned (.bool (begP l m)) ∧ ∃ k, w' = w.drewN k := by
  obtain ⟨u, hc, hu⟩ := hB
  obtain ⟨A, c, rfl, hcc, _⟩ := Sl.is hv
  obtain ⟨A', c', rfl, _, _⟩ := Sl.is hu
  by_cases hlt : m.length ≤ l.length
  · have ht : ∀ n, Txt (w.drewN n) (.slice A m.length c) (l.take m.length) := fun n => TxtS.later (by
      obtain ⟨A2, c2, e, h1, h2, h3, h4, h5⟩ := Sl.take hv m.length hlt
      have hl2 : (l.take m.length).length = m.length := by rw [List.length_take]; omega
      refine ⟨A2, c2, by rw [hl2]; exact e, fun j hj => ?_, fun e => by rw [hl2]; exact h2 e, by rw [hl2]; exact h3, h4, fun _ _ _ => trivial⟩
      rw [hl2] at hj
      obtain ⟨b, o, e1, e2, e3⟩ := h1 j hj
      refine ⟨b, o, e1, e2, ?_⟩
      rw [e3]
      unfold liR
      simp [List.getD, List.getElem?_take, hj]) (below_drewN (Below.refl _ _) n)
    have C := fun n => equal_is _ _ _ _ (w.drewN n) (ht n) (hu.later (below_drewN (Below.refl _ _) n))
    obtain ⟨q, hq⟩ : ∃ q, decide (l.take m.length = m) = q := ⟨_, rfl⟩
    rw [show begP l m = q by unfold begP; rw [decide_eq_true hlt, Bool.true_and]; exact hq]
    rw [hq] at C
    have HS : Hid (∀ n, Calls Try.prog 21 #[.slice A m.length c, .slice A' m.length c'] (w.drewN n) fun e w'' => e = .returned (.bool q) ∧ ∃ m, w'' = w.drewN m) := Lib.hid (fun n => (C n).mono fun e w'' hh => ⟨hh.1, by obtain ⟨k, e⟩ := hh.2; exact ⟨_, e.trans (World.drewN_drewN _ _ _)⟩⟩)
    have d0 : decide ((m.length : Int) ≤ (l.length : Int)) = true := by simp; omega
    have d1 : (m.length : Int) ≤ (c : Int) := by omega
    clear C hq ht hv hu
    go_enter Try.func40, Try.ntmps40
    go_wp2
    go_quiet ((go_at_call 21; exact (HS.out _)))
    go_wp2
    go_ret
    exact ⟨rfl, _, rfl⟩
  · rw [show begP l m = false by unfold begP; rw [decide_eq_false hlt]; rfl]
    have d0 : decide ((m.length : Int) ≤ (l.length : Int)) = false := by simp; omega
    clear hv hu
    go_enter Try.func40, Try.ntmps40
    go_wp2
    go_quiet (fail)
    go_wp2
    go_ret
    exact ⟨rfl, _, rfl⟩
end Go.Proofs.Ytmhjhndnbgabjaa
