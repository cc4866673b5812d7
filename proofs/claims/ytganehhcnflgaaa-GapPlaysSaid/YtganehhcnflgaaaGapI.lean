/- gap: All, At, New. -/
import Derived.Test.YtganehhcnflgaaaGapH
namespace Go.Proofs.Ytganehhcnflgaaa
open Go.RowKit
set_option linter.unusedVariables false
set_option linter.unusedSimpArgs false

set_option maxHeartbeats 1000000 in
set_option maxRecDepth 100000 in
theorem all_any {w : World} {gb B0 : Nat} {A : Option Addr} {N C fr te : Nat} {cur L : List Int} (G : Gp w gb B0 A N C fr te cur) (hL : held fr te cur = L) :
    Calls Try.prog 10 #[ptr gb] w (TellsI L w) := by
  have C0 := Lib.hid (len_any G)
  rw [hL] at C0
  have HG := Lib.hid G
  have HL := Lib.hid hL
  clear G hL
  go_enter Try.func10, Try.ntmps10
  go_wp2_with fail
  (with_reducible refine C0.out.mono ?_)
  rintro e w1 ⟨rfl, q, rfl⟩
  go_wp2_with fail
  have C1 := Lib.hid (slice_any (HG.out.drewN q) HL.out 0 (L.length : Int) (L.length : Int) L.length 0 rfl ⟨by simp, by simp⟩)
  (with_reducible refine C1.out.mono ?_)
  rintro e w2 ⟨A2, n2, c2, rfl, ht, hb⟩
  have H2 := Lib.hid (And.intro ht hb)
  clear ht hb
  go_wp2
  go_ret
  refine ⟨_, _, _, rfl, ?_, ?_⟩
  · have := H2.out.1
    simpa using this
  · exact ⟨H2.out.2.os, H2.out.2.tape, H2.out.2.output, H2.out.2.size, H2.out.2.block⟩

/-! ### At -/
set_option maxHeartbeats 1000000 in
set_option maxRecDepth 100000 in
theorem at_no {w : World} {gb B0 : Nat} {A : Option Addr} {N C fr te : Nat} {cur L : List Int} (G : Gp w gb B0 A N C fr te cur) (hL : held fr te cur = L) (i : Int) (hno : i < 0 ∨ (L.length : Int) ≤ i) :
    Calls Try.prog 12 #[ptr gb, .int .i64 i] w fun e w' => e = .returned (.tuple #[.int .i64 0, .bool false]) ∧ ∃ q, w' = w.drewN q := by
  have C0 := Lib.hid (len_any G)
  rw [hL] at C0
  clear G
  go_enter Try.func12, Try.ntmps12
  by_cases h1 : i < 0
  · have d1 : decide (i < 0) = true := by simp; omega
    go_wp2
    go_ret2
    exact ⟨rfl, 0, rfl⟩
  · have d1 : decide (i < 0) = false := by simp; omega
    have d2 : decide ((L.length : Int) ≤ i) = true := by simp; omega
    go_wp2_with fail
    (with_reducible refine C0.out.mono ?_)
    rintro e w1 ⟨rfl, q, rfl⟩
    go_wp2
    go_ret2
    exact ⟨rfl, q, rfl⟩

set_option maxHeartbeats 1000000 in
set_option maxRecDepth 100000 in
theorem at_yes {w : World} {gb B0 : Nat} {A : Option Addr} {N C fr te : Nat} {cur L : List Int} (G : Gp w gb B0 A N C fr te cur) (hL : held fr te cur = L) (i : Nat) (hi : i < L.length) :
    Calls Try.prog 12 #[ptr gb, .int .i64 i] w fun e w' => e = .returned (.tuple #[.int .i64 (L.getD i 0), .bool true]) ∧ ∃ q, w' = w.drewN q := by
  have C0 := Lib.hid (len_any G)
  rw [hL] at C0
  have hft := G.ft
  have htn := G.tn
  have hmx := G.max
  have hlen : L.length = N - (te - fr) := by rw [← hL, held_len hft (by rw [G.len]; exact htn), G.len]
  have d1 : decide ((i : Int) < 0) = false := by simp
  have d2 : decide ((L.length : Int) ≤ (i : Int)) = false := by simp; omega
  have hget := held_get (fr := fr) (te := te) (cur := cur) (by rw [G.len]; omega) i
  rw [hL] at hget
  have HG := Lib.hid G
  obtain ⟨V, hV⟩ : ∃ V, L.getD i 0 = V := ⟨_, rfl⟩
  rw [hV]
  by_cases h1 : i < fr
  · rw [if_pos h1] at hget
    have d3 : decide ((fr : Int) ≤ (i : Int)) = false := by simp; omega
    obtain ⟨b, e, hc⟩ := G.mem.at_ i (by rw [G.len]; omega)
    have eg : cur.getD i 0 = L.getD i 0 := by simp [List.getD, hget]
    rw [eg, hV] at hc
    have hlt := (G.mem.lt b (by rw [e]; rfl)).2
    subst e
    clear hget eg G hL hV
    go_enter Try.func12, Try.ntmps12
    go_wp2_with fail
    (with_reducible refine C0.out.mono ?_)
    rintro e w1 ⟨rfl, q, rfl⟩
    obtain ⟨y0, k0, j0⟩ := (show Blk _ _ _ from (HG.out.drewN q).blk)
    have hc2 : (w.drewN q).cell? ⟨b, i, none⟩ = some (vI V) := hc
    unfold vI at hc2
    clear hc
    go_wp2
    go_ret2
    exact ⟨rfl, q, rfl⟩
  · rw [if_neg h1] at hget
    have d3 : decide ((fr : Int) ≤ (i : Int)) = true := by simp; omega
    obtain ⟨W, hW⟩ : ∃ W, te - fr = W := ⟨_, rfl⟩
    have eW : (te : Int) - (fr : Int) = (W : Int) := by omega
    obtain ⟨K, hK⟩ : ∃ K, i + W = K := ⟨_, rfl⟩
    have eK : (i : Int) + (W : Int) = (K : Int) := by omega
    have ewW : IntKind.i64.wrap (W : Int) = (W : Int) := IntWalk.i64_in _ (by omega)
    have ewK : IntKind.i64.wrap (K : Int) = (K : Int) := IntWalk.i64_in _ (by omega)
    have hKN : K < N := by omega
    obtain ⟨b, e, hc⟩ := G.mem.at_ K (by rw [G.len]; omega)
    rw [show te + (i - fr) = K by omega] at hget
    have eg : cur.getD K 0 = L.getD i 0 := by simp [List.getD, hget]
    rw [eg, hV] at hc
    have hlt := (G.mem.lt b (by rw [e]; rfl)).2
    subst e
    clear hget eg G hL hW hK hlen hV
    go_enter Try.func12, Try.ntmps12
    go_wp2_with fail
    (with_reducible refine C0.out.mono ?_)
    rintro e w1 ⟨rfl, q, rfl⟩
    refine at_world (fun X => Gp X gb B0 (some ⟨b, 0, none⟩) N C fr te cur ∧ X.cell? ⟨b, K, none⟩ = some (vI V) ∧ ∃ q, X = w.drewN q) ⟨HG.out.drewN q, hc, q, rfl⟩ ?_
    rintro X GX
    have HX := Lib.hid GX
    obtain ⟨y0, k0, j0⟩ := (show Blk _ _ _ from GX.1.blk)
    clear GX hc
    go_wp2
    go_quiet (fail)
    have hc2 := HX.out.2.1
    unfold vI at hc2
    go_wp2
    go_ret2
    obtain ⟨q', hq'⟩ := HX.out.2.2
    exact ⟨rfl, _, by rw [hq']; exact World.drewN_drewN _ _ _⟩

/-! ### New -/
theorem mem_own {w : World} {base n c : Nat} {A : Option Addr} {l : List Int} (h : w.ownsRow base 3 1 (.slice A n c) n (l.map vI)) : Mem w base A c l ∧ l.length = n := by
  have hl : l.length = n := by have := h.1; simpa using this
  refine ⟨?_, hl⟩
  rcases h.2 with ⟨hv, hx⟩ | ⟨g, cap, cur, hv, hb, hh, h1, h2, h3, h4⟩
  · injection hv with e1 e2 e3
    subst e1; subst e3
    exact .inl ⟨rfl, rfl, List.eq_nil_of_length_eq_zero (by omega)⟩
  · injection hv with e1 e2 e3
    subst e1; subst e3
    refine .inr ⟨g, cur.toList.drop n, rfl, hb, ?_, by omega⟩
    rw [hh]
    congr 2
    apply Array.ext'
    rw [Nat.mul_one] at h4
    rw [← h4]
    simp

set_option maxHeartbeats 1000000 in
set_option maxRecDepth 100000 in
theorem new_any {w : World} {AI : Option Addr} {n c : Nat} {l : List Int} (hI : Rd w AI n (liI l)) (hnil : AI = none → n = 0 ∧ c = 0) (hn : l.length = n) (hm : n ≤ 50000) :
    Calls Try.prog 5 #[.slice AI n c] w fun e w' => ∃ gb A C, e = .returned (ptr gb) ∧ Gp w' gb w.heap.size A n C n n l ∧ Below w.heap.size w w' ∧ w.heap.size ≤ gb := by
  have HI := Lib.hid (And.intro hI (And.intro hnil hn))
  have HO := Lib.hid (World.ownsRow_nil w w.heap.size 3 1)
  clear hI hnil hn
  go_enter Try.func5, Try.ntmps5
  go_wp2_with (at_builtin; refine wpList_cat eltI HO.out (Nat.le_refl _) rfl rfl rfl rfl HI.out.1 HI.out.2.1 (fun j _ => rfl) (by unfold maxLen; omega) (by omega) ?_; intro A3 c3 w3 hp; rw [Nat.zero_add, List.nil_append, liI_of HI.out.2.2] at hp; have HP1 := Lib.hid hp; clear hp)
  go_ret
  obtain ⟨hM, hl⟩ := mem_own HP1.out.own
  have hb := HP1.out.below (Below.refl _ _) HO.out (Nat.le_refl _)
  have ca : Chg (fun _ => False) w3 (w3.alloc (.cells #[.slice A3 n c3, .int .i64 n, .int .i64 n] 42)) := ⟨rfl, rfl, rfl, by simp, fun k hk _ => by rw [heap_alloc_old _ _ hk]⟩
  refine ⟨w3.heap.size, A3, c3, rfl, ⟨blk_new _ _ _, hM.chg ca (fun _ _ h => h), hl, Nat.le_refl _, Nat.le_refl _, by omega, fun h => by have := (hM.lt _ h).2; omega⟩, hb.alloc hb.size _, hb.size⟩
end Go.Proofs.Ytganehhcnflgaaa
