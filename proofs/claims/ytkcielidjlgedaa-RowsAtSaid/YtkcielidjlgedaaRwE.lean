/- rows: how many spans there may be; Size. -/
import Derived.Test.YtkcielidjlgedaaRwL
namespace Go.Proofs.Ytkcielidjlgedaa
open Go.RowKit
set_option linter.unusedVariables false
set_option linter.unusedSimpArgs false

theorem rise_len' : ∀ (S : List Span) (lo : Int), Rise S → (∀ s ∈ S, lo ≤ s.f ∧ s.t ≤ MS) → lo ≤ MS + 1 → (S.length : Int) ≤ MS + 1 - lo
  | [], lo, _, _, h => by simp; omega
  | x :: S, lo, h, hb, _ => by
    have h1 := h.2 x (by simp)
    have h2 := hb x (by simp)
    have := rise_len' S (x.t + 1) ⟨(List.pairwise_cons.1 h.1).2, fun s hs => h.2 s (by simp [hs])⟩ (fun s hs => ⟨by have := (List.pairwise_cons.1 h.1).1 s hs; omega, (hb s (by simp [hs])).2⟩) (by omega)
    simp only [List.length_cons]
    omega
theorem good_len {kind : Int} {l : List Row} {S : List Span} (h : Good kind l S) : S.length ≤ 1114112 := by
  have := rise_len' S 0 h.rise h.bd (by unfold MS; omega)
  unfold MS at this
  omega

def szP (S : List Span) : Int := S.foldl (fun n s => n + (s.t - s.f + 1)) 0
theorem szP_snoc {S : List Span} {j : Nat} {x : Span} (h : S[j]? = some x) : szP (S.take (j + 1)) = szP (S.take j) + (x.t - x.f + 1) := by
  rw [take_snoc' h]
  simp [szP, List.foldl_append]
theorem szP_bd : ∀ (S : List Span), (∀ s ∈ S, 0 ≤ s.f ∧ s.f ≤ s.t ∧ s.t ≤ MS) → ∀ j, j ≤ S.length → 0 ≤ szP (S.take j) ∧ szP (S.take j) ≤ 1114112 * j
  | S, h, 0, _ => by simp [szP]
  | S, h, j + 1, hj => by
    have ih := szP_bd S h j (by omega)
    have hx := List.getElem?_eq_getElem (l := S) (i := j) (by omega)
    rw [szP_snoc hx]
    have := h _ (List.getElem_mem (l := S) (n := j) (by omega))
    unfold MS at this
    omega

set_option maxHeartbeats 4000000 in
set_option maxRecDepth 100000 in
theorem size_any (A : Option Addr) (c : Nat) (S : List Span) (w : World) (hS : Li 4 encS w (fun _ => True) A S) (hn : S.length ≤ 2000000) (hb : ∀ s ∈ S, 0 ≤ s.f ∧ s.f ≤ s.t ∧ s.t ≤ MS) :
    Calls Try.prog 13 #[.slice A S.length c] w fun e w' => e = .returned (.int .i64 (szP S)) ∧ Below w.heap.size w w' := by
  have HS := Lib.hid hS
  have HB := Lib.hid hb
  have HZ := Lib.hid (szP_bd S hb)
  clear hS hb
  go_enter Try.func13, Try.ntmps13
  go_wp2
  go_loopw [3, 8] (fun v i wr => ∃ (j : Nat) (z : Int), j ≤ S.length ∧ i = .int .i64 j ∧ v = .int .i64 z ∧ Hid (szP (S.take j) = z) ∧ Hid (Below w.heap.size w wr)) (fun _ i _ => S.length - (intOf i).toNat)
  case atStart => exact ⟨0, 0, Nat.zero_le _, rfl, rfl, Lib.hid (by simp [szP]), Below.refl _ _⟩
  case round =>
    obtain ⟨j, z, hj, rfl, rfl, hz, hbw⟩ := hrel
    by_cases hlt : j < S.length
    · obtain ⟨x, b, o, hx, rfl, hbl, _, c0, c1, c2, c3⟩ := (HS.out.later hbw.out).span hlt
      have b1 := HB.out x (List.mem_of_getElem? hx)
      have z1 := HZ.out j hj
      rw [hz.out] at z1
      have z2 := Lib.hid (show szP (S.take (j + 1)) = z + (x.t - x.f + 1) from by rw [szP_snoc hx, hz.out])
      unfold MS at b1
      obtain ⟨b1, b2, b3⟩ := b1
      obtain ⟨z3, z4⟩ := z1
      have w1 : IntKind.i64.wrap (x.t - x.f) = x.t - x.f := IntWalk.i64_in _ (by omega)
      have w2 : IntKind.i64.wrap (x.t - x.f + 1) = x.t - x.f + 1 := IntWalk.i64_in _ (by omega)
      have w3 : IntKind.i64.wrap (z + (x.t - x.f + 1)) = z + (x.t - x.f + 1) := IntWalk.i64_in _ (by omega)
      have d1 : decide (x.f ≤ x.t) = true := decide_eq_true b2
      have i1 : (j : Int) < (S.length : Int) := by omega
      have i2 : (0 : Int) ≤ (j : Int) := by omega
      have hsz := hbw.out.size
      clear hx z3 z4 b1 b3
      go_wp2
      go_roundw
      case rel => exact ⟨j + 1, _, by omega, by go_num, rfl, z2.out, by first | exact (hbw.out.alloc hsz _) | exact ((hbw.out.alloc hsz _).drew _)⟩
      case measure => simp [intOf]; omega
    · obtain rfl : j = S.length := by omega
      have hR := Lib.hid (show szP S = z from by rw [← hz.out, List.take_length])
      clear hlt
      go_wp2
      go_ret
      exact ⟨by rw [hR.out] <;> rfl, hbw.out⟩
end Go.Proofs.Ytkcielidjlgedaa
