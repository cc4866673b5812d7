/- keys: alone. -/
import Derived.Test.YtkkenabckhmkoaaKyD
namespace Go.Proofs.Ytkkenabckhmkoaa
open Go.RowKit
set_option linter.unusedVariables false
set_option linter.unusedSimpArgs false
set_option maxRecDepth 100000

theorem keysW_move {X : World} (Y : World) {hs : List Kp} {ks : List Ky} (h : KeysW X hs ks) (hb : Bare ks) : KeysW Y hs ks := by
  refine ⟨h.1, fun j x hx => ?_⟩
  obtain ⟨y, k1, k2⟩ := h.2 j x hx
  have hy := hb y (List.mem_of_getElem? k1)
  refine ⟨y, k1, k2.1, k2.2.1, k2.2.2.1, k2.2.2.2.1, ?_⟩
  rw [k2.2.2.2.1, hy]
  exact Rd.empty _ _ _
theorem own_apart {X : World} {base k n g : Nat} {e : TypeId} {v : Value} {xs : List Value} (h : X.ownsRow base e k v n xs) (hg : g < base) : some g ≠ v.ownBlock := by
  rcases h.2 with ⟨rfl, _⟩ | ⟨p, cap, cur, rfl, hb, _⟩
  · simp [Value.ownBlock]
  · simp only [Value.ownBlock]
    intro e
    injection e with e
    omega
theorem fm_push {w w4 w6 : World} {s : KS} {T A A6 : Option Addr} {n c c6 m : Nat} {xs ys : List Value} (h : Fm w s T w4) (ho : w4.ownsRow (w.heap.size + 2) 47 4 (.slice A n c) n xs) (hp : Pushed w4 w6 (w.heap.size + 2) 47 4 (.slice A n c) m ys A6 c6) : Fm w s T w6 :=
  ⟨hp.below h.below ho (by omega), h.b.grown hp.grown (own_apart ho (by omega)), h.r.grown hp.grown (own_apart ho (by omega))⟩
theorem kyO_push {w4 w6 : World} {base n c c6 : Nat} {A A6 : Option Addr} {hs : List Kp} {ks : List Ky} {k r : Int} {m : Bool} (hk : KeysW w4 hs ks) (hb : Bare ks) (hp : Pushed w4 w6 base 47 4 (.slice A n c) (n + 1) (flatL encK hs ++ encK ⟨k, r, m, none, 0, 0⟩) A6 c6) : KyO base w6 (.slice A6 (n + 1) c6) (n + 1) (ks ++ [⟨k, r, m, []⟩]) :=
  ⟨hs ++ [⟨k, r, m, none, 0, 0⟩], by rw [flatL_snoc]; exact hp.own, (keysW_move w6 hk hb).append (keysW_one (keyW_bare _ _ _ _))⟩

set_option maxHeartbeats 4000000 in
theorem alone_dec (s : KS) (T : Option Addr) (b : Int) (b0 : 0 ≤ b) (b1 : b ≤ 255) (hs : s.d.Ok) (hc : ctlB b = false) (w : World) :
    Calls Try.prog 22 #[psV s T, .int .u8 b] w (Tells (decodeK s.d s.m b) w) := by
  have CC := Lib.hid (fun X => control_any b X)
  rw [hc] at CC
  have CD := Lib.hid (fun X => decode_any' s T b b0 b1 hs X)
  obtain ⟨R, hR⟩ : ∃ R, decodeK s.d s.m b = R := ⟨_, rfl⟩
  rw [hR] at CD ⊢
  clear hR hc hs
  obtain ⟨⟨rw_, ⟨x, y, z, n⟩, rm, rrow, rtx, rcl⟩, ks⟩ := R
  obtain ⟨sw, ⟨h0, h1, h2, dn⟩, sm, srow, stx, scl⟩ := s
  have V0 := Lib.hid (fm_start w ⟨sw, ⟨h0, h1, h2, dn⟩, sm, srow, stx, scl⟩ T)
  go_enter Try.func22, Try.ntmps22
  go_upto_region 1 with fail
  refine at_world (Fm w ⟨sw, ⟨h0, h1, h2, dn⟩, sm, srow, stx, scl⟩ T) V0.out ?_
  intro X hX
  have V1 := Lib.hid hX
  clear hX V0
  obtain ⟨y1, k1, j1⟩ := (show _ from V1.out.b)
  go_wp2_with (first
    | (go_at_call 37; refine (CC.out _).mono ?_; rintro e _ ⟨rfl, rfl⟩)
    | (go_at_call 38; refine (CD.out _).mono ?_; rintro e w6 ⟨T6, A6, n6, c6, rfl, ch, hk, hn, b6⟩; have V6 := Lib.hid (And.intro (V1.out.later b6) (And.intro ch (And.intro hk hn))); clear ch hk hn b6; obtain ⟨y6, r6, j6⟩ := (show _ from V6.out.1.r); have q0 : w6.cell? ⟨w.heap.size + 1, 0, none⟩ = some (.int .i64 0) := r6 0; have q1 : w6.cell? ⟨w.heap.size + 1, 1, none⟩ = some (.int .u8 0) := r6 1; have q2 : w6.cell? ⟨w.heap.size + 1, 2, none⟩ = some (.int .u8 0) := r6 2; have q3 : w6.cell? ⟨w.heap.size + 1, 3, none⟩ = some (.int .u8 0) := r6 3; have q4 : w6.cell? ⟨w.heap.size + 1, 4, none⟩ = some (.int .i64 0) := r6 4; have q5 : w6.cell? ⟨w.heap.size + 1, 5, none⟩ = some (.bool false) := r6 5; have q6 : w6.cell? ⟨w.heap.size + 1, 6, none⟩ = some (.string ⟨#[]⟩) := r6 6; have q7 : w6.cell? ⟨w.heap.size + 1, 7, none⟩ = some (.pointer none) := r6 7; have q8 : w6.cell? ⟨w.heap.size + 1, 8, none⟩ = some (.int .i64 0) := r6 8; have f0 := j6 0; have f1 := j6 1; have f2 := j6 2; have f3 := j6 3; have f4 := j6 4; have f5 := j6 5; have f6 := j6 6; have f7 := j6 7; have f8 := j6 8; clear r6 j6))
  refine at_world (FinP w ⟨rw_, ⟨x, y, z, n⟩, rm, rrow, rtx, rcl⟩ T6 (.slice A6 n6 c6) n6 ks) (fin_put (s := ⟨rw_, ⟨x, y, z, n⟩, rm, rrow, rtx, rcl⟩) V6.out.1 V6.out.2.2.1 V6.out.2.2.2 V6.out.2.1) ?_
  rintro Z ⟨⟨y9, k9, j9⟩, hk, hn, hb, hc⟩
  have HZ := Lib.hid (And.intro hc (And.intro hk (And.intro hn hb)))
  have e0 := k9 0
  have e1 := k9 1
  have e2 := k9 2
  have e3 := k9 3
  have e4 := k9 4
  have e5 := k9 5
  have e6 := k9 6
  have e7 := k9 7
  have e8 := k9 8
  clear hc hk hn hb k9 j9 y9 q0 q1 q2 q3 q4 q5 q6 q7 q8 f0 f1 f2 f3 f4 f5 f6 f7 f8 y6 
  refine bodyPost_ret (v := .tuple #[psV ⟨rw_, ⟨x, y, z, n⟩, rm, rrow, rtx, rcl⟩ T6, .slice A6 n6 c6]) (by simp at e0 e1 e2 e3 e4 e5 e6 e7 e8; simp [results, Try.results22, go_sem, e0, e1, e2, e3, e4, e5, e6, e7, e8]) rfl ⟨T6, A6, n6, c6, rfl, HZ.out.1, HZ.out.2.1, HZ.out.2.2.1, HZ.out.2.2.2⟩
end Go.Proofs.Ytkkenabckhmkoaa
