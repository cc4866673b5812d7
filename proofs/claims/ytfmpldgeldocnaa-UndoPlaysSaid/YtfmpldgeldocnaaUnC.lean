/- undo: the program's Add to the newest group. -/
import Derived.Test.YtfmpldgeldocnaaUnB
import Derived.Deep.RegionHeld3
namespace Go.Proofs.Ytfmpldgeldocnaa
open Go.RowKit
set_option linter.unusedVariables false
set_option linter.unusedSimpArgs false

/-- The newest group, in a stack that is not empty. -/
theorem Stk.last {w : World} {A : Option Addr} {n c : Nat} {T : List AG} {a : AG} (h : Stk w (.slice A n c) (T ++ [a])) : n = T.length + 1 ∧ T.length + 1 ≤ c ∧ c ≤ 9223372036854775807 ∧ ∃ b o E m d, A = some ⟨b, o, none⟩ ∧ b < w.heap.size ∧ w.cell? ⟨b, o + T.length * 2, none⟩ = some (.slice E m d) ∧ w.cell? ⟨b, o + T.length * 2 + 1, none⟩ = some (.int .i64 a.cur) ∧ Eds w (.slice E m d) a.eds := by
  obtain ⟨A', c', e, h1, h2⟩ := h.is
  injection e with e1 e2 e3
  subst e1; subst e2; subst e3
  obtain ⟨H, l, r⟩ := h
  obtain ⟨_, li, _⟩ := l.parts
  obtain ⟨g, hg, ⟨q1, q2⟩⟩ := r.get (j := T.length) (y := a) (by simp)
  obtain ⟨b, o, e1, hb, _, hc⟩ := li T.length g hg
  refine ⟨by simp, by simpa using h1, h2, b, o, g.E, g.n, g.c, e1, hb, hc 0 _ rfl, ?_, q2⟩
  have := hc 1 _ rfl
  rw [q1] at this
  exact this

set_option maxHeartbeats 1000000 in
theorem add_join (A : Option Addr) (n c : Nat) (at_ : Int) (O : Option Addr) (on oc : Nat) (I : Option Addr) (im ic : Nat) (cur : Int) (T : List AG) (a : AG) (e : AE) (w : World)
    (hS : Stk w (.slice A n c) (T ++ [a])) (he : EdIs w ⟨at_, O, on, oc, I, im, ic⟩ e) (hn : T.length ≤ 1000) (hm : a.eds.length ≤ 1000) :
    Calls Try.prog 8 #[.agg #[.slice A n c], .agg #[.int .i64 at_, .slice O on oc, .slice I im ic], .int .i64 cur, .bool true] w (TellsS (T ++ [⟨a.eds ++ [e], a.cur⟩]) w) := by
  obtain ⟨rfl, hc1, hc2, b, o, E, m, d, rfl, hb, x0, x1, hE⟩ := hS.last
  obtain ⟨N, hN⟩ : ∃ N, T.length = N := ⟨_, rfl⟩
  rw [hN] at hc1 x0 x1 hn
  rw [hN]
  have d0 : decide ((0 : Int) < (N : Int) + 1) = true := by simp
  obtain ⟨W0, hW0⟩ : ∃ W0, ((w.alloc (.cells #[.slice (some ⟨b, o, none⟩) (N + 1) c] 25)).alloc (.cells #[.int .i64 at_, .slice O on oc, .slice I im ic] 34)).alloc (.cells #[.slice none 0 0] 25) = W0 := ⟨_, rfl⟩
  have b0 : Below w.heap.size w W0 := hW0 ▸ belPush (belPush (belAlloc _ _) _) _
  have y0 := (b0.cell (p := ⟨b, o + N * 2, none⟩) hb).trans x0
  have y1 := (b0.cell (p := ⟨b, o + N * 2 + 1, none⟩) hb).trans x1
  rw [← hW0] at y0 y1
  have g1 := eds_new (W0.alloc (.cells #[.slice E m d, .int .i64 a.cur] 40)) at_ O on oc I im ic e 34 (he.later (belPush b0 _)) (w.heap.size + 1 + 1 + 1 + 1) (by simp [← hW0])
  have q1 : Blk W0 w.heap.size #[.slice (some ⟨b, o, none⟩) (N + 1) c] := hW0 ▸ (blk_three w _ _ _ _ _ _).1
  have q2 : Blk W0 (w.heap.size + 1 + 1) #[.slice none 0 0] := hW0 ▸ (blk_three w _ _ _ _ _ _).2.2
  have q3 := blk_new W0 #[.slice E m d, .int .i64 a.cur] 40
  have hs0 : W0.heap.size = w.heap.size + 1 + 1 + 1 := by rw [← hW0]; simp
  rw [hs0] at q3
  have C := Lib.hid ((catE _ E _ m d 1 1 38 _ _ (w.heap.size + 1 + 1 + 1 + 1 + 1) (by simp [hs0]) (hE.later (belPush (belPush b0 _) _)) g1 (by simp; omega)).mono (R' := fun e' w' => ∃ A n c', e' = .returned (.slice A n c') ∧ Eds w' (.slice A n c') (a.eds ++ [e]) ∧ Below w.heap.size w w' ∧ Blk w' w.heap.size #[.slice (some ⟨b, o, none⟩) (N + 1) c] ∧ Blk w' (w.heap.size + 1 + 1) #[.slice none 0 0] ∧ Blk w' (w.heap.size + 1 + 1 + 1) #[.slice E m d, .int .i64 a.cur]) (by
    rintro e' w' ⟨A, n, c', rfl, h1, h2⟩
    exact ⟨A, n, c', rfl, h1, (belPush (belPush b0 _) _).trans (h2.mono (belPush (belPush b0 _) _).size), ((q1.alloc _).alloc _).later h2 (by simp [hs0]; omega), ((q2.alloc _).alloc _).later h2 (by simp [hs0]), (q3.alloc _).later h2 (by simp [hs0])⟩))
  rw [← hW0] at C
  have HX := Lib.hid (And.intro hS hN)
  clear he hE hm hN x0 x1 b0 hW0 g1 q1 q2 q3 hs0
  go_enter Try.func8, Try.ntmps8
  go_wp2_with fail
  (with_reducible refine C.out.mono ?_)
  rintro e' w1 ⟨A1, n1, c1, rfl, hE1, hb1, q1, q2, q3⟩
  have H1 := Lib.hid (And.intro hE1 (And.intro hb1 (And.intro q1 (And.intro q2 q3))))
  obtain ⟨y3, k3, j3⟩ := (show _ from q3)
  clear y0 y1 hE1 hb1 q1 q2 q3
  go_wp2
  refine at_world (fun X => Eds X (.slice A1 n1 c1) (a.eds ++ [e]) ∧ Below w.heap.size w X ∧ Blk X w.heap.size #[.slice (some ⟨b, o, none⟩) (N + 1) c] ∧ Blk X (w.heap.size + 1 + 1) #[.slice none 0 0] ∧ Blk X (w.heap.size + 1 + 1 + 1) #[.slice A1 n1 c1, .int .i64 a.cur]) ⟨H1.out.1.shape H1.out.2.2.2.2 (noTxt_group _ _ _ _) (by simp) _ _, H1.out.2.1.setCell (by simp; omega) _, H1.out.2.2.1.far (by simp; omega) _, H1.out.2.2.2.1.far (by simp) _, H1.out.2.2.2.2.set_ 0 (by simp) _⟩ ?_
  rintro X hX
  have HY := Lib.hid hX
  clear C H1 y3 k3 j3
  have e1 : (0 : Int) ≤ (N : Int) := by omega
  have e2 : (N : Int) ≤ (c : Int) := by omega
  have e3 : IntKind.i64.wrap (N : Int) = (N : Int) := IntWalk.i64_in _ (by omega)
  have C2 := Lib.hid (show ∀ n, Calls Try.prog 22 #[.slice (some ⟨X.heap.size + 1, 0, none⟩) 2 2] (((X.drewN n).alloc (.cells #[.slice A1 n1 c1, .int .i64 a.cur] 40)).alloc (.cells #[.slice (some ⟨b, o, none⟩) N c, .slice (some ⟨X.heap.size, 0, none⟩) 1 1] 23)) (fun e' w' => ∃ A n c', e' = .returned (.slice A n c') ∧ Stk w' (.slice A n c') (T ++ [⟨a.eds ++ [e], a.cur⟩]) ∧ Below w.heap.size w w' ∧ Blk w' (w.heap.size + 1 + 1) #[.slice none 0 0] ∧ Blk w' w.heap.size #[.slice (some ⟨b, o, none⟩) (N + 1) c] ∧ Blk w' (w.heap.size + 1 + 1 + 1) #[.slice A1 n1 c1, .int .i64 a.cur]) from fun n => by
    have hTN := HX.out.2
    have hT := hS.take T.length (by simp)
    rw [HX.out.2, List.take_left' HX.out.2] at hT
    have hb0 := belDrew hX.2.1 n
    have h1 : Stk (X.drewN n) (.slice (some ⟨b, o, none⟩) N c) T := hT.later hb0
    have h2 := stk_new (X.drewN n) A1 n1 c1 a.cur ⟨a.eds ++ [e], a.cur⟩ 40 ⟨rfl, hX.1.later (selfDrew X n)⟩ X.heap.size rfl
    refine (catG ((X.drewN n).alloc _) _ _ N c 1 1 23 T _ (X.heap.size + 1) (by simp) (h1.later (belAlloc _ _)) h2 (by simp; omega)).mono ?_
    rintro e' w' ⟨A, n', c', rfl, g1, g2⟩
    have z := hX.2.1.size
    exact ⟨A, n', c', rfl, g1, (belPush hb0 _).trans (g2.mono (belPush hb0 _).size), ((hX.2.2.2.1.drewN n).alloc _).later g2 (by have := hX.2.2.2.1.1; simp; omega), ((hX.2.2.1.drewN n).alloc _).later g2 (by have := hX.2.2.1.1; simp; omega), ((hX.2.2.2.2.drewN n).alloc _).later g2 (by have := hX.2.2.2.2.1; simp; omega)⟩)
  have S0 : (fun Y : World => Y.cell? ⟨w.heap.size, 0, none⟩ = some (.slice (some ⟨b, o, none⟩) (N + 1) c) ∧ Y.cell? ⟨w.heap.size + 1 + 1 + 1, 0, none⟩ = some (.slice A1 n1 c1) ∧ Y.cell? ⟨w.heap.size + 1 + 1 + 1, 1, none⟩ = some (.int .i64 a.cur)) X := ⟨hX.2.2.1.2.1 0, hX.2.2.2.2.2.1 0, hX.2.2.2.2.2.1 1⟩
  obtain ⟨s0, s1, s2⟩ := S0
  clear hX
  have ne1 : w.heap.size + 1 + 1 ≠ w.heap.size := by omega
  have ne2 : w.heap.size ≠ w.heap.size + 1 + 1 := by omega
  go_region_held3 (fun Y => Y.cell? ⟨w.heap.size, 0, none⟩ = some (.slice (some ⟨b, o, none⟩) (N + 1) c) ∧ Y.cell? ⟨w.heap.size + 1 + 1 + 1, 0, none⟩ = some (.slice A1 n1 c1) ∧ Y.cell? ⟨w.heap.size + 1 + 1 + 1, 1, none⟩ = some (.int .i64 a.cur))
    (first | assumption | go_keep)
    (first
    | (go_at_call 22; refine (C2.out _).mono ?_; rintro e w3 ⟨A3, n3, c3, rfl, hs3, hb3, hk3, hk4, hk5⟩; have S3 : w3.cell? ⟨w.heap.size, 0, none⟩ = some (.slice (some ⟨b, o, none⟩) (N + 1) c) ∧ w3.cell? ⟨w.heap.size + 1 + 1 + 1, 0, none⟩ = some (.slice A1 n1 c1) ∧ w3.cell? ⟨w.heap.size + 1 + 1 + 1, 1, none⟩ = some (.int .i64 a.cur) := ⟨hk4.2.1 0, hk5.2.1 0, hk5.2.1 1⟩; have H3 := Lib.hid (storedS hk3 hb3 (by omega) hs3); obtain ⟨y4, k4, j4⟩ := (show _ from hk3)))
  all_goals
    clear S3 y4 k4 j4 hk3 hk4 hk5 hs3 hb3
    refine at_world (StoredS w (w.heap.size + 1 + 1) (.slice A3 n3 c3) _) H3.out ?_
    rintro Z ⟨x0, hts, hZ⟩
    go_wp2
    refine bodyPost_ret (v := .agg #[.slice A3 n3 c3]) (by simp [results, Try.results8, go_sem, x0]) rfl ⟨_, _, _, rfl, hts, hZ⟩
end Go.Proofs.Ytfmpldgeldocnaa
