/- undo: the program's Add. -/
import Derived.Test.YtfmpldgeldocnaaUnS
namespace Go.Proofs.Ytfmpldgeldocnaa
open Go.RowKit
set_option linter.unusedVariables false
set_option linter.unusedSimpArgs false

theorem belAlloc (w : World) (o : Obj) : Below w.heap.size w (w.alloc o) := (Below.refl _ _).alloc (Nat.le_refl _) _
theorem belPush {w v : World} (h : Below w.heap.size w v) (o : Obj) : Below w.heap.size w (v.alloc o) := h.alloc h.size _
theorem eds_new (Y : World) (at_ : Int) (O : Option Addr) (on oc : Nat) (I : Option Addr) (im ic : Nat) (e : AE) (t : TypeId) (he : EdIs Y ⟨at_, O, on, oc, I, im, ic⟩ e) (b : Nat) (hb : b = Y.heap.size) :
    Eds (Y.alloc (.cells #[.int .i64 at_, .slice O on oc, .slice I im ic] t)) (.slice (some ⟨b, 0, none⟩) 1 1) [e] := by
  subst hb
  refine ⟨[⟨at_, O, on, oc, I, im, ic⟩], ⟨_, 1, rfl, (Li.new encE_len Y _ t rfl).mono (fun _ _ => trivial), (fun e => by cases e), Nat.le_refl _, by unfold maxLen; omega⟩, Both.one (he.later (belAlloc _ _))⟩
theorem stk_new (Y : World) (E : Option Addr) (n c : Nat) (cur : Int) (a : AG) (t : TypeId) (hg : GrIs Y ⟨E, n, c, cur⟩ a) (b : Nat) (hb : b = Y.heap.size) :
    Stk (Y.alloc (.cells #[.slice E n c, .int .i64 cur] t)) (.slice (some ⟨b, 0, none⟩) 1 1) [a] := by
  subst hb
  refine ⟨[⟨E, n, c, cur⟩], ⟨_, 1, rfl, (Li.new encG_len Y _ t rfl).mono (fun _ _ => trivial), (fun e => by cases e), Nat.le_refl _, by unfold maxLen; omega⟩, Both.one (hg.later (belAlloc _ _))⟩

/-- Concat of two slices that lie in a new block. -/
theorem two_cells (Y : World) (u v : Value) (t : TypeId) : (Y.alloc (.cells #[u, v] t)).cell? ⟨Y.heap.size, 0 + 0, none⟩ = some u ∧ (Y.alloc (.cells #[u, v] t)).cell? ⟨Y.heap.size, 0 + 1, none⟩ = some v :=
  ⟨by rw [World.cell?_alloc_new]; rfl, by rw [World.cell?_alloc_new]; rfl⟩
theorem catG (Y : World) (A1 A2 : Option Addr) (n1 c1 n2 c2 : Nat) (t : TypeId) (S1 S2 : List AG) (b : Nat) (hb : b = Y.heap.size) (h1 : Stk Y (.slice A1 n1 c1) S1) (h2 : Stk Y (.slice A2 n2 c2) S2) (hl : S1.length + S2.length ≤ 1000000) :
    Calls Try.prog 22 #[.slice (some ⟨b, 0, none⟩) 2 2] (Y.alloc (.cells #[.slice A1 n1 c1, .slice A2 n2 c2] t)) (fun e w' => ∃ A n c, e = .returned (.slice A n c) ∧ Stk w' (.slice A n c) (S1 ++ S2) ∧ Below Y.heap.size Y w') := by
  subst hb
  obtain ⟨H1, l1, r1⟩ := h1.later (belAlloc Y (.cells #[.slice A1 n1 c1, .slice A2 n2 c2] t))
  obtain ⟨H2, l2, r2⟩ := h2.later (belAlloc Y (.cells #[.slice A1 n1 c1, .slice A2 n2 c2] t))
  have e1 := l1.parts.1
  have e2 := l2.parts.1
  have hc := two_cells Y (.slice A1 n1 c1) (.slice A2 n2 c2) t
  have q1 := r1.1
  have q2 := r2.1
  refine (group_concat encG_len encG_one (some ⟨Y.heap.size, 0, none⟩) 2 (fun j => if j = 0 then A1 else A2) (fun j => if j = 0 then c1 else c2) [H1, H2] _ (by simp) ?_ (many_two l1 l2) (by simp; omega)).mono ?_
  · intro j M hj
    match j, hj with
    | 0, hj => simp at hj; subst hj; exact ⟨_, 0, rfl, by simp, by rw [← e1]; exact hc.1⟩
    | 1, hj => simp at hj; subst hj; exact ⟨_, 0, rfl, by simp, by rw [← e2]; exact hc.2⟩
  · rintro e w' ⟨A, n, c, rfl, ho, hb⟩
    refine ⟨A, n, c, rfl, ⟨H1 ++ H2, ?_, (r1.append r2).imp fun x y k => k.later hb⟩, (belAlloc _ _).trans (hb.mono (by simp))⟩
    have := LiV.own encG_len (by omega) ho
    simp only [List.flatten_cons, List.flatten_nil, List.append_nil] at this
    exact this.mono fun _ _ => trivial
theorem catE (Y : World) (A1 A2 : Option Addr) (n1 c1 n2 c2 : Nat) (t : TypeId) (S1 S2 : List AE) (b : Nat) (hb : b = Y.heap.size) (h1 : Eds Y (.slice A1 n1 c1) S1) (h2 : Eds Y (.slice A2 n2 c2) S2) (hl : S1.length + S2.length ≤ 1000000) :
    Calls Try.prog 21 #[.slice (some ⟨b, 0, none⟩) 2 2] (Y.alloc (.cells #[.slice A1 n1 c1, .slice A2 n2 c2] t)) (fun e w' => ∃ A n c, e = .returned (.slice A n c) ∧ Eds w' (.slice A n c) (S1 ++ S2) ∧ Below Y.heap.size Y w') := by
  subst hb
  obtain ⟨H1, l1, r1⟩ := h1.later (belAlloc Y (.cells #[.slice A1 n1 c1, .slice A2 n2 c2] t))
  obtain ⟨H2, l2, r2⟩ := h2.later (belAlloc Y (.cells #[.slice A1 n1 c1, .slice A2 n2 c2] t))
  have e1 := l1.parts.1
  have e2 := l2.parts.1
  have hc := two_cells Y (.slice A1 n1 c1) (.slice A2 n2 c2) t
  have q1 := r1.1
  have q2 := r2.1
  refine (edit_concat encE_len encE_one (some ⟨Y.heap.size, 0, none⟩) 2 (fun j => if j = 0 then A1 else A2) (fun j => if j = 0 then c1 else c2) [H1, H2] _ (by simp) ?_ (many_two l1 l2) (by simp; omega)).mono ?_
  · intro j M hj
    match j, hj with
    | 0, hj => simp at hj; subst hj; exact ⟨_, 0, rfl, by simp, by rw [← e1]; exact hc.1⟩
    | 1, hj => simp at hj; subst hj; exact ⟨_, 0, rfl, by simp, by rw [← e2]; exact hc.2⟩
  · rintro e w' ⟨A, n, c, rfl, ho, hb⟩
    refine ⟨A, n, c, rfl, ⟨H1 ++ H2, ?_, (r1.append r2).imp fun x y k => k.later hb⟩, (belAlloc _ _).trans (hb.mono (by simp))⟩
    have := LiV.own encE_len (by omega) ho
    simp only [List.flatten_cons, List.flatten_nil, List.append_nil] at this
    exact this.mono fun _ _ => trivial

set_option maxHeartbeats 1000000 in
theorem add_own (A : Option Addr) (n c : Nat) (at_ : Int) (O : Option Addr) (on oc : Nat) (I : Option Addr) (im ic : Nat) (cur : Int) (S : List AG) (e : AE) (w : World)
    (hS : Stk w (.slice A n c) S) (he : EdIs w ⟨at_, O, on, oc, I, im, ic⟩ e) (hn : S.length ≤ 1000) :
    Calls Try.prog 8 #[.agg #[.slice A n c], .agg #[.int .i64 at_, .slice O on oc, .slice I im ic], .int .i64 cur, .bool false] w (TellsS (S.drop (S.length - 999) ++ [⟨[e], cur⟩]) w) := by
  obtain ⟨A', c', e1, h1, h2⟩ := hS.is
  injection e1 with ea en ec
  subst ea; subst en; subst ec
  obtain ⟨K, hK⟩ : ∃ K, S.length - 999 = K := ⟨_, rfl⟩
  have hKl : K ≤ S.length := by omega
  obtain ⟨AA, hAA⟩ : ∃ AA, (if c = K then A else Option.map (fun x => x.add (K * 2)) A) = AA := ⟨_, rfl⟩
  have m0 : max ((S.length : Int) - 1000 + 1) 0 = (K : Int) := by omega
  have HC := Lib.hid (hS.cut K hKl)
  rw [hAA] at HC
  let W0 : World := (w.alloc (.cells #[.slice A S.length c] 25)).alloc (.cells #[.int .i64 at_, .slice O on oc, .slice I im ic] 34) |>.alloc (.cells #[.slice none 0 0] 25)
  have b0 : Below w.heap.size w W0 := belPush (belPush (belAlloc _ _) _) _
  have g1 := eds_new W0 at_ O on oc I im ic e 34 (he.later b0) (w.heap.size + 1 + 1 + 1) (by simp [W0])
  have g2 := stk_new _ _ 1 1 cur ⟨[e], cur⟩ 40 ⟨rfl, g1⟩ (w.heap.size + 1 + 1 + 1 + 1) (by simp [W0])
  have hk : Blk W0 (w.heap.size + 1 + 1) #[.slice none 0 0] := (blk_three w _ _ _ _ _ _).2.2
  have C := Lib.hid ((catG _ AA _ (S.length - K) (c - K) 1 1 23 _ _ (w.heap.size + 1 + 1 + 1 + 1 + 1) (by simp [W0]) (HC.out.later (belPush (belPush b0 _) _)) g2 (by simp; omega)).mono (R' := fun e' w' => ∃ A n c, e' = .returned (.slice A n c) ∧ Stk w' (.slice A n c) (S.drop K ++ [⟨[e], cur⟩]) ∧ Below w.heap.size w w' ∧ Blk w' (w.heap.size + 1 + 1) #[.slice none 0 0]) (by
    rintro e' w' ⟨A, n, c, rfl, h1, h2⟩
    exact ⟨A, n, c, rfl, h1, (belPush (belPush b0 _) _).trans (h2.mono (belPush (belPush b0 _) _).size), ((hk.alloc _).alloc _).later h2 (by simp [W0])⟩))
  simp only [W0] at C
  clear g1 g2 hk
  obtain ⟨N, hN⟩ : ∃ N, S.length = N := ⟨_, rfl⟩
  have HN2 := Lib.hid hN
  rw [hK]
  rw [hN] at m0 h1 hn hKl C
  rw [hN]
  have k1 : (K : Int) ≤ (c : Int) := by omega
  have k2 : (K : Int) ≤ (N : Int) := by omega
  have k3 : (0 : Int) ≤ (K : Int) := by omega
  clear hS he hK hKl hN b0 HC W0
  go_enter Try.func8, Try.ntmps8
  go_wp2_with fail
  (with_reducible refine C.out.mono ?_)
  rintro e w1 ⟨A1, n1, c1, rfl, ht1, hb1, hk1⟩
  have H1 := Lib.hid (storedS hk1 hb1 (by omega) ht1)
  obtain ⟨y0, k0, j0⟩ := (show _ from hk1)
  clear ht1 hb1 hk1
  go_wp2
  refine at_world (StoredS w (w.heap.size + 1 + 1) (.slice A1 n1 c1) _) H1.out ?_
  rintro X ⟨x0, hts, hX⟩
  refine bodyPost_ret (v := .agg #[.slice A1 n1 c1]) (by simp [results, Try.results8, go_sem, x0]) rfl ⟨_, _, _, rfl, hts, hX⟩
end Go.Proofs.Ytfmpldgeldocnaa
