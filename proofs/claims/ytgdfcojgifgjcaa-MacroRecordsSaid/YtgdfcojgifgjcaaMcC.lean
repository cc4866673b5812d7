/- macro: stepsCopy. -/
import Derived.Test.YtgdfcojgifgjcaaMcB
namespace Go.Proofs.Ytgdfcojgifgjcaa
open Go.RowKit
set_option linter.unusedVariables false
set_option linter.unusedSimpArgs false
set_option maxRecDepth 100000

/-- A step and its copy, whose text lies in S. -/
def Cp (w : World) (S : Nat → Prop) (x x' : Sp) (l : List Int) : Prop := x'.k = x.k ∧ x'.r = x.r ∧ x'.m = x.m ∧ x'.call = x.call ∧ x'.nm = x.nm ∧ TxtS w S (.slice x'.A x'.n x'.c) l
/-- The first k steps are copied. -/
structure Cpd (w : World) (g : Nat) (H : List Sp) (T : Nat → List Int) (cs : Array Value) (H' : List Sp) (k : Nat) (X : World) : Prop where
  below : Below w.heap.size w X
  b : Blk X g cs
  lay : Lay cs H'
  sz : H.length * 6 ≤ cs.size
  len : H'.length = H.length
  g0 : w.heap.size ≤ g
  done : ∀ j x, j < k → H[j]? = some x → ∃ x', H'[j]? = some x' ∧ Cp X (fun b => w.heap.size ≤ b ∧ b ≠ g) x x' (T j)
  rest : ∀ j, k ≤ j → H'[j]? = H[j]?
theorem Cpd.later {w X Y : World} {g : Nat} {H : List Sp} {T : Nat → List Int} {cs : Array Value} {H' : List Sp} {k : Nat} (h : Cpd w g H T cs H' k X) (hb : Below X.heap.size X Y) : Cpd w g H T cs H' k Y := by
  refine ⟨belowStep h.below hb, h.b.later hb h.b.1, h.lay, h.sz, h.len, h.g0, fun j x hj hx => ?_, h.rest⟩
  obtain ⟨x', h1, h2⟩ := h.done j x hj hx
  exact ⟨x', h1, h2.1, h2.2.1, h2.2.2.1, h2.2.2.2.1, h2.2.2.2.2.1, Sl.later h2.2.2.2.2.2 hb⟩
theorem txt_far4 {X : World} {S : Nat → Prop} {v : Value} {l : List Int} {g : Nat} (h : TxtS X S v l) (hS : ¬ S g) (o : Nat) (a b c d : Value) : TxtS ((((X.setCell ⟨g, o, none⟩ a).setCell ⟨g, o + 1, none⟩ b).setCell ⟨g, o + 2, none⟩ c).setCell ⟨g, o + 3, none⟩ d) S v l :=
  (((Sl.far h (p := ⟨g, o, none⟩) hS _).far (p := ⟨g, o + 1, none⟩) hS _).far (p := ⟨g, o + 2, none⟩) hS _).far (p := ⟨g, o + 3, none⟩) hS _
theorem Cpd.put {w X : World} {g : Nat} {H : List Sp} {T : Nat → List Int} {cs : Array Value} {H' : List Sp} {k : Nat} {x : Sp} {A : Option Addr} {n c : Nat} (h : Cpd w g H T cs H' k X) (hx : H[k]? = some x) (ht : TxtS X (fun b => w.heap.size ≤ b ∧ b ≠ g) (.slice A n c) (T k)) :
    Cpd w g H T (putKey cs (k * 6) ⟨x.k, x.r, x.m, A, n, c, x.call, x.nm⟩) (H'.set k ⟨x.k, x.r, x.m, A, n, c, x.call, x.nm⟩) (k + 1) ((((X.setCell ⟨g, k * 6, none⟩ (.int .i64 x.k)).setCell ⟨g, k * 6 + 1, none⟩ (.int .i32 x.r)).setCell ⟨g, k * 6 + 2, none⟩ (.bool x.m)).setCell ⟨g, k * 6 + 3, none⟩ (.slice A n c)) := by
  have hk : k < H.length := (List.getElem?_eq_some_iff.1 hx).1
  have hs := h.sz
  have hx' : H'[k]? = some x := (h.rest k (Nat.le_refl _)).trans hx
  refine ⟨(((h.below.setCell h.g0 _).setCell h.g0 _).setCell h.g0 _).setCell h.g0 _, h.b.putKey (k * 6) ⟨x.k, x.r, x.m, A, n, c, x.call, x.nm⟩ (by omega), h.lay.put hx' (by omega) rfl rfl, by rw [putKey_size]; exact hs, by rw [List.length_set]; exact h.len, h.g0, fun j y hj hy => ?_, fun j hj => ?_⟩
  · by_cases e : j = k
    · subst e
      rw [hx] at hy
      obtain rfl : x = y := Option.some.inj hy
      refine ⟨_, List.getElem?_set_self (by rw [h.len]; exact hk), rfl, rfl, rfl, rfl, rfl, ?_⟩
      exact txt_far4 ht (fun q => q.2 rfl) _ _ _ _ _
    · obtain ⟨y', h1, h2⟩ := h.done j y (by omega) hy
      exact ⟨y', by rw [List.getElem?_set_ne (fun q => e q.symm)]; exact h1, h2.1, h2.2.1, h2.2.2.1, h2.2.2.2.1, h2.2.2.2.2.1, txt_far4 h2.2.2.2.2.2 (fun q => q.2 rfl) _ _ _ _ _⟩
  · rw [List.getElem?_set_ne (by omega)]
    exact h.rest j (by omega)

/-- What stepsCopy tells. -/
def Copied (H : List Sp) (T : Nat → List Int) (w : World) (e : Ending) (w' : World) : Prop := ∃ A n c H', e = .returned (.slice A n c) ∧ LiV 6 encS w' (fun b => w.heap.size ≤ b) (.slice A n c) H' ∧ H'.length = H.length ∧ (∀ j x, H[j]? = some x → ∃ x', H'[j]? = some x' ∧ Cp w' (fun b => w.heap.size ≤ b) x x' (T j)) ∧ Below w.heap.size w w' ∧ ∃ (P : Option (Nat × Nat)) (i k : Nat), Value.slice A n c = .slice (P.map fun p => ⟨p.1, p.2, none⟩) i k

set_option maxHeartbeats 4000000 in
theorem stepscopy_any (A : Option Addr) (c : Nat) (H : List Sp) (T : Nat → List Int) (w : World) (hH : LiV 6 encS w (fun _ => True) (.slice A H.length c) H) (hT : ∀ j x, H[j]? = some x → Txt w (.slice x.A x.n x.c) (T j) ∧ (T j).length ≤ 1000000000) (hl : H.length ≤ 100000) :
    Calls Try.prog 24 #[.slice A H.length c] w (Copied H T w) := by
  have C1 := Lib.hid (stp_clone encS_len encS_one A c H w hH (by omega))
  have HT := Lib.hid hT
  obtain ⟨N, hN⟩ : ∃ N, H.length = N := ⟨_, rfl⟩
  have HN := Lib.hid hN
  rw [hN] at hl C1 ⊢
  clear hH hT hN
  go_enter Try.func24, Try.ntmps24
  go_wp2_with fail
  refine C1.out.mono ?_
  rintro e w1 ⟨A1, n1, c1, rfl, o1, b1⟩
  have hn1 := own_count encS_len (by omega) o1
  rw [HN.out] at hn1
  subst hn1
  by_cases h0 : N = 0
  · subst h0
    have hsv : ∃ (P : Option (Nat × Nat)) (i k : Nat), Value.slice A1 0 c1 = .slice (P.map fun p => ⟨p.1, p.2, none⟩) i k := by
      rcases o1.2 with ⟨hv, _⟩ | ⟨g, cap, cur, hv, _⟩
      · exact ⟨none, 0, 0, hv⟩
      · exact ⟨some (g, 0), 0, cap, hv⟩
    have HO := Lib.hid (And.intro (LiV.own encS_len (by omega) o1) (And.intro b1 hsv))
    clear hsv
    clear o1 b1
    have hH0 : H = [] := List.eq_nil_of_length_eq_zero HN.out
    have HH0 := Lib.hid hH0
    clear hH0
    go_wp2_with fail
    go_loopw [3, 8] (fun _ i wr => i = .int .i64 0 ∧ wr = w1) (fun _ _ _ => 0)
    case atStart => exact ⟨rfl, rfl⟩
    case round =>
      obtain ⟨rfl, rfl⟩ := hrel
      go_wp2_with fail
      go_ret
      exact ⟨_, _, _, H, rfl, HO.out.1, rfl, fun j x hj => by rw [HH0.out] at hj; simp at hj, HO.out.2.1, HO.out.2.2⟩
  · obtain ⟨g, cs, rfl, hg, hB, hnc, hcm, hsz, hcc⟩ := own_blk o1 (by omega)
    have K0 := Lib.hid (show Cpd w g H T cs H 0 w1 from ⟨b1, hB, fun j x hj i u hu => hcc _ _ (flatL_get encS_len H j x i u hj hu), by rw [HN.out, hsz]; exact Nat.mul_le_mul_right _ hnc, rfl, hg, fun j x hj => by omega, fun _ _ => rfl⟩)
    clear o1 b1 hB hcc
    go_wp2_with fail
    go_loopw [3, 8] (fun _ i wr => ∃ (k : Nat) (cs : Array Value) (H' : List Sp), k ≤ N ∧ i = .int .i64 k ∧ Hid (Cpd w g H T cs H' k wr)) (fun _ i _ => N - (intOf i).toNat)
    case atStart => exact ⟨0, cs, H, Nat.zero_le _, rfl, K0.out⟩
    case round =>
      obtain ⟨k, cs', H', hk, rfl, HK⟩ := hrel
      by_cases hlt : k < N
      · have hkH : k < H.length := by rw [HN.out]; exact hlt
        obtain ⟨x, hx⟩ : ∃ x, H[k]? = some x := ⟨_, List.getElem?_eq_getElem hkH⟩
        have hx' : H'[k]? = some x := (HK.out.rest k (Nat.le_refl _)).trans hx
        have HX := Lib.hid hx
        have l0 : wr.cell? ⟨g, k * 6, none⟩ = some (.int .i64 x.k) := (HK.out.b.2.1 (k * 6)).trans (HK.out.lay k x hx' 0 _ rfl)
        have l1 : wr.cell? ⟨g, k * 6 + 1, none⟩ = some (.int .i32 x.r) := (HK.out.b.2.1 _).trans (HK.out.lay k x hx' 1 _ rfl)
        have l2 : wr.cell? ⟨g, k * 6 + 2, none⟩ = some (.bool x.m) := (HK.out.b.2.1 _).trans (HK.out.lay k x hx' 2 _ rfl)
        have l3 : wr.cell? ⟨g, k * 6 + 3, none⟩ = some (.slice x.A x.n x.c) := (HK.out.b.2.1 _).trans (HK.out.lay k x hx' 3 _ rfl)
        have C2 := Lib.hid (keycopy_any x.k x.r x.m x.A x.n x.c (T k) wr ((HT.out k x hx).1.later HK.out.below) (HT.out k x hx).2)
        have g1 : (k : Int) < (N : Int) := by omega
        have g2 : (0 : Int) ≤ (k : Int) := by omega
        have HX' := Lib.hid hx'
        clear hx hx'
        obtain ⟨xk, xr, xm, xA, xn, xc, xcall, xnm⟩ := x
        dsimp only at l0 l1 l2 l3 C2
        go_wp2_with fail
        refine C2.out.mono ?_
        rintro e w5 ⟨A5, n5, c5, rfl, t5, b5⟩
        have hgw : g < wr.heap.size := HK.out.b.1
        have K5 := Lib.hid (And.intro (HK.out.later b5) (Sl.mono t5 (S' := fun b => w.heap.size ≤ b ∧ b ≠ g) fun q hq => by have := HK.out.below.size; omega))
        have lay5 := K5.out.1.lay k _ HX'.out
        have B5 := K5.out.1.b
        have m0 : w5.cell? ⟨g, k * 6, none⟩ = some (.int .i64 xk) := (B5.2.1 (k * 6)).trans (lay5 0 _ rfl)
        have m1 : w5.cell? ⟨g, k * 6 + 1, none⟩ = some (.int .i32 xr) := (B5.2.1 _).trans (lay5 1 _ rfl)
        have m2 : w5.cell? ⟨g, k * 6 + 2, none⟩ = some (.bool xm) := (B5.2.1 _).trans (lay5 2 _ rfl)
        have m3 : w5.cell? ⟨g, k * 6 + 3, none⟩ = some (.slice xA xn xc) := (B5.2.1 _).trans (lay5 3 _ rfl)
        have fz : ∀ j, w5.frozen? ⟨g, j, none⟩ = false := B5.2.2
        have hsz5 : g < w5.heap.size := B5.1
        have K6 := Lib.hid (K5.out.1.put HX.out K5.out.2)
        clear t5 b5 l0 l1 l2 l3 C2 lay5 B5
        go_wp2_with fail
        go_roundw
        case rel => exact ⟨k + 1, _, _, by omega, by go_num, K6.out⟩
        case measure => simp [intOf]; omega
      · obtain rfl : k = N := by omega
        have hcap : k ≤ c1 := hnc
        go_wp2_with fail
        go_ret
        refine ⟨_, _, _, H', rfl, ⟨some ⟨g, 0, none⟩, c1, by rw [HK.out.len, HN.out], HK.out.lay.li HK.out.b HK.out.g0, (fun h => by cases h), by rw [HK.out.len, HN.out]; exact hnc, hcm⟩, HK.out.len, fun j x hj => ?_, HK.out.below, some (g, 0), _, _, rfl⟩
        obtain ⟨x', h1, h2⟩ := HK.out.done j x (by have := (List.getElem?_eq_some_iff.1 hj).1; rw [HN.out] at this; exact this) hj
        exact ⟨x', h1, h2.1, h2.2.1, h2.2.2.1, h2.2.2.2.1, h2.2.2.2.2.1, Sl.mono h2.2.2.2.2.2 fun q hq => hq.1⟩
end Go.Proofs.Ytgdfcojgifgjcaa
