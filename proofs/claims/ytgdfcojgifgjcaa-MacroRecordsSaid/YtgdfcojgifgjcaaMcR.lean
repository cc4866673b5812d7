/- macro: keys in memory S; Keys. -/
import Derived.Test.YtgdfcojgifgjcaaMcK
import Derived.Test.YtgdfcojgifgjcaaFewT
import Derived.Test.YtgdfcojgifgjcaaSkKy
namespace Go.Proofs.Ytgdfcojgifgjcaa
open Go.RowKit Go.Maps
set_option linter.unusedVariables false
set_option linter.unusedSimpArgs false
set_option maxRecDepth 100000

def KyS (X : World) (S : Nat → Prop) (v : Value) (ks : List Ky) : Prop := ∃ hs : List Kp, LiV 4 encK X S v hs ∧ KeysS X S hs ks
section
variable {X Y : World} {S S' : Nat → Prop} {v : Value} {ks : List Ky}
theorem KyS.later (h : KyS X S v ks) (hb : Below X.heap.size X Y) : KyS Y S v ks := by
  obtain ⟨hs, h1, h2⟩ := h
  exact ⟨hs, h1.later hb, h2.later hb⟩
theorem KyS.mono (h : KyS X S v ks) (hS : ∀ b, S b → S' b) : KyS X S' v ks := by
  obtain ⟨hs, h1, h2⟩ := h
  exact ⟨hs, h1.mono hS, h2.mono hS⟩
theorem KyS.old (h : KyS X S v ks) : KyS X (fun b => b < X.heap.size ∧ S b) v ks := by
  obtain ⟨hs, h1, h2⟩ := h
  exact ⟨hs, h1.old, h2.old⟩
theorem KyS.far (h : KyS X S v ks) {p : Addr} (hp : ¬ S p.block) (u : Value) : KyS (X.setCell p u) S v ks := by
  obtain ⟨hs, h1, h2⟩ := h
  exact ⟨hs, h1.far hp u, h2.far hp u⟩
theorem KyS.any (h : KyS X S v ks) : KyV X v ks := h.mono fun _ _ => trivial
theorem KyS.is (h : KyS X S v ks) : ∃ A c, v = .slice A ks.length c ∧ ks.length ≤ c ∧ c ≤ 9223372036854775807 := by
  obtain ⟨hs, h1, h2⟩ := h
  obtain ⟨A, c, e, h3, h4⟩ := h1.is
  rw [h2.1] at e h3
  exact ⟨A, c, e, h3, h4⟩
theorem kyS_nil (X : World) (S : Nat → Prop) : KyS X S (.slice none 0 0) [] := ⟨[], LiV.nil _ _, rfl, fun j x hx => by simp at hx⟩
/-- The key at a place. -/
theorem KyS.at_ {A : Option Addr} {n c k : Nat} (h : KyS X S (.slice A n c) ks) (hk : k < ks.length) : ∃ b o Ak nk ck, A = some ⟨b, o, none⟩ ∧ b < X.heap.size ∧ X.cell? ⟨b, o + k * 4, none⟩ = some (.int .i64 ks[k].k) ∧ X.cell? ⟨b, o + k * 4 + 1, none⟩ = some (.int .i32 ks[k].r) ∧ X.cell? ⟨b, o + k * 4 + 2, none⟩ = some (.bool ks[k].m) ∧ X.cell? ⟨b, o + k * 4 + 3, none⟩ = some (.slice Ak nk ck) ∧ TxtS X S (.slice Ak nk ck) ks[k].t := by
  obtain ⟨hs, h1, h2, h3⟩ := h
  have hx := List.getElem?_eq_getElem (by rw [h2]; exact hk : k < hs.length)
  obtain ⟨b, o, e, hl, _, hc⟩ := h1.parts.2.1 k _ hx
  obtain ⟨y, hy, k1, k2, k3, k4⟩ := h3 k _ hx
  obtain ⟨_, rfl⟩ := List.getElem?_eq_some_iff.1 hy
  refine ⟨b, o, _, _, _, e, hl, ?_, ?_, ?_, ?_, k4⟩
  · rw [← k1]; exact hc 0 _ rfl
  · rw [← k2]; exact hc 1 _ rfl
  · rw [← k3]; exact hc 2 _ rfl
  · exact hc 3 _ rfl
end
theorem KyS.block {X : World} {S : Nat → Prop} {ks : List Ky} {b o n c : Nat} (h : KyS X S (.slice (some ⟨b, o, none⟩) n c) ks) (hk : 0 < ks.length) : S b := by
  obtain ⟨hs, h1, h2, h3⟩ := h
  obtain ⟨b', o', e, _, hS, _⟩ := h1.parts.2.1 0 _ (List.getElem?_eq_getElem (by rw [h2]; exact hk : 0 < hs.length))
  injection e with e
  injection e with e1 e2
  rw [e1]
  exact hS
def cutK1 (k : Ky) : Ky := ⟨k.k, k.r, k.m, k.t.take 15⟩
def cutK (ks : List Ky) (n : Nat) : List Ky := (ks.take n).map cutK1
theorem cutK_snoc {ks : List Ky} {k : Nat} (hk : k < ks.length) : cutK ks (k + 1) = cutK ks k ++ [cutK1 ks[k]] := by
  unfold cutK
  rw [take_snoc' (List.getElem?_eq_getElem hk), List.map_append]
  rfl
theorem cutK_all {ks : List Ky} {n : Nat} (h : ks.length ≤ n) : cutK ks n = cutK ks ks.length := by
  unfold cutK
  rw [List.take_of_length_le h, List.take_of_length_le (Nat.le_refl _)]

theorem own_setCell {w : World} {base : Nat} {e : TypeId} {size n : Nat} {v : Value} {xs : List Value} (h : w.ownsRow base e size v n xs) (g i : Nat) (u : Value) (hne : v.ownBlock ≠ some g) : (w.setCell ⟨g, i, none⟩ u).ownsRow base e size v n xs :=
  h.kept (row := some g) ⟨rfl, rfl, rfl, by simp [World.setCell], fun k _ hk => Below.heap_setCell _ _ _ _ (fun e => hk (by simp [e]))⟩ (.inr hne)
theorem row_new {X : World} {base n b : Nat} {e : TypeId} {size : Nat} {v : Value} {xs : List Value} (h : X.ownsRow base e size v n xs) (hb : b < base) : some b ≠ v.ownBlock := fun e => by
  have := (h.lt b e.symm).1
  omega
theorem keys_end {w X : World} {S : Nat → Prop} {A : Option Addr} {k c : Nat} {D : List Kp} {ks : List Ky} (h : Grows w 30 4 encK A k c D X) (hk : KeysS X (fun b => b < w.heap.size ∧ S b) D ks) :
    ∃ A' m c', Ending.returned (.slice A k c) = .returned (.slice A' m c') ∧ KyS X (fun b => (b < w.heap.size ∧ S b) ∨ w.heap.size ≤ b) (.slice A' m c') ks ∧ m = ks.length ∧ Below w.heap.size w X := by
  have h1 := LiV.own encK_len (by omega) h.own
  refine ⟨A, k, c, rfl, ⟨D, h1.mono fun _ h => .inr h, hk.mono fun _ h => .inl h⟩, ?_, h.below⟩
  rw [← hk.1]
  exact h1.parts.1

set_option maxHeartbeats 4000000 in
theorem keys_any {w : World} {S : Nat → Prop} {v : Value} {ks : List Ky} (h : KyS w S v ks) (n : Nat) (hn : n ≤ 1000) :
    Calls Try.prog 11 #[v, .int .i64 n] w fun e w' => ∃ A m c, e = .returned (.slice A m c) ∧ KyS w' (fun b => (b < w.heap.size ∧ S b) ∨ w.heap.size ≤ b) (.slice A m c) (cutK ks n) ∧ m = (cutK ks n).length ∧ Below w.heap.size w w' := by
  obtain ⟨A, c, rfl, hc1, hc2⟩ := h.is
  obtain ⟨N, hN⟩ : ∃ N, ks.length = N := ⟨_, rfl⟩
  have HK := Lib.hid (And.intro h.old hN)
  rw [hN] at hc1 ⊢
  clear h hN
  go_enter Try.func11, Try.ntmps11
  go_wp2_with fail
  go_loopw [5, 6] (fun u i wr => ∃ (k : Nat) (Ao : Option Addr) (co : Nat) (D : List Kp), k ≤ N ∧ k ≤ n ∧ i = .int .i64 (k : Nat) ∧ u = .slice Ao k co ∧ Hid (Grows w 30 4 encK Ao k co D wr ∧ KeysS wr (fun b => b < w.heap.size ∧ S b) D (cutK ks k))) (fun _ i _ => N - (intOf i).toNat)
  case atStart => exact ⟨0, none, 0, [], Nat.zero_le _, Nat.zero_le _, rfl, rfl, Grows.start _ _ _, rfl, fun j x hx => by simp at hx⟩
  case round =>
    obtain ⟨k, Ao, co, D, hk, hkn, rfl, rfl, HG⟩ := hrel
    by_cases hlt : k < N
    · have d1 : decide ((k : Int) < (N : Int)) = true := decide_eq_true (by omega)
      by_cases hlt2 : k < n
      · have d2 : decide ((k : Int) < (n : Int)) = true := decide_eq_true (by omega)
        have hkk : k < ks.length := by rw [HK.out.2]; exact hlt
        obtain ⟨b, o, Ak, nk, ck, rfl, hb, l0, l1, l2, l3, lt⟩ := (HK.out.1.later HG.out.1.below).at_ hkk
        have HY := Lib.hid (cutK_snoc hkk)
        obtain ⟨y, hy⟩ : ∃ y, ks[k] = y := ⟨_, rfl⟩
        rw [hy] at l0 l1 l2 lt HY
        have g1 : (k : Int) < (N : Int) := by omega
        have g2 : (0 : Int) ≤ (k : Int) := by omega
        have HT := Lib.hid lt
        obtain ⟨yk, yr, ym, yt⟩ := y
        dsimp only at l0 l1 l2 HT
        clear hy lt hkk
        go_upto_region 6 with fail
        refine at_world (fun X => Grows w 30 4 encK Ao k co D X ∧ KeysS X (fun b => b < w.heap.size ∧ S b) D (cutK ks k) ∧ Blk X wr.heap.size #[.int .i64 yk, .int .i32 yr, .bool ym, .slice Ak nk ck] ∧ TxtS X (fun b => b < w.heap.size ∧ S b) (.slice Ak nk ck) yt ∧ w.heap.size ≤ wr.heap.size ∧ (Value.slice Ao k co).ownBlock ≠ some wr.heap.size) ⟨HG.out.1.later (belAlloc _ _), HG.out.2.later (belAlloc _ _), blk_new wr _ _, HT.out.later (belAlloc _ _), HG.out.1.below.size, fun e => Nat.lt_irrefl _ (HG.out.1.own.lt _ e).2⟩ ?_
        obtain ⟨g, hg⟩ : ∃ g, wr.heap.size = g := ⟨_, rfl⟩
        rw [hg]
        intro X hX
        have VX := Lib.hid hX
        clear hX HG HT l0 l1 l2 l3 hg
        obtain ⟨y1, k1, j1⟩ := (show _ from VX.out.2.2.1)
        have CF := Lib.hid (few_any (.slice Ak nk ck) yt 15 X VX.out.2.2.2.1.any (by omega))
        go_wp2_with fail
        refine CF.out.mono ?_
        rintro e w5 ⟨A5, c5, rfl, ht5, rfl⟩
        have H5 := Lib.hid (ht5 X _ VX.out.2.2.2.1)
        obtain ⟨n5, hn5⟩ : ∃ n5, (yt.take 15).length = n5 := ⟨_, rfl⟩
        rw [hn5] at H5 ⊢
        clear ht5 hn5 CF
        go_upto_region 7 with fail
        refine at_world (fun Z => Grows w 30 4 encK Ao k co D Z ∧ KeysS Z (fun b => b < w.heap.size ∧ S b) D (cutK ks k) ∧ Blk Z g #[.int .i64 yk, .int .i32 yr, .bool ym, .slice A5 n5 c5] ∧ TxtS Z (fun b => b < w.heap.size ∧ S b) (.slice A5 n5 c5) (yt.take 15) ∧ w.heap.size ≤ g) ⟨⟨?_, VX.out.1.below.setCell (p := ⟨g, 3, none⟩) VX.out.2.2.2.2.1 _⟩, VX.out.2.1.far (p := ⟨g, 3, none⟩) (by have := VX.out.2.2.2.2.1; show ¬ (g < w.heap.size ∧ _); omega) _, ?_, Sl.far H5.out (p := ⟨g, 3, none⟩) (by have := VX.out.2.2.2.2.1; show ¬ (g < w.heap.size ∧ _); omega) _, VX.out.2.2.2.2.1⟩ ?_
        · exact own_setCell VX.out.1.own g 3 _ VX.out.2.2.2.2.2
        · have := VX.out.2.2.1.set_ 3 (by simp) (.slice A5 n5 c5)
          simpa using this
        intro Z hZ
        have VZ := Lib.hid hZ
        clear hZ VX H5 y1 k1 j1
        obtain ⟨y1, k1, j1⟩ := (show _ from VZ.out.2.2.1)
        have hz1 := VZ.out.1.below.size
        go_wp2_with (at_builtin; refine wpList_push (cs := #[.int .i64 yk, .int .i32 yr, .bool ym, .slice A5 n5 c5]) key_elt VZ.out.1.own hz1 rfl rfl rfl rfl rfl rfl rfl (by unfold maxLen; omega) (by omega) ?_; intro A6 c6 w6 hp; have V6 := Lib.hid (VZ.out.1.push (x := ⟨yk, yr, ym, A5, n5, c5⟩) (Below.refl _ _) hp); have K6 := Lib.hid (KeysS.grown VZ.out.2.1.old hp.grown (fun b hb => row_new VZ.out.1.own hb.2.1)); have T6 := Lib.hid (Sl.grown VZ.out.2.2.2.1.old hp.grown (fun b hb => row_new VZ.out.1.own hb.2.1)); clear hp)
        go_roundw
        case rel => exact ⟨k + 1, A6, c6, _, by omega, by omega, by go_num, rfl, V6.out, by rw [HY.out]; exact (K6.out.mono fun b hb => hb.2).snoc rfl rfl rfl (Sl.mono T6.out fun b hb => hb.2)⟩
        case measure => simp [intOf]; omega
      · have d2 : decide ((k : Int) < (n : Int)) = false := decide_eq_false (by omega)
        obtain rfl : k = n := by omega
        go_wp2_with fail
        go_ret
        exact keys_end HG.out.1 HG.out.2
    · have d1 : decide ((k : Int) < (N : Int)) = false := decide_eq_false (by omega)
      obtain rfl : k = N := by omega
      have HE := Lib.hid (show cutK ks n = cutK ks k from by rw [cutK_all (by rw [HK.out.2]; exact hkn), HK.out.2])
      go_wp2_with fail
      go_ret
      rw [HE.out]
      exact keys_end HG.out.1 HG.out.2
end Go.Proofs.Ytgdfcojgifgjcaa
