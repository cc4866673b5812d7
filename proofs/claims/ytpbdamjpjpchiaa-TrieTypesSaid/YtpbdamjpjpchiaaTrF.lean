/- trie: free. -/
import Derived.Test.YtpbdamjpjpchiaaTrA
namespace Go.Proofs.Ytpbdamjpjpchiaa
open Go.RowKit
set_option linter.unusedVariables false
set_option linter.unusedSimpArgs false

/-- next leads from a part that is taken to one that may be free. -/
def NextInv (N : List Nat) (T : Nat → Prop) (m : Nat) : Prop := N.length = m + 1 ∧ ∀ j, j ≤ m → j ≤ N.getD j 0 ∧ N.getD j 0 ≤ m ∧ (N.getD j 0 = j ↔ ¬ T j) ∧ ∀ q, j ≤ q → q < N.getD j 0 → T q
theorem NextInv.set {N : List Nat} {T : Nat → Prop} {m i e : Nat} (h : NextInv N T m) (hi : i < e) (he : e ≤ m) (ht : ∀ q, i ≤ q → q < e → T q) : NextInv (N.set i e) T m := by
  refine ⟨by simp [h.1], fun j hj => ?_⟩
  have hl := h.1
  by_cases hji : j = i
  · subst hji
    have e1 : (N.set j e).getD j 0 = e := by simp [List.getD, show j < N.length by omega]
    rw [e1]
    exact ⟨by omega, he, ⟨fun h' => by omega, fun h' => absurd (ht j (Nat.le_refl _) hi) h'⟩, ht⟩
  · have e1 : (N.set i e).getD j 0 = N.getD j 0 := by simp [List.getD, List.getElem?_set, Ne.symm hji]
    rw [e1]
    exact h.2 j hj
theorem NextInv.take {N : List Nat} {T T' : Nat → Prop} {m i : Nat} (h : NextInv N T m) (hi : i + 1 ≤ m) (ht : ∀ q, T' q ↔ T q ∨ q = i) : NextInv (N.set i (i + 1)) T' m := by
  refine ⟨by simp [h.1], fun j hj => ?_⟩
  have hl := h.1
  by_cases hji : j = i
  · subst hji
    have e1 : (N.set j (j + 1)).getD j 0 = j + 1 := by simp [List.getD, show j < N.length by omega]
    rw [e1]
    exact ⟨by omega, hi, ⟨fun h' => by omega, fun h' => absurd ((ht j).2 (.inr rfl)) h'⟩, fun q h1 h2 => (ht q).2 (.inr (by omega))⟩
  · have e1 : (N.set i (i + 1)).getD j 0 = N.getD j 0 := by simp [List.getD, List.getElem?_set, Ne.symm hji]
    rw [e1]
    obtain ⟨h1, h2, h3, h4⟩ := h.2 j hj
    exact ⟨h1, h2, by rw [h3, ht]; simp [hji], fun q a b => (ht q).2 (.inl (h4 q a b))⟩

/-- The block of next. -/
def Nx (w : World) (g : Nat) (N : List Nat) : Prop := ∃ cs, Blk w g cs ∧ ∀ j, j < N.length → cs[j]? = some (.int .i64 ((N.getD j 0 : Nat) : Int))
theorem Nx.cell {w : World} {g : Nat} {N : List Nat} (h : Nx w g N) {j : Nat} (hj : j < N.length) : w.cell? ⟨g, j, none⟩ = some (.int .i64 ((N.getD j 0 : Nat) : Int)) := by
  obtain ⟨cs, hB, hc⟩ := h
  rw [hB.2.1]; exact hc j hj
theorem Nx.free {w : World} {g : Nat} {N : List Nat} (h : Nx w g N) (j : Nat) : w.frozen? ⟨g, j, none⟩ = false := by
  obtain ⟨cs, hB, hc⟩ := h
  exact hB.2.2 j
theorem Nx.lt {w : World} {g : Nat} {N : List Nat} (h : Nx w g N) : g < w.heap.size := by
  obtain ⟨cs, hB, hc⟩ := h
  exact hB.1
theorem Nx.set {w : World} {g : Nat} {N : List Nat} (h : Nx w g N) (j : Nat) (hj : j < N.length) (u : Nat) : Nx (w.setCell ⟨g, j, none⟩ (.int .i64 (u : Int))) g (N.set j u) := by
  obtain ⟨cs, hB, hc⟩ := h
  have hjc : j < cs.size := by
    have := hc j hj
    rcases Nat.lt_or_ge j cs.size with h' | h'
    · exact h'
    · rw [Array.getElem?_eq_none h'] at this; cases this
  refine ⟨_, hB.set_ j hjc _, fun i hi => ?_⟩
  simp at hi
  by_cases hij : j = i
  · subst hij
    simp [hjc, List.getD, hj]
  · rw [Array.getElem?_setIfInBounds_ne hij, hc i hi]
    simp [List.getD, List.getElem?_set, hij]
theorem Nx.later {w w' : World} {g B : Nat} {N : List Nat} (h : Nx w g N) (hb : Below B w w') (hg : g < B) : Nx w' g N := by
  obtain ⟨cs, hB, hc⟩ := h
  exact ⟨cs, hB.later hb hg, hc⟩
theorem Nx.grown {w w' : World} {g : Nat} {row : Option Nat} {N : List Nat} (h : Nx w g N) (hg : w.grownBy w' row) (hne : some g ≠ row) : Nx w' g N := by
  obtain ⟨cs, hB, hc⟩ := h
  exact ⟨cs, hB.grown hg hne, hc⟩
theorem grown_set (w : World) (g j : Nat) (u : Value) : w.grownBy (w.setCell ⟨g, j, none⟩ u) (some g) :=
  ⟨rfl, rfl, rfl, by rw [World.size_setCell]; exact Nat.le_refl _, fun k _ hne => Below.heap_setCell w ⟨g, j, none⟩ u k (fun e => hne (by rw [e]))⟩
theorem grown_trans {a b c : World} {g : Nat} (h : a.grownBy b (some g)) (k : b.grownBy c (some g)) : a.grownBy c (some g) :=
  ⟨k.os.trans h.os, k.tape.trans h.tape, k.output.trans h.output, Nat.le_trans h.size k.size, fun i hi hn => (k.block i (Nat.lt_of_lt_of_le hi h.size) hn).trans (h.block i hi hn)⟩

/-- The first part from one on that is not taken. -/
def FreeAt (T : Nat → Prop) (m i e : Nat) : Prop := i ≤ e ∧ e ≤ m ∧ ¬ T e ∧ ∀ q, i ≤ q → q < e → T q

set_option maxHeartbeats 4000000 in
set_option maxRecDepth 100000 in
theorem free_any (g c m i : Nat) (N : List Nat) (T : Nat → Prop) (w : World) (hN : Nx w g N) (hI : NextInv N T m) (hi : i ≤ m) (hm : m < 1000000) :
    Calls Try.prog 37 #[.slice (some ⟨g, 0, none⟩) (m + 1) c, .int .i64 i] w fun e w' => ∃ (r : Nat) (N' : List Nat), e = .returned (.int .i64 r) ∧ FreeAt T m i r ∧ NextInv N' T m ∧ Nx w' g N' ∧ w.grownBy w' (some g) := by
  have HN := Lib.hid hN
  have HI := Lib.hid hI
  clear hN hI
  go_enter Try.func37, Try.ntmps37
  go_wp2
  go_loop [5] (fun v => ∃ e : Nat, v = .int .i64 e ∧ i ≤ e ∧ e ≤ m ∧ Hid (∀ q, i ≤ q → q < e → T q)) (fun v => m - (intOf v).toNat)
  case atStart => exact ⟨i, rfl, Nat.le_refl _, hi, fun q a b => absurd b (by omega)⟩
  case round =>
    obtain ⟨e, rfl, he1, he2, HQ⟩ := hrel
    have hc := HN.out.cell (j := e) (by rw [HI.out.1]; omega)
    obtain ⟨f, hf⟩ : ∃ f, N.getD e 0 = f := ⟨_, rfl⟩
    obtain ⟨h1, h2, h3, h4⟩ := HI.out.2 e he2
    rw [hf] at hc h1 h2 h3 h4
    by_cases hfe : f = e
    · subst hfe
      have HF := Lib.hid (show FreeAt T m i f from ⟨he1, he2, h3.1 rfl, HQ.out⟩)
      clear hf h1 h2 h3 h4 HQ
      go_wp2
      go_loopw [1] (fun iv wr => ∃ (q : Nat) (N' : List Nat), iv = .int .i64 q ∧ q ≤ f ∧ Hid (NextInv N' T m ∧ Nx wr g N' ∧ (∀ x, q ≤ x → x < f → T x) ∧ w.grownBy wr (some g))) (fun iv _ => f - (intOf iv).toNat)
      case atStart => exact ⟨i, N, rfl, he1, HI.out, HN.out, HF.out.2.2.2, World.grownBy.refl w _⟩
      case round =>
        obtain ⟨q, N', rfl, hq, HZ⟩ := hrel
        obtain ⟨k1, k2, k3, k4⟩ := HZ.out.1.2 q (by omega)
        have hcq := HZ.out.2.1.cell (j := q) (by rw [HZ.out.1.1]; omega)
        have hfq := HZ.out.2.1.free q
        have hlq := HZ.out.2.1.lt
        obtain ⟨f', hf'⟩ : ∃ f', N'.getD q 0 = f' := ⟨_, rfl⟩
        rw [hf'] at hcq k1 k2 k3 k4
        clear hf' hc
        by_cases hff : f' = f
        · subst hff
          clear k3 k4
          have HR := Lib.hid (And.intro HZ.out.1 (And.intro HZ.out.2.1 HZ.out.2.2.2))
          clear HZ
          go_wp2
          go_ret
          exact ⟨f', N', rfl, HF.out, HR.out.1, HR.out.2.1, HR.out.2.2⟩
        · have hqf : q < f := by
            rcases Nat.lt_or_eq_of_le hq with h | h
            · exact h
            · subst h; exact absurd (k3.2 HF.out.2.2.1) hff
          have hqf' : q < f' := by
            rcases Nat.lt_or_eq_of_le k1 with h | h
            · exact h
            · exact absurd (HZ.out.2.2.1 q (Nat.le_refl _) hqf) (k3.1 h.symm)
          have hff' : f' < f := by
            rcases Nat.lt_or_ge f f' with h | h
            · exact absurd (k4 f (by omega) h) HF.out.2.2.1
            · omega
          have hne : ((f' : Int) != (f : Int)) = true := by simp; omega
          have HY := Lib.hid (show NextInv (N'.set q f) T m ∧ Nx (wr.setCell ⟨g, q, none⟩ (.int .i64 (f : Int))) g (N'.set q f) ∧ (∀ x, f' ≤ x → x < f → T x) ∧ w.grownBy (wr.setCell ⟨g, q, none⟩ (.int .i64 (f : Int))) (some g) from
            ⟨HZ.out.1.set hqf he2 HZ.out.2.2.1, HZ.out.2.1.set q (by rw [HZ.out.1.1]; omega) f, fun x a b => HZ.out.2.2.1 x (by omega) b, grown_trans HZ.out.2.2.2 (grown_set _ _ _ _)⟩)
          clear k3 k4 HZ hff
          go_wp2
          go_roundw
          case rel => exact ⟨f', N'.set q f, rfl, by omega, HY.out⟩
          case measure => simp [intOf]; omega
    · have hne : ((f : Int) != (e : Int)) = true := by simp; omega
      have HQ2 := Lib.hid (show ∀ q, i ≤ q → q < f → T q from fun q a b => by
        rcases Nat.lt_or_ge q e with h | h
        · exact HQ.out q a h
        · exact h4 q h b)
      clear hf h3 h4 HQ
      go_wp2
      go_round
      case rel => exact ⟨f, rfl, by omega, h2, HQ2.out⟩
      case measure => simp [intOf]; omega
end Go.Proofs.Ytpbdamjpjpchiaa
