/- keys: storing a result. -/
import Derived.Test.YtkkenabckhmkoaaKyC
namespace Go.Proofs.Ytkkenabckhmkoaa
open Go.RowKit
set_option linter.unusedVariables false
set_option linter.unusedSimpArgs false
set_option maxRecDepth 100000

theorem zero_noI32 (i : Nat) (x : Int) : zeroC[i]? ≠ some (.int .i32 x) := by
  intro h
  rcases i with _ | _ | _ | _ | _ | _ | _ | _ | _ | i <;> simp [zeroC] at h
theorem put9_heap (X : World) (g : Nat) (a0 a1 a2 a3 a4 a5 a6 a7 a8 : Value) {b : Nat} (h : b ≠ g) : (put9 X g a0 a1 a2 a3 a4 a5 a6 a7 a8).heap[b]? = X.heap[b]? :=
  (Below.heap_setCell _ _ _ b h).trans ((Below.heap_setCell _ _ _ b h).trans ((Below.heap_setCell _ _ _ b h).trans ((Below.heap_setCell _ _ _ b h).trans ((Below.heap_setCell _ _ _ b h).trans ((Below.heap_setCell _ _ _ b h).trans ((Below.heap_setCell _ _ _ b h).trans ((Below.heap_setCell _ _ _ b h).trans (Below.heap_setCell _ _ _ b h))))))))
theorem put9_size (X : World) (g : Nat) (a0 a1 a2 a3 a4 a5 a6 a7 a8 : Value) : (put9 X g a0 a1 a2 a3 a4 a5 a6 a7 a8).heap.size = X.heap.size := by simp only [put9, World.size_setCell]
theorem rd_put9 {X : World} {g n : Nat} {A : Option Addr} {l : List Int} (h : Rd X A n (li l)) (hb : Blk X g zeroC) (a0 a1 a2 a3 a4 a5 a6 a7 a8 : Value) : Rd (put9 X g a0 a1 a2 a3 a4 a5 a6 a7 a8) A n (li l) := by
  intro j hj
  obtain ⟨b, o, e, hl, hc⟩ := h j hj
  have hne : b ≠ g := by
    rintro rfl
    have h4 := hb.2.1 (o + j)
    rw [hc] at h4
    exact zero_noI32 _ _ h4.symm
  exact ⟨b, o, e, by rw [put9_size]; exact hl, (World.cell?_of_block (a := ⟨b, o + j, none⟩) (put9_heap _ _ _ _ _ _ _ _ _ _ _ hne)).trans hc⟩
theorem kyW_put9 {X : World} {g : Nat} {v : Value} {ks : List Ky} (h : KyW X v ks) (hb : Blk X g zeroC) (a0 a1 a2 a3 a4 a5 a6 a7 a8 : Value) : KyW (put9 X g a0 a1 a2 a3 a4 a5 a6 a7 a8) v ks := by
  obtain ⟨hs, h1, h2⟩ := h
  refine ⟨hs, ?_, h2.1, fun j x hx => ?_⟩
  · have h3 : LiV 4 encK X (fun b => b ≠ g) v hs := by
      obtain ⟨A, c, e, hli, hr⟩ := h1
      refine ⟨A, c, e, fun j x hj => ?_, hr⟩
      obtain ⟨b, o, e', hl, _, hc⟩ := hli j x hj
      refine ⟨b, o, e', hl, ?_, hc⟩
      rintro rfl
      have h3 := hc 1 (.int .i32 x.r) rfl
      have h4 := hb.2.1 (o + (j * 4 + 1))
      exact zero_noI32 _ _ (h4.symm.trans h3)
    exact (put9_sl h3 (by simp) a0 a1 a2 a3 a4 a5 a6 a7 a8).mono (fun _ _ => trivial)
  · obtain ⟨y, k1, k2⟩ := h2.2 j x hx
    exact ⟨y, k1, k2.1, k2.2.1, k2.2.2.1, k2.2.2.2.1, rd_put9 k2.2.2.2.2 hb _ _ _ _ _ _ _ _ _⟩
theorem chain_apart {X Y : World} {g : Nat} (hz : Blk X g zeroC) (hs : Y.heap.size = X.heap.size) (hf : ∀ b, b ≠ g → Y.heap[b]? = X.heap[b]?) : ∀ {l : List Int} {T : Option Addr}, Chain X T l → Chain Y T l
  | [], T, h => h
  | b :: l, T, h => by
    obtain ⟨p, T', h1, h2, h3, h4, h5⟩ := h
    have hne : p ≠ g := by
      intro e
      subst e
      have h6 := hz.2.1 0
      rw [h3] at h6
      simp [zeroC] at h6
    exact ⟨p, T', h1, by rw [hs]; exact h2, (World.cell?_of_block (a := ⟨p, 0, none⟩) (hf _ hne)).trans h3, (World.cell?_of_block (a := ⟨p, 1, none⟩) (hf _ hne)).trans h4, chain_apart hz hs hf h5⟩
theorem chain_put9 {X : World} {g : Nat} (hb : Blk X g zeroC) (a0 a1 a2 a3 a4 a5 a6 a7 a8 : Value) {l : List Int} {T : Option Addr} (h : Chain X T l) : Chain (put9 X g a0 a1 a2 a3 a4 a5 a6 a7 a8) T l :=
  chain_apart hb (put9_size _ _ _ _ _ _ _ _ _ _ _) (fun _ h => put9_heap _ _ _ _ _ _ _ _ _ _ _ h) h
theorem fin_put {w X : World} {T T' : Option Addr} {s s' : KS} {v : Value} {n : Nat} {ks : List Ky} (h : Fm w s' T' X) (hk : KyW X v ks) (hn : n = ks.length) (hc : Chain X T s.tx) :
    FinP w s T v n ks (put9 X (w.heap.size + 1) (.int .i64 s.w) (.int .u8 s.d.h0) (.int .u8 s.d.h1) (.int .u8 s.d.h2) (.int .i64 s.d.n) (.bool s.m) (.string s.row) (.pointer T) (.int .i64 s.cl)) :=
  ⟨put9_blk h.r _ _ _ _ _ _ _ _ _, kyW_put9 hk h.r _ _ _ _ _ _ _ _ _, hn, put9_below h.below (Nat.le_succ _) _ _ _ _ _ _ _ _ _, chain_put9 h.r _ _ _ _ _ _ _ _ _ hc⟩
theorem end_any (s : DS) (hs : s.Ok) (w : World) : Calls Try.prog 31 #[dcd s.h0 s.h1 s.h2 s.n] w fun e w' => ∃ A c, e = .returned (.slice A (endD s).length c) ∧ Rd w' A (endD s).length (li (endD s)) ∧ Below w.heap.size w w' := by
  by_cases h : s.n = 0
  · have e : endD s = [] := if_pos h
    rw [e, h]
    refine (end_none _ _ _ _).mono ?_
    rintro e w' ⟨rfl, hb⟩
    exact ⟨none, 0, rfl, Rd.empty _ _ _, hb⟩
  · have e : endD s = [65533] := if_neg h
    rw [e]
    refine (end_some _ _ _ _ (by unfold DS.Ok at hs; omega) _).mono ?_
    rintro e w' ⟨A, rfl, hr, hb⟩
    exact ⟨some A, 1, rfl, hr, hb⟩
end Go.Proofs.Ytkkenabckhmkoaa
