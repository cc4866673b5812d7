/- keys: a caller's parser. -/
import Derived.Test.YtkkenabckhmkoaaKyV
namespace Go.Proofs.Ytkkenabckhmkoaa
open Go.RowKit
set_option linter.unusedVariables false
set_option linter.unusedSimpArgs false
set_option maxRecDepth 100000

theorem psC_noI32 (s : KS) (T : Option Addr) (i : Nat) (x : Int) : (psC s T)[i]? ≠ some (.int .i32 x) := by
  intro h
  rcases i with _ | _ | _ | _ | _ | _ | _ | _ | _ | i <;> simp [psC] at h
theorem rd_ps {X : World} {g n : Nat} {A T : Option Addr} {s : KS} {l : List Int} (h : Rd X A n (li l)) (hb : Blk X g (psC s T)) (a0 a1 a2 a3 a4 a5 a6 a7 a8 : Value) : Rd (put9 X g a0 a1 a2 a3 a4 a5 a6 a7 a8) A n (li l) := by
  intro j hj
  obtain ⟨b, o, e, hl, hc⟩ := h j hj
  have hne : b ≠ g := by
    rintro rfl
    have h4 := hb.2.1 (o + j)
    rw [hc] at h4
    exact psC_noI32 _ _ _ _ h4.symm
  exact ⟨b, o, e, by rw [put9_size]; exact hl, (World.cell?_of_block (a := ⟨b, o + j, none⟩) (put9_heap _ _ _ _ _ _ _ _ _ _ _ hne)).trans hc⟩
theorem kyW_ps {X : World} {g : Nat} {T : Option Addr} {s : KS} {v : Value} {ks : List Ky} (h : KyW X v ks) (hb : Blk X g (psC s T)) (a0 a1 a2 a3 a4 a5 a6 a7 a8 : Value) : KyW (put9 X g a0 a1 a2 a3 a4 a5 a6 a7 a8) v ks := by
  obtain ⟨hs, h1, h2⟩ := h
  refine ⟨hs, ?_, h2.1, fun j x hx => ?_⟩
  · have h3 : LiV 4 encK X (fun b => b ≠ g) v hs := by
      obtain ⟨A, c, e, hli, hr⟩ := h1
      refine ⟨A, c, e, fun j x hj => ?_, hr⟩
      obtain ⟨b, o, e', hl, _, hc⟩ := hli j x hj
      refine ⟨b, o, e', hl, ?_, hc⟩
      rintro rfl
      have h3 := hc 1 (.int .i32 x.r) rfl
      have h4 := hb.2.1 (o + (j * 4 + 1))
      exact psC_noI32 _ _ _ _ (h4.symm.trans h3)
    exact (put9_sl h3 (by simp) a0 a1 a2 a3 a4 a5 a6 a7 a8).mono (fun _ _ => trivial)
  · obtain ⟨y, k1, k2⟩ := h2.2 j x hx
    exact ⟨y, k1, k2.1, k2.2.1, k2.2.2.1, k2.2.2.2.1, rd_ps k2.2.2.2.2 hb _ _ _ _ _ _ _ _ _⟩
theorem chain_ps {X Y : World} {g : Nat} {s : KS} {U : Option Addr} (hz : Blk X g (psC s U)) (hs : Y.heap.size = X.heap.size) (hf : ∀ b, b ≠ g → Y.heap[b]? = X.heap[b]?) : ∀ {l : List Int} {T : Option Addr}, Chain X T l → Chain Y T l
  | [], T, h => h
  | b :: l, T, h => by
    obtain ⟨p, T', h1, h2, h3, h4, h5⟩ := h
    have hne : p ≠ g := by
      intro e
      subst e
      have h6 := hz.2.1 0
      rw [h3] at h6
      simp [psC] at h6
    exact ⟨p, T', h1, by rw [hs]; exact h2, (World.cell?_of_block (a := ⟨p, 0, none⟩) (hf _ hne)).trans h3, (World.cell?_of_block (a := ⟨p, 1, none⟩) (hf _ hne)).trans h4, chain_ps hz hs hf h5⟩
/-- The law's parser. -/
structure PS (w : World) (g : Nat) (s : KS) (T : Option Addr) (X : World) : Prop where
  below : Below w.heap.size w X
  p : Blk X g (psC s T)
  old : w.heap.size ≤ g
  chain : Chain X T s.tx
theorem PS.later {w X Y : World} {g : Nat} {s : KS} {T : Option Addr} (h : PS w g s T X) (hb : Below X.heap.size X Y) : PS w g s T Y := ⟨belowStep h.below hb, h.p.later hb h.p.1, h.old, h.chain.later hb⟩
theorem ps_start {w X : World} (hb : Below w.heap.size w X) (t : TypeId) : PS w X.heap.size KS.zero none (X.alloc (.cells zeroC t)) := ⟨belowStep hb (belAlloc _ _), blk_new _ _ _, hb.size, rfl⟩
/-- Behind a step: the parser that was, the new one in another variable, what was told. -/
structure PQ (w X0 : World) (g gq : Nat) (s s' : KS) (T T' : Option Addr) (v : Value) (ks : List Ky) (X : World) : Prop where
  ps : PS w g s T X
  q : Blk X gq (psC s' T')
  ne : g < gq
  chain : Chain X T' s'.tx
  l : KyW X v ks
  since : Below X0.heap.size X0 X
theorem put9_low {B : Nat} {W X : World} {g : Nat} (h : Below B W X) (hg : B ≤ g) (a0 a1 a2 a3 a4 a5 a6 a7 a8 : Value) : Below B W (put9 X g a0 a1 a2 a3 a4 a5 a6 a7 a8) :=
  ((((((((h.setCell (p := ⟨g, 0, none⟩) hg _).setCell (p := ⟨g, 1, none⟩) hg _).setCell (p := ⟨g, 2, none⟩) hg _).setCell (p := ⟨g, 3, none⟩) hg _).setCell (p := ⟨g, 4, none⟩) hg _).setCell (p := ⟨g, 5, none⟩) hg _).setCell (p := ⟨g, 6, none⟩) hg _).setCell (p := ⟨g, 7, none⟩) hg _).setCell (p := ⟨g, 8, none⟩) hg _
theorem pq_put {w X0 Z : World} {g gq : Nat} {s s' : KS} {T T' : Option Addr} {v : Value} {ks : List Ky} (h : PS w g s T Z) (hz : Blk Z gq zeroC) (hq : X0.heap.size ≤ gq) (hg : g < X0.heap.size) (hc : Chain Z T' s'.tx) (hl : KyW Z v ks) (hs : Below X0.heap.size X0 Z) :
    PQ w X0 g gq s s' T T' v ks (put9 Z gq (.int .i64 s'.w) (.int .u8 s'.d.h0) (.int .u8 s'.d.h1) (.int .u8 s'.d.h2) (.int .i64 s'.d.n) (.bool s'.m) (.string s'.row) (.pointer T') (.int .i64 s'.cl)) := by
  have hne : gq ≠ g := by omega
  exact ⟨⟨put9_low h.below (by have := h.old; omega) _ _ _ _ _ _ _ _ _, put9_far h.p hne _ _ _ _ _ _ _ _ _, h.old, chain_put9 hz _ _ _ _ _ _ _ _ _ h.chain⟩, put9_blk hz _ _ _ _ _ _ _ _ _, by omega, chain_put9 hz _ _ _ _ _ _ _ _ _ hc, kyW_put9 hl hz _ _ _ _ _ _ _ _ _, put9_low hs hq _ _ _ _ _ _ _ _ _⟩
theorem pq_new {w X0 Z : World} {g : Nat} {s s' : KS} {T T' : Option Addr} {v : Value} {ks : List Ky} (h : PS w g s T Z) (hc : Chain Z T' s'.tx) (hl : KyW Z v ks) (hs : Below X0.heap.size X0 Z) (t : TypeId) :
    PQ w X0 g Z.heap.size s s' T T' v ks (Z.alloc (.cells (psC s' T') t)) :=
  ⟨h.later (belAlloc _ _), blk_new _ _ _, h.p.1, hc.later (belAlloc _ _), hl.later (belAlloc _ _), belowStep hs (belAlloc _ _)⟩
/-- The new parser has been stored to the old one's variable. -/
structure PN (w X0 : World) (g : Nat) (s' : KS) (T' : Option Addr) (v : Value) (ks : List Ky) (X : World) : Prop where
  ps : PS w g s' T' X
  l : KyW X v ks
  kept : ∀ b, b < X0.heap.size → b ≠ g → X.heap[b]? = X0.heap[b]?
  size : X0.heap.size ≤ X.heap.size
theorem pn_put {w X0 Y : World} {g gq : Nat} {s s' : KS} {T T' : Option Addr} {v : Value} {ks : List Ky} (h : PQ w X0 g gq s s' T T' v ks Y) :
    PN w X0 g s' T' v ks (put9 Y g (.int .i64 s'.w) (.int .u8 s'.d.h0) (.int .u8 s'.d.h1) (.int .u8 s'.d.h2) (.int .i64 s'.d.n) (.bool s'.m) (.string s'.row) (.pointer T') (.int .i64 s'.cl)) :=
  ⟨⟨put9_low h.ps.below h.ps.old _ _ _ _ _ _ _ _ _, put9_blk h.ps.p _ _ _ _ _ _ _ _ _, h.ps.old, chain_ps h.ps.p (put9_size _ _ _ _ _ _ _ _ _ _ _) (fun _ h => put9_heap _ _ _ _ _ _ _ _ _ _ _ h) h.chain⟩, kyW_ps h.l h.ps.p _ _ _ _ _ _ _ _ _, fun b hb hne => (put9_heap _ _ _ _ _ _ _ _ _ _ _ hne).trans (h.since.block b hb), by rw [put9_size]; exact h.since.size⟩
theorem own_kept {X0 X : World} {g base size n : Nat} {e : TypeId} {v : Value} {xs : List Value} (h : X0.ownsRow base e size v n xs) (hk : ∀ b, b < X0.heap.size → b ≠ g → X.heap[b]? = X0.heap[b]?) (hg : g < base) : X.ownsRow base e size v n xs := by
  refine ⟨h.1, ?_⟩
  rcases h.2 with h2 | ⟨b, cap, cur, hv, hb, hh, rest⟩
  · exact .inl h2
  · have hlt : b < X0.heap.size := (Array.getElem?_eq_some_iff.1 hh).1
    exact .inr ⟨b, cap, cur, hv, hb, by rw [hk b hlt (by omega)]; exact hh, rest⟩
end Go.Proofs.Ytkkenabckhmkoaa
