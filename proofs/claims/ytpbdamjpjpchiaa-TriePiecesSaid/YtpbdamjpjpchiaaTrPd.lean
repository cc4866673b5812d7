/- trie: Pieces, what stands in memory. -/
import Derived.Test.YtpbdamjpjpchiaaTrPc
namespace Go.Proofs.Ytpbdamjpjpchiaa
open Go.RowKit Go.Maps
set_option linter.unusedVariables false
set_option linter.unusedSimpArgs false

/-- What Pieces has gathered so far. -/
structure PcI (w : World) (tb : Nat) (P : List (Pc Int)) (A : Option Addr) (n c : Nat) (W : World) : Prop where
  bx : Boxed W w.heap.size 24 (.pointer (some ⟨tb, 0, none⟩))
  bo : Boxed W (w.heap.size + 1) 31 (.slice A n c)
  own : W.ownsRow (w.heap.size + 1 + 1) 34 3 (.slice A n c) n (flatL encP P)
  be : Below w.heap.size w W
/-- What it turns. -/
def PcO (w : World) (A : Option Addr) (n c : Nat) (k : Nat) : Prop := k = w.heap.size + 1 ∨ (Value.slice A n c).ownBlock = some k
section
variable {w W W' : World} {tb : Nat} {P D : List (Pc Int)} {A A' : Option Addr} {n c c' : Nat} {y : Pc Int}
theorem PcI.low (h : PcI w tb P A n c W) : ∀ k, PcO w A n c k → w.heap.size + 1 ≤ k ∧ k < W.heap.size := by
  rintro k (rfl | hk)
  · exact ⟨Nat.le_refl _, Boxed.lt h.bo⟩
  · have := h.own.lt k hk; omega
theorem PcI.kept (h : PcI w tb P A n c W) {row : Option Nat} (hg : W.grownBy W' row) (hr : ∀ r, row = some r → w.heap.size < r ∧ ¬ PcO w A n c r) : PcI w tb P A n c W' := by
  refine ⟨Boxed.kept h.bx hg fun e => ?_, Boxed.kept h.bo hg fun e => ?_, keptRow h.own hg fun b hb e => ?_, h.be.grown hg h.be.size fun k e => ?_⟩
  · have := (hr _ e.symm).1; omega
  · exact (hr _ e.symm).2 (.inl rfl)
  · exact (hr _ e).2 (.inr hb)
  · exact Nat.le_of_lt (hr k e).1
theorem PcI.alloc (h : PcI w tb P A n c W) (o : Obj) : PcI w tb P A n c (W.alloc o) := h.kept (World.grownBy_alloc W o none) fun r e => by cases e
theorem PcI.drewN (h : PcI w tb P A n c W) (q : Nat) : PcI w tb P A n c (W.drewN q) := ⟨h.bx, h.bo, ownDrew h.own q, belDrew h.be q⟩
theorem PcI.len (h : PcI w tb P A n c W) : P.length = n := own_count encP_len (by decide) h.own
theorem pc_ne : 31 ≠ 34 := by decide
/-- One piece more. -/
theorem PcI.push (h : PcI w tb P A n c W) (hp : Pushed W W' (w.heap.size + 1 + 1) 34 3 (.slice A n c) (n + 1) (flatL encP P ++ encP y) A' c') :
    PcI w tb (P ++ [y]) A' (n + 1) c' (W'.setCell ⟨w.heap.size + 1, 0, none⟩ (.slice A' (n + 1) c')) ∧ KeepO (PcO w A n c) (PcO w A' (n + 1) c') W (W'.setCell ⟨w.heap.size + 1, 0, none⟩ (.slice A' (n + 1) c')) := by
  have hs := hp.grown.size
  have hlt := Boxed.lt h.bo
  have n1 : some (w.heap.size) ≠ (Value.slice A n c).ownBlock := fun e => by have := (h.own.lt _ e.symm).1; omega
  have n2 : some (w.heap.size + 1) ≠ (Value.slice A n c).ownBlock := fun e => by have := (h.own.lt _ e.symm).1; omega
  have hb1 := Boxed.kept h.bo hp.grown n2
  have hx1 := Boxed.kept h.bx hp.grown n1
  have hg2 := grow_set W' (w.heap.size + 1) 0 (.slice A' (n + 1) c')
  have hat : ∀ g, (Value.slice A' (n + 1) c').ownBlock = some g → (Value.slice A n c).ownBlock = some g ∨ W.heap.size ≤ g := fun g e => by
    rcases hp.at_ with h' | ⟨k, h', hk⟩
    · exact .inl (h' ▸ e)
    · rw [h'] at e; injection e with e; subst e; exact .inr hk
  refine ⟨⟨Boxed.kept hx1 hg2 (fun e => by injection e with e; omega), Boxed.set _ hb1, ?_, (h.be.grown hp.grown h.be.size fun k e => by have := (h.own.lt k e).1; omega).grown hg2 (by have := h.be.size; omega) fun k e => by injection e with e; omega⟩, by rw [World.size_setCell]; exact hs, fun k hk ho => ?_, fun k hk => ?_, fun k hk => ?_⟩
  · have := keptRow hp.own hg2 (fun g e e' => by injection e' with e'; have := (hp.own.lt g e).1; omega)
    rw [flatL_snoc]
    exact this
  · rw [Below.heap_setCell _ _ _ _ (by show k ≠ w.heap.size + 1; exact fun e => ho (.inl e))]
    exact hp.grown.block k hk fun e => ho (.inr e.symm)
  · rcases hk with h' | h'
    · exact .inl (.inl h')
    · exact (hat k h').imp .inr id
  · rw [World.size_setCell]
    rcases hk with rfl | h'
    · omega
    · exact (hp.own.lt k h').2
/-- The last piece goes on. -/
theorem PcI.upto {g : Nat} (h : PcI w tb (D ++ [y]) (some ⟨g, 0, none⟩) n c W) (t : Int) :
    PcI w tb (D ++ [⟨y.f, t, y.v⟩]) (some ⟨g, 0, none⟩) n c (W.setCell ⟨g, (n - 1) * 3 + 1, none⟩ (.int .i64 t)) ∧ KeepO (PcO w (some ⟨g, 0, none⟩) n c) (PcO w (some ⟨g, 0, none⟩) n c) W (W.setCell ⟨g, (n - 1) * 3 + 1, none⟩ (.int .i64 t)) := by
  have hl := h.len
  simp only [List.length_append, List.length_singleton] at hl
  have hD : D.length = n - 1 := by omega
  have hst := h.own.stored ((n - 1) * 3 + 1) (.int .i64 t)
  rw [← hD, flatP_set, hD] at hst
  have hgb := (h.own.lt g rfl).1
  refine ⟨⟨Boxed.kept h.bx hst.2 (fun e => by injection e with e; omega), Boxed.kept h.bo hst.2 (fun e => by injection e with e; omega), hst.1, h.be.grown hst.2 h.be.size fun k e => by injection e with e; omega⟩, by rw [World.size_setCell]; exact Nat.le_refl _, fun k hk ho => ?_, fun k hk => .inl hk, fun k hk => by rw [World.size_setCell]; exact (h.low k hk).2⟩
  exact Below.heap_setCell _ _ _ _ (by show k ≠ g; exact fun e => ho (.inr (by rw [e]; rfl)))
/-- What stands in the last piece. -/
theorem PcI.last {g : Nat} (h : PcI w tb (D ++ [y]) (some ⟨g, 0, none⟩) n c W) : W.cell? ⟨g, (n - 1) * 3, none⟩ = some (.int .i64 y.f) ∧ W.cell? ⟨g, (n - 1) * 3 + 1, none⟩ = some (.int .i64 y.t) ∧ W.cell? ⟨g, (n - 1) * 3 + 2, none⟩ = some (.int .i64 y.v) ∧ W.frozen? ⟨g, (n - 1) * 3 + 1, none⟩ = false ∧ g < W.heap.size ∧ n ≤ c := by
  have hl := h.len
  simp only [List.length_append, List.length_singleton] at hl
  obtain ⟨g', cs, e, hgb, hBk, h1, _, _, hcs⟩ := own_blk h.own (by omega)
  injection e with e
  injection e with e
  subst e
  have hD : D.length = n - 1 := by omega
  have ow (i : Nat) (u : Value) (hu : (encP y)[i]? = some u) : W.cell? ⟨g, (n - 1) * 3 + i, none⟩ = some u := by
    rw [hBk.2.1]
    refine hcs _ _ ?_
    rw [← hD]
    exact flatP_get D y i u hu
  exact ⟨ow 0 _ rfl, ow 1 _ rfl, ow 2 _ rfl, hBk.2.2 _, hBk.1, h1⟩
end
/-- The records of the ranges that are over. -/
def DfI (w : World) (ds : List Deferred) (W : World) : Prop := (∀ d ∈ ds, ∃ r, d = { target := .collected r, args := #[] } ∧ w.heap.size ≤ r ∧ W.heap[r]? = some (.deferred (some []))) ∧ ds.Nodup
theorem PcI.not_def {w W : World} {tb : Nat} {P : List (Pc Int)} {A : Option Addr} {n c : Nat} (h : PcI w tb P A n c W) {k : Nat} {d : Option (List Deferred)} (hk : W.heap[k]? = some (.deferred d)) : ¬ PcO w A n c k := by
  rintro (rfl | h')
  · have := h.bo; rw [Boxed, hk] at this; cases this
  · obtain ⟨cur, e⟩ := row_heap h.own h'
    rw [e] at hk; cases hk
theorem DfI.kept {w W W' : World} {ds : List Deferred} (h : DfI w ds W) (hk : ∀ (r : Nat) (d : Option (List Deferred)), W.heap[r]? = some (Obj.deferred d) → W'.heap[r]? = W.heap[r]?) : DfI w ds W' :=
  ⟨fun d hd => by obtain ⟨r, e, h1, h2⟩ := h.1 d hd; exact ⟨r, e, h1, (hk r _ h2).trans h2⟩, h.2⟩
/-- The end of a block. -/
def hiB (m k : Nat) : Nat := min (k * 128) m
theorem hiB_next {m k : Nat} : hiB m (k + 1) = min (k * 128 + 128) m := by unfold hiB; omega
theorem hiB_in {m k : Nat} (hm : 1 ≤ m) (h : k < cntB m) : hiB m k = k * 128 ∧ k * 128 < m := by
  have := (cnt_lt hm).1 h
  unfold hiB; omega
theorem hiB_all {m : Nat} (hm : 1 ≤ m) : hiB m (cntB m) = m := by unfold hiB cntB; omega

/-- Between the rounds over a block's numbers: Y is where they began. -/
def PgI (Y : World) (O0 : Nat → Prop) (w : World) (tb : Nat) (g : Int → Int) (f : Nat) (ib fb : Nat) (id : Nat) (pre : List Nat) (O : Nat → Prop) (W : World) : Prop :=
  ∃ P A n c, PcI w tb P A n c W ∧ JI g 0 (f + pre.length : Nat) P ∧ (∀ k, O k ↔ PcO w A n c k) ∧ Boxed W ib 21 (.int .i32 id) ∧ Boxed W fb 3 (.int .i64 f) ∧ (∀ k, O k → O0 k ∨ Y.heap.size ≤ k) ∧ Y.heap.size ≤ W.heap.size ∧ ∀ k, k < Y.heap.size → ¬ O0 k → W.heap[k]? = Y.heap[k]?
/-- .. with the number laid. -/
def PgM (Y : World) (O0 : Nat → Prop) (w : World) (tb : Nat) (g : Int → Int) (f : Nat) (ib fb : Nat) (id N : Nat) (act : Nat → Act) (x : List Nat × Nat × Act) (O : Nat → Prop) (W : World) : Prop :=
  PgI Y O0 w tb g f ib fb id x.1 O W ∧ upTo N x.1 x.2.1 ∧ x.2.2 = act x.2.1
theorem PgI.bears {Y : World} {O0 : Nat → Prop} {w : World} {tb f ib fb id : Nat} {g : Int → Int} (h0 : w.heap.size < Y.heap.size) (h1 : ib < Y.heap.size) (h2 : fb < Y.heap.size) : BearsO (PgI Y O0 w tb g f ib fb id) Y.heap.size := by
  rintro pre O V B row ⟨P, A, n, c, i1, i2, o, i3, i4, i5, i6, i7⟩ hg hr
  exact ⟨P, A, n, c, i1.kept hg fun r e => ⟨by have := (hr r e).1; omega, fun h => (hr r e).2 ((o r).2 h)⟩, i2, o, Boxed.kept i3 hg fun e => by have := (hr _ e.symm).1; omega, Boxed.kept i4 hg fun e => by have := (hr _ e.symm).1; omega,
    i5, Nat.le_trans i6 hg.size, fun k hk ho => (hg.block k (Nat.lt_of_lt_of_le hk i6) fun e => by have := (hr k e.symm).1; omega).trans (i7 k hk ho)⟩
theorem PgM.bears {Y : World} {O0 : Nat → Prop} {w : World} {tb f ib fb id N : Nat} {g : Int → Int} {act : Nat → Act} (h0 : w.heap.size < Y.heap.size) (h1 : ib < Y.heap.size) (h2 : fb < Y.heap.size) : BearsO (PgM Y O0 w tb g f ib fb id N act) Y.heap.size := by
  rintro ⟨pre, x, a'⟩ O V B row ⟨h, h3, h4⟩ hg hr
  exact ⟨PgI.bears h0 h1 h2 _ _ _ _ _ h hg hr, h3, h4⟩
theorem PcI.other {w V : World} {tb : Nat} {P : List (Pc Int)} {A : Option Addr} {n c b : Nat} {t : TypeId} {v : Value} (h : PcI w tb P A n c V) (hb : Boxed V b t v) (h1 : t ≠ 31) (h2 : t ≠ 34) : ¬ PcO w A n c b := by
  unfold Boxed at hb
  rintro (rfl | h')
  · have := h.bo
    unfold Boxed at this
    rw [hb] at this
    injection this with this
    injection this with _ this _
    exact h1 this
  · obtain ⟨cur, e⟩ := row_heap h.own h'
    rw [hb] at e
    injection e with e
    injection e with _ e _
    exact h2 e
/-- A round's end. -/
theorem PgI.step {Y : World} {O0 O : Nat → Prop} {w W V V' : World} {tb f ib fb id x : Nat} {g : Int → Int} {P P2 : List (Pc Int)} {A A2 : Option Addr} {n c n2 c2 : Nat} (hO : ∀ k, O k ↔ PcO w A n c k) (h5 : ∀ k, O k → O0 k ∨ Y.heap.size ≤ k) (h6 : Y.heap.size ≤ W.heap.size) (h7 : ∀ k, k < Y.heap.size → ¬ O0 k → W.heap[k]? = Y.heap[k]?)
    (hh : V.heap = W.heap) (hV : PcI w tb P A n c V) (hib : Boxed V ib 21 (.int .i32 id)) (hfb : Boxed V fb 3 (.int .i64 f)) (hp : PcI w tb P2 A2 n2 c2 V' ∧ KeepO (PcO w A n c) (PcO w A2 n2 c2) V V') (hj : JI g 0 ((f + (x + 1) : Nat) : Int) P2) :
    ∃ O', KeepO O O' W V' ∧ PgI Y O0 w tb g f ib fb id (List.range x ++ [x]) O' V' := by
  obtain ⟨h2, K⟩ := hp
  have k1 := hV.other hib (by decide) (by decide)
  have k2 := hV.other hfb (by decide) (by decide)
  have ks := K.size
  rw [hh] at ks
  have ko : ∀ k, k < W.heap.size → ¬ O k → V'.heap[k]? = W.heap[k]? := fun k hk ho => by
    have := K.old k (by rw [hh]; exact hk) (fun h => ho ((hO k).2 h))
    rw [hh] at this
    exact this
  refine ⟨PcO w A2 n2 c2, ⟨ks, ko, fun k hk => ?_, K.lt⟩, P2, A2, n2, c2, h2, ?_, fun _ => Iff.rfl, (K.old ib (Boxed.lt hib) k1).trans hib, (K.old fb (Boxed.lt hfb) k2).trans hfb, fun k hk => ?_, Nat.le_trans h6 ks, fun k hk ho => ?_⟩
  · rcases K.new k hk with h | h
    · exact .inl ((hO k).2 h)
    · rw [hh] at h; exact .inr h
  · rw [List.length_append, List.length_range, List.length_singleton]
    exact hj
  · rcases K.new k hk with h | h
    · exact h5 k ((hO k).2 h)
    · rw [hh] at h; exact .inr (Nat.le_trans h6 h)
  · refine (ko k (Nat.lt_of_lt_of_le hk h6) fun h => ?_).trans (h7 k hk ho)
    rcases h5 k h with h' | h'
    · exact ho h'
    · omega
/-- What Pieces tells. -/
def TellsPs (g : Int → Int) (m : Nat) (w : World) (e : Ending) (w' : World) : Prop := ∃ P A n c, e = .returned (.slice A n c) ∧ JI g 0 (m : Int) P ∧ w'.ownsRow (w.heap.size + 1 + 1) 34 3 (.slice A n c) n (flatL encP P) ∧ Below w.heap.size w w'
end Go.Proofs.Ytpbdamjpjpchiaa
