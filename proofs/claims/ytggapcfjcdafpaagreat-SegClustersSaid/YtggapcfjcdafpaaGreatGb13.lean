/- trie: Build's loop, what it keeps. -/
import Derived.Test.YtggapcfjcdafpaaGreatGb06
import Derived.Test.YtggapcfjcdafpaaGreatGb12
namespace Go.Proofs.YtggapcfjcdafpaaGreat.TP
open Go.RowKit Go.Maps
set_option linter.unusedVariables false
set_option linter.unusedSimpArgs false

/-- How many blocks there are, and what is in one. -/
def cntB (m : Nat) : Nat := (m - 1) / 128 + 1
def bk (g : Int → V2) (m j : Nat) : List V2 := blk g m ((j * 128 : Nat) : Int)
theorem bk_wf {g : Int → V2} (hg : ∀ r, WV (g r)) (m j : Nat) : WfB (bk g m j) := by
  refine ⟨by simp [bk, blk], fun x hx => ?_⟩
  unfold bk blk at hx
  obtain ⟨i, _, rfl⟩ := List.mem_map.1 hx
  exact hg _
theorem cnt_lt {m k : Nat} (hm : 1 ≤ m) : k < cntB m ↔ k * 128 ≤ m - 1 := by unfold cntB; omega
theorem bk_run {g : Int → V2} {P : List (Pc V2)} {m a k j : Nat} {x : Pc V2} (hm : 1 ≤ m) (hV : Vals g P) (hx : P[a]? = some x) (hf : x.f ≤ ((k * 128 : Nat) : Int)) (hk : k < cntB m) (hkj : k ≤ j) (hb : x.t ≤ (m : Int) - 1) (he : x.t = (m : Int) - 1 ∨ ((j * 128 + 127 : Nat) : Int) ≤ x.t) : bk g m j = bk g m k := by
  have hv := hV x (List.mem_of_getElem? hx)
  have hk2 := (cnt_lt hm).1 hk
  have one : ∀ q, k ≤ q → q ≤ j → ∀ i ∈ List.range 128, bval g m ((q * 128 : Nat) : Int) i = x.v := by
    intro q h1 h2 i hi
    have hi := List.mem_range.1 hi
    unfold bval
    refine hv _ ?_ ?_
    · rcases he with he | he <;> omega
    · rcases he with he | he <;> omega
  unfold bk blk
  apply List.map_congr_left
  intro i hi
  rw [one j hkj (Nat.le_refl _) i hi, one k (Nat.le_refl _) hkj i hi]

/-- What Build's loop keeps. -/
structure BL (w : World) (g : Int → V2) (m : Nat) (P : List (Pc V2)) (pb : Nat) (pA : Option Addr) (bx tb mb k : Nat) (hd : Hd) (Bs : List (List V2)) (Ix : List Nat) (l : List V2 → Option Nat) (ds : List Deferred) (W : World) : Prop where
  tr : TrH w.heap.size tb mb m hd Bs Ix l W
  box : Boxed W bx 54 (.pointer (some ⟨tb, 0, none⟩))
  pcs : Li 4 encP W (fun b => b = pb) pA P
  ap : ∀ q, OwH tb mb hd q → q ≠ bx ∧ q ≠ pb
  be : Below w.heap.size w W
  ix : Ix.length = k
  is : ∀ j, j < k → ∃ i, Ix[j]? = some i ∧ Bs[i]? = some (bk g m j)
  mem : ∀ B ∈ Bs, ∃ j, j < k ∧ B = bk g m j
  lb : Bs.length ≤ k
  df : ∀ d ∈ ds, ∃ r, d = { target := .collected r, args := #[] } ∧ w.heap.size ≤ r ∧ W.heap[r]? = some (.deferred (some []))
  nd : ds.Nodup
theorem Tr.not_def {base tb mb : Nat} {m : Int} {A A2 : Option Addr} {n c n2 c2 : Nat} {Bs : List (List V2)} {Ix : List Nat} {l : List V2 → Option Nat} {W : World} (h : Tr base tb mb m A n c Bs A2 n2 c2 Ix l W) {k : Nat} {d : Option (List Deferred)} (hk : W.heap[k]? = some (.deferred d)) : ¬ Ow tb mb A n c A2 n2 c2 k := by
  rintro (rfl | rfl | h' | h')
  · have := h.cel.2.1 0
    simp [World.cell?, hk] at this
  · obtain ⟨es, clock, e⟩ := h.kn.heap
    rw [e] at hk; cases hk
  · obtain ⟨cur, e⟩ := row_heap h.bl h'
    rw [e] at hk; cases hk
  · obtain ⟨cur, e⟩ := row_heap h.wh h'
    rw [e] at hk; cases hk

/-- What Build tells. -/
structure BtI (base : Nat) (g : Int → V2) (m tb mb : Nat) (hd : Hd) (Bs : List (List V2)) (Ix : List Nat) (l : List V2 → Option Nat) (W : World) : Prop where
  tr : TrH base tb mb m hd Bs Ix l W
  ix : Ix.length = cntB m
  is : ∀ j, j < cntB m → ∃ i, Ix[j]? = some i ∧ Bs[i]? = some (bk g m j)
  mem : ∀ B ∈ Bs, ∃ j, j < cntB m ∧ B = bk g m j
def Built (g : Int → V2) (m : Nat) (w : World) (e : Ending) (w' : World) : Prop := ∃ tb mb hd Bs Ix l, e = .returned (.pointer (some ⟨tb, 0, none⟩)) ∧ BtI w.heap.size g m tb mb hd Bs Ix l w' ∧ Below w.heap.size w w'

/-- The records of the ranges that are over are taken away. -/
theorem leaves_all {F : Fence} {n : Nat} {P : Program} {fn : Func} {tmps : Array Value} {R : Ending → World → Prop} {base : Nat} {Kp : Nat → Prop} : ∀ (ds : List Deferred) (V : World), (∀ d ∈ ds, ∃ r, d = { target := .collected r, args := #[] } ∧ base ≤ r ∧ ¬ Kp r ∧ V.heap[r]? = some (.deferred (some []))) → ds.Nodup →
    (∀ V', V.heap.size = V'.heap.size → (∀ k, (k < base ∨ Kp k) → V'.heap[k]? = V.heap[k]?) → Below base V V' → LeavesInM F n P fn tmps R [] .returning V') → LeavesInM F n P fn tmps R ds .returning V
  | [], V, _, _, h => h V rfl (fun _ _ => rfl) (Below.refl _ _)
  | d :: ds, V, hd, hn, h => by
    obtain ⟨r, rfl, hr, hK, hh⟩ := hd d (by simp)
    have hg := grownBy_putObj' V r (.deferred none)
    refine ⟨by simp, .inl ⟨r, _, rfl, run_takeDeferred hh, ?_⟩⟩
    refine leaves_all ds _ (fun d' hd' => ?_) (List.nodup_cons.1 hn).2 fun V' h1 h2 h3 => h V' (by rw [← h1]; simp) (fun k hk => (h2 k hk).trans ?_) ((((Below.refl base V).grown hg (by have := (Array.getElem?_eq_some_iff.1 hh).1; omega) (fun k e => by cases e; exact hr))).trans h3)
    · obtain ⟨r', e', hr', hK', hh'⟩ := hd d' (by simp [hd'])
      refine ⟨r', e', hr', hK', ?_⟩
      have hne : r' ≠ r := by
        rintro rfl
        subst e'
        exact (List.nodup_cons.1 hn).1 hd'
      exact (hg.block r' (Array.getElem?_eq_some_iff.1 hh').1 (by intro e; injection e with e; exact hne e)).trans hh'
    · by_cases hlt : k < V.heap.size
      · refine hg.block k hlt (fun e => ?_)
        injection e with e
        subst e
        rcases hk with hk | hk
        · omega
        · exact hK hk
      · rw [Array.getElem?_eq_none (by simp; omega), Array.getElem?_eq_none (by omega)]

/-- Behind the block and its number. -/
structure MidI (base tb mb : Nat) (m : Int) (hd : Hd) (Bs : List (List V2)) (Ix : List Nat) (B : List V2) (bx : Nat) (wr : World) (i ib : Nat) (hd' : Hd) (Bs' : List (List V2)) (l' : List V2 → Option Nat) (W : World) : Prop where
  tr : TrH base tb mb m hd' Bs' Ix l' W
  at_ : Bs'[i]? = some B
  or_ : Bs' = Bs ∨ Bs' = Bs ++ [B]
  tn : Turn (OwH tb mb hd) wr W
  how : ∀ k, OwH tb mb hd' k → OwH tb mb hd k ∨ wr.heap.size ≤ k
  s2 : S2 bx tb ib i W
  nib : ¬ OwH tb mb hd' ib
  lib : wr.heap.size ≤ ib
section
variable {base tb mb : Nat} {m : Int} {hd hd' : Hd} {Bs Bs' : List (List V2)} {Ix : List Nat} {l l' : List V2 → Option Nat} {B : List V2} {bx i ib : Nat} {wr Z w6 : World}
theorem mid_box (t : TrH base tb mb m hd Bs Ix l wr) (hbx : ¬ OwH tb mb hd bx) (hxl : bx < wr.heap.size) (hZ : Below wr.heap.size wr Z) (bZ : Boxed Z bx 54 (.pointer (some ⟨tb, 0, none⟩))) (u : Turn (OwH tb mb hd) Z w6) : Boxed w6 bx 54 (.pointer (some ⟨tb, 0, none⟩)) :=
  (u.old bx (Boxed.lt bZ) hbx).trans bZ
theorem mid_new (t : TrH base tb mb m hd Bs Ix l wr) (hbx : ¬ OwH tb mb hd bx) (hxl : bx < wr.heap.size) (hZ : Below wr.heap.size wr Z) (bZ : Boxed Z bx 54 (.pointer (some ⟨tb, 0, none⟩)))
    (t6 : TrH base tb mb m hd' Bs' Ix l' w6) (a6 : Bs'[i]? = some B) (o6 : Bs' = Bs ∨ Bs' = Bs ++ [B]) (u6 : Turn (OwH tb mb hd) Z w6) (h6 : ∀ k, OwH tb mb hd' k → OwH tb mb hd k ∨ Z.heap.size ≤ k) :
    MidI base tb mb m hd Bs Ix B bx wr i w6.heap.size hd' Bs' l' (w6.alloc (.cells #[.int .i32 i] 21)) := by
  have b6 := mid_box t hbx hxl hZ bZ u6
  have u := u6.later (fun k hk => (t.low k hk).2) hZ
  refine ⟨t6.later (belAlloc _ _), a6, o6, ⟨u.os, u.tape, u.output, Nat.le_trans u.size (by simp), fun k hk ho => ((World.grownBy_alloc w6 _ none).block k (Nat.lt_of_lt_of_le hk u.size) (by simp)).trans (u.old k hk ho)⟩, fun k hk => (h6 k hk).imp id (Nat.le_trans hZ.size), ⟨Boxed.alloc b6 _, Boxed.new w6 _ _⟩, fun h => ?_, u.size⟩
  have := (t6.low _ h).2
  omega
theorem mid_old (t : TrH base tb mb m hd Bs Ix l wr) (hbx : ¬ OwH tb mb hd bx) (hxl : bx < wr.heap.size) (hZ : Below wr.heap.size wr Z) (bZ : Boxed Z bx 54 (.pointer (some ⟨tb, 0, none⟩))) (iZ : Boxed Z ib 21 (.int .i32 0)) (hib : wr.heap.size ≤ ib)
    (t6 : TrH base tb mb m hd' Bs' Ix l' w6) (a6 : Bs'[i]? = some B) (o6 : Bs' = Bs ∨ Bs' = Bs ++ [B]) (u6 : Turn (OwH tb mb hd) Z w6) (h6 : ∀ k, OwH tb mb hd' k → OwH tb mb hd k ∨ Z.heap.size ≤ k) :
    (w6.cell? ⟨ib, 0, none⟩ = some (.int .i32 0) ∧ w6.frozen? ⟨ib, 0, none⟩ = false ∧ ib < w6.heap.size) ∧ MidI base tb mb m hd Bs Ix B bx wr i ib hd' Bs' l' (w6.setCell ⟨ib, 0, none⟩ (.int .i32 i)) := by
  have b6 := mid_box t hbx hxl hZ bZ u6
  have n6 : ¬ OwH tb mb hd ib := fun h => by have := (t.low _ h).2; omega
  have i6 : Boxed w6 ib 21 (.int .i32 0) := (u6.old ib (Boxed.lt iZ) n6).trans iZ
  have u := u6.later (fun k hk => (t.low k hk).2) hZ
  have n6' : ¬ OwH tb mb hd' ib := fun h => by
    rcases h6 _ h with h' | h'
    · exact n6 h'
    · have := Boxed.lt iZ; omega
  have hg := grow_set w6 ib 0 (.int .i32 i)
  refine ⟨⟨Boxed.cell i6, Boxed.frozen i6, Boxed.lt i6⟩, ⟨t6.kept hg.size fun k hk => hg.block k (t6.low k hk).2 (fun e => by injection e with e; exact n6' (e ▸ hk)), a6, o6, ⟨hg.os.trans u.os, hg.tape.trans u.tape, hg.output.trans u.output, Nat.le_trans u.size hg.size, fun k hk ho => (hg.block k (Nat.lt_of_lt_of_le hk u.size) (fun e => by injection e with e; omega)).trans (u.old k hk ho)⟩, fun k hk => (h6 k hk).imp id (Nat.le_trans hZ.size), ⟨Boxed.other b6 (by omega) _, Boxed.set _ i6⟩, n6', hib⟩⟩
end
/-- A part of a list of pieces. -/
theorem _root_.Go.Proofs.YtggapcfjcdafpaaGreat.Li.droppedP {W : World} {S : Nat → Prop} {b : Nat} {P : List (Pc V2)} (h : Li 4 encP W S (some ⟨b, 0, none⟩) P) (a : Nat) : Li 4 encP W S (some ⟨b, a * 4, none⟩) (P.drop a) := fun j x hj => by
  rw [List.getElem?_drop] at hj
  obtain ⟨b', o', e, hb, hS, hc⟩ := h (a + j) x hj
  injection e with e
  injection e with e e'
  subst e; subst e'
  exact ⟨b, a * 4, rfl, hb, hS, fun i u hu => by have := hc i u hu; rw [show a * 4 + (j * 4 + i) = 0 + ((a + j) * 4 + i) by omega]; exact this⟩
theorem _root_.Go.Proofs.YtggapcfjcdafpaaGreat.Tile.droppedP {lo hi : Int} {P : List (Pc V2)} (h : Tile lo hi P) {a : Nat} {x : Pc V2} (hx : P[a]? = some x) : Tile x.f hi (P.drop a) := by
  rw [← List.take_append_drop a P, tile_append] at h
  obtain ⟨m, h1, h2⟩ := h
  have e := (tile_at (L := P) (k := a) (lo := lo) (hi := hi) (by rw [← List.take_append_drop a P, tile_append]; exact ⟨m, h1, h2⟩) hx).1
  rw [tile_uniq e h1]
  exact h2
theorem _root_.Go.Proofs.YtggapcfjcdafpaaGreat.Vals.droppedP {g : Int → V2} {P : List (Pc V2)} (h : Vals g P) (a : Nat) : Vals g (P.drop a) := fun p hp => h p (List.mem_of_mem_drop hp)

section
variable {w wr W6 X W7 : World} {g : Int → V2} {m : Nat} {P : List (Pc V2)} {pb : Nat} {pA : Option Addr} {bx tb mb k en i ib : Nat} {hd hd' : Hd} {Bs Bs' : List (List V2)} {Ix : List Nat} {l l' : List V2 → Option Nat} {ds : List Deferred} {A2 : Option Addr} {n2 c2 : Nat}
/-- A round of Build's loop is over. -/
theorem BL.next (h : BL w g m P pb pA bx tb mb k hd Bs Ix l ds wr) (hpb : pb < wr.heap.size) (hM : MidI w.heap.size tb mb m hd Bs Ix (bk g m k) bx wr i ib hd' Bs' l' W6) (hX : Below W6.heap.size W6 X)
    (t : Tr w.heap.size tb mb m hd'.A hd'.n hd'.c Bs' A2 n2 c2 (Ix ++ List.replicate (en - k) i) l' W7) (u : Turn (OwH tb mb hd') X W7) (o2 : ∀ q, Ow tb mb hd'.A hd'.n hd'.c A2 n2 c2 q → OwH tb mb hd' q ∨ X.heap.size ≤ q)
    (hK : W7.heap[X.heap.size]? = some (.deferred (some []))) (h1 : k < en) (h2 : ∀ j, k ≤ j → j < en → bk g m j = bk g m k) :
    BL w g m P pb pA bx tb mb en ⟨hd'.A, hd'.n, hd'.c, A2, n2, c2⟩ Bs' (Ix ++ List.replicate (en - k) i) l' ({ target := .collected X.heap.size, args := #[] } :: ds) W7 := by
  have s1 := hM.tn.size
  have s2 := hX.size
  have hbx := Boxed.lt h.box
  have hbe := h.be.size
  have no : ∀ q, q < wr.heap.size → ¬ OwH tb mb hd q → ¬ OwH tb mb hd' q := fun q hq hn hh => by
    rcases hM.how q hh with h' | h'
    · exact hn h'
    · omega
  have keep : ∀ q, q < wr.heap.size → ¬ OwH tb mb hd q → W7.heap[q]? = wr.heap[q]? := fun q hq hn =>
    (u.old q (by omega) (no q hq hn)).trans ((hX.block q (by omega)).trans (hM.tn.old q hq hn))
  have hix := h.ix
  refine ⟨t, (keep bx hbx fun hh => (h.ap _ hh).1 rfl).trans h.box, h.pcs.turned (by have := u.size; omega) (fun b hb hl => by subst hb; exact keep b hl fun hh => (h.ap _ hh).2 rfl), ?_, ?_, ?_, ?_, ?_, ?_, ?_, ?_⟩
  · intro q hq
    rcases o2 q hq with h' | h'
    · rcases hM.how q h' with h' | h'
      · exact h.ap q h'
      · exact ⟨by omega, by omega⟩
    · exact ⟨by omega, by omega⟩
  · have hb := h.be
    have hu := u.size
    exact ⟨u.os.trans (hX.os.trans (hM.tn.os.trans hb.os)), u.tape.trans (hX.tape.trans (hM.tn.tape.trans hb.tape)), u.output.trans (hX.output.trans (hM.tn.output.trans hb.output)), by omega, fun q hq => (keep q (by omega) fun hh => by have := (h.tr.low q hh).1; omega).trans (hb.block q hq)⟩
  · simp [hix]; omega
  · intro j hj
    rcases Nat.lt_or_ge j k with hjk | hjk
    · obtain ⟨i', a1, a2⟩ := h.is j hjk
      refine ⟨i', by rw [List.getElem?_append_left (by omega)]; exact a1, ?_⟩
      rcases hM.or_ with e | e
      · rw [e]; exact a2
      · rw [e, List.getElem?_append_left (List.getElem?_eq_some_iff.1 a2).1]; exact a2
    · refine ⟨i, ?_, by rw [h2 j hjk hj]; exact hM.at_⟩
      rw [List.getElem?_append_right (by omega), List.getElem?_replicate, if_pos (by omega)]
  · intro B hB
    have old : B ∈ Bs → ∃ j, j < en ∧ B = bk g m j := fun hb => by
      obtain ⟨j, a1, a2⟩ := h.mem B hb
      exact ⟨j, by omega, a2⟩
    rcases hM.or_ with e | e
    · exact old (e ▸ hB)
    · rw [e] at hB
      rcases List.mem_append.1 hB with hB | hB
      · exact old hB
      · exact ⟨k, h1, by simpa using hB⟩
  · have := h.lb
    rcases hM.or_ with e | e
    · rw [e]; omega
    · rw [e]; simp; omega
  · intro d hd
    rcases List.mem_cons.1 hd with rfl | hd
    · exact ⟨_, rfl, by omega, hK⟩
    · obtain ⟨r, e, hr, hh⟩ := h.df d hd
      exact ⟨r, e, hr, (keep r (Array.getElem?_eq_some_iff.1 hh).1 (h.tr.not_def hh)).trans hh⟩
  · refine List.nodup_cons.2 ⟨fun hd => ?_, h.nd⟩
    obtain ⟨r, e, hr, hh⟩ := h.df _ hd
    injection e with e
    injection e with e
    have := (Array.getElem?_eq_some_iff.1 hh).1
    omega
end
end Go.Proofs.YtggapcfjcdafpaaGreat.TP
