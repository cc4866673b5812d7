/- loop: what LoopAll wants. -/
import Derived.Test.YtcoffbgpdbhjfaaLoopQ
namespace Go.Proofs.Ytcoffbgpdbhjfaa
open Go.Conc Go.RowKit
set_option linter.unusedVariables false
set_option linter.unusedSimpArgs false

theorem EvRd.chg {T : Nat → Prop} {w w' : World} {A : Option Addr} {L : List Evt} (h : EvRd w A L) (k : Chg T w w') (hT : ∀ b o, A = some ⟨b, o, none⟩ → ¬ T b) : EvRd w' A L := by
  intro j hj
  obtain ⟨b, o, e, hl, h0, h1, h2, h3⟩ := h j hj
  have hb := k.block b hl (hT b o e)
  exact ⟨b, o, e, Nat.lt_of_lt_of_le hl k.size, (World.cell?_of_block (a := ⟨b, o + j * 4, none⟩) hb).trans h0, (World.cell?_of_block (a := ⟨b, o + j * 4 + 1, none⟩) hb).trans h1, (World.cell?_of_block (a := ⟨b, o + j * 4 + 2, none⟩) hb).trans h2, (World.cell?_of_block (a := ⟨b, o + j * 4 + 3, none⟩) hb).trans h3⟩

/-- The document's box goes on by itself. -/
theorem Half.ref {w0 w w' : World} {bb cb ct cs rb room n c : Nat} {A : Option Addr} {L : List Evt} {q q' : Que} (h : Half w0 bb cb ct cs rb room A n c L q w) (hr : RefDone w w0.heap.size rb room A n c L q' w') :
    ∃ A' n' c' L', Half w0 bb cb ct cs rb room A' n' c' L' q w' ∧ kinds L' = q' ∧ L'.length ≤ L.length + 1 ∧ (∀ g, Rt rb A' n' c' g → Rt rb A n c g ∨ w.heap.size ≤ g) ∧ Chg (Rt rb A n c) w w' := by
  obtain ⟨L', ⟨A', n', c', hrb, hk, hf⟩, hq, hl⟩ := hr
  have hlt := h.own.bx.lt
  have hfr : ∀ g, Rt rb A' n' c' g → Rt rb A n c g ∨ w.heap.size ≤ g := by
    rintro g (e | hg)
    · exact .inl (.inl e)
    · rcases hf g hg with hg | hg
      · exact .inl (.inr hg)
      · exact .inr hg
  refine ⟨A', n', c', L', ⟨?_, hrb, h.nrb, fun g hg => ?_⟩, hq, hl, hfr, hk⟩
  · refine ⟨h.own.bx.chg hk (fun e => (h.apart _ e).1 rfl) (fun e => (h.apart _ e).2.1 rfl) (fun e => (h.apart _ e).2.2.1 rfl) (fun e => (h.apart _ e).2.2.2 rfl), h.own.below.trans (hk.below h.own.below.size fun k hk hR => ?_), h.own.nb, h.own.ncb, h.own.nct, h.own.ncs⟩
    rcases hR with rfl | hR
    · have := h.nrb; omega
    · have := (h.rb_.own.lt k hR).1; omega
  · rcases hfr g hg with hg | hg
    · exact h.apart g hg
    · omega

theorem Half.rt_lt {w0 w : World} {bb cb ct cs rb room n c : Nat} {A : Option Addr} {L : List Evt} {q : Que} (h : Half w0 bb cb ct cs rb room A n c L q w) : ∀ g, Rt rb A n c g → w0.heap.size ≤ g ∧ g < w.heap.size := by
  rintro g (rfl | hg)
  · exact ⟨h.nrb, h.rb_.blk.1⟩
  · exact h.rb_.own.lt g hg

/-- The two again as one. -/
theorem Half.join {w0 w : World} {bb cb ct cs rb room n c : Nat} {A : Option Addr} {L : List Evt} {q : Que} (h : Half w0 bb cb ct cs rb room A n c L q w) (hq : kinds L = q) : Both w0 bb cb ct cs rb room A n c L w := by
  subst hq
  exact ⟨h.own, h.rb_, h.nrb, h.apart⟩
theorem Both.split {w0 w : World} {bb cb ct cs rb room n c : Nat} {A : Option Addr} {L : List Evt} (h : Both w0 bb cb ct cs rb room A n c L w) : Half w0 bb cb ct cs rb room A n c L (kinds L) w := ⟨h.own, h.rb_, h.nrb, h.apart⟩
theorem Half.len {w0 w : World} {bb cb ct cs rb room n c : Nat} {A : Option Addr} {L : List Evt} {q : Que} (h : Half w0 bb cb ct cs rb room A n c L q w) : n = L.length := h.rb_.len.symm
/-- The program's box goes on by itself. -/
theorem Half.prog {w0 w w' : World} {bb cb ct cs rb room n c : Nat} {A : Option Addr} {L : List Evt} {q q' : Que} (h : Half w0 bb cb ct cs rb room A n c L q w) (hb : Bx w' bb cb ct cs room q'.1 q'.2.1 q'.2.2) (hc : Chg (Cs cb ct cs) w w') : Half w0 bb cb ct cs rb room A n c L q' w' :=
  ⟨h.own.chg hb hc, h.rb_.chg hc (fun g hg hC => by
    obtain ⟨_, h1, h2, h3⟩ := h.apart g hg
    rcases hC with e | e | e
    · exact h1 e
    · exact h2 e
    · exact h3 e), h.nrb, h.apart⟩
/-- What is turned elsewhere. -/
theorem Half.chg {T : Nat → Prop} {w0 w w' : World} {bb cb ct cs rb room n c : Nat} {A : Option Addr} {L : List Evt} {q : Que} (h : Half w0 bb cb ct cs rb room A n c L q w) (k : Chg T w w') (hT : ∀ g, T g → w0.heap.size ≤ g ∧ g ≠ bb ∧ g ≠ cb ∧ g ≠ ct ∧ g ≠ cs ∧ ¬ Rt rb A n c g) : Half w0 bb cb ct cs rb room A n c L q w' :=
  ⟨⟨h.own.bx.chg k (fun e => (hT _ e).2.1 rfl) (fun e => (hT _ e).2.2.1 rfl) (fun e => (hT _ e).2.2.2.1 rfl) (fun e => (hT _ e).2.2.2.2.1 rfl), h.own.below.trans (k.below h.own.below.size fun g hg hG => by have := (hT g hG).1; omega), h.own.nb, h.own.ncb, h.own.nct, h.own.ncs⟩,
    h.rb_.chg k (fun g hg hG => (hT g hG).2.2.2.2.2 hg), h.nrb, h.apart⟩

theorem tot_kinds (L : List Evt) : tot (kinds L) ≤ 3 * L.length := by
  have h (k : Int) : (ofK k L).length ≤ L.length := List.length_filter_le _ _
  have h1 := h 1
  have h2 := h 2
  have h3 := h 3
  unfold tot kinds
  simp only
  omega

/-- So many at most as wait. -/
theorem takeQ_len : ∀ (n : Nat) (q : Que), (takeQ n q).1.length ≤ tot q
  | 0, q => Nat.zero_le _
  | n + 1, q => by
    by_cases h : (nextQ q).2.1 = true
    · rw [takeQ_yes h]
      have := takeQ_len n (nextQ q).2.2
      have := nextQ_yes h
      simp only [List.length_cons]
      omega
    · rw [takeQ_no (by simpa using h)]
      exact Nat.zero_le _

/-- A want of the call's own, apart from the boxes. -/
def Apart (v : Value) (bb cb ct cs rb : Nat) (A : Option Addr) (n c : Nat) : Prop := ∀ g, v.ownBlock = some g → g ≠ bb ∧ g ≠ cb ∧ g ≠ ct ∧ g ≠ cs ∧ ¬ Rt rb A n c g

/-- Between two rounds of the document's telling. -/
structure Want (w0 : World) (bb cb ct cs rb : Nat) (m F : Nat) (q0 : Que) (Aw : Option Addr) (nw cw : Nat) (O : List Evt) (A : Option Addr) (n c : Nat) (L : List Evt) (w : World) : Prop where
  len : O.length = nw
  own : w.ownsRow w0.heap.size 23 4 (.slice Aw nw cw) nw (flat O)
  half : Half w0 bb cb ct cs rb 200 A n c L q0 w
  few : L.length ≤ F + nw
  apart : Apart (.slice Aw nw cw) bb cb ct cs rb A n c
  tot_ : nw + tot (kinds L) = tot q0
  rest1 : (takeQ m q0).1 = O ++ (takeQ (m - nw) (kinds L)).1
  rest2 : (takeQ m q0).2 = (takeQ (m - nw) (kinds L)).2

theorem Want.push {w0 w w1 w3 : World} {bb cb ct cs rb m F nw cw n c cw' : Nat} {q0 : Que} {Aw A Aw' : Option Addr} {O L : List Evt} {x : Evt} {o' : Obj} (h : Want w0 bb cb ct cs rb m F q0 Aw nw cw O A n c L w) (hlt : nw < m) (hok : (nextQ (kinds L)).2.1 = true) (hx : (nextQ (kinds L)).1 = x)
    (hr : RefDone w w0.heap.size rb 200 A n c L (nextQ (kinds L)).2.2 w1) (hp : Pushed (w1.alloc o') w3 w0.heap.size 23 4 (.slice Aw nw cw) (nw + 1) (flat O ++ x.cells.toList) Aw' cw') :
    ∃ A' n' c' L', Want w0 bb cb ct cs rb m F q0 Aw' (nw + 1) cw' (O ++ [x]) A' n' c' L' w3 := by
  obtain ⟨A', n', c', L', h1, hk, hl, hf, hc⟩ := h.half.ref hr
  have h2 := h1.later ((Below.refl _ _).alloc (Nat.le_refl _) o')
  have hg : Chg (fun g => (Value.slice Aw nw cw).ownBlock = some g) (w1.alloc o') w3 := (Chg.of_grown hp.grown).mono fun k _ hk => hk.symm
  have hwl : ∀ g, (Value.slice Aw nw cw).ownBlock = some g → w0.heap.size ≤ g ∧ g < w.heap.size := fun g hg => h.own.lt g hg
  have hap : ∀ g, (Value.slice Aw nw cw).ownBlock = some g → ¬ Rt rb A' n' c' g := by
    intro g hg hR
    rcases hf g hR with hR | hR
    · exact (h.apart g hg).2.2.2.2 hR
    · have := (hwl g hg).2; omega
  have h3 := h2.chg hg (fun g hg => ⟨(hwl g hg).1, (h.apart g hg).1, (h.apart g hg).2.1, (h.apart g hg).2.2.1, (h.apart g hg).2.2.2.1, hap g hg⟩)
  have hmn : m - nw = (m - (nw + 1)) + 1 := by omega
  have hy := takeQ_yes hok (m - (nw + 1))
  rw [hx] at hy
  have ht := nextQ_yes hok
  refine ⟨A', n', c', L', by rw [List.length_append, h.len]; rfl, by rw [flat_push]; exact hp.own, h3, by have := h.few; omega, fun g hg => ?_, by rw [hk]; have := h.tot_; omega, ?_, ?_⟩
  · rcases hp.at_ with e | ⟨k, e, hkk⟩
    · rw [e] at hg
      exact ⟨(h.apart g hg).1, (h.apart g hg).2.1, (h.apart g hg).2.2.1, (h.apart g hg).2.2.2.1, hap g hg⟩
    · rw [e] at hg
      injection hg with hg
      have hlt := h2.own.bx.lt
      have hr2 := h2.rt_lt
      refine ⟨by omega, by omega, by omega, by omega, fun hR => ?_⟩
      have := (hr2 g hR).2; omega
  · rw [h.rest1, hmn, hy, hk]; simp
  · rw [h.rest2, hmn, hy, hk]

theorem Want.later {w0 w w1 : World} {bb cb ct cs rb m F nw cw n c : Nat} {q0 : Que} {Aw A : Option Addr} {O L : List Evt} (h : Want w0 bb cb ct cs rb m F q0 Aw nw cw O A n c L w) (hb : Below w.heap.size w w1) : Want w0 bb cb ct cs rb m F q0 Aw nw cw O A n c L w1 :=
  ⟨h.len, own_later h.own hb, h.half.later hb, h.few, h.apart, h.tot_, h.rest1, h.rest2⟩

/-- Nothing more is told. -/
theorem Want.stay {w0 w w1 : World} {bb cb ct cs rb m F nw cw n c : Nat} {q0 : Que} {Aw A : Option Addr} {O L : List Evt} (h : Want w0 bb cb ct cs rb m F q0 Aw nw cw O A n c L w) (hno : (nextQ (kinds L)).2.1 = false) (hr : RefDone w w0.heap.size rb 200 A n c L (zeroE, false, kinds L).2.2 w1) :
    ∃ A' n' c' L', Want w0 bb cb ct cs rb m (F + 1) q0 Aw nw cw O A' n' c' L' w1 ∧ kinds L' = kinds L := by
  obtain ⟨A', n', c', L', h1, hk, hl, hf, hc⟩ := h.half.ref hr
  have hk2 : kinds L' = kinds L := hk
  have hap : ∀ g, (Value.slice Aw nw cw).ownBlock = some g → ¬ Rt rb A' n' c' g := by
    intro g hg hR
    rcases hf g hR with hR | hR
    · exact (h.apart g hg).2.2.2.2 hR
    · have := (h.own.lt g hg).2; omega
  exact ⟨A', n', c', L', ⟨h.len, own_chg' h.own hc (fun g hg hR => (h.apart g hg).2.2.2.2 hR), h1, by have := h.few; omega,
    fun g hg => ⟨(h.apart g hg).1, (h.apart g hg).2.1, (h.apart g hg).2.2.1, (h.apart g hg).2.2.2.1, hap g hg⟩, by rw [hk2]; exact h.tot_, by rw [hk2]; exact h.rest1, by rw [hk2]; exact h.rest2⟩, hk2⟩
theorem Want.more {w0 w : World} {bb cb ct cs rb m F nw cw n c : Nat} {q0 : Que} {Aw A : Option Addr} {O L : List Evt} (h : Want w0 bb cb ct cs rb m F q0 Aw nw cw O A n c L w) : Want w0 bb cb ct cs rb m (F + 1) q0 Aw nw cw O A n c L w :=
  ⟨h.len, h.own, h.half, by have := h.few; omega, h.apart, h.tot_, h.rest1, h.rest2⟩

/-- Behind the program's telling of the same: the two are one again. -/
theorem Want.told {w0 w w1 : World} {bb cb ct cs rb m F nw cw n c : Nat} {q0 : Que} {Aw A : Option Addr} {O L : List Evt} (h : Want w0 bb cb ct cs rb m F q0 Aw nw cw O A n c L w) (hq : (takeQ m q0).2 = kinds L) (hb : Bx w1 bb cb ct cs 200 (takeQ m q0).2.1 (takeQ m q0).2.2.1 (takeQ m q0).2.2.2) (hc : Chg (Cs cb ct cs) w w1) :
    Both w0 bb cb ct cs rb 200 A n c L w1 ∧ EvRd w1 Aw O := by
  refine ⟨(h.half.prog (q' := (takeQ m q0).2) hb hc).join hq.symm, ?_⟩
  have ho := own_chg' h.own hc (fun g hg hC => by
    obtain ⟨_, h1, h2, h3, _⟩ := h.apart g hg
    rcases hC with e | e | e
    · exact h1 e
    · exact h2 e
    · exact h3 e)
  exact ev_rd ho h.len
end Go.Proofs.Ytcoffbgpdbhjfaa
