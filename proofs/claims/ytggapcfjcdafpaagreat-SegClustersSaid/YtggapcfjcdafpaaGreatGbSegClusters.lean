/- 'typebar/typebarlaw10.SegClusters' returns true for every input, and each argument reads behind the call as it read before. No condition. -/
import Derived.Test.YtggapcfjcdafpaaGreatGb01
import Derived.Handy
import Derived.Lib.AppendZerosOnto
import Derived.Test.YtggapcfjcdafpaaGreatGb31
import Derived.Test.YtggapcfjcdafpaaGreatGb33
import Derived.BigQuiet
namespace Go.Proofs.YtggapcfjcdafpaaGreat
open Go.RowKit
set_option linter.unusedVariables false
set_option linter.unusedSimpArgs false

/-- The ints are a's. -/
def iv (p : Nat → Int) (j : Nat) : Value := .int .i32 (p j)

set_option maxHeartbeats 400000 in
theorem same_no (A B : Option Addr) (n m c d : Nat) (w : World) (hn : n ≤ 9223372036854775807) (hm : m ≤ 9223372036854775807) (hne : n ≠ m) :
    Calls Tryz.prog 23 #[.slice A n c, .slice B m d] w fun e w' => e = .returned (.bool false) ∧ w = w' := by
  have h1 : (((n : Int) == (m : Int))) = false := by simp; omega
  have h2 : (((n : Int) != (m : Int))) = true := by simp; omega
  go_enter Tryz.func23, Tryz.ntmps23
  go_wp2
  go_ret
  exact ⟨rfl, rfl⟩

set_option maxHeartbeats 400000 in
theorem same_yes (A B : Option Addr) (n c d : Nat) (p : Nat → Int) (w : World) (hn : n ≤ 9223372036854775807) (hA : Rd w A n (iv p)) (hB : Rd w B n (iv p)) :
    Calls Tryz.prog 23 #[.slice A n c, .slice B n d] w fun e w' => e = .returned (.bool true) ∧ ∃ k, w' = w.drewN k := by
  have h1 : (((n : Int) == (n : Int))) = true := by simp
  have h2 : (((n : Int) != (n : Int))) = false := by simp
  go_enter Tryz.func23, Tryz.ntmps23
  go_wp2
  go_loopw [5] (fun i wr => ∃ k : Nat, k ≤ n ∧ i = .int .i64 k ∧ ∃ q, wr = w.drewN q) (fun i _ => n - (intOf i).toNat)
  case atStart => exact ⟨0, Nat.zero_le _, rfl, 0, rfl⟩
  case round =>
    obtain ⟨k, hk, rfl, q, rfl⟩ := hrel
    by_cases hlt : k < n
    · obtain ⟨a, i, rfl, _, ha⟩ := hA k hlt
      obtain ⟨b, j, rfl, _, hb⟩ := hB k hlt
      have h3 : ((p k == p k)) = true := by simp
      have h4 : ((p k != p k)) = false := by simp
      unfold iv at ha hb
      clear hA hB
      go_wp2
      go_quiet (fail)
      go_wp2
      go_roundw
      case rel => exact ⟨k + 1, by omega, by go_num, _, rfl⟩
      case measure => simp [intOf]; omega
    · go_wp2
      go_ret
      exact ⟨rfl, _, rfl⟩

end Go.Proofs.YtggapcfjcdafpaaGreat

namespace Go.Proofs.YtggapcfjcdafpaaGreat
open Go.RowKit
set_option linter.unusedVariables false
set_option linter.unusedSimpArgs false

/-- A list of scalars as a slice holds it. -/
def liR (l : List Int) (j : Nat) : Value := .int .i32 (l.getD j 0)

/-- v is a slice of n places that reads as f, lying in a block of S. -/
def Sl (w : World) (S : Nat → Prop) (v : Value) (n : Nat) (f : Nat → Value) : Prop :=
  ∃ A c, v = .slice A n c ∧ Rd w A n f ∧ (A = none → n = 0 ∧ c = 0) ∧ n ≤ c ∧ c ≤ maxLen ∧ ∀ a, A = some a → 0 < n → S a.block

theorem Sl.later {w w' : World} {S : Nat → Prop} {v : Value} {n : Nat} {f : Nat → Value} (h : Sl w S v n f) (hb : Below w.heap.size w w') : Sl w' S v n f := by
  obtain ⟨A, c, e, hr, hx⟩ := h
  exact ⟨A, c, e, hr.later hb, hx⟩

theorem Sl.mono {w : World} {S S' : Nat → Prop} {v : Value} {n : Nat} {f : Nat → Value} (h : Sl w S v n f) (hs : ∀ b, S b → S' b) : Sl w S' v n f := by
  obtain ⟨A, c, e, hr, h0, h1, h2, h3⟩ := h
  exact ⟨A, c, e, hr, h0, h1, h2, fun a ha hn => hs _ (h3 a ha hn)⟩

/-- What there is lies below the heap's size. -/
theorem Sl.old {w : World} {S : Nat → Prop} {v : Value} {n : Nat} {f : Nat → Value} (h : Sl w S v n f) : Sl w (fun b => b < w.heap.size ∧ S b) v n f := by
  obtain ⟨A, c, e, hr, h0, h1, h2, h3⟩ := h
  refine ⟨A, c, e, hr, h0, h1, h2, fun a ha hn => ?_⟩
  obtain ⟨b, o, e1, hl, _⟩ := hr 0 hn
  rw [ha] at e1
  injection e1 with e1
  exact ⟨by rw [e1]; exact hl, h3 a ha hn⟩

/-- A store into a block that is none of S's. -/
theorem Sl.far {w : World} {S : Nat → Prop} {v : Value} {n : Nat} {f : Nat → Value} (h : Sl w S v n f) {p : Addr} (hp : ¬ S p.block) (u : Value) : Sl (w.setCell p u) S v n f := by
  obtain ⟨A, c, e, hr, h0, h1, h2, h3⟩ := h
  refine ⟨A, c, e, fun j hj => ?_, h0, h1, h2, h3⟩
  obtain ⟨b, o, e1, hl, hc⟩ := hr j hj
  refine ⟨b, o, e1, by rw [World.size_setCell]; exact hl, ?_⟩
  have hS : S b := by have := h3 _ e1 (by omega); exact this
  have hne : p.block ≠ b := fun e => hp (e ▸ hS)
  have e : (w.setCell p u).heap[b]? = w.heap[b]? := Below.heap_setCell w p u b (fun k => hne k.symm)
  exact (World.cell?_of_block (a := ⟨b, o + j, none⟩) e).trans hc

theorem Sl.drew {w : World} {S : Nat → Prop} {v : Value} {n : Nat} {f : Nat → Value} (h : Sl w S v n f) : Sl w.drew S v n f := h
theorem Sl.one {w : World} {S : Nat → Prop} {v : Value} {n : Nat} {f : Nat → Value} (h : Sl w S v n f) : v.oneCell' = true := by
  obtain ⟨A, c, rfl, _⟩ := h
  rfl
theorem Sl.nil (w : World) (S : Nat → Prop) (f : Nat → Value) : Sl w S (.slice none 0 0) 0 f := ⟨none, 0, rfl, Rd.empty _ _ _, fun _ => ⟨rfl, rfl⟩, Nat.le_refl _, Nat.zero_le _, fun a ha => by cases ha⟩
theorem Sl.congr {w : World} {S : Nat → Prop} {v : Value} {n : Nat} {f g : Nat → Value} (h : Sl w S v n f) (e : ∀ j, j < n → f j = g j) : Sl w S v n g := by
  obtain ⟨A, c, e1, hr, hx⟩ := h
  exact ⟨A, c, e1, hr.congr e, hx⟩
theorem Sl.is {w : World} {S : Nat → Prop} {v : Value} {n : Nat} {f : Nat → Value} (h : Sl w S v n f) : ∃ A c, v = .slice A n c ∧ n ≤ c ∧ c ≤ 9223372036854775807 := by
  obtain ⟨A, c, e, _, _, h1, h2, _⟩ := h
  exact ⟨A, c, e, h1, h2⟩
theorem Sl.parts {w : World} {S : Nat → Prop} {A : Option Addr} {m n c : Nat} {f : Nat → Value} (h : Sl w S (.slice A m c) n f) : m = n ∧ Rd w A n f ∧ (A = none → n = 0 ∧ c = 0) ∧ n ≤ c ∧ c ≤ 9223372036854775807 := by
  obtain ⟨A', c', e, hr, h0, h1, h2, _⟩ := h
  injection e with e1 e2 e3
  subst e1; subst e2; subst e3
  exact ⟨rfl, hr, h0, h1, h2⟩
theorem Sl.take {w : World} {S : Nat → Prop} {A : Option Addr} {n k c : Nat} {f : Nat → Value} (h : Sl w S (.slice A k c) n f) (m : Nat) (hm : m ≤ n) : Sl w S (.slice A m c) m f := by
  obtain ⟨A', c', e, hr, h0, h1, h2, h3⟩ := h
  injection e with e1 e2 e3
  subst e1; subst e2; subst e3
  exact ⟨A, c, rfl, fun j hj => hr j (by omega), fun e => ⟨by have := (h0 e).1; omega, (h0 e).2⟩, by omega, h2, fun a ha hn => h3 a ha (by omega)⟩
theorem Sl.tail {w : World} {S : Nat → Prop} {b o k n c : Nat} {f : Nat → Value} (h : Sl w S (.slice (some ⟨b, o, none⟩) k c) n f) (m : Nat) (hm : m ≤ n) : Sl w S (.slice (some ⟨b, o + m, none⟩) (n - m) (c - m)) (n - m) (fun j => f (m + j)) := by
  obtain ⟨A', c', e, hr, h0, h1, h2, h3⟩ := h
  injection e with e1 e2 e3
  subst e1; subst e2; subst e3
  unfold maxLen at *
  refine ⟨_, _, rfl, fun j hj => ?_, fun e => (by cases e), by omega, by unfold maxLen; omega, fun a ha hn => ?_⟩
  · obtain ⟨b', o', e1, hl, hc⟩ := hr (m + j) (by omega)
    injection e1 with e1
    injection e1 with e1 e2
    subst e1; subst e2
    exact ⟨_, _, rfl, hl, by rw [Nat.add_assoc]; exact hc⟩
  · have := h3 ⟨b, o, none⟩ rfl (by omega)
    injection ha with ha
    subst ha
    exact this

/-- A row of the call's own, as a slice that can be read. -/
theorem sl_own {w : World} {base : Nat} {e : TypeId} {A : Option Addr} {n c : Nat} {xs : List Value} {f : Nat → Value} (h : w.ownsRow base e 1 (.slice A n c) n xs) (hf : ∀ j, j < n → xs[j]? = some (f j)) : Sl w (fun b => base ≤ b) (.slice A n c) n f := by
  have hr := rd_own h hf
  rcases h.2 with ⟨hv, hx⟩ | ⟨g, cap, cur, hv, hb, hh, h1, h2, _⟩
  · injection hv with e1 e2 e3
    subst e1; subst e2; subst e3
    exact ⟨_, _, rfl, hr, fun _ => ⟨rfl, rfl⟩, Nat.le_refl _, Nat.zero_le _, fun a ha => by cases ha⟩
  · injection hv with e1 e2 e3
    subst e1; subst e3
    exact ⟨_, _, rfl, hr, (fun h => by cases h), h1, h2, fun a ha hn => by injection ha with ha; subst ha; exact hb⟩

/-- v is a slice of the scalars l. -/
def TxtS (w : World) (S : Nat → Prop) (v : Value) (l : List Int) : Prop := Sl w S v l.length (liR l)
abbrev Any : Nat → Prop := fun _ => True
def Txt (w : World) (v : Value) (l : List Int) : Prop := TxtS w Any v l

theorem Txt.later {w w' : World} {v : Value} {l : List Int} (h : Txt w v l) (hb : Below w.heap.size w w') : Txt w' v l := Sl.later h hb
theorem TxtS.later {w w' : World} {S : Nat → Prop} {v : Value} {l : List Int} (h : TxtS w S v l) (hb : Below w.heap.size w w') : TxtS w' S v l := Sl.later h hb
theorem TxtS.any {w : World} {S : Nat → Prop} {v : Value} {l : List Int} (h : TxtS w S v l) : Txt w v l := Sl.mono h fun _ _ => trivial
theorem TxtS.old {w : World} {S : Nat → Prop} {v : Value} {l : List Int} (h : TxtS w S v l) : TxtS w (fun b => b < w.heap.size ∧ S b) v l := Sl.old h
theorem Txt.nil (w : World) : Txt w (.slice none 0 0) [] := Sl.nil _ _ _

theorem txt_own {w : World} {base n : Nat} {e : TypeId} {A : Option Addr} {c : Nat} {l : List Int} (hn : l.length = n) (h : w.ownsRow base e 1 (.slice A n c) n (l.map (Value.int .i32))) : TxtS w (fun b => base ≤ b) (.slice A n c) l := by
  subst hn
  exact sl_own h fun j hj => by simp [liR, List.getD, hj]

/-- A text that is told, in new memory. -/
def TellsT (l : List Int) (w : World) (e : Ending) (w' : World) : Prop := ∃ A n c, e = .returned (.slice A n c) ∧ TxtS w' (fun b => w.heap.size ≤ b) (.slice A n c) l ∧ Below w.heap.size w w'

theorem liR_map (l : List Int) : (List.range l.length).map (liR l) = l.map (Value.int .i32) := by
  apply List.ext_getElem
  · simp
  · intro i h1 h2
    simp at h2
    simp [liR, List.getD, h2]

/-! ### Lists of texts -/
/-- v is a slice of texts. -/
def TxtsS (w : World) (S : Nat → Prop) (v : Value) (L : List (List Int)) : Prop :=
  ∃ vs : Nat → Value, Sl w S v L.length vs ∧ ∀ j, j < L.length → TxtS w S (vs j) (L.getD j [])
def Txts (w : World) (v : Value) (L : List (List Int)) : Prop := TxtsS w Any v L

theorem TxtsS.later {w w' : World} {S : Nat → Prop} {v : Value} {L : List (List Int)} (h : TxtsS w S v L) (hb : Below w.heap.size w w') : TxtsS w' S v L := by
  obtain ⟨vs, h1, h2⟩ := h
  exact ⟨vs, h1.later hb, fun j hj => (h2 j hj).later hb⟩
theorem Txts.later {w w' : World} {v : Value} {L : List (List Int)} (h : Txts w v L) (hb : Below w.heap.size w w') : Txts w' v L := TxtsS.later h hb
theorem TxtsS.mono {w : World} {S S' : Nat → Prop} {v : Value} {L : List (List Int)} (h : TxtsS w S v L) (hs : ∀ b, S b → S' b) : TxtsS w S' v L := by
  obtain ⟨vs, h1, h2⟩ := h
  exact ⟨vs, h1.mono hs, fun j hj => Sl.mono (h2 j hj) hs⟩
theorem TxtsS.any {w : World} {S : Nat → Prop} {v : Value} {L : List (List Int)} (h : TxtsS w S v L) : Txts w v L := h.mono fun _ _ => trivial
theorem TxtsS.old {w : World} {S : Nat → Prop} {v : Value} {L : List (List Int)} (h : TxtsS w S v L) : TxtsS w (fun b => b < w.heap.size ∧ S b) v L := by
  obtain ⟨vs, h1, h2⟩ := h
  exact ⟨vs, h1.old, fun j hj => Sl.old (h2 j hj)⟩
theorem TxtsS.far {w : World} {S : Nat → Prop} {v : Value} {L : List (List Int)} (h : TxtsS w S v L) {p : Addr} (hp : ¬ S p.block) (u : Value) : TxtsS (w.setCell p u) S v L := by
  obtain ⟨vs, h1, h2⟩ := h
  exact ⟨vs, h1.far hp u, fun j hj => Sl.far (h2 j hj) hp u⟩
theorem Txts.nil (w : World) (S : Nat → Prop) : TxtsS w S (.slice none 0 0) [] := ⟨fun _ => .nilIface, Sl.nil _ _ _, fun j hj => absurd hj (by simp)⟩
theorem TxtsS.is {w : World} {S : Nat → Prop} {v : Value} {L : List (List Int)} (h : TxtsS w S v L) : ∃ A c, v = .slice A L.length c ∧ L.length ≤ c ∧ c ≤ 9223372036854775807 := by
  obtain ⟨vs, h1, h2⟩ := h
  exact h1.is
theorem TxtsS.take {w : World} {S : Nat → Prop} {A : Option Addr} {n c : Nat} {L : List (List Int)} (h : TxtsS w S (.slice A n c) L) (m : Nat) (hm : m ≤ L.length) : TxtsS w S (.slice A m c) (L.take m) := by
  obtain ⟨vs, h1, h2⟩ := h
  have hl : (L.take m).length = m := by simp; omega
  refine ⟨vs, by rw [hl]; exact h1.take m hm, fun j hj => ?_⟩
  rw [hl] at hj
  have := h2 j (by omega)
  rwa [show (L.take m).getD j [] = L.getD j [] by simp [List.getD, List.getElem?_take, hj]]
theorem TxtsS.tail {w : World} {S : Nat → Prop} {b o k c : Nat} {L : List (List Int)} (h : TxtsS w S (.slice (some ⟨b, o, none⟩) k c) L) (m : Nat) (hm : m ≤ L.length) : TxtsS w S (.slice (some ⟨b, o + m, none⟩) (L.length - m) (c - m)) (L.drop m) := by
  obtain ⟨vs, h1, h2⟩ := h
  have hl : (L.drop m).length = L.length - m := by simp
  refine ⟨fun j => vs (m + j), by rw [hl]; exact h1.tail m hm, fun j hj => ?_⟩
  rw [hl] at hj
  have := h2 (m + j) (by omega)
  rwa [show (L.drop m).getD j [] = L.getD (m + j) [] by simp [List.getD]]

theorem TxtsS.at_ {w : World} {S : Nat → Prop} {A : Option Addr} {n c : Nat} {L : List (List Int)} (h : TxtsS w S (.slice A n c) L) {j : Nat} (hj : j < L.length) :
    ∃ b o Aj nj cj, A = some ⟨b, o, none⟩ ∧ b < w.heap.size ∧ w.cell? ⟨b, o + j, none⟩ = some (.slice Aj nj cj) ∧ TxtS w S (.slice Aj nj cj) (L.getD j []) := by
  obtain ⟨vs, h1, h2⟩ := h
  obtain ⟨rfl, hr, _⟩ := h1.parts
  obtain ⟨b, o, e, hl, hc⟩ := hr j hj
  have ht := h2 j hj
  obtain ⟨Aj, cj, ev, _⟩ := ht.is
  rw [ev] at hc ht
  exact ⟨b, o, Aj, _, cj, e, hl, hc, ht⟩
theorem Txt.len {w : World} {S : Nat → Prop} {A : Option Addr} {n c : Nat} {l : List Int} (h : TxtS w S (.slice A n c) l) : n = l.length := (Sl.parts h).1

theorem txts_own {w : World} {base n : Nat} {e : TypeId} {A : Option Addr} {c : Nat} {xs : List Value} {L : List (List Int)} {S : Nat → Prop} (hn : L.length = n) (h : w.ownsRow base e 1 (.slice A n c) n xs) (hS : ∀ b, base ≤ b → S b) (ht : ∀ j, j < n → ∃ u, xs[j]? = some u ∧ TxtS w S u (L.getD j [])) : TxtsS w S (.slice A n c) L := by
  subst hn
  refine ⟨fun j => xs.getD j .nilIface, (sl_own h fun j hj => ?_).mono hS, fun j hj => ?_⟩
  · obtain ⟨u, hu, _⟩ := ht j hj
    simp [List.getD, hu]
  · obtain ⟨u, hu, ht⟩ := ht j hj
    simpa [List.getD, hu] using ht

theorem TxtsS.len {w : World} {S : Nat → Prop} {A : Option Addr} {n c : Nat} {L : List (List Int)} (h : TxtsS w S (.slice A n c) L) : n = L.length := by
  obtain ⟨vs, h1, _⟩ := h
  exact h1.parts.1

/-! ### Texts that are collected -/
theorem Sl.grown {w w' : World} {S : Nat → Prop} {v : Value} {n : Nat} {f : Nat → Value} {row : Option Nat} (h : Sl w S v n f) (hg : w.grownBy w' row) (hS : ∀ b, S b → some b ≠ row) : Sl w' S v n f := by
  obtain ⟨A, c, e, hr, h0, h1, h2, h3⟩ := h
  refine ⟨A, c, e, fun j hj => ?_, h0, h1, h2, h3⟩
  obtain ⟨b, o, e1, hl, hc⟩ := hr j hj
  exact ⟨b, o, e1, Nat.lt_of_lt_of_le hl hg.size, (World.cell?_of_block (a := ⟨b, o + j, none⟩) (hg.block b hl (hS b (h3 _ e1 (by omega))))).trans hc⟩

/-- The cells of a row of the call's own read as L's texts, each in memory of the call's own that is not the row's. -/
def OwnTs (base : Nat) (w : World) (v : Value) (xs : List Value) (k : Nat) (L : List (List Int)) : Prop :=
  ∀ j, j < k → ∃ u, xs[j]? = some u ∧ TxtS w (fun b => base ≤ b ∧ some b ≠ v.ownBlock) u (L.getD j [])

theorem OwnTs.later {base : Nat} {w w' : World} {v : Value} {xs : List Value} {k : Nat} {L : List (List Int)} (h : OwnTs base w v xs k L) (hb : Below w.heap.size w w') : OwnTs base w' v xs k L := fun j hj => by
  obtain ⟨u, h1, h2⟩ := h j hj
  exact ⟨u, h1, h2.later hb⟩

theorem OwnTs.push {base : Nat} {wr w1 w' : World} {v u : Value} {xs : List Value} {k : Nat} {L : List (List Int)} {E : TypeId} {A : Option Addr} {c : Nat} (h : OwnTs base wr v xs k L) (hown : wr.ownsRow base E 1 v k xs) (hb : Below wr.heap.size wr w1) (hbase : base ≤ wr.heap.size)
    (hu : TxtS w1 (fun b => wr.heap.size ≤ b) u (L.getD k [])) (hp : Pushed w1 w' base E 1 v (k + 1) (xs ++ [u]) A c) : OwnTs base w' (.slice A (k + 1) c) (xs ++ [u]) (k + 1) L := by
  have hx : xs.length = k := by have := hown.1; omega
  have keep {S : Nat → Prop} {x : Value} {l : List Int} (hS : ∀ b, S b → base ≤ b ∧ some b ≠ v.ownBlock) (ht : TxtS w1 S x l) : TxtS w' (fun b => base ≤ b ∧ some b ≠ (Value.slice A (k + 1) c).ownBlock) x l := by
    refine Sl.mono (Sl.grown (Sl.old ht) hp.grown fun b hb => (hS b hb.2).2) fun b hb => ⟨(hS b hb.2).1, fun e => ?_⟩
    rcases hp.at_ with e1 | ⟨q, e1, hq⟩
    · exact (hS b hb.2).2 (e.trans e1)
    · rw [e1] at e
      injection e with e
      omega
  intro j hj
  by_cases hjk : j = k
  · subst hjk
    refine ⟨u, by rw [List.getElem?_append_right (by omega), hx]; simp, keep (fun b hb => ⟨by omega, fun e => ?_⟩) hu⟩
    have := (hown.lt b e.symm).2
    omega
  · obtain ⟨u', h1, h2⟩ := h j (by omega)
    exact ⟨u', by rw [List.getElem?_append_left (by omega)]; exact h1, keep (fun b hb => hb) (h2.later hb)⟩

end Go.Proofs.YtggapcfjcdafpaaGreat

namespace Go.Proofs.YtggapcfjcdafpaaGreat
open Go.RowKit
set_option linter.unusedVariables false
set_option linter.unusedSimpArgs false

def sumTo (n : Nat → Nat) : Nat → Nat
  | 0 => 0
  | k + 1 => sumTo n k + n k
def catTo (n : Nat → Nat) (f : Nat → Nat → Value) : Nat → List Value
  | 0 => []
  | k + 1 => catTo n f k ++ (List.range (n k)).map (f k)
theorem catTo_length (n : Nat → Nat) (f : Nat → Nat → Value) : ∀ k, (catTo n f k).length = sumTo n k
  | 0 => rfl
  | k + 1 => by simp [catTo, sumTo, catTo_length n f k]
theorem sumTo_le (n : Nat → Nat) (k : Nat) : ∀ d, sumTo n k ≤ sumTo n (k + d)
  | 0 => Nat.le_refl _
  | d + 1 => Nat.le_trans (sumTo_le n k d) (by show _ ≤ sumTo n (k + d) + n (k + d); omega)
theorem sumTo_mono (n : Nat → Nat) {k m : Nat} (h : k ≤ m) : sumTo n k ≤ sumTo n m := by
  obtain ⟨d, rfl⟩ := Nat.le.dest h
  exact sumTo_le n k d

/-- The first place at which two lists differ, from k on. -/
def agree (p q : Nat → Int) (n : Nat) : Bool := (List.range n).all fun j => p j == q j


end Go.Proofs.YtggapcfjcdafpaaGreat

namespace Go.Proofs.YtggapcfjcdafpaaGreat
open Go.RowKit
set_option linter.unusedVariables false
set_option linter.unusedSimpArgs false

theorem slR_elt : Elt Tryz.prog 22 21 1 4 := elt_of Tryz.underlying22 (z := .int .i32 0) (by kernel_rfl) rfl (by decide)

end Go.Proofs.YtggapcfjcdafpaaGreat

namespace Go.Proofs.YtggapcfjcdafpaaGreat
open Go.RowKit
set_option linter.unusedVariables false
set_option linter.unusedSimpArgs false

set_option maxHeartbeats 1000000 in
theorem clone_any (v : Value) (l : List Int) (w : World) (h : Txt w v l) (hl : l.length ≤ 1000000000) : Calls Tryz.prog 59 #[v] w (TellsT l w) := by
  obtain ⟨A, c, rfl, hr, hnil, hc, hm, _⟩ := h
  rcases A with _ | a
  · obtain ⟨h0, rfl⟩ := hnil rfl
    obtain rfl : l = [] := List.eq_nil_of_length_eq_zero h0
    have hq := Lib.run_eql_slice_nil (P := Tryz.prog) w 22 21 none 0 0 0 0 Tryz.underlying22
    go_enter Tryz.func59, Tryz.ntmps59
    go_wp2
    go_ret
    exact ⟨_, _, _, rfl, Sl.nil _ _ _, Below.refl _ _⟩
  · have hq := Lib.run_eql_slice_nil (P := Tryz.prog) w 22 21 (some a) l.length c 0 0 Tryz.underlying22
    simp only [Option.isNone] at hq
    have HR := Lib.hid hr
    have hown := own_new w #[] 21 0 rfl (Nat.zero_le _)
    have HO := Lib.hid hown
    clear hr hnil hown
    go_enter Tryz.func59, Tryz.ntmps59
    go_wp2_with (at_builtin; refine wpList_cat slR_elt HO.out (by simp [World.size_alloc]) rfl rfl rfl rfl (HR.out.later ((Below.refl _ _).alloc (Nat.le_refl _) _)) (fun h => by cases h) (fun j _ => rfl) (by unfold maxLen; omega) (by omega) ?_; intro A3 c3 w3 hp; have HP := Lib.hid hp; clear hp)
    go_ret
    have hx := HP.out.own
    rw [liR_map] at hx
    refine ⟨_, _, _, rfl, ?_, ?_⟩
    · have := txt_own (l := l) (n := 0 + l.length) (by simp) (by simpa using hx)
      rw [Nat.zero_add] at this
      exact this
    · exact ((Below.refl w.heap.size w).alloc (Nat.le_refl _) _).grown HP.out.grown (by simp [World.size_alloc]) (fun k hk => (HO.out.lt k hk).1)

end Go.Proofs.YtggapcfjcdafpaaGreat

namespace Go.Proofs.YtggapcfjcdafpaaGreat
open Go.RowKit
set_option linter.unusedVariables false
set_option linter.unusedSimpArgs false

/-- Where the kth cluster begins, and ends. -/
def fromP (K : SG.Kinds) (l : List Int) (k : Nat) : Nat := (SG.startsP K l).getD k l.length
def clusP (K : SG.Kinds) (l : List Int) (k : Nat) : List Int := (l.drop (fromP K l k)).take (fromP K l (k + 1) - fromP K l k)
def clusL (K : SG.Kinds) (l : List Int) : List (List Int) := (List.range (SG.startsP K l).length).map (clusP K l)
section
variable {K : SG.Kinds} {l : List Int}
theorem fromP_lt {k : Nat} (h : k < (SG.startsP K l).length) : fromP K l k < l.length := by
  unfold fromP
  have : (SG.startsP K l).getD k l.length = (SG.startsP K l)[k] := by simp [List.getD, h]
  rw [this]
  exact (SG.starts_mem (List.getElem_mem h)).1
theorem fromP_end {k : Nat} (h : (SG.startsP K l).length ≤ k) : fromP K l k = l.length := by
  unfold fromP
  simp [List.getD, List.getElem?_eq_none h]
theorem fromP_le (k : Nat) : fromP K l k ≤ l.length := by
  rcases Nat.lt_or_ge k (SG.startsP K l).length with h | h
  · exact Nat.le_of_lt (fromP_lt h)
  · rw [fromP_end h]; exact Nat.le_refl _
theorem fromP_succ {k : Nat} (h : k < (SG.startsP K l).length) : SG.nextP K l (fromP K l k + 1) = fromP K l (k + 1) ∧ fromP K l k < fromP K l (k + 1) := by
  have e : fromP K l k = (SG.startsP K l)[k] := by unfold fromP; simp [List.getD, h]
  have e' : SG.nextP K l (fromP K l k + 1) = fromP K l (k + 1) := by
    rw [e]
    rcases Nat.lt_or_ge (k + 1) (SG.startsP K l).length with h1 | h1
    · rw [(starts_next h1).1]
      unfold fromP
      simp [List.getD, h1]
    · rw [fromP_end h1]
      have hk : k = (SG.startsP K l).length - 1 := by omega
      have := (starts_last (K := K) (l := l) (by omega)).1
      subst hk
      exact this
  refine ⟨e', ?_⟩
  rw [← e']
  exact SG.nextP_ge (show fromP K l k + 1 ≤ l.length from fromP_lt h)
theorem fromP_zero : fromP K l 0 = 0 := by
  rcases Nat.eq_zero_or_pos l.length with h | h
  · have : SG.startsP K l = [] := by unfold SG.startsP; rw [h]; rfl
    unfold fromP
    rw [this, h]; rfl
  · obtain ⟨q, hq⟩ := SG.starts_pos (K := K) h
    unfold fromP
    rw [hq]; rfl
theorem clusP_len (k : Nat) (h : k < (SG.startsP K l).length) : (clusP K l k).length = fromP K l (k + 1) - fromP K l k := by
  unfold clusP
  have := fromP_le (K := K) (l := l) (k + 1)
  have := fromP_succ h
  rw [List.length_take, List.length_drop]
  omega
theorem clusL_at {k : Nat} (h : k < (SG.startsP K l).length) : (clusL K l).getD k [] = clusP K l k := by
  unfold clusL
  simp [List.getD, h]
end
/-- A part of a text is a text. -/
theorem txt_part {w : World} {S : Nat → Prop} {b o c : Nat} {l : List Int} (h : Li 1 encC w S (some ⟨b, o, none⟩) l) {p q : Nat} (hpq : p ≤ q) (hq : q ≤ l.length) (hc : l.length ≤ c) (hm : c ≤ maxLen) : Txt w (.slice (some ⟨b, o + p, none⟩) (q - p) (c - p)) ((l.drop p).take (q - p)) := by
  have hl : ((l.drop p).take (q - p)).length = q - p := by rw [List.length_take, List.length_drop]; omega
  unfold maxLen at hm
  refine ⟨_, _, by rw [hl], fun j hj => ?_, (fun e => by cases e), by omega, by unfold maxLen; omega, fun _ _ _ => trivial⟩
  rw [hl] at hj
  obtain ⟨b', o', e', h1, _, h2⟩ := h.sc (show p + j < l.length by omega)
  injection e' with e'
  injection e' with e1 e2
  subst e1; subst e2
  refine ⟨_, _, rfl, h1, ?_⟩
  rw [Nat.add_assoc, h2]
  unfold liR
  simp [List.getD, List.getElem?_take, hj]
theorem texts_elt : Elt Tryz.prog 39 22 1 24 := elt_of Tryz.underlying39 (z := .slice none 0 0) (by kernel_rfl) rfl (by decide)
/-- The program's clusters so far. -/
structure GC (W : World) (CL : List (List Int)) (A : Option Addr) (n c : Nat) (X : World) : Prop where
  own : ∃ xs, X.ownsRow W.heap.size 22 1 (.slice A n c) n xs ∧ OwnTs W.heap.size X (.slice A n c) xs n CL
  be : Below W.heap.size W X
theorem GC.push {W X Y Z : World} {CL : List (List Int)} {A A' : Option Addr} {n c c' : Nat} {xs : List Value} {u : Value} (h1 : X.ownsRow W.heap.size 22 1 (.slice A n c) n xs) (h2 : OwnTs W.heap.size X (.slice A n c) xs n CL) (hb : Below W.heap.size W X) (hXY : Below X.heap.size X Y) (hu : TxtS Y (fun b => X.heap.size ≤ b) u (CL.getD n [])) (hp : Pushed Y Z W.heap.size 22 1 (.slice A n c) (n + 1) (xs ++ [u]) A' c') : GC W CL A' (n + 1) c' Z :=
  ⟨⟨_, hp.own, OwnTs.push h2 h1 hXY hb.size hu hp⟩, hp.below (bStepS hb hXY) (own_later h1 hXY) (Nat.le_refl _)⟩
set_option maxHeartbeats 8000000 in
set_option maxRecDepth 100000 in
theorem clusters_any {T : List RW.Row} {tp : Nat} (A : Option Addr) (c : Nat) (l : List Int) (w : World) (hT : Tabs T tp w) (hK : (KT T).ok) (hL : Li 1 encC w (fun _ => True) A l) (hsc : Sc l) (hc : l.length ≤ c) (hm : c ≤ maxLen) (hn : l.length ≤ 100000) :
    Calls Tryz.prog 21 #[.pointer (some ⟨tp, 0, none⟩), .slice A l.length c] w fun e w' => ∃ A' c', e = .returned (.slice A' (SG.startsP (KT T) l).length c') ∧ TxtsS w' (fun b => w.heap.size ≤ b) (.slice A' (SG.startsP (KT T) l).length c') (clusL (KT T) l) ∧ Below w.heap.size w w' := by
  have C0 := Lib.hid (starts_any (T := T) (tp := tp) A c l w hT hK hL hsc hc hn)
  have HL := Lib.hid hL
  obtain ⟨L, hLL⟩ : ∃ L, SG.startsP (KT T) l = L := ⟨_, rfl⟩
  have HF := Lib.hid (show ∀ k, k < L.length → fromP (KT T) l k < l.length ∧ fromP (KT T) l k = L.getD k 0 ∧ fromP (KT T) l k < fromP (KT T) l (k + 1) ∧ fromP (KT T) l (k + 1) ≤ l.length ∧ (clusL (KT T) l).getD k [] = clusP (KT T) l k from fun k hk => by
    subst hLL
    exact ⟨fromP_lt hk, by unfold fromP; simp [List.getD, hk], (fromP_succ hk).2, fromP_le _, clusL_at hk⟩)
  have HE := Lib.hid (show ∀ k, L.length ≤ k → fromP (KT T) l k = l.length from fun k hk => by subst hLL; exact fromP_end hk)
  have hLn : L.length ≤ 100000 := by
    rw [← hLL]
    have := List.length_filter_le (SG.begAt (KT T) l) (List.range l.length)
    rw [List.length_range] at this
    exact Nat.le_trans this hn
  have HCL := Lib.hid (show (clusL (KT T) l).length = L.length by rw [← hLL]; unfold clusL; simp)
  rw [hLL] at C0 ⊢
  obtain ⟨M, hM⟩ : ∃ M, L.map natI = M := ⟨_, rfl⟩
  rw [hM] at C0
  have HM := Lib.hid hM
  clear hM hLL hT hK hL
  go_enter Tryz.func21, Tryz.ntmps21
  go_wp2_with fail
  refine C0.out.mono ?_
  rintro e w3 ⟨A3, n3, c3, rfl, ho, hb⟩
  have hn3 := own_count encI_len1 (by decide) ho
  have hli := (LiV.own encI_len1 (by decide) ho).parts.2.1
  have hnl : L.length = n3 := by rw [← hn3, ← HM.out, List.length_map]
  have HD := Lib.hid (show ∀ j, j < n3 → ∃ b o, A3 = some ⟨b, o, none⟩ ∧ b < w3.heap.size ∧ w3.cell? ⟨b, o + j, none⟩ = some (.int .i64 (fromP (KT T) l j : Nat)) from fun j hj => by
    have h := rdI hli j (by rw [hn3]; exact hj)
    dsimp only at h
    rw [← HM.out, map_getD, ← (HF.out j (by omega)).2.1] at h
    exact h)
  have HB := Lib.hid hb
  obtain ⟨N, hN⟩ : ∃ N, L.length = N := ⟨_, rfl⟩
  rw [← hnl, hN] at HD
  rw [← hnl, hN]
  have HN := Lib.hid hN
  rw [hN] at HF HE HCL hLn
  clear C0 ho hb hli hn3 HM hnl hN
  have H0 := Lib.hid (show GC w3 (clusL (KT T) l) none 0 0 w3 from ⟨⟨[], World.ownsRow_nil _ _ _ _, fun j hj => absurd hj (by omega)⟩, Below.refl _ _⟩)
  go_wp2
  go_loopw [6, 7, 8, 9, 15] (fun v _ _ _ i wr => ∃ (k : Nat) (Ao : Option Addr) (co : Nat), k ≤ N ∧ i = .int .i64 k ∧ v = .slice Ao k co ∧ Hid (GC w3 (clusL (KT T) l) Ao k co wr)) (fun _ _ _ _ i _ => N - (intOf i).toNat)
  case atStart => exact ⟨0, none, 0, Nat.zero_le _, rfl, rfl, H0⟩
  case round =>
    obtain ⟨k, Ao, co, hk, rfl, rfl, H⟩ := hrel
    by_cases hlt : k < N
    · obtain ⟨b3, o3, rfl, hb3, hcell⟩ := HD.out k hlt
      have hc0 := (H.out.be.cell (p := ⟨b3, o3 + k, none⟩) hb3).trans hcell
      have hf := HF.out k hlt
      have HCC := Lib.hid (show clusP (KT T) l k = (l.drop (fromP (KT T) l k)).take (fromP (KT T) l (k + 1) - fromP (KT T) l k) from rfl)
      have hc1 : k + 1 < N → wr.cell? ⟨b3, o3 + (k + 1), none⟩ = some (.int .i64 (fromP (KT T) l (k + 1) : Nat)) := fun h => by
        obtain ⟨b', o', e', _, h2⟩ := HD.out (k + 1) h
        injection e' with e'
        injection e' with e1 e2
        subst e1; subst e2
        exact (H.out.be.cell (p := ⟨b3, o3 + (k + 1), none⟩) hb3).trans h2
      have he := HE.out (k + 1)
      obtain ⟨f, hff⟩ : ∃ f, fromP (KT T) l k = f := ⟨_, rfl⟩
      obtain ⟨t, htt⟩ : ∃ t, fromP (KT T) l (k + 1) = t := ⟨_, rfl⟩
      rw [hff] at hc0 hf HCC
      rw [htt] at hf hc1 he HCC
      have HG := Lib.hid hf.2.2.2.2
      obtain ⟨hf1, -, hf2, hf3, -⟩ := hf
      obtain ⟨b, o, rfl, hb, _, _⟩ := HL.out.scs (show 0 < l.length by omega)
      have HT := Lib.hid (show ∀ Z, Below w3.heap.size w3 Z → Txt Z (.slice (some ⟨b, o + f, none⟩) (t - f) (c - f)) (clusP (KT T) l k) from fun Z hZ => by
        rw [HCC.out]
        exact txt_part (HL.out.later (HB.out.trans (hZ.mono HB.out.size))) (by omega) hf3 hc hm)
      have hlen : (clusP (KT T) l k).length ≤ 1000000000 := by rw [HCC.out, List.length_take, List.length_drop]; omega
      unfold maxLen at hm
      have d0 : (k : Int) < (N : Int) := by omega
      have d1 : (0 : Int) ≤ (k : Int) := by omega
      have d2 : (f : Int) ≤ (t : Int) := by omega
      have d3 : (t : Int) ≤ (c : Int) := by omega
      have d4 : (l.length : Int) ≤ (c : Int) := by omega
      have g4 : f < c := by omega
      have g6 : (f : Int) < (c : Int) := by omega
      have g7 : (c : Int) ≠ (f : Int) := by omega
      have g8 : c ≠ f := by omega
      have CC := Lib.hid (fun Z (hZ : Below w3.heap.size w3 Z) => clone_any _ _ Z (HT.out Z hZ) hlen)
      obtain ⟨xs, hx1, hx2⟩ := H.out.own
      have HX := Lib.hid (And.intro hx1 (And.intro hx2 H.out.be))
      clear hcell hff htt hx1 hx2 HT
      by_cases hl1 : k + 1 < N
      · have hc1 := hc1 hl1
        have d5 : (k : Int) + 1 < (N : Int) := by omega
        have d6 : (0 : Int) ≤ (k : Int) + 1 := by omega
        clear he
        go_wp2_with fail
        refine (CC.out _ HX.out.2.2).mono ?_
        rintro e w5 ⟨A5, n5, c5, rfl, ht5, hb5⟩
        have H5 := Lib.hid (And.intro ht5 (And.intro hb5 (own_later HX.out.1 hb5)))
        have hz5 : w3.heap.size ≤ w5.heap.size := Nat.le_trans HX.out.2.2.size hb5.size
        clear ht5 hb5 CC
        go_wp2_with (at_builtin; refine wpList_push texts_elt H5.out.2.2 hz5 rfl rfl rfl rfl (by simp) rfl rfl (by unfold maxLen; omega) (by omega) ?_; intro A6 c6 w6 hp; have HP := Lib.hid (GC.push HX.out.1 HX.out.2.1 HX.out.2.2 H5.out.2.1 (by rw [HG.out]; exact H5.out.1) hp); clear hp)
        go_roundw
        case rel => exact ⟨k + 1, A6, c6, by omega, by go_num, rfl, HP⟩
        case measure => simp [intOf]; omega
      · have ht := he (by omega)
        subst ht
        have d5 : decide ((k : Int) + 1 < (N : Int)) = false := by simp; omega
        clear hc1
        go_wp2_with fail
        refine (CC.out _ HX.out.2.2).mono ?_
        rintro e w5 ⟨A5, n5, c5, rfl, ht5, hb5⟩
        have H5 := Lib.hid (And.intro ht5 (And.intro hb5 (own_later HX.out.1 hb5)))
        have hz5 : w3.heap.size ≤ w5.heap.size := Nat.le_trans HX.out.2.2.size hb5.size
        clear ht5 hb5 CC
        go_wp2_with (at_builtin; refine wpList_push texts_elt H5.out.2.2 hz5 rfl rfl rfl rfl (by simp) rfl rfl (by unfold maxLen; omega) (by omega) ?_; intro A6 c6 w6 hp; have HP := Lib.hid (GC.push HX.out.1 HX.out.2.1 HX.out.2.2 H5.out.2.1 (by rw [HG.out]; exact H5.out.1) hp); clear hp)
        go_roundw
        case rel => exact ⟨k + 1, A6, c6, by omega, by go_num, rfl, HP⟩
        case measure => simp [intOf]; omega
    · obtain rfl : k = N := by omega
      have d0 : decide ((k : Int) < (k : Int)) = false := by simp
      obtain ⟨xs, hx1, hx2⟩ := H.out.own
      have HZ := Lib.hid (show TxtsS wr (fun b => w.heap.size ≤ b) (.slice Ao k co) (clusL (KT T) l) ∧ Below w.heap.size w wr from
        ⟨(txts_own (S := fun b => w3.heap.size ≤ b) HCL.out hx1 (fun b hb => hb) fun j hj => by
          obtain ⟨u, h1, h2⟩ := hx2 j hj
          exact ⟨u, h1, Sl.mono h2 fun b hb => hb.1⟩).mono fun b hb => Nat.le_trans HB.out.size hb, HB.out.trans (H.out.be.mono HB.out.size)⟩)
      clear hx1 hx2 H H0
      go_wp2
      go_ret
      rw [HN.out]
      exact ⟨_, _, rfl, HZ.out.1, HZ.out.2⟩
end Go.Proofs.YtggapcfjcdafpaaGreat

namespace Go.Proofs.YtggapcfjcdafpaaGreat
open Go.RowKit
set_option linter.unusedVariables false
set_option linter.unusedSimpArgs false

/-- The kth part of a text that lies at an address. -/
def partV (b o c : Nat) (K : SG.Kinds) (l : List Int) (k : Nat) : Value := .slice (some ⟨b, o + fromP K l k, none⟩) (fromP K l (k + 1) - fromP K l k) (c - fromP K l k)
/-- The document's clusters so far. -/
structure RC (W : World) (b o c : Nat) (K : SG.Kinds) (l : List Int) (A : Option Addr) (k co : Nat) (X : World) : Prop where
  own : X.ownsRow W.heap.size 22 1 (.slice A k co) k ((List.range k).map (partV b o c K l))
  be : Below W.heap.size W X
theorem RC.push {W X Y : World} {b o c : Nat} {K : SG.Kinds} {l : List Int} {A A' : Option Addr} {k co c' : Nat} (h : RC W b o c K l A k co X) (hp : Pushed X Y W.heap.size 22 1 (.slice A k co) (k + 1) ((List.range k).map (partV b o c K l) ++ [partV b o c K l k]) A' c') : RC W b o c K l A' (k + 1) c' Y :=
  ⟨by rw [List.range_succ, List.map_append]; exact hp.own, hp.below h.be h.own (Nat.le_refl _)⟩
set_option maxHeartbeats 8000000 in
set_option maxRecDepth 100000 in
theorem rclusters_any {W : World} {A : Option Addr} {c : Nat} {T : List RW.Row} {A2 : Option Addr} {l : List Int} (c2 : Nat) (h : RT W A c T A2 l) (hc2 : l.length ≤ c2) (hm : c2 ≤ maxLen) :
    Calls Tryz.prog 22 #[.slice A T.length c, .slice A2 l.length c2] W fun e w' => ∃ A' c', e = .returned (.slice A' (SG.startsP (KT T) l).length c') ∧ Txts w' (.slice A' (SG.startsP (KT T) l).length c') (clusL (KT T) l) ∧ Below W.heap.size W w' := by
  have hln := h.ln
  have HR := Lib.hid h
  obtain ⟨N, hN⟩ : ∃ N, (SG.startsP (KT T) l).length = N := ⟨_, rfl⟩
  have hNn : N ≤ 100000 := by
    rw [← hN]
    have := List.length_filter_le (SG.begAt (KT T) l) (List.range l.length)
    rw [List.length_range] at this
    exact Nat.le_trans this hln
  have HF := Lib.hid (show ∀ k, k < N → fromP (KT T) l k < l.length ∧ SG.nextP (KT T) l (fromP (KT T) l k + 1) = fromP (KT T) l (k + 1) ∧ fromP (KT T) l k < fromP (KT T) l (k + 1) ∧ fromP (KT T) l (k + 1) ≤ l.length from fun k hk => by
    subst hN
    exact ⟨fromP_lt hk, (fromP_succ hk).1, (fromP_succ hk).2, fromP_le _⟩)
  have HE := Lib.hid (show fromP (KT T) l N = l.length by subst hN; exact fromP_end (Nat.le_refl _))
  have HCL := Lib.hid (show (clusL (KT T) l).length = N ∧ ∀ k, k < N → (clusL (KT T) l).getD k [] = clusP (KT T) l k by subst hN; exact ⟨by unfold clusL; simp, fun k hk => clusL_at hk⟩)
  rw [hN]
  unfold maxLen at hm
  rcases Nat.eq_zero_or_pos l.length with h0 | h0
  · have hN0 : N = 0 := by
      rcases Nat.eq_zero_or_pos N with h1 | h1
      · exact h1
      · have := (HF.out 0 h1).1; omega
    subst hN0
    have hz : clusL (KT T) l = [] := List.eq_nil_of_length_eq_zero HCL.out.1
    rw [hz, h0]
    clear hN HF HE HCL HR h hz
    go_enter Tryz.func22, Tryz.ntmps22
    go_wp2
    go_loopw [5, 6, 7] (fun v i _ wr => v = .slice none 0 0 ∧ i = .int .i64 0 ∧ wr = W) (fun _ _ _ _ => 0)
    case atStart => exact ⟨rfl, rfl, rfl⟩
    case round =>
      obtain ⟨rfl, rfl, rfl⟩ := hrel
      go_wp2
      go_ret
      exact ⟨_, _, rfl, Txts.nil _ _, Below.refl _ _⟩
  · obtain ⟨b, o, rfl, hb, _, _⟩ := h.txt.scs h0
    have HZ := Lib.hid (fromP_zero (K := KT T) (l := l))
    clear hN h
    go_enter Tryz.func22, Tryz.ntmps22
    go_wp2
    go_loopw [5, 6, 7] (fun v i _ wr => ∃ (k : Nat) (Ao : Option Addr) (co : Nat), k ≤ N ∧ i = .int .i64 (fromP (KT T) l k : Nat) ∧ v = .slice Ao k co ∧ Hid (RC W b o c2 (KT T) l Ao k co wr)) (fun _ i _ _ => l.length - (intOf i).toNat)
    case atStart => exact ⟨0, none, 0, Nat.zero_le _, by rw [HZ.out]; rfl, rfl, Lib.hid ⟨World.ownsRow_nil _ _ _ _, Below.refl _ _⟩⟩
    case round =>
      obtain ⟨k, Ao, co, hk, rfl, rfl, H⟩ := hrel
      by_cases hlt : k < N
      · have hf := HF.out k hlt
        have CN := rnext_any c2 (HR.out.later H.out.be) hc2 (fromP (KT T) l k) (by omega)
        rw [hf.2.1] at CN
        have HP0 := Lib.hid (show partV b o c2 (KT T) l k = .slice (some ⟨b, o + fromP (KT T) l k, none⟩) (fromP (KT T) l (k + 1) - fromP (KT T) l k) (c2 - fromP (KT T) l k) from rfl)
        obtain ⟨f, hff⟩ : ∃ f, fromP (KT T) l k = f := ⟨_, rfl⟩
        obtain ⟨t, htt⟩ : ∃ t, fromP (KT T) l (k + 1) = t := ⟨_, rfl⟩
        have HT := Lib.hid htt
        rw [htt, hff] at CN HP0
        rw [hff, htt] at hf
        rw [hff]
        obtain ⟨hf1, -, hf2, hf3⟩ := hf
        have CN := Lib.hid CN
        have d0 : (f : Int) < (l.length : Int) := by omega
        have d2 : (f : Int) ≤ (t : Int) := by omega
        have d3 : (t : Int) ≤ (c2 : Int) := by omega
        have d4 : (l.length : Int) ≤ (c2 : Int) := by omega
        have g4 : f < c2 := by omega
        have g6 : (f : Int) < (c2 : Int) := by omega
        have g7 : (c2 : Int) ≠ (f : Int) := by omega
        have g8 : c2 ≠ f := by omega
        clear hff htt
        go_wp2_with fail
        refine CN.out.mono ?_
        rintro e w5 ⟨rfl, m5, rfl⟩
        have H5 := Lib.hid (show RC W b o c2 (KT T) l Ao k co (wr.drewN m5) from ⟨ownDrew H.out.own m5, belDrew H.out.be m5⟩)
        have hz5 : W.heap.size ≤ (wr.drewN m5).heap.size := H5.out.be.size
        clear CN H
        go_wp2_with (at_builtin; refine wpList_push texts_elt H5.out.own hz5 rfl rfl rfl rfl (by simp) rfl rfl (by unfold maxLen; omega) (by omega) ?_; intro A6 c6 w6 hp; have HP := Lib.hid (H5.out.push (by rw [HP0.out]; exact hp)); clear hp)
        go_roundw
        case rel => exact ⟨k + 1, A6, c6, by omega, by rw [HT.out], rfl, HP⟩
        case measure => simp [intOf]; omega
      · obtain rfl : k = N := by omega
        have d0 : decide (((l.length : Nat) : Int) < ((l.length : Nat) : Int)) = false := by simp
        rw [HE.out]
        have HQ := Lib.hid (show Txts wr (.slice Ao k co) (clusL (KT T) l) from
          txts_own (S := Any) HCL.out.1 H.out.own (fun _ _ => trivial) fun j hj => ⟨partV b o c2 (KT T) l j, by simp [hj], by
            rw [HCL.out.2 j hj]
            have hf := HF.out j hj
            exact txt_part (HR.out.later H.out.be).txt (by omega) hf.2.2.2 hc2 (by unfold maxLen; omega)⟩)
        have HB := Lib.hid H.out.be
        clear H HR HCL HF HE HZ
        go_wp2
        go_ret
        exact ⟨_, _, rfl, HQ.out, HB.out⟩
theorem same_txt (u v : Value) (l : List Int) (w : World) (hu : Txt w u l) (hv : Txt w v l) : Calls Tryz.prog 23 #[u, v] w fun e w' => e = .returned (.bool true) ∧ ∃ k, w' = w.drewN k := by
  obtain ⟨A, c, rfl, hA, _, h1, h2, _⟩ := hu
  obtain ⟨B, d, rfl, hB, _⟩ := hv
  unfold maxLen at h2
  exact same_yes A B l.length c d (fun j => l.getD j 0) w (by omega) hA hB
set_option maxHeartbeats 8000000 in
set_option maxRecDepth 100000 in
theorem walk_SegClusters (w : World) (A0 : Option Addr) (n0 c0 : Nat) (f0 : Nat → Int) (hA : Rd w A0 n0 (fun j => .int .i32 (f0 j))) (hle : n0 ≤ c0) (hmax : c0 ≤ maxLen) (hp : ∀ j, j < n0 → (Lit.int .i32 (f0 j)).wf = true) :
    Calls Tryz.prog 5 #[.slice A0 n0 c0] w (Yes w) := by
  obtain ⟨T, hG, hT, C0⟩ := rows_li w
  obtain ⟨l, hll, hL0, hSc⟩ := came_text hA hp 200
  have hlc : l.length ≤ c0 := by omega
  have hl2 : l.length ≤ 200 := by omega
  have HG := Lib.hid hG
  have C0 := Lib.hid C0
  have HK := Lib.hid (show (KT T).tidy by rw [← hT]; exact rows_tidy)
  have AW := Lib.hid (fun X => awake10_yes X)
  have HL := Lib.hid (And.intro hL0 hSc)
  have CF := fews_any A0 n0 c0 200 w hle (by unfold maxLen at hmax; omega) (by omega)
  rw [← hll] at CF
  have CF := Lib.hid CF
  have hcm := hmax
  clear hG hA hp hT hL0 hSc hll hle hmax
  go_enter Tryz.func5, Tryz.ntmps5
  go_wp2_with fail
  refine CF.out.mono ?_
  rintro e w0 ⟨rfl, rfl⟩
  clear CF
  go_wp2_with fail
  refine C0.out.mono ?_
  rintro e w1 ⟨A, c, rfl, hL, hc, hm, hb1⟩
  have C1 := Lib.hid (build_tabs A c T w1 (hL.mono fun _ _ => trivial) hc HG.out)
  have L1 := Lib.hid (And.intro (hL.mono (S' := fun _ => True) fun _ _ => trivial) hb1)
  clear C0 hL hb1
  go_wp2_with fail
  refine C1.out.mono ?_
  rintro e w2 ⟨tp, rfl, hU, hb⟩
  have hT : T.length ≤ 100000 := by have := HG.out.len; omega
  have B0 := Lib.hid (show LB w T tp A c A0 c0 l w2 by
    have h := HL.out.1.later (L1.out.2.trans (hb.mono L1.out.2.size))
    exact ⟨⟨hU, HK.out, h, HL.out.2, hlc, by omega⟩, ⟨L1.out.1.later hb, hc, hT, h, HL.out.2, by omega⟩, L1.out.2.trans (hb.mono L1.out.2.size)⟩)
  clear hU hb C1 L1 HL HG hT
  have C3 := Lib.hid (clusters_any (T := T) (tp := tp) A0 c0 l w2 B0.out.tt.tabs HK.out.ok B0.out.tt.txt B0.out.tt.sc hlc hcm (by omega))
  have CR := Lib.hid (fun Z (hZ : LB w T tp A c A0 c0 l Z) => rclusters_any c0 hZ.rt hlc hcm)
  have HCL := Lib.hid (show (clusL (KT T) l).length = (SG.startsP (KT T) l).length by unfold clusL; simp)
  have hNn : (SG.startsP (KT T) l).length ≤ 200 := by
    have := List.length_filter_le (SG.begAt (KT T) l) (List.range l.length)
    rw [List.length_range] at this
    exact Nat.le_trans this hl2
  obtain ⟨CL, hCL⟩ : ∃ CL, clusL (KT T) l = CL := ⟨_, rfl⟩
  rw [hCL] at C3 CR HCL
  obtain ⟨N, hN⟩ : ∃ N, (SG.startsP (KT T) l).length = N := ⟨_, rfl⟩
  rw [hN] at C3 CR HCL hNn
  clear hCL hN
  go_wp2_with fail
  refine C3.out.mono ?_
  rintro e w3 ⟨A3, c3, rfl, ht3, hb3⟩
  have T3 := Lib.hid ht3.any
  have B1 := Lib.hid (B0.out.later hb3)
  clear ht3 hb3 C3 B0
  go_wp2_with fail
  refine (CR.out _ B1.out).mono ?_
  rintro e w4 ⟨A4, c4, rfl, ht4, hb4⟩
  have T4 := Lib.hid (And.intro (T3.out.later hb4) ht4)
  have B2 := Lib.hid (B1.out.later hb4)
  clear ht4 hb4 CR B1 T3
  have e1 : ((N : Int) != (N : Int)) = false := by simp
  go_wp2
  go_loopw [6] (fun i wr => ∃ k : Nat, k ≤ N ∧ i = .int .i64 k ∧ Hid (Below w4.heap.size w4 wr)) (fun i _ => N - (intOf i).toNat)
  case atStart => exact ⟨0, Nat.zero_le _, rfl, Lib.hid (Below.refl _ _)⟩
  case round =>
    obtain ⟨k, hk, rfl, HQ⟩ := hrel
    by_cases hlt : k < N
    · obtain ⟨a, i, A1, n1, c1, rfl, _, hca, hta⟩ := (T4.out.1.later HQ.out).at_ (show k < CL.length by rw [HCL.out]; exact hlt)
      obtain ⟨b, j, B1, n2, c2, rfl, _, hcb, htb⟩ := (T4.out.2.later HQ.out).at_ (show k < CL.length by rw [HCL.out]; exact hlt)
      have HS : Hid (∀ n, Calls Tryz.prog 23 #[.slice A1 n1 c1, .slice B1 n2 c2] (wr.drewN n) fun e w'' => e = .returned (.bool true) ∧ ∃ m, w'' = wr.drewN m) := Lib.hid (fun n => (same_txt (.slice A1 n1 c1) (.slice B1 n2 c2) _ (wr.drewN n) (hta.any.later (selfDrew _ _)) (htb.any.later (selfDrew _ _))).mono fun e w'' hh => ⟨hh.1, by obtain ⟨k, e⟩ := hh.2; exact ⟨_, e.trans (World.drewN_drewN _ _ _)⟩⟩)
      have d0 : (k : Int) < (N : Int) := by omega
      have d1 : (0 : Int) ≤ (k : Int) := by omega
      clear hta htb
      go_wp2
      go_quiet ((go_at_call 23; exact (HS.out _)))
      go_wp2
      go_roundw
      case rel => exact ⟨k + 1, by omega, by go_num, Lib.hid (belDrew HQ.out _)⟩
      case measure => simp [intOf]; omega
    · have B5 := Lib.hid (B2.out.later HQ.out)
      have d0 : decide ((k : Int) < (N : Int)) = false := by simp; omega
      clear HQ B2
      go_wp2_with fail
      refine (AW.out _).mono ?_
      rintro e w9 ⟨rfl, hb⟩
      have U9 := Lib.hid (bStepS B5.out.be hb)
      clear hb B5
      go_wp2
      go_ret
      exact ⟨rfl, U9.out⟩
end Go.Proofs.YtggapcfjcdafpaaGreat

namespace Go.Proofs.YtggapcfjcdafpaaGreat.segClusters
open Go.ChangeShapes Go.WideShapes Go.ChangeAt Go.RowKit Go.WideMaps Go.WideElems
open Go.ChangeMaps (open_string)

theorem own : ownKnob Tryz.prog.godebug = none := by kernel_rfl
theorem laidOut : laidOutB Tryz.prog = true := by kernel_rfl

set_option linter.unusedVariables false in
set_option maxRecDepth 100000 in
theorem lifted (os : Os) (started : os.Started) (H : Type) (enc : TypeId × Value → H) :
    ReturnsInHanded {} Tryz.checked os 5 .any (Rows.segClustersSpec.pre6 enc Tryz.prog Tryz.f5 Rows.segClustersRow.domain false) (Rows.segClustersSpec.post enc Tryz.prog Tryz.f5 false true false false) := by
  refine returnsInHanded_of_change (C := Tryz.checked) own started (by kernel_rfl) Tryz.func5
    (ChangeSpec.witness6 (enc := enc) (C := Tryz.checked) false ⟨#[], #[.slice none 0 0], []⟩ 8 (by kernel_rfl) (by kernel_rfl) (by kernel_rfl) (by kernel_rfl)) ?_
  intro W base args ds gs before hval0 hW hcnd _
  have hval : ∀ (j : Nat) t v, Tryz.f5.params[j]? = some t → args[j]? = some v → Value.okWide Tryz.prog W .any base t v := hval0
  have hW' := hW
  obtain ⟨p, q, hA0, hV, rfl, hfz, hnd⟩ := hW
  have hA : DataW.TrodAll enc Tryz.prog W 0 (fun _ => true) true Tryz.f5.params.toList args.toList ds p := hA0
  rw [Tryz.params5] at hA hval
  obtain ⟨v0, vs0, d0, ds0, p0, q0, hargs, rfl, rfl, h0, r0⟩ := trodAll_cons hA
  obtain ⟨rfl, rfl, rfl⟩ := trodAll_nil r0
  obtain rfl : args = #[v0] := by cases args; simp_all
  obtain ⟨rfl, rfl⟩ := trodVars_none hV
  obtain ⟨A0, n0, c0, f0, C0, w0⟩ := arg_ints Tryz.underlying22 Tryz.underlying21 (by kernel_rfl) (hval 0 22 v0 rfl rfl) h0
  obtain rfl := C0.eq
  refine (walk_SegClusters W A0 n0 c0 f0 C0.rd C0.le C0.max w0).mono fun e W' ⟨he, hb⟩ => ?_
  subst he
  exact ⟨_, rfl, law_post hW' rfl rfl rfl rfl laidOut (by kernel_rfl) rfl Tryz.underlying4 hb⟩

theorem over : Rows.segClustersRow.holds Tryz.pinned (OpenSpec.ofChange Rows.segClustersSpec) :=
  OpenClaim.holds_of_wide 5 Tryz.f5 rfl rfl rfl rfl rfl rfl rfl ⟨rfl, rfl, rfl, rfl, rfl⟩ rfl rfl rfl rfl rfl (by kernel_rfl) Tryz.func5 (by kernel_rfl)
    (of_decide_eq_true (by kernel_rfl)) (by unfold Func.isWrapper; first | (rw [if_pos (by decide +kernel)]; kernel_rfl) | (rw [if_neg (by decide +kernel)]; exact ⟨rfl, rfl⟩))
    (fun os started H enc _ => lifted os started H enc)

theorem proved : Rows.SegClustersSaid := over
#print axioms proved
end Go.Proofs.YtggapcfjcdafpaaGreat.segClusters
