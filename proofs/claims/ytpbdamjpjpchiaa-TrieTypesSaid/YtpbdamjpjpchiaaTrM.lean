/- trie: what lies in memory in flat's last loops. -/
import Derived.Test.YtpbdamjpjpchiaaTrK
namespace Go.Proofs.Ytpbdamjpjpchiaa
open Go.RowKit
set_option linter.unusedVariables false
set_option linter.unusedSimpArgs false

theorem NextInv.congr {N : List Nat} {T T' : Nat → Prop} {m : Nat} (h : NextInv N T m) (e : ∀ q, T q ↔ T' q) : NextInv N T' m :=
  ⟨h.1, fun j hj => by
    obtain ⟨h1, h2, h3, h4⟩ := h.2 j hj
    exact ⟨h1, h2, by rw [h3, e], fun q a b => (e q).1 (h4 q a b)⟩⟩

/-- next, as far as it is filled. -/
def NxP (w : World) (g m k : Nat) : Prop := ∃ cs, Blk w g cs ∧ cs.size = m + 1 ∧ ∀ j, j < k → cs[j]? = some (.int .i64 ((j : Nat) : Int))
theorem NxP.cellAny {w : World} {g m k : Nat} (h : NxP w g m k) {j : Nat} (hj : j < m + 1) : ∃ u, w.cell? ⟨g, j, none⟩ = some u := by
  obtain ⟨cs, hB, hs, _⟩ := h
  exact ⟨cs[j], by rw [hB.2.1]; simp [hs, hj]⟩
theorem NxP.set {w : World} {g m k : Nat} (h : NxP w g m k) (hk : k < m + 1) : NxP (w.setCell ⟨g, k, none⟩ (.int .i64 ((k : Nat) : Int))) g m (k + 1) := by
  obtain ⟨cs, hB, hs, hc⟩ := h
  refine ⟨_, hB.set_ k (by omega) _, by simp [hs], fun j hj => ?_⟩
  by_cases e : k = j
  · subst e
    simp [hs, hk]
  · rw [Array.getElem?_setIfInBounds_ne e]
    exact hc j (by omega)
theorem NxP.done {w : World} {g m : Nat} (h : NxP w g m (m + 1)) : Nx w g (List.range (m + 1)) := by
  obtain ⟨cs, hB, hs, hc⟩ := h
  refine ⟨cs, hB, fun j hj => ?_⟩
  simp at hj
  rw [hc j (by omega)]
  simp [List.getD, show j < m + 1 by omega]
theorem nextInv_start (m : Nat) : NextInv (List.range (m + 1)) (fun _ => False) m := by
  refine ⟨by simp, fun j hj => ?_⟩
  have e : (List.range (m + 1)).getD j 0 = j := by simp [List.getD, show j < m + 1 by omega]
  rw [e]
  exact ⟨Nat.le_refl _, hj, by simp, fun q a b => by omega⟩

/-- The block of the parts: those that are taken have what they should. -/
def Outs (w : World) (g mm : Nat) (s : Nat → Pc Int) (T : Nat → Prop) : Prop := ∃ cs, Blk w g cs ∧ cs.size = mm * 3 ∧ ∀ i, T i → i < mm → ∀ (j : Nat) (u : Value), (encP (s i))[j]? = some u → cs[i * 3 + j]? = some u
theorem Outs.congr {w : World} {g mm : Nat} {s : Nat → Pc Int} {T T' : Nat → Prop} (h : Outs w g mm s T) (e : ∀ q, T' q → T q) : Outs w g mm s T' := by
  obtain ⟨cs, hB, hs, hc⟩ := h
  exact ⟨cs, hB, hs, fun i hi => hc i (e i hi)⟩
theorem Outs.later {w w' : World} {g B mm : Nat} {s : Nat → Pc Int} {T : Nat → Prop} (h : Outs w g mm s T) (hb : Below B w w') (hg : g < B) : Outs w' g mm s T := by
  obtain ⟨cs, hB, hx⟩ := h
  exact ⟨cs, hB.later hb hg, hx⟩
theorem Outs.grown {w w' : World} {g mm : Nat} {row : Option Nat} {s : Nat → Pc Int} {T : Nat → Prop} (h : Outs w g mm s T) (hg : w.grownBy w' row) (hne : some g ≠ row) : Outs w' g mm s T := by
  obtain ⟨cs, hB, hx⟩ := h
  exact ⟨cs, hB.grown hg hne, hx⟩
theorem Outs.lt {w : World} {g mm : Nat} {s : Nat → Pc Int} {T : Nat → Prop} (h : Outs w g mm s T) : g < w.heap.size := by
  obtain ⟨cs, hB, _⟩ := h
  exact hB.1
theorem Outs.cells {w : World} {g mm : Nat} {s : Nat → Pc Int} {T : Nat → Prop} (h : Outs w g mm s T) {i : Nat} (hi : i < mm) : ∃ a b c, w.cell? ⟨g, i * 3, none⟩ = some a ∧ w.cell? ⟨g, i * 3 + 1, none⟩ = some b ∧ w.cell? ⟨g, i * 3 + 2, none⟩ = some c ∧ w.frozen? ⟨g, i * 3, none⟩ = false ∧ w.frozen? ⟨g, i * 3 + 1, none⟩ = false ∧ w.frozen? ⟨g, i * 3 + 2, none⟩ = false := by
  obtain ⟨cs, hB, hs, _⟩ := h
  have k (j : Nat) (hj : j < 3) : w.cell? ⟨g, i * 3 + j, none⟩ = some (cs[i * 3 + j]'(by omega)) := by rw [hB.2.1]; exact Array.getElem?_eq_getElem _
  exact ⟨_, _, _, k 0 (by omega), k 1 (by omega), k 2 (by omega), hB.2.2 _, hB.2.2 _, hB.2.2 _⟩
/-- A part that is taken. -/
theorem Outs.put {w : World} {g mm : Nat} {s : Nat → Pc Int} {T : Nat → Prop} (h : Outs w g mm s T) {i : Nat} (hi : i < mm) (T' : Nat → Prop) (hT : ∀ q, T' q → T q ∨ q = i) :
    Outs (((w.setCell ⟨g, i * 3, none⟩ (.int .i64 (s i).f)).setCell ⟨g, i * 3 + 1, none⟩ (.int .i64 (s i).t)).setCell ⟨g, i * 3 + 2, none⟩ (.int .i64 (s i).v)) g mm s T' := by
  obtain ⟨cs, hB, hs, hc⟩ := h
  refine ⟨_, ((hB.set_ (i * 3) (by omega) _).set_ (i * 3 + 1) (by simp; omega) _).set_ (i * 3 + 2) (by simp; omega) _, by simp [hs], fun q hq hqm j u hu => ?_⟩
  have hj : j < 3 := by
    obtain ⟨h, _⟩ := List.getElem?_eq_some_iff.1 hu
    rw [encP_len] at h
    exact h
  by_cases e : q = i
  · subst e
    match j, hj with
    | 0, _ =>
      simp only [encP, List.getElem?_cons_zero, Option.some.injEq] at hu
      subst hu
      show (_ : Array Value)[q * 3]? = _
      rw [Array.getElem?_setIfInBounds_ne (by omega), Array.getElem?_setIfInBounds_ne (by omega), Array.getElem?_setIfInBounds_self_of_lt (by omega)]
    | 1, _ =>
      simp only [encP, List.getElem?_cons_succ, List.getElem?_cons_zero, Option.some.injEq] at hu
      subst hu
      rw [Array.getElem?_setIfInBounds_ne (by omega), Array.getElem?_setIfInBounds_self_of_lt (by simp; omega)]
    | 2, _ =>
      simp only [encP, List.getElem?_cons_succ, List.getElem?_cons_zero, Option.some.injEq] at hu
      subst hu
      rw [Array.getElem?_setIfInBounds_self_of_lt (by simp; omega)]
  · rcases hT q hq with h | h
    · rw [Array.getElem?_setIfInBounds_ne (by omega), Array.getElem?_setIfInBounds_ne (by omega), Array.getElem?_setIfInBounds_ne (by omega)]
      exact hc q h hqm j u hu
    · exact absurd h e
theorem Outs.all {w : World} {g mm : Nat} {s : Nat → Pc Int} {T : Nat → Prop} (h : Outs w g mm s T) (hT : ∀ i, i < mm → T i) : Li 3 encP w (fun _ => True) (some ⟨g, 0, none⟩) ((List.range mm).map s) := by
  obtain ⟨cs, hB, hs, hc⟩ := h
  intro j x hj
  rw [List.getElem?_map] at hj
  have hjm : j < mm := by
    rcases Nat.lt_or_ge j mm with h | h
    · exact h
    · rw [List.getElem?_eq_none (by simpa using h)] at hj; cases hj
  rw [List.getElem?_range hjm] at hj
  simp only [Option.map_some, Option.some.injEq] at hj
  subst hj
  exact ⟨g, 0, rfl, hB.1, trivial, fun i u hu => by rw [hB.2.1, Nat.zero_add]; exact hc j (hT j hjm) hjm i u hu⟩

structure FM (w : World) (S : List (Pc Int)) (z : Int) (C : List Int) (As Ac : Option Addr) (gO gN mm : Nat) (N : List Nat) (T : Nat → Prop) (X : World) : Prop where
  sp : Li 3 encP X (fun b => b < gO) As S
  cu : Li 1 encI X (fun b => b < gO) Ac C
  out : Outs X gO mm (seg S z C) T
  nx : Nx X gN N
  ni : NextInv N T mm
  be : Below w.heap.size w X
  lo : w.heap.size ≤ gO
  lt : gO < gN
  hi : gN < X.heap.size
section
variable {w : World} {S : List (Pc Int)} {z : Int} {C : List Int} {As Ac : Option Addr} {gO gN mm : Nat} {N N' : List Nat} {T T' : Nat → Prop} {X Y : World}
theorem FM.later (h : FM w S z C As Ac gO gN mm N T X) (hb : Below X.heap.size X Y) : FM w S z C As Ac gO gN mm N T Y :=
  ⟨h.sp.later hb, h.cu.later hb, h.out.later hb h.out.lt, h.nx.later hb h.nx.lt, h.ni, h.be.trans (hb.mono h.be.size), h.lo, h.lt, Nat.lt_of_lt_of_le h.hi hb.size⟩
theorem FM.congr (h : FM w S z C As Ac gO gN mm N T X) (e : ∀ q, T q ↔ T' q) : FM w S z C As Ac gO gN mm N T' X :=
  ⟨h.sp, h.cu, h.out.congr fun q hq => (e q).2 hq, h.nx, h.ni.congr e, h.be, h.lo, h.lt, h.hi⟩
/-- Behind free. -/
theorem FM.freed (h : FM w S z C As Ac gO gN mm N T X) (hn : Nx Y gN N') (hi : NextInv N' T mm) (hg : X.grownBy Y (some gN)) : FM w S z C As Ac gO gN mm N' T Y :=
  ⟨h.sp.grown hg fun b hb e => by injection e with e; have := h.lt; omega, h.cu.grown hg fun b hb e => by injection e with e; have := h.lt; omega, h.out.grown hg (fun e => by injection e with e; have := h.lt; omega), hn, hi, h.be.grown hg h.be.size fun k hk => by injection hk with hk; have := h.lo; have := h.lt; omega, h.lo, h.lt, Nat.lt_of_lt_of_le h.hi hg.size⟩
/-- A part is taken. -/
theorem FM.put (h : FM w S z C As Ac gO gN mm N T X) {i : Nat} (hi : i < mm) (hT : ∀ q, T' q ↔ T q ∨ q = i) (q : Nat) :
    FM w S z C As Ac gO gN mm (N.set i (i + 1)) T' ((((((X.drewN q).setCell ⟨gO, i * 3, none⟩ (.int .i64 (seg S z C i).f)).setCell ⟨gO, i * 3 + 1, none⟩ (.int .i64 (seg S z C i).t)).setCell ⟨gO, i * 3 + 2, none⟩ (.int .i64 (seg S z C i).v))).setCell ⟨gN, i, none⟩ (.int .i64 ((i + 1 : Nat) : Int))) := by
  have h1 := h.later (selfDrew X q)
  have lt := h.lt
  have lo := h.lo
  have n0 : ∀ j : Nat, (⟨gO, j, none⟩ : Addr).block = gO := fun _ => rfl
  refine ⟨(((h1.sp.far (by simp) _).far (by simp) _).far (by simp) _).far (by simp; omega) _, (((h1.cu.far (by simp) _).far (by simp) _).far (by simp) _).far (by simp; omega) _, ?_, ?_, h.ni.take (by omega) hT, ?_, lo, lt, by simp only [World.size_setCell]; exact h1.hi⟩
  · obtain ⟨cs, hB, hx⟩ := h1.out.put hi T' (fun q hq => (hT q).1 hq)
    exact ⟨cs, hB.far (by simp; omega) _, hx⟩
  · have hn : Nx ((((X.drewN q).setCell ⟨gO, i * 3, none⟩ (.int .i64 (seg S z C i).f)).setCell ⟨gO, i * 3 + 1, none⟩ (.int .i64 (seg S z C i).t)).setCell ⟨gO, i * 3 + 2, none⟩ (.int .i64 (seg S z C i).v)) gN N := by
      obtain ⟨cs, hB, hc⟩ := h1.nx
      exact ⟨cs, ((hB.far (by simp; omega) _).far (by simp; omega) _).far (by simp; omega) _, hc⟩
    exact hn.set i (by rw [h.ni.1]; omega) (i + 1)
  · exact (((h1.be.setCell (by simpa using lo) _).setCell (by simpa using lo) _).setCell (by simpa using lo) _).setCell (by simp; omega) _
end

/-- Which parts the first j pieces have. -/
def Tk (S : List (Pc Int)) (C : List Int) (mm j : Nat) (i : Nat) : Prop := i < mm ∧ (pget (S.take j) (cAt C i)).isSome
theorem tk_zero (S : List (Pc Int)) (C : List Int) (mm i : Nat) : Tk S C mm 0 i ↔ False := by simp [Tk, pget]
theorem tk_succ {S : List (Pc Int)} {C : List Int} {mm j fr tt : Nat} {x : Pc Int} (hx : S[j]? = some x) (hC : C.Pairwise (· < ·)) (hl : C.length = mm + 1) (hf : fr < C.length ∧ cAt C fr = x.f) (ht : tt < C.length ∧ cAt C tt = x.t + 1) (i : Nat) :
    Tk S C mm (j + 1) i ↔ Tk S C mm j i ∨ (fr ≤ i ∧ i < tt) := by
  unfold Tk
  rw [take_snoc' hx, pget_append, pget_cons]
  have key : i < mm → ((x.f ≤ cAt C i ∧ cAt C i ≤ x.t) ↔ (fr ≤ i ∧ i < tt)) := fun hi => by
    constructor
    · rintro ⟨h1, h2⟩
      refine ⟨?_, ?_⟩
      · rcases Nat.lt_or_ge i fr with h | h
        · have := cAt_lt hC h hf.1; omega
        · exact h
      · rcases Nat.lt_or_ge i tt with h | h
        · exact h
        · have := cAt_le hC h (by omega); omega
    · rintro ⟨h1, h2⟩
      have a := cAt_le hC h1 (show i < C.length by omega)
      have b := cAt_lt hC h2 ht.1
      omega
  constructor
  · rintro ⟨hi, h⟩
    cases hp : pget (S.take j) (cAt C i) with
    | some v => left; exact ⟨hi, rfl⟩
    | none =>
      right
      rw [hp] at h
      by_cases hc : x.f ≤ cAt C i ∧ cAt C i ≤ x.t
      · exact (key hi).1 hc
      · rw [if_neg hc] at h
        simp [pget] at h
  · rintro (⟨hi, h⟩ | h)
    · refine ⟨hi, ?_⟩
      cases hp : pget (S.take j) (cAt C i) with
      | some v => rfl
      | none => rw [hp] at h; cases h
    · have hi : i < mm := by omega
      refine ⟨hi, ?_⟩
      rw [if_pos ((key hi).2 h)]
      cases pget (S.take j) (cAt C i) <;> rfl
/-- What a part has that is taken now. -/
theorem seg_now {S : List (Pc Int)} {z : Int} {C : List Int} {mm j fr tt i : Nat} {x : Pc Int} (hx : S[j]? = some x) (hC : C.Pairwise (· < ·)) (hl : C.length = mm + 1) (hf : fr < C.length ∧ cAt C fr = x.f) (ht : tt < C.length ∧ cAt C tt = x.t + 1) (h1 : fr ≤ i) (h2 : i < tt) (hn : ¬ Tk S C mm j i) : (seg S z C i).v = x.v := by
  have hi : i < mm := by omega
  have a := cAt_le hC h1 (show i < C.length by omega)
  have b := cAt_lt hC h2 ht.1
  have e : S = S.take j ++ x :: S.drop (j + 1) := by
    have h := List.take_append_drop j S
    obtain ⟨hj, e⟩ := List.getElem?_eq_some_iff.1 hx
    rw [List.drop_eq_getElem_cons hj, e] at h
    exact h.symm
  have hp : pget (S.take j) (cAt C i) = none := by
    cases hp : pget (S.take j) (cAt C i) with
    | none => rfl
    | some v => exact absurd ⟨hi, by rw [hp]; rfl⟩ hn
  simp only [seg]
  rw [e, pget_append, hp, pget_cons, if_pos ⟨by omega, by omega⟩]
  rfl
end Go.Proofs.Ytpbdamjpjpchiaa
