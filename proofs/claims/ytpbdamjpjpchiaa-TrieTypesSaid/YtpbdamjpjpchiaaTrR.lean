/- trie: maps of blocks. -/
import Derived.Test.YtpbdamjpjpchiaaTrQ
import Derived.Maps.Views
import Derived.Maps.OwnSet
import Derived.DeepKeys4
namespace Go.Proofs.Ytpbdamjpjpchiaa
open Go.RowKit Go.Maps
set_option linter.unusedVariables false
set_option linter.unusedSimpArgs false

/-- A block's value. -/
def cellsB (B : List Int) : List Value := B.map (.int .i64)
abbrev bv (B : List Int) : Value := .agg (cellsB B).toArray
theorem cellsB_len (B : List Int) : (cellsB B).length = B.length := by simp [cellsB]
theorem cellsB_inj {A B : List Int} (h : cellsB A = cellsB B) : A = B := by
  induction A generalizing B with
  | nil => cases B with
    | nil => rfl
    | cons b B => simp [cellsB] at h
  | cons a A ih => cases B with
    | nil => simp [cellsB] at h
    | cons b B =>
      simp only [cellsB, List.map_cons, List.cons.injEq, Value.int.injEq, true_and] at h
      rw [h.1, ih h.2]
theorem bv_inj {A B : List Int} (h : bv A = bv B) : A = B := by
  injection h with h
  have := congrArg Array.toList h
  exact cellsB_inj (by simpa using this)
/-- A block is as long as it is to be, and its numbers are ints. -/
def WfB (B : List Int) : Prop := B.length = 128 ∧ ∀ x ∈ B, (Lit.int .i64 x).wf = true

theorem laidOutP : laidOutB Try.prog = true := by kernel_rfl
theorem law : Keyed Try.prog 54 := Keyed.of_law (deep_law_laid laidOutP (m := 2) (by omega) (of_decide_eq_true (by kernel_rfl)) (by kernel_rfl) (by rw [Try.underlying54]))

theorem mapM_some {α β : Type} {f : α → Option β} : ∀ (l : List α), (∀ i ∈ l, ∃ y, f i = some y) → ∃ ys, l.mapM f = some ys
  | [], _ => ⟨[], rfl⟩
  | a :: l, h => by
    obtain ⟨y, hy⟩ := h a (by simp)
    obtain ⟨ys, hys⟩ := mapM_some l fun i hi => h i (by simp [hi])
    exact ⟨y :: ys, by simp [List.mapM_cons, hy, hys]⟩

theorem key_of (B : List Int) (h : WfB B) : ∃ kl, keyOf Try.prog 54 (bv B) = some kl := by
  obtain ⟨h1, h2⟩ := h
  have hpos : 0 < Try.prog.types.size := of_decide_eq_true (by kernel_rfl)
  obtain ⟨d, hd⟩ : ∃ d, Try.prog.types.size + 1 = d + 1 + 1 := ⟨Try.prog.types.size - 1, by omega⟩
  have kt : Try.prog.keyType 54 = true := by kernel_rfl
  have c1 : Try.prog.cellsOf 3 = 1 := by kernel_rfl
  have c4 : Try.prog.cellsOf 54 = 128 := by kernel_rfl
  have hl : (cellsB B).length = 128 := by rw [cellsB_len, h1]
  obtain ⟨ys, hys⟩ := mapM_some (f := fun i => Try.prog.keyLits (d + 1) 3 (((cellsB B).drop (i * 1)).take 1)) (List.range 128) (by
    intro i hi
    have hi := List.mem_range.1 hi
    have hi2 : i < B.length := by omega
    have e : ((cellsB B).drop (i * 1)).take 1 = [.int .i64 B[i]] := by
      rw [Nat.mul_one, List.drop_eq_getElem_cons (by rw [hl]; exact hi)]
      simp [cellsB]
    refine ⟨[.int .i64 B[i]], ?_⟩
    rw [e]
    unfold Program.keyLits
    rw [Try.underlying3]
    simp only [h2 _ (List.getElem_mem hi2), and_self, if_true])
  unfold keyOf
  rw [Try.underlying54, hd]
  have hf : (bv B).formed Try.prog 54 = true := by
    simp only [bv, Value.formed, Try.underlying54, c4, List.size_toArray, hl, BEq.rfl]
  simp only [kt, hf, Bool.and_self, if_true]
  have hk : Try.prog.keyLits (d + 1 + 1) 54 (bv B).cells.toList = some ys.flatten := by
    unfold Program.keyLits
    rw [Try.underlying54]
    simp only [bv, Value.cells, c1, c4, hl, if_true, hys, Option.map_some]
  rw [hk]
  exact ⟨_, rfl⟩

noncomputable abbrev el : Value → Option (DataW Unit × List MemPlace) := plainElem Try.prog 21
/-- A map of blocks tells what l tells. -/
def Kn (w : World) (b n : Nat) (l : List Int → Option Nat) : Prop := ∃ D, w.ownsMap Try.prog 54 el b n D ∧
  ∀ B kl, keyOf Try.prog 54 (bv B) = some kl → D.atKey kl (.lit (.int .i32 0)) = .lit (.int .i32 ((l B).getD 0 : Nat)) ∧ Maps.has D kl = (l B).isSome
/-- One block more. -/
def also (l : List Int → Option Nat) (B : List Int) (i : Nat) : List Int → Option Nat := fun X => if B = X then some i else l X
theorem Kn.kept {w w' : World} {b n : Nat} {l : List Int → Option Nat} {row : Option Nat} (h : Kn w b n l) (hg : w.grownBy w' row) (hne : some b ≠ row) : Kn w' b n l := by
  obtain ⟨D, h1, h2⟩ := h
  exact ⟨D, h1.kept hg hne, h2⟩
theorem Kn.lt {w : World} {b n : Nat} {l : List Int → Option Nat} (h : Kn w b n l) : b < w.heap.size := h.choose_spec.1.lt
theorem Kn.later {w w' : World} {b n B : Nat} {l : List Int → Option Nat} (h : Kn w b n l) (hb : Below B w w') (hB : b < B) : Kn w' b n l := by
  obtain ⟨D, ⟨es, clock, hh, F, hs, hD⟩, h2⟩ := h
  exact ⟨D, ⟨es, clock, (hb.block _ hB).trans hh, F, hs, hD⟩, h2⟩
theorem Kn.made (w : World) : Kn (w.alloc (.map #[] 0)) w.heap.size 0 (fun _ => none) :=
  ⟨_, World.ownsMap_made w _ _ _, fun B kl _ => ⟨rfl, rfl⟩⟩
theorem Kn.put {w : World} {b n : Nat} {l : List Int → Option Nat} {D : DataW Unit} (hown : w.ownsMap Try.prog 54 el b n D) (h : ∀ B kl, keyOf Try.prog 54 (bv B) = some kl → D.atKey kl (.lit (.int .i32 0)) = .lit (.int .i32 ((l B).getD 0 : Nat)) ∧ Maps.has D kl = (l B).isSome)
    {w' : World} {B : List Int} {i : Nat} {kl : Lit} (hk : keyOf Try.prog 54 (bv B) = some kl) (hown' : w'.ownsMap Try.prog 54 el b (n + 1) (D.put kl (.lit (.int .i32 i)))) : Kn w' b (n + 1) (also l B i) := by
  have hm := hown.isMap
  refine ⟨_, hown', fun X kx hx => ?_⟩
  unfold also
  by_cases e : B = X
  · subst e
    rw [hk] at hx
    cases hx
    rw [if_pos rfl, atKey_put_same hm (law.key hk), has_put_same hm (law.key hk)]
    exact ⟨rfl, rfl⟩
  · have hne : kx ≠ kl := fun he => e (bv_inj (law.inj hk (he ▸ hx)))
    rw [if_neg e, atKey_put_other hne, has_put_other hne]
    exact h X kx hx
theorem zeroI32 (w : World) : (zeroValue 21).run Try.prog w = .ok (.int .i32 0) w := by kernel_rfl
theorem Kn.look {w : World} {b n : Nat} {l : List Int → Option Nat} (h : Kn w b n l) {B : List Int} (hB : WfB B) :
    (Instr.lookup 58 (.map (some b)) (bv B) true).run Try.prog w = .ok (.tuple #[.int .i32 ((l B).getD 0 : Nat), .bool (l B).isSome]) w := by
  obtain ⟨D, h2, h3⟩ := h
  obtain ⟨kl, hk⟩ := key_of B hB
  obtain ⟨ha, hh⟩ := h3 B kl hk
  obtain ⟨u, ps, hrun, hv⟩ := h2.look_ok law Try.underlying58 (zeroI32 _) (plainElem_int Try.underlying21 (by decide)) hk
  rw [ha] at hv
  obtain ⟨c, rfl, hc, _⟩ := plainElem_int_inv Try.underlying21 hv
  simp only [Prod.mk.injEq, DataW.lit.injEq, Lit.int.injEq, true_and] at hc
  rw [hrun, hh, ← hc.1]
end Go.Proofs.Ytpbdamjpjpchiaa
