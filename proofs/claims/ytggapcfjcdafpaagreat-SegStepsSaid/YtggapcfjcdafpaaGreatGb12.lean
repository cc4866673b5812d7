/- trie: Build, between its steps. -/
import Derived.Test.YtggapcfjcdafpaaGreatGb11
import Derived.Maps.Views
import Derived.Maps.OwnSet
import Derived.DeepKeys4
import Derived.Test.YtggapcfjcdafpaaGreatGb03
import Derived.Deep.MidRow
import Derived.StillTailTactics
import Derived.Deep.Cut
import Derived.Great.BuildSlice
namespace Go.Proofs.YtggapcfjcdafpaaGreat.TP
open Go.RowKit Go.Maps
set_option linter.unusedVariables false
set_option linter.unusedSimpArgs false

/-- A block's value. -/
def cellsB (B : List V2) : List Value := flatL encV B
abbrev bv (B : List V2) : Value := .agg (cellsB B).toArray
theorem cellsB_len (B : List V2) : (cellsB B).length = B.length * 2 := flatL_len encV_len B
theorem cellsB_inj {A B : List V2} (h : cellsB A = cellsB B) : A = B := by
  induction A generalizing B with
  | nil => cases B with
    | nil => rfl
    | cons b B => simp [cellsB, flatL, encV] at h
  | cons a A ih => cases B with
    | nil => simp [cellsB, flatL, encV] at h
    | cons b B =>
      have e : ∀ (a : V2) (M : List V2), cellsB (a :: M) = .int .i32 a.1 :: .int .i32 a.2 :: cellsB M := fun _ _ => rfl
      rw [e, e] at h
      simp only [List.cons.injEq, Value.int.injEq, true_and] at h
      rw [ih h.2.2]
      congr 1
      exact Prod.ext h.1 h.2.1
theorem bv_inj {A B : List V2} (h : bv A = bv B) : A = B := by
  injection h with h
  have := congrArg Array.toList h
  exact cellsB_inj (by simpa using this)
/-- A value that can be a key. -/
def WV (x : V2) : Prop := (Lit.int .i32 x.1).wf = true ∧ (Lit.int .i32 x.2).wf = true
/-- A block is as long as it is to be, and its numbers are runes. -/
def WfB (B : List V2) : Prop := B.length = 128 ∧ ∀ x ∈ B, WV x

theorem laidOutP : laidOutB Tryz.prog = true := by kernel_rfl
theorem law : Keyed Tryz.prog 109 := Keyed.of_law (deep_law_laid laidOutP (m := 3) (by omega) (of_decide_eq_true (by kernel_rfl)) (by kernel_rfl) (by rw [Tryz.underlying109]))

theorem mapM_some {α β : Type} {f : α → Option β} : ∀ (l : List α), (∀ i ∈ l, ∃ y, f i = some y) → ∃ ys, l.mapM f = some ys
  | [], _ => ⟨[], rfl⟩
  | a :: l, h => by
    obtain ⟨y, hy⟩ := h a (by simp)
    obtain ⟨ys, hys⟩ := mapM_some l fun i hi => h i (by simp [hi])
    exact ⟨y :: ys, by simp [List.mapM_cons, hy, hys]⟩

theorem flatV_part : ∀ (B : List V2) (i : Nat) (h : i < B.length), ((cellsB B).drop (i * 2)).take 2 = encV B[i]
  | [], i, h => by simp at h
  | a :: B, 0, h => rfl
  | a :: B, i + 1, h => by
    have e : cellsB (a :: B) = .int .i32 a.1 :: .int .i32 a.2 :: cellsB B := rfl
    rw [e, show (i + 1) * 2 = i * 2 + 1 + 1 by omega, List.drop_succ_cons, List.drop_succ_cons, flatV_part B i (by simpa using h)]
    rfl
theorem key_in (x : V2) (h : WV x) (d : Nat) : ∃ y, Tryz.prog.keyLits (d + 1 + 1) 63 (encV x) = some y := by
  have c1 : Tryz.prog.cellsOf 21 = 1 := by kernel_rfl
  have c2 : Tryz.prog.cellsOf 63 = 2 := by kernel_rfl
  unfold Program.keyLits
  rw [Tryz.underlying63]
  simp only [c1, encV, List.length_cons, List.length_nil]
  obtain ⟨ys, hys⟩ := mapM_some (f := fun i => Tryz.prog.keyLits (d + 1) 21 (([Value.int .i32 x.1, .int .i32 x.2].drop (i * 1)).take 1)) (List.range 2) (by
    intro i hi
    have hi := List.mem_range.1 hi
    obtain rfl | rfl : i = 0 ∨ i = 1 := by omega
    · refine ⟨[.int .i32 x.1], ?_⟩
      unfold Program.keyLits
      rw [Tryz.underlying21]
      simp only [Nat.zero_mul, List.drop_zero, List.take_succ_cons, List.take_zero, h.1, and_self, if_true]
    · refine ⟨[.int .i32 x.2], ?_⟩
      unfold Program.keyLits
      rw [Tryz.underlying21]
      simp only [Nat.one_mul, List.drop_succ_cons, List.drop_zero, List.take_succ_cons, List.take_zero, h.2, and_self, if_true])
  simp only [hys, Option.map_some, c2, Nat.zero_add, Nat.reduceAdd, if_true]
  exact ⟨_, rfl⟩
set_option maxRecDepth 100000 in
theorem key_of (B : List V2) (h : WfB B) : ∃ kl, keyOf Tryz.prog 109 (bv B) = some kl := by
  obtain ⟨h1, h2⟩ := h
  have hpos : 2 < Tryz.prog.types.size := of_decide_eq_true (by kernel_rfl)
  obtain ⟨d, hd⟩ : ∃ d, Tryz.prog.types.size + 1 = d + 1 + 1 + 1 := ⟨Tryz.prog.types.size - 2, by omega⟩
  have kt : Tryz.prog.keyType 109 = true := by kernel_rfl
  have c1 : Tryz.prog.cellsOf 63 = 2 := by kernel_rfl
  have c4 : Tryz.prog.cellsOf 109 = 256 := by kernel_rfl
  have hl : (cellsB B).length = 256 := by rw [cellsB_len, h1]
  obtain ⟨ys, hys⟩ := mapM_some (f := fun i => Tryz.prog.keyLits (d + 1 + 1) 63 (((cellsB B).drop (i * 2)).take 2)) (List.range 128) (by
    intro i hi
    have hi := List.mem_range.1 hi
    have hi2 : i < B.length := by omega
    have e : ((cellsB B).drop (i * 2)).take 2 = encV B[i] := flatV_part B i hi2
    rw [e]
    exact key_in _ (h2 _ (List.getElem_mem hi2)) d)
  unfold keyOf
  rw [Tryz.underlying109, hd]
  have hf : (bv B).formed Tryz.prog 109 = true := by
    simp only [bv, Value.formed, Tryz.underlying109, c4, List.size_toArray, hl, BEq.rfl]
  simp only [kt, hf, Bool.and_self, if_true]
  have hk : Tryz.prog.keyLits (d + 1 + 1 + 1) 109 (bv B).cells.toList = some ys.flatten := by
    unfold Program.keyLits
    rw [Tryz.underlying109]
    simp only [bv, Value.cells, c1, c4, hl, if_true, hys, Option.map_some]
  rw [hk]
  exact ⟨_, rfl⟩

noncomputable abbrev el : Value → Option (DataW Unit × List MemPlace) := plainElem Tryz.prog 21
/-- A map of blocks tells what l tells. -/
def Kn (w : World) (b n : Nat) (l : List V2 → Option Nat) : Prop := ∃ D, w.ownsMap Tryz.prog 109 el b n D ∧
  ∀ B kl, keyOf Tryz.prog 109 (bv B) = some kl → D.atKey kl (.lit (.int .i32 0)) = .lit (.int .i32 ((l B).getD 0 : Nat)) ∧ Maps.has D kl = (l B).isSome
/-- One block more. -/
def also (l : List V2 → Option Nat) (B : List V2) (i : Nat) : List V2 → Option Nat := fun X => if B = X then some i else l X
theorem Kn.kept {w w' : World} {b n : Nat} {l : List V2 → Option Nat} {row : Option Nat} (h : Kn w b n l) (hg : w.grownBy w' row) (hne : some b ≠ row) : Kn w' b n l := by
  obtain ⟨D, h1, h2⟩ := h
  exact ⟨D, h1.kept hg hne, h2⟩
theorem Kn.lt {w : World} {b n : Nat} {l : List V2 → Option Nat} (h : Kn w b n l) : b < w.heap.size := h.choose_spec.1.lt
theorem Kn.later {w w' : World} {b n B : Nat} {l : List V2 → Option Nat} (h : Kn w b n l) (hb : Below B w w') (hB : b < B) : Kn w' b n l := by
  obtain ⟨D, ⟨es, clock, hh, F, hs, hD⟩, h2⟩ := h
  exact ⟨D, ⟨es, clock, (hb.block _ hB).trans hh, F, hs, hD⟩, h2⟩
theorem Kn.made (w : World) : Kn (w.alloc (.map #[] 0)) w.heap.size 0 (fun _ => none) :=
  ⟨_, World.ownsMap_made w _ _ _, fun B kl _ => ⟨rfl, rfl⟩⟩
theorem Kn.put {w : World} {b n : Nat} {l : List V2 → Option Nat} {D : DataW Unit} (hown : w.ownsMap Tryz.prog 109 el b n D) (h : ∀ B kl, keyOf Tryz.prog 109 (bv B) = some kl → D.atKey kl (.lit (.int .i32 0)) = .lit (.int .i32 ((l B).getD 0 : Nat)) ∧ Maps.has D kl = (l B).isSome)
    {w' : World} {B : List V2} {i : Nat} {kl : Lit} (hk : keyOf Tryz.prog 109 (bv B) = some kl) (hown' : w'.ownsMap Tryz.prog 109 el b (n + 1) (D.put kl (.lit (.int .i32 i)))) : Kn w' b (n + 1) (also l B i) := by
  have hm := hown.isMap
  refine ⟨_, hown', fun X kx hx => ?_⟩
  unfold also
  by_cases e : B = X
  · subst e
    rw [hk] at hx
    cases hx
    rw [if_pos rfl, atKey_put_same hm (law.key hk), has_put_same hm (law.key hk)]
    exact ⟨rfl, rfl⟩
  · have hne : kx ≠ kl := fun he => e (bv_inj (law.inj hk (he ▸ hx)))
    rw [if_neg e, atKey_put_other hne, has_put_other hne]
    exact h X kx hx
theorem zeroI32 (w : World) : (zeroValue 21).run Tryz.prog w = .ok (.int .i32 0) w := by kernel_rfl
theorem Kn.look {w : World} {b n : Nat} {l : List V2 → Option Nat} (h : Kn w b n l) {B : List V2} (hB : WfB B) :
    (Instr.lookup 106 (.map (some b)) (bv B) true).run Tryz.prog w = .ok (.tuple #[.int .i32 ((l B).getD 0 : Nat), .bool (l B).isSome]) w := by
  obtain ⟨D, h2, h3⟩ := h
  obtain ⟨kl, hk⟩ := key_of B hB
  obtain ⟨ha, hh⟩ := h3 B kl hk
  obtain ⟨u, ps, hrun, hv⟩ := h2.look_ok law Tryz.underlying106 (zeroI32 _) (plainElem_int Tryz.underlying21 (by decide)) hk
  rw [ha] at hv
  obtain ⟨c, rfl, hc, _⟩ := plainElem_int_inv Tryz.underlying21 hv
  simp only [Prod.mk.injEq, DataW.lit.injEq, Lit.int.injEq, true_and] at hc
  rw [hrun, hh, ← hc.1]
end Go.Proofs.YtggapcfjcdafpaaGreat.TP

namespace Go.Proofs.YtggapcfjcdafpaaGreat.TP
open Go.RowKit Go.Maps
set_option linter.unusedVariables false
set_option linter.unusedSimpArgs false

theorem block_elt : Elt Tryz.prog 103 109 256 1024 := elt_of Tryz.underlying103 (z := .agg Tryz.zeroCells109) (by kernel_rfl) (by kernel_rfl) (by decide)
theorem id_elt : Elt Tryz.prog 22 21 1 4 := elt_of Tryz.underlying22 (z := .int .i32 0) (by kernel_rfl) rfl (by decide)
def encN (i : Nat) : List Value := [.int .i32 i]
theorem cellsB_one (B : List V2) : ∀ v ∈ cellsB B, v.oneCell' = true := by
  intro v hv
  unfold cellsB flatL at hv
  obtain ⟨i, _, hi⟩ := List.mem_flatMap.1 hv
  simp only [encV, List.mem_cons, List.mem_nil_iff, or_false] at hi
  rcases hi with rfl | rfl <;> rfl
/-- What is known of the blocks' numbers. -/
structure LOk (l : List V2 → Option Nat) (Bs : List (List V2)) : Prop where
  yes : ∀ B i, l B = some i → Bs[i]? = some B
  no : ∀ B, l B = none → B ∉ Bs
  nd : Bs.Nodup
theorem LOk.nil : LOk (fun _ => none) [] := ⟨fun _ _ h => (by cases h), fun _ _ => by simp, List.nodup_nil⟩
theorem LOk.also {l : List V2 → Option Nat} {Bs : List (List V2)} (h : LOk l Bs) {B : List V2} (hB : l B = none) : LOk (also l B Bs.length) (Bs ++ [B]) := by
  refine ⟨fun X i hX => ?_, fun X hX => ?_, ?_⟩
  · unfold Go.Proofs.YtggapcfjcdafpaaGreat.TP.also at hX
    by_cases e : B = X
    · rw [if_pos e] at hX
      cases hX
      simp [e]
    · rw [if_neg e] at hX
      have := h.yes X i hX
      have hl := (List.getElem?_eq_some_iff.1 this).1
      rw [List.getElem?_append_left hl]
      exact this
  · unfold Go.Proofs.YtggapcfjcdafpaaGreat.TP.also at hX
    by_cases e : B = X
    · rw [if_pos e] at hX; cases hX
    · rw [if_neg e] at hX
      have := h.no X hX
      simp only [List.mem_append, List.mem_singleton, not_or]
      exact ⟨this, fun h => e h.symm⟩
  · rw [List.nodup_append]
    exact ⟨h.nd, by simp, fun a ha b hb e => by simp at hb; subst hb; subst e; exact h.no _ hB ha⟩

/-- A trie under way: its cells, its blocks, what it knows of where they are. -/
structure Tr (base : Nat) (tb mb : Nat) (m : Int) (A : Option Addr) (n c : Nat) (Bs : List (List V2)) (A2 : Option Addr) (n2 c2 : Nat) (Ix : List Nat) (l : List V2 → Option Nat) (W : World) : Prop where
  cel : Blk W tb #[.int .i64 m, .slice A n c, .slice A2 n2 c2]
  bl : W.ownsRow base 109 256 (.slice A n c) n (flatL cellsB Bs)
  wh : W.ownsRow base 21 1 (.slice A2 n2 c2) n2 (flatL encN Ix)
  kn : Kn W mb Bs.length l
  ok : LOk l Bs
  wf : ∀ B ∈ Bs, WfB B
  len : n = Bs.length
  t0 : base ≤ tb
  m0 : base ≤ mb
  n1 : ∀ g, (Value.slice A n c).ownBlock = some g → g ≠ tb
  n2' : ∀ g, (Value.slice A2 n2 c2).ownBlock = some g → g ≠ tb
/-- What a trie's growing may turn. -/
def Ow (tb mb : Nat) (A : Option Addr) (n c : Nat) (A2 : Option Addr) (n2 c2 : Nat) (k : Nat) : Prop := k = tb ∨ k = mb ∨ (Value.slice A n c).ownBlock = some k ∨ (Value.slice A2 n2 c2).ownBlock = some k
theorem row_heap {w : World} {base size n : Nat} {e : TypeId} {v : Value} {xs : List Value} {g : Nat} (h : w.ownsRow base e size v n xs) (hg : v.ownBlock = some g) : ∃ cur, w.heap[g]? = some (.cells cur e (0, 0)) := by
  obtain ⟨_, ⟨rfl, _⟩ | ⟨g', cap, cur, rfl, _, hh, _⟩⟩ := h
  · cases hg
  · injection hg with hg
    subst hg
    exact ⟨cur, hh⟩
theorem Kn.heap {w : World} {b n : Nat} {l : List V2 → Option Nat} (h : Kn w b n l) : ∃ es clock, w.heap[b]? = some (.map es clock) := by
  obtain ⟨D, ⟨es, clock, hh, _⟩, _⟩ := h
  exact ⟨es, clock, hh⟩
section
variable {base tb mb : Nat} {m : Int} {A A2 : Option Addr} {n c n2 c2 : Nat} {Bs : List (List V2)} {Ix : List Nat} {l : List V2 → Option Nat} {W W' : World}
theorem Tr.mt (h : Tr base tb mb m A n c Bs A2 n2 c2 Ix l W) : mb ≠ tb := by
  rintro rfl
  obtain ⟨es, clock, e⟩ := h.kn.heap
  have := h.cel.2.1 0
  simp [World.cell?, e] at this
theorem Tr.m1 (h : Tr base tb mb m A n c Bs A2 n2 c2 Ix l W) : ∀ g, (Value.slice A n c).ownBlock = some g → g ≠ mb := by
  rintro g hg rfl
  obtain ⟨es, clock, e⟩ := h.kn.heap
  obtain ⟨cur, e2⟩ := row_heap h.bl hg
  rw [e] at e2; cases e2
theorem Tr.m2 (h : Tr base tb mb m A n c Bs A2 n2 c2 Ix l W) : ∀ g, (Value.slice A2 n2 c2).ownBlock = some g → g ≠ mb := by
  rintro g hg rfl
  obtain ⟨es, clock, e⟩ := h.kn.heap
  obtain ⟨cur, e2⟩ := row_heap h.wh hg
  rw [e] at e2; cases e2
theorem Tr.n12 (h : Tr base tb mb m A n c Bs A2 n2 c2 Ix l W) : ∀ g, (Value.slice A n c).ownBlock = some g → (Value.slice A2 n2 c2).ownBlock ≠ some g := by
  intro g hg hg2
  obtain ⟨cur, e⟩ := row_heap h.bl hg
  obtain ⟨cur2, e2⟩ := row_heap h.wh hg2
  rw [e] at e2
  injection e2 with e2
  injection e2 with _ e2 _
  exact absurd e2 (by decide)
theorem Tr.low (h : Tr base tb mb m A n c Bs A2 n2 c2 Ix l W) : ∀ k, Ow tb mb A n c A2 n2 c2 k → base ≤ k ∧ k < W.heap.size := by
  rintro k (rfl | rfl | hk | hk)
  · exact ⟨h.t0, h.cel.1⟩
  · exact ⟨h.m0, h.kn.lt⟩
  · exact h.bl.lt k hk
  · exact h.wh.lt k hk
/-- What turns none of a trie's blocks leaves the trie. -/
theorem Tr.kept (h : Tr base tb mb m A n c Bs A2 n2 c2 Ix l W) (hs : W.heap.size ≤ W'.heap.size) (hk : ∀ k, Ow tb mb A n c A2 n2 c2 k → W'.heap[k]? = W.heap[k]?) : Tr base tb mb m A n c Bs A2 n2 c2 Ix l W' := by
  refine ⟨?_, ?_, ?_, ?_, h.ok, h.wf, h.len, h.t0, h.m0, h.n1, h.n2'⟩
  · exact Blk.same h.cel (hk tb (.inl rfl)) hs
  · obtain ⟨e1, h1 | ⟨g, cap, cur, e2, h2, h3, h4⟩⟩ := h.bl
    · exact ⟨e1, .inl h1⟩
    · exact ⟨e1, .inr ⟨g, cap, cur, e2, h2, (hk g (.inr (.inr (.inl (by rw [e2]; rfl))))).trans h3, h4⟩⟩
  · obtain ⟨e1, h1 | ⟨g, cap, cur, e2, h2, h3, h4⟩⟩ := h.wh
    · exact ⟨e1, .inl h1⟩
    · exact ⟨e1, .inr ⟨g, cap, cur, e2, h2, (hk g (.inr (.inr (.inr (by rw [e2]; rfl))))).trans h3, h4⟩⟩
  · obtain ⟨D, ⟨es, clock, hh, F, hs, hD⟩, h2⟩ := h.kn
    exact ⟨D, ⟨es, clock, (hk mb (.inr (.inl rfl))).trans hh, F, hs, hD⟩, h2⟩
theorem Tr.later (h : Tr base tb mb m A n c Bs A2 n2 c2 Ix l W) (hb : Below W.heap.size W W') : Tr base tb mb m A n c Bs A2 n2 c2 Ix l W' := h.kept hb.size fun k hk => hb.block k (h.low k hk).2
end
end Go.Proofs.YtggapcfjcdafpaaGreat.TP

namespace Go.Proofs.YtggapcfjcdafpaaGreat.TP
open Go.RowKit Go.Maps
set_option linter.unusedVariables false
set_option linter.unusedSimpArgs false

theorem range_blk {w : World} {g : Nat} {cs : List Value} (h : Blk w g cs.toArray) : w.rangeAt g 0 cs := fun i v hv => by
  rw [Nat.zero_add, h.2.1 i]
  simpa using hv
theorem still_load_mid {P : Program} {o : Oper} {a : Act} {w : World} {K : Act → Prop} (ty : TypeId) (x : Operand) (ho : o.op = .load ty x)
    (b off : Nat) (hx : a.eval x = .pointer (some ⟨b, off, none⟩)) (cs : List Value) (d : TypeDesc) (hc : w.rangeAt b off cs)
    (hu : P.underlying ty = some d) (hd : d.isRow = true) (hi : (P.info? ty).map (·.size) = some cs.length)
    (h : K (a.put o.dst (.agg cs.toArray))) : o.still P a w K := by
  unfold Oper.still execOp
  simp only [ho, hx, run_loadAt_mid w b off ty cs d hc hu hd hi, Sem.run_bind, Sem.run_pure, Result.andThen_ok]
  exact ⟨rfl, h⟩

theorem fill_one (cs base : Array Value) (hs : base.size = cs.size) (h0 : 0 < cs.size) : Instr.fill (fun i => some (i * cs.size, cs.size)) base [(0, .agg cs)] = some cs := by
  obtain ⟨r, h1, h2, h3⟩ := Great.fill_dense h0 [.agg cs] 0 base (by simp [Value.cells]) (by simp [hs])
  have e : ([Value.agg cs].zipIdx 0).map (fun x => (x.2, x.1)) = [(0, .agg cs)] := rfl
  rw [e] at h1
  rw [h1]
  congr 1
  apply Array.ext_getElem?
  intro k
  rw [h3 k]
  by_cases hk : k < cs.size
  · rw [if_pos ⟨by omega, by simpa using hk⟩]
    simp [Nat.div_eq_of_lt hk, Nat.mod_eq_of_lt hk, Value.cells]
  · rw [if_neg (by simp; omega), Array.getElem?_eq_none (by omega), Array.getElem?_eq_none (by omega)]
/-- A slice of one element that is made. -/
theorem wp_buildOne {P : Program} {o : Oper} {a : Act} {w : World} {K : Act → World → Prop} {Q : Exit → Act → World → Prop} {t e : TypeId} {size bytes : Nat} (E : Elt P t e size bytes) (x : Operand) (ho : o.op = .buildSlice t 1 #[(0, x)])
    (cs : Array Value) (hcs : cs.size = size) (hx : a.eval x = .agg cs) (hsm : size ≤ 2 ^ 24)
    (h : K (a.put o.dst (.slice (some ⟨w.heap.size, 0, none⟩) 1 1)) (w.alloc (.cells cs e))) : o.wp P a w K Q := by
  obtain ⟨ht, i, z, hi, hz, hsize, hby, hzs, hsz⟩ := E
  subst hcs
  refine wp_buildSlice t e 1 #[(0, x)] ho cs i z ht hi hz (by rw [hsize]; omega) (by rw [hsize]; omega) ?_ h
  rw [hsize]
  have e : (#[(0, x)].map fun (i, x) => (i, a.eval x)).toList = [(0, .agg cs)] := by simp [hx]
  rw [e]
  exact fill_one cs _ (by simp) hsz
set_option maxHeartbeats 4000000 in
set_option maxRecDepth 100000 in
theorem intern_old {base tb mb : Nat} {m : Int} {A A2 : Option Addr} {n c n2 c2 : Nat} {Bs : List (List V2)} {Ix : List Nat} {l : List V2 → Option Nat} {W : World} (h : Tr base tb mb m A n c Bs A2 n2 c2 Ix l W) (B : List V2) (hB : WfB B) (hn : Bs.length ≤ 1000000) (e0 : Nat) (hl : l B = some e0) :
    Calls Tryz.prog 75 #[.pointer (some ⟨tb, 0, none⟩), .map (some mb), bv B] W (fun e w' => e = .returned (.int .i32 e0) ∧ Below W.heap.size W w') := by
  have hlen : (cellsB B).length = 256 := by rw [cellsB_len, hB.1]
  have hi : (Tryz.prog.info? 109).map (·.size) = some (cellsB B).length := by rw [hlen]; kernel_rfl
  have hone := all_oneCell_toArray (cellsB_one B)
  have HR := Lib.hid (range_blk (blk_new W (cellsB B).toArray 109))
  have HK := Lib.hid (((h.kn.later (belAlloc W (.cells (cellsB B).toArray 109)) h.kn.lt).look hB))
  rw [hl] at HK
  have hk := HK.out
  simp only [Option.getD_some, Option.isSome_some] at hk
  have HBe := Lib.hid (belAlloc W (.cells (cellsB B).toArray 109))
  have HI := Lib.hid hi
  clear h hl HK hi hone hlen
  go_enter Tryz.func75, Tryz.ntmps75
  go_upto_region 1 with fail
  apply wp_region_lit
  refine wpList_plain rfl fun K2 hK2 => ?_
  go_simp
  refine hK2 _ _ ?_
  clear hK2 K2
  refine wpList_load_mid rfl 109 (Operand.tmp 5) rfl W.heap.size 0 rfl (cellsB B) _ HR.out Tryz.underlying109 rfl HI.out ?_
  simp only [Act.put, List.setIfInBounds_toArray, List.set_cons_zero, List.set_cons_succ]
  go_wp2_with fail
  go_ret
  exact ⟨rfl, HBe.out⟩

/-- What intern leaves. -/
structure Frm (tb mb : Nat) (A : Option Addr) (n c : Nat) (A2 : Option Addr) (n2 c2 : Nat) (W w' : World) : Prop where
  os : w'.os = W.os
  tape : w'.tape = W.tape
  output : w'.output = W.output
  size : W.heap.size ≤ w'.heap.size
  old : ∀ k, k < W.heap.size → ¬ Ow tb mb A n c A2 n2 c2 k → w'.heap[k]? = W.heap[k]?

section
variable {base tb mb : Nat} {m : Int} {A A2 : Option Addr} {c n2 c2 : Nat} {Bs : List (List V2)} {Ix : List Nat} {l : List V2 → Option Nat} {W : World}
/-- Behind the store into the map. -/
theorem intern_mid {B : List V2} {w1 : World} (h : Tr base tb mb m A Bs.length c Bs A2 n2 c2 Ix l W) (hx : Blk (W.alloc (.cells (cellsB B).toArray 109)) W.heap.size (cellsB B).toArray)
    (hg : (W.alloc (.cells (cellsB B).toArray 109)).grownBy w1 (some mb)) (hk : Kn w1 mb (Bs.length + 1) (also l B Bs.length)) :
    Blk w1 tb #[.int .i64 m, .slice A Bs.length c, .slice A2 n2 c2] ∧ Blk w1 W.heap.size (cellsB B).toArray ∧ w1.ownsRow base 109 256 (.slice A Bs.length c) Bs.length (flatL cellsB Bs) ∧ w1.ownsRow base 21 1 (.slice A2 n2 c2) n2 (flatL encN Ix) ∧ W.grownBy w1 (some mb) ∧ Kn w1 mb (Bs.length + 1) (also l B Bs.length) := by
  have hg0 : W.grownBy w1 (some mb) := (show W.grownBy (W.alloc (.cells (cellsB B).toArray 109)) (some mb) from ⟨rfl, rfl, rfl, by simp, fun k hk _ => (World.grownBy_alloc W _ none).block k hk (by simp)⟩).trans hg
  have hmt := h.mt
  refine ⟨h.cel.same (hg0.block _ h.cel.1 (fun e => by injection e with e; exact hmt e.symm)) hg0.size, hx.same (hg.block _ hx.1 (fun e => by injection e with e; have := h.kn.lt; omega)) hg.size, keptRow h.bl hg0 (fun g hg' e => by injection e with e; exact h.m1 g hg' e.symm), keptRow h.wh hg0 (fun g hg' e => by injection e with e; exact h.m2 g hg' e.symm), hg0, hk⟩
theorem intern_end {B : List V2} {w1 w3 : World} {A' : Option Addr} {c' : Nat} (h : Tr base tb mb m A Bs.length c Bs A2 n2 c2 Ix l W) (hl : l B = none) (hB : WfB B)
    (hv : Blk w1 tb #[.int .i64 m, .slice A Bs.length c, .slice A2 n2 c2] ∧ Blk w1 W.heap.size (cellsB B).toArray ∧ w1.ownsRow base 109 256 (.slice A Bs.length c) Bs.length (flatL cellsB Bs) ∧ w1.ownsRow base 21 1 (.slice A2 n2 c2) n2 (flatL encN Ix) ∧ W.grownBy w1 (some mb) ∧ Kn w1 mb (Bs.length + 1) (also l B Bs.length))
    (hp : Pushed w1 w3 base 109 256 (.slice A Bs.length c) (Bs.length + 1) (flatL cellsB Bs ++ (cellsB B).toArray.toList) A' c') :
    Frm tb mb A Bs.length c A2 n2 c2 W (w3.setCell ⟨tb, 1, none⟩ (.slice A' (Bs.length + 1) c')) ∧ ∃ A1 c1, Tr base tb mb m A1 (Bs.length + 1) c1 (Bs ++ [B]) A2 n2 c2 Ix (also l B Bs.length) (w3.setCell ⟨tb, 1, none⟩ (.slice A' (Bs.length + 1) c')) ∧ ∀ g, (Value.slice A1 (Bs.length + 1) c1).ownBlock = some g → (Value.slice A Bs.length c).ownBlock = some g ∨ W.heap.size ≤ g := by
  obtain ⟨v1, v2, v3, v4, v5, v6⟩ := hv
  have hg : w1.grownBy w3 (Value.slice A Bs.length c).ownBlock := hp.grown
  have hsz : W.heap.size ≤ w3.heap.size := Nat.le_trans v5.size hg.size
  have hn1 : ∀ g, (Value.slice A' (Bs.length + 1) c').ownBlock = some g → (Value.slice A Bs.length c).ownBlock = some g ∨ W.heap.size ≤ g := fun g e => by
    rcases hp.at_ with e1 | ⟨q, e1, hq⟩
    · exact .inl (e1 ▸ e)
    · rw [e1] at e
      injection e with e
      subst e
      exact .inr (Nat.le_trans v5.size hq)
  have hcl := h.cel.1
  have hnt : ∀ g, (Value.slice A' (Bs.length + 1) c').ownBlock = some g → g ≠ tb := fun g e => by
    rcases hn1 g e with e1 | e1
    · exact h.n1 g e1
    · omega
  have b3 := v1.grown hg (fun e => h.n1 tb e.symm rfl)
  have b4 := b3.set_ 1 (by simp) (.slice A' (Bs.length + 1) c')
  refine ⟨⟨hg.os.trans v5.os, hg.tape.trans v5.tape, hg.output.trans v5.output, by simpa using hsz, fun k hk ho => ?_⟩, A', c', ⟨by simpa using b4, ?_, ?_, ?_, h.ok.also hl, ?_, by simp, h.t0, h.m0, hnt, h.n2'⟩, hn1⟩
  · rw [Below.heap_setCell _ _ _ _ (by show k ≠ tb; exact fun e => ho (.inl e))]
    exact (hg.block k (Nat.lt_of_lt_of_le hk v5.size) (fun e => ho (.inr (.inr (.inl e.symm))))).trans (v5.block k hk (fun e => by injection e with e; exact ho (.inr (.inl e))))
  · have := keptRow hp.own (grow_set w3 tb 1 (.slice A' (Bs.length + 1) c')) (fun g e e' => by injection e' with e'; exact hnt g e e'.symm)
    rw [flatL_snoc]
    simpa using this
  · have := keptRow v4 hg (fun g e e' => h.n12 g e' e)
    exact keptRow this (grow_set w3 tb 1 (.slice A' (Bs.length + 1) c')) (fun g e e' => by injection e' with e'; exact h.n2' g e e'.symm)
  · have := v6.kept hg (fun e => h.m1 mb e.symm rfl)
    have := this.kept (grow_set w3 tb 1 (.slice A' (Bs.length + 1) c')) (fun e => by injection e with e; exact h.mt e)
    simpa using this
  · intro X hX
    rcases List.mem_append.1 hX with hX | hX
    · exact h.wf X hX
    · simp at hX; subst hX; exact hB
end

set_option maxHeartbeats 4000000 in
set_option maxRecDepth 100000 in
theorem intern_new {base tb mb : Nat} {m : Int} {A A2 : Option Addr} {n c n2 c2 : Nat} {Bs : List (List V2)} {Ix : List Nat} {l : List V2 → Option Nat} {W : World} (h : Tr base tb mb m A n c Bs A2 n2 c2 Ix l W) (B : List V2) (hB : WfB B) (hn : Bs.length ≤ 1000000) (hbs : base ≤ W.heap.size) (hl : l B = none) :
    Calls Tryz.prog 75 #[.pointer (some ⟨tb, 0, none⟩), .map (some mb), bv B] W (fun e w' => e = .returned (.int .i32 n) ∧ Frm tb mb A n c A2 n2 c2 W w' ∧ ∃ A' c', Tr base tb mb m A' (n + 1) c' (Bs ++ [B]) A2 n2 c2 Ix (also l B Bs.length) w' ∧ ∀ g, (Value.slice A' (n + 1) c').ownBlock = some g → (Value.slice A n c).ownBlock = some g ∨ W.heap.size ≤ g) := by
  have hlen : (cellsB B).length = 256 := by rw [cellsB_len, hB.1]
  have hi : (Tryz.prog.info? 109).map (·.size) = some (cellsB B).length := by rw [hlen]; kernel_rfl
  have hone := all_oneCell_toArray (cellsB_one B)
  have HX := Lib.hid (And.intro (h.later (belAlloc W (.cells (cellsB B).toArray 109))) (blk_new W (cellsB B).toArray 109))
  have HR := Lib.hid (range_blk HX.out.2)
  have hk := HX.out.1.kn.look hB
  rw [hl] at hk
  simp only [Option.getD_none, Option.isSome_none] at hk
  obtain rfl := h.len
  obtain ⟨y0, k0, j0⟩ := (show Blk _ _ _ from h.cel)
  have k1 : W.cell? ⟨tb, 1, none⟩ = some (.slice A Bs.length c) := k0 1
  obtain ⟨kl, hkl⟩ := key_of B hB
  have v1 : IntKind.i32.wrap (Bs.length : Int) = (Bs.length : Int) := IntWalk.i32_in _ (by omega)
  have hwf : (Lit.int .i32 (Bs.length : Int)).wf = true := by
    have := wf_wrap .i32 (Bs.length : Int)
    rwa [v1] at this
  have HI := Lib.hid hi
  have HH := Lib.hid (And.intro h hl)
  clear h hl hi hone hlen k0
  go_enter Tryz.func75, Tryz.ntmps75
  go_upto_region 1 with fail
  apply wp_region_lit
  refine wpList_plain rfl fun K2 hK2 => ?_
  go_simp
  refine hK2 _ _ ?_
  clear hK2 K2
  refine wpList_load_mid rfl 109 (Operand.tmp 5) rfl W.heap.size 0 rfl (cellsB B) _ HR.out Tryz.underlying109 rfl HI.out ?_
  simp only [Act.put, List.setIfInBounds_toArray, List.set_cons_zero, List.set_cons_succ]
  go_upto_region 4 with fail
  apply wp_region_lit
  refine wpList_plain rfl fun K2 hK2 => ?_
  go_simp
  refine hK2 _ _ ?_
  clear hK2 K2
  refine wpList_load_mid rfl 109 (Operand.tmp 5) rfl W.heap.size 0 rfl (cellsB B) _ HR.out Tryz.underlying109 rfl HI.out ?_
  simp only [Act.put, List.setIfInBounds_toArray, List.set_cons_zero, List.set_cons_succ]
  obtain ⟨D, hD1, hD2⟩ := HX.out.1.kn
  have HD := Lib.hid (And.intro hD1 hD2)
  clear hD1 hD2
  go_wp2_with (at_mapUpdate; refine wpList_mapUpdate_own _ rfl _ _ _ 106 rfl 109 21 law Tryz.underlying106 el mb Bs.length _ rfl HD.out.1 (by unfold maxLen; omega) _ _ kl rfl rfl hkl _ [] (plainElem_int Tryz.underlying21 hwf) ?_; intro w1 hown1 hgrow1)
  have HV := Lib.hid (intern_mid HH.out.1 HX.out.2 hgrow1 (Kn.put HD.out.1 HD.out.2 hkl hown1))
  have hs1 := HV.out.2.2.2.2.1.size
  clear hown1 hgrow1 HD hk y0 j0 k1
  obtain ⟨y0, k0, j0⟩ := (show Blk _ _ _ from HV.out.1)
  have k1 : w1.cell? ⟨tb, 1, none⟩ = some (.slice A Bs.length c) := k0 1
  clear k0
  have HRG := Lib.hid (range_blk (HV.out.2.1.later (Below.refl _ _).drew HV.out.2.1.1))
  have HC := Lib.hid (show (cellsB B).toArray.size = 256 by rw [List.size_toArray, cellsB_len, hB.1])
  have HO := Lib.hid (show (cellsB B).toArray.toList.all Value.oneCell' = true from by have := all_oneCell_toArray (cellsB_one B); simpa using this)
  have hbs1 : base ≤ w1.heap.size := by omega
  have k2 : w1.drew.cell? ⟨tb, 1, none⟩ = some (.slice A Bs.length c) := k1
  refine wp_region_any (by kernel_rfl) ?_
  change wpAny _ _ _ _ _ _ _ (World.drew _)
  refine wpAny_take (i := 0) (oi := { dst := some 26, op := Go.Op.move (Go.Operand.tmp 0), type := 54, pos := "trie.go:86", after := #[], guard := none }) (v := ?_) rfl (by kernel_rfl) (by kernel_rfl) (by kernel_rfl) (fun _ _ _ h => h) (Or.inl ⟨by rfl, ?_⟩) ?_
  rotate_left
  · intro Z; go_simp; try with_reducible rfl
  simp only [Act.put, List.setIfInBounds_toArray, List.set_cons_zero, List.set_cons_succ]
  refine wpAny_take (i := 1) (oi := { dst := some 27, op := Go.Op.move (Go.Operand.tmp 0), type := 54, pos := "trie.go:86", after := #[], guard := none }) (v := ?_) rfl (by kernel_rfl) (by kernel_rfl) (by kernel_rfl) (fun _ _ _ h => h) (Or.inl ⟨by rfl, ?_⟩) ?_
  rotate_left
  · intro Z; go_simp; try with_reducible rfl
  simp only [Act.put, List.setIfInBounds_toArray, List.set_cons_zero, List.set_cons_succ]
  refine wpAny_take (i := 2) (oi := { dst := some 28, op := Go.Op.nilCheck (Go.Operand.tmp 27), type := 0, pos := "trie.go:86", after := #[{ on := 1, ground := Go.Ground.data }], guard := none }) (v := ?_) rfl (by kernel_rfl) (by kernel_rfl) (by kernel_rfl) (fun _ _ _ h => h) (Or.inl ⟨by rfl, ?_⟩) ?_
  rotate_left
  · intro Z; go_simp; try with_reducible rfl
  simp only [Act.put, List.setIfInBounds_toArray, List.set_cons_zero, List.set_cons_succ]
  refine wpAny_take (i := 3) (oi := { dst := some 29, op := Go.Op.fieldAddr 105 (Go.Operand.tmp 28) 1, type := 0, pos := "trie.go:86", after := #[{ on := 2, ground := Go.Ground.data }], guard := none }) (v := ?_) rfl (by kernel_rfl) (by kernel_rfl) (by kernel_rfl) (fun _ _ _ h => h) (Or.inl ⟨by rfl, ?_⟩) ?_
  rotate_left
  · intro Z; go_simp; try with_reducible rfl
  simp only [Act.put, List.setIfInBounds_toArray, List.set_cons_zero, List.set_cons_succ]
  refine wpAny_ready (rs := [4, 5]) (by kernel_rfl) (by simp) ?_
  refine AllReady.cons (o := { dst := some 30, op := Go.Op.load 103 (Go.Operand.tmp 29), type := 103, pos := "trie.go:86", after := #[{ on := 3, ground := Go.Ground.data }], guard := none }) rfl (fun K hK => ?_) (AllReady.cons (o := { dst := some 31, op := Go.Op.load 109 (Go.Operand.tmp 5), type := 109, pos := "trie.go:86", after := #[], guard := none }) rfl (fun K hK => ?_) AllReady.nil)
  · go_simp; refine hK _ _ ?_; clear hK K
    refine wpAny_ready (rs := [5]) (by kernel_rfl) (by simp) ?_
    refine AllReady.cons (o := { dst := some 31, op := Go.Op.load 109 (Go.Operand.tmp 5), type := 109, pos := "trie.go:86", after := #[], guard := none }) rfl (fun K hK => ?_) AllReady.nil
    rw [if_pos (by rfl)]; refine wp_load_mid 109 (Operand.tmp 5) rfl W.heap.size 0 rfl (cellsB B) _ HRG.out Tryz.underlying109 rfl HI.out ?_; simp only [Act.put, List.setIfInBounds_toArray, List.set_cons_zero, List.set_cons_succ]; refine hK _ _ ?_; clear hK K
    refine wpAny_ready (rs := [6]) (by kernel_rfl) (by simp) ?_
    refine AllReady.cons (o := { dst := some 32, op := Go.Op.buildSlice 103 1 #[(0, Go.Operand.tmp 31)], type := 103, pos := "trie.go:86", after := #[{ on := 5, ground := Go.Ground.data }], guard := none }) rfl (fun K hK => ?_) AllReady.nil
    rw [if_pos (by rfl)]; refine wp_buildOne block_elt (Operand.tmp 31) rfl (cellsB B).toArray HC.out rfl (by decide) ?_; simp only [Act.put, List.setIfInBounds_toArray, List.set_cons_zero, List.set_cons_succ]; refine hK _ _ ?_; clear hK K
    refine wpAny_ready (rs := [7]) (by kernel_rfl) (by simp) ?_
    refine AllReady.cons (o := { dst := some 33, op := Go.Op.call { callee := Go.Callee.builtin Go.Builtin.append, args := #[Go.Operand.tmp 30, Go.Operand.tmp 32], argTypes := #[103, 103] }, type := 103, pos := "trie.go:86", after := #[{ on := 4, ground := Go.Ground.data }, { on := 6, ground := Go.Ground.data }], guard := none }) rfl (fun K hK => ?_) AllReady.nil
    refine step_pushN block_elt HV.out.2.2.1 hbs1 rfl rfl rfl rfl rfl rfl HC.out HO.out (by unfold maxLen; omega) (by omega) ?_; intro A3 c3 w3 hp; have HE := Lib.hid (intern_end HH.out.1 HH.out.2 hB HV.out hp); have hb3 := (show Blk w1 tb _ from HV.out.1).grown hp.grown (fun e => HH.out.1.n1 tb e.symm rfl); have z0 := hb3.1; have z1 : w3.cell? ⟨tb, 1, none⟩ = some (.slice A Bs.length c) := hb3.2.1 1; have z2 : w3.frozen? ⟨tb, 1, none⟩ = false := hb3.2.2 1; clear hp hb3 y0 k1 j0; simp only [Act.put, List.setIfInBounds_toArray, List.set_cons_zero, List.set_cons_succ]; refine hK _ _ ?_; clear hK K
    refine wpAny_take (i := 8) (oi := { dst := some 34, op := Go.Op.nilCheck (Go.Operand.tmp 26), type := 0, pos := "trie.go:86", after := #[{ on := 0, ground := Go.Ground.data }, { on := 0, ground := Go.Ground.phase }, { on := 1, ground := Go.Ground.phase }, { on := 2, ground := Go.Ground.phase }, { on := 3, ground := Go.Ground.phase }, { on := 4, ground := Go.Ground.phase }, { on := 5, ground := Go.Ground.phase }, { on := 6, ground := Go.Ground.phase }, { on := 7, ground := Go.Ground.phase }], guard := none }) (v := ?_) rfl (by kernel_rfl) (by kernel_rfl) (by kernel_rfl) (fun _ _ _ h => h) (Or.inl ⟨by rfl, ?_⟩) ?_
    rotate_left
    · intro Z; go_simp; try with_reducible rfl
    simp only [Act.put, List.setIfInBounds_toArray, List.set_cons_zero, List.set_cons_succ]
    refine wpAny_take (i := 9) (oi := { dst := some 35, op := Go.Op.fieldAddr 105 (Go.Operand.tmp 34) 1, type := 0, pos := "trie.go:86", after := #[{ on := 8, ground := Go.Ground.data }, { on := 0, ground := Go.Ground.phase }, { on := 1, ground := Go.Ground.phase }, { on := 2, ground := Go.Ground.phase }, { on := 3, ground := Go.Ground.phase }, { on := 4, ground := Go.Ground.phase }, { on := 5, ground := Go.Ground.phase }, { on := 6, ground := Go.Ground.phase }, { on := 7, ground := Go.Ground.phase }], guard := none }) (v := ?_) rfl (by kernel_rfl) (by kernel_rfl) (by kernel_rfl) (fun _ _ _ h => h) (Or.inl ⟨by rfl, ?_⟩) ?_
    rotate_left
    · intro Z; go_simp; try with_reducible rfl
    simp only [Act.put, List.setIfInBounds_toArray, List.set_cons_zero, List.set_cons_succ]
    refine wpAny_ready (rs := [10]) (by kernel_rfl) (by simp) ?_
    refine AllReady.cons (o := { dst := none, op := Go.Op.store 103 (Go.Operand.tmp 35) (Go.Operand.tmp 33), type := 0, pos := "trie.go:86", after := #[{ on := 9, ground := Go.Ground.data }, { on := 7, ground := Go.Ground.data }, { on := 7, ground := Go.Ground.chain }, { on := 0, ground := Go.Ground.phase }, { on := 1, ground := Go.Ground.phase }, { on := 2, ground := Go.Ground.phase }, { on := 3, ground := Go.Ground.phase }, { on := 4, ground := Go.Ground.phase }, { on := 5, ground := Go.Ground.phase }, { on := 6, ground := Go.Ground.phase }, { on := 7, ground := Go.Ground.phase }], guard := none }) rfl (fun K hK => ?_) AllReady.nil
    go_simp; refine hK _ _ ?_; clear hK K
    refine wpAny_done (by kernel_rfl) ?_ _
    go_wp2; go_ret; exact ⟨rfl, HE.out⟩
  · rw [if_pos (by rfl)]; refine wp_load_mid 109 (Operand.tmp 5) rfl W.heap.size 0 rfl (cellsB B) _ HRG.out Tryz.underlying109 rfl HI.out ?_; simp only [Act.put, List.setIfInBounds_toArray, List.set_cons_zero, List.set_cons_succ]; refine hK _ _ ?_; clear hK K
    refine wpAny_ready (rs := [4, 6]) (by kernel_rfl) (by simp) ?_
    refine AllReady.cons (o := { dst := some 30, op := Go.Op.load 103 (Go.Operand.tmp 29), type := 103, pos := "trie.go:86", after := #[{ on := 3, ground := Go.Ground.data }], guard := none }) rfl (fun K hK => ?_) (AllReady.cons (o := { dst := some 32, op := Go.Op.buildSlice 103 1 #[(0, Go.Operand.tmp 31)], type := 103, pos := "trie.go:86", after := #[{ on := 5, ground := Go.Ground.data }], guard := none }) rfl (fun K hK => ?_) AllReady.nil)
    · go_simp; refine hK _ _ ?_; clear hK K
      refine wpAny_ready (rs := [6]) (by kernel_rfl) (by simp) ?_
      refine AllReady.cons (o := { dst := some 32, op := Go.Op.buildSlice 103 1 #[(0, Go.Operand.tmp 31)], type := 103, pos := "trie.go:86", after := #[{ on := 5, ground := Go.Ground.data }], guard := none }) rfl (fun K hK => ?_) AllReady.nil
      rw [if_pos (by rfl)]; refine wp_buildOne block_elt (Operand.tmp 31) rfl (cellsB B).toArray HC.out rfl (by decide) ?_; simp only [Act.put, List.setIfInBounds_toArray, List.set_cons_zero, List.set_cons_succ]; refine hK _ _ ?_; clear hK K
      refine wpAny_ready (rs := [7]) (by kernel_rfl) (by simp) ?_
      refine AllReady.cons (o := { dst := some 33, op := Go.Op.call { callee := Go.Callee.builtin Go.Builtin.append, args := #[Go.Operand.tmp 30, Go.Operand.tmp 32], argTypes := #[103, 103] }, type := 103, pos := "trie.go:86", after := #[{ on := 4, ground := Go.Ground.data }, { on := 6, ground := Go.Ground.data }], guard := none }) rfl (fun K hK => ?_) AllReady.nil
      refine step_pushN block_elt HV.out.2.2.1 hbs1 rfl rfl rfl rfl rfl rfl HC.out HO.out (by unfold maxLen; omega) (by omega) ?_; intro A3 c3 w3 hp; have HE := Lib.hid (intern_end HH.out.1 HH.out.2 hB HV.out hp); have hb3 := (show Blk w1 tb _ from HV.out.1).grown hp.grown (fun e => HH.out.1.n1 tb e.symm rfl); have z0 := hb3.1; have z1 : w3.cell? ⟨tb, 1, none⟩ = some (.slice A Bs.length c) := hb3.2.1 1; have z2 : w3.frozen? ⟨tb, 1, none⟩ = false := hb3.2.2 1; clear hp hb3 y0 k1 j0; simp only [Act.put, List.setIfInBounds_toArray, List.set_cons_zero, List.set_cons_succ]; refine hK _ _ ?_; clear hK K
      refine wpAny_take (i := 8) (oi := { dst := some 34, op := Go.Op.nilCheck (Go.Operand.tmp 26), type := 0, pos := "trie.go:86", after := #[{ on := 0, ground := Go.Ground.data }, { on := 0, ground := Go.Ground.phase }, { on := 1, ground := Go.Ground.phase }, { on := 2, ground := Go.Ground.phase }, { on := 3, ground := Go.Ground.phase }, { on := 4, ground := Go.Ground.phase }, { on := 5, ground := Go.Ground.phase }, { on := 6, ground := Go.Ground.phase }, { on := 7, ground := Go.Ground.phase }], guard := none }) (v := ?_) rfl (by kernel_rfl) (by kernel_rfl) (by kernel_rfl) (fun _ _ _ h => h) (Or.inl ⟨by rfl, ?_⟩) ?_
      rotate_left
      · intro Z; go_simp; try with_reducible rfl
      simp only [Act.put, List.setIfInBounds_toArray, List.set_cons_zero, List.set_cons_succ]
      refine wpAny_take (i := 9) (oi := { dst := some 35, op := Go.Op.fieldAddr 105 (Go.Operand.tmp 34) 1, type := 0, pos := "trie.go:86", after := #[{ on := 8, ground := Go.Ground.data }, { on := 0, ground := Go.Ground.phase }, { on := 1, ground := Go.Ground.phase }, { on := 2, ground := Go.Ground.phase }, { on := 3, ground := Go.Ground.phase }, { on := 4, ground := Go.Ground.phase }, { on := 5, ground := Go.Ground.phase }, { on := 6, ground := Go.Ground.phase }, { on := 7, ground := Go.Ground.phase }], guard := none }) (v := ?_) rfl (by kernel_rfl) (by kernel_rfl) (by kernel_rfl) (fun _ _ _ h => h) (Or.inl ⟨by rfl, ?_⟩) ?_
      rotate_left
      · intro Z; go_simp; try with_reducible rfl
      simp only [Act.put, List.setIfInBounds_toArray, List.set_cons_zero, List.set_cons_succ]
      refine wpAny_ready (rs := [10]) (by kernel_rfl) (by simp) ?_
      refine AllReady.cons (o := { dst := none, op := Go.Op.store 103 (Go.Operand.tmp 35) (Go.Operand.tmp 33), type := 0, pos := "trie.go:86", after := #[{ on := 9, ground := Go.Ground.data }, { on := 7, ground := Go.Ground.data }, { on := 7, ground := Go.Ground.chain }, { on := 0, ground := Go.Ground.phase }, { on := 1, ground := Go.Ground.phase }, { on := 2, ground := Go.Ground.phase }, { on := 3, ground := Go.Ground.phase }, { on := 4, ground := Go.Ground.phase }, { on := 5, ground := Go.Ground.phase }, { on := 6, ground := Go.Ground.phase }, { on := 7, ground := Go.Ground.phase }], guard := none }) rfl (fun K hK => ?_) AllReady.nil
      go_simp; refine hK _ _ ?_; clear hK K
      refine wpAny_done (by kernel_rfl) ?_ _
      go_wp2; go_ret; exact ⟨rfl, HE.out⟩
    · rw [if_pos (by rfl)]; refine wp_buildOne block_elt (Operand.tmp 31) rfl (cellsB B).toArray HC.out rfl (by decide) ?_; simp only [Act.put, List.setIfInBounds_toArray, List.set_cons_zero, List.set_cons_succ]; refine hK _ _ ?_; clear hK K
      refine wpAny_ready (rs := [4]) (by kernel_rfl) (by simp) ?_
      refine AllReady.cons (o := { dst := some 30, op := Go.Op.load 103 (Go.Operand.tmp 29), type := 103, pos := "trie.go:86", after := #[{ on := 3, ground := Go.Ground.data }], guard := none }) rfl (fun K hK => ?_) AllReady.nil
      go_simp; refine hK _ _ ?_; clear hK K
      refine wpAny_ready (rs := [7]) (by kernel_rfl) (by simp) ?_
      refine AllReady.cons (o := { dst := some 33, op := Go.Op.call { callee := Go.Callee.builtin Go.Builtin.append, args := #[Go.Operand.tmp 30, Go.Operand.tmp 32], argTypes := #[103, 103] }, type := 103, pos := "trie.go:86", after := #[{ on := 4, ground := Go.Ground.data }, { on := 6, ground := Go.Ground.data }], guard := none }) rfl (fun K hK => ?_) AllReady.nil
      refine step_pushN block_elt HV.out.2.2.1 hbs1 rfl rfl rfl rfl rfl rfl HC.out HO.out (by unfold maxLen; omega) (by omega) ?_; intro A3 c3 w3 hp; have HE := Lib.hid (intern_end HH.out.1 HH.out.2 hB HV.out hp); have hb3 := (show Blk w1 tb _ from HV.out.1).grown hp.grown (fun e => HH.out.1.n1 tb e.symm rfl); have z0 := hb3.1; have z1 : w3.cell? ⟨tb, 1, none⟩ = some (.slice A Bs.length c) := hb3.2.1 1; have z2 : w3.frozen? ⟨tb, 1, none⟩ = false := hb3.2.2 1; clear hp hb3 y0 k1 j0; simp only [Act.put, List.setIfInBounds_toArray, List.set_cons_zero, List.set_cons_succ]; refine hK _ _ ?_; clear hK K
      refine wpAny_take (i := 8) (oi := { dst := some 34, op := Go.Op.nilCheck (Go.Operand.tmp 26), type := 0, pos := "trie.go:86", after := #[{ on := 0, ground := Go.Ground.data }, { on := 0, ground := Go.Ground.phase }, { on := 1, ground := Go.Ground.phase }, { on := 2, ground := Go.Ground.phase }, { on := 3, ground := Go.Ground.phase }, { on := 4, ground := Go.Ground.phase }, { on := 5, ground := Go.Ground.phase }, { on := 6, ground := Go.Ground.phase }, { on := 7, ground := Go.Ground.phase }], guard := none }) (v := ?_) rfl (by kernel_rfl) (by kernel_rfl) (by kernel_rfl) (fun _ _ _ h => h) (Or.inl ⟨by rfl, ?_⟩) ?_
      rotate_left
      · intro Z; go_simp; try with_reducible rfl
      simp only [Act.put, List.setIfInBounds_toArray, List.set_cons_zero, List.set_cons_succ]
      refine wpAny_take (i := 9) (oi := { dst := some 35, op := Go.Op.fieldAddr 105 (Go.Operand.tmp 34) 1, type := 0, pos := "trie.go:86", after := #[{ on := 8, ground := Go.Ground.data }, { on := 0, ground := Go.Ground.phase }, { on := 1, ground := Go.Ground.phase }, { on := 2, ground := Go.Ground.phase }, { on := 3, ground := Go.Ground.phase }, { on := 4, ground := Go.Ground.phase }, { on := 5, ground := Go.Ground.phase }, { on := 6, ground := Go.Ground.phase }, { on := 7, ground := Go.Ground.phase }], guard := none }) (v := ?_) rfl (by kernel_rfl) (by kernel_rfl) (by kernel_rfl) (fun _ _ _ h => h) (Or.inl ⟨by rfl, ?_⟩) ?_
      rotate_left
      · intro Z; go_simp; try with_reducible rfl
      simp only [Act.put, List.setIfInBounds_toArray, List.set_cons_zero, List.set_cons_succ]
      refine wpAny_ready (rs := [10]) (by kernel_rfl) (by simp) ?_
      refine AllReady.cons (o := { dst := none, op := Go.Op.store 103 (Go.Operand.tmp 35) (Go.Operand.tmp 33), type := 0, pos := "trie.go:86", after := #[{ on := 9, ground := Go.Ground.data }, { on := 7, ground := Go.Ground.data }, { on := 7, ground := Go.Ground.chain }, { on := 0, ground := Go.Ground.phase }, { on := 1, ground := Go.Ground.phase }, { on := 2, ground := Go.Ground.phase }, { on := 3, ground := Go.Ground.phase }, { on := 4, ground := Go.Ground.phase }, { on := 5, ground := Go.Ground.phase }, { on := 6, ground := Go.Ground.phase }, { on := 7, ground := Go.Ground.phase }], guard := none }) rfl (fun K hK => ?_) AllReady.nil
      go_simp; refine hK _ _ ?_; clear hK K
      refine wpAny_done (by kernel_rfl) ?_ _
      go_wp2; go_ret; exact ⟨rfl, HE.out⟩
end Go.Proofs.YtggapcfjcdafpaaGreat.TP

namespace Go.Proofs.YtggapcfjcdafpaaGreat.TP
open Go.RowKit Go.Maps
set_option linter.unusedVariables false
set_option linter.unusedSimpArgs false

/-! ### intern as a whole -/
/-- What a trie's blocks are in memory. -/
structure Hd where
  A : Option Addr
  n : Nat
  c : Nat
  A2 : Option Addr
  n2 : Nat
  c2 : Nat
/-- A trie under way, its handles in one. -/
abbrev TrH (base tb mb : Nat) (m : Int) (h : Hd) (Bs : List (List V2)) (Ix : List Nat) (l : List V2 → Option Nat) (W : World) : Prop := Tr base tb mb m h.A h.n h.c Bs h.A2 h.n2 h.c2 Ix l W
abbrev OwH (tb mb : Nat) (h : Hd) (k : Nat) : Prop := Ow tb mb h.A h.n h.c h.A2 h.n2 h.c2 k
/-- From W to w' only blocks of O have turned. -/
structure Turn (O : Nat → Prop) (W w' : World) : Prop where
  os : w'.os = W.os
  tape : w'.tape = W.tape
  output : w'.output = W.output
  size : W.heap.size ≤ w'.heap.size
  old : ∀ k, k < W.heap.size → ¬ O k → w'.heap[k]? = W.heap[k]?
theorem Turn.later {O : Nat → Prop} {W w1 w2 : World} (hO : ∀ k, O k → k < W.heap.size) (hb : Below W.heap.size W w1) (h : Turn O w1 w2) : Turn O W w2 :=
  ⟨h.os.trans hb.os, h.tape.trans hb.tape, h.output.trans hb.output, Nat.le_trans hb.size h.size, fun k hk ho => (h.old k (Nat.lt_of_lt_of_le hk hb.size) ho).trans (hb.block k hk)⟩
/-- What intern tells. -/
def Interned (base tb mb : Nat) (m : Int) (h : Hd) (Bs : List (List V2)) (Ix : List Nat) (B : List V2) (W : World) (e : Ending) (w' : World) : Prop :=
  ∃ (i : Nat) (h' : Hd) (Bs' : List (List V2)) (l' : List V2 → Option Nat), e = .returned (.int .i32 i) ∧ TrH base tb mb m h' Bs' Ix l' w' ∧ Bs'[i]? = some B ∧ (Bs' = Bs ∨ Bs' = Bs ++ [B]) ∧ Turn (OwH tb mb h) W w' ∧ (∀ k, OwH tb mb h' k → OwH tb mb h k ∨ W.heap.size ≤ k) ∧ h'.A2 = h.A2 ∧ h'.n2 = h.n2 ∧ h'.c2 = h.c2
theorem intern_any {base tb mb : Nat} {m : Int} {hd : Hd} {Bs : List (List V2)} {Ix : List Nat} {l : List V2 → Option Nat} {W : World} (h : TrH base tb mb m hd Bs Ix l W) (B : List V2) (hB : WfB B) (hn : Bs.length ≤ 1000000) :
    Calls Tryz.prog 75 #[.pointer (some ⟨tb, 0, none⟩), .map (some mb), bv B] W (Interned base tb mb m hd Bs Ix B W) := by
  cases hl : l B with
  | some e0 =>
    refine (intern_old h B hB hn e0 hl).mono ?_
    rintro e w' ⟨rfl, hb⟩
    exact ⟨e0, hd, Bs, l, rfl, h.later hb, h.ok.yes _ _ hl, .inl rfl, ⟨hb.os, hb.tape, hb.output, hb.size, fun k hk _ => hb.block k hk⟩, fun k hk => .inl hk, rfl, rfl, rfl⟩
  | none =>
    have hbs : base ≤ W.heap.size := Nat.le_trans h.t0 (Nat.le_of_lt h.cel.1)
    refine (intern_new h B hB hn hbs hl).mono ?_
    rintro e w' ⟨rfl, hf, A', c', ht, hA⟩
    refine ⟨hd.n, ⟨A', hd.n + 1, c', hd.A2, hd.n2, hd.c2⟩, Bs ++ [B], _, rfl, ht, ?_, .inr rfl, ⟨hf.os, hf.tape, hf.output, hf.size, hf.old⟩, ?_, rfl, rfl, rfl⟩
    · rw [h.len]; simp
    · rintro k (hk | hk | hk | hk)
      · exact .inl (.inl hk)
      · exact .inl (.inr (.inl hk))
      · rcases hA k hk with h' | h'
        · exact .inl (.inr (.inr (.inl h')))
        · exact .inr h'
      · exact .inl (.inr (.inr (.inr hk)))

/-! ### regions -/
section
variable {P : Program} {md : Region.Mode} {ops : Array Oper} {Q : Exit → Act → World → Prop}
theorem wpOp_some {K : Act → World → Prop} {i : Nat} {o : Oper} {a : Act} {w : World} (hi : ops[i]? = some o) (hw : Region.wanted o (yielded ops a.tmps) = true) (h : ∀ J : Act → World → Prop, (∀ a w, K a w → J a w) → o.wp P a w J Q) : wpOp P ops Q i K a w := by
  unfold wpOp
  simp only [hi, hw, if_true]
  exact .inl (h K fun _ _ h => h)
theorem rowsIn_of {n : Nat} {row : String} {args : Array Value} {w : World} {R : Value → World → Prop} (h : Rows P row args w R) : RowsIn Fence.wide n P row args w R := fun c cs _ =>
  let ⟨v, w', r, s⟩ := h c cs
  ⟨v, w', r, stepsIn_wide.2 s⟩
theorem operIn_of {n : Nat} {o : Oper} {a : Act} {w : World} {K : Act → World → Prop} (h : o.wp P a w K Q) : o.wpIn Fence.wide n P a w K Q := by
  refine ⟨fun _ _ => trivial, ?_⟩
  have e : Oper.semAt Fence.wide.round a.eval o = execOp a.eval o := rfl
  rw [e]
  unfold Oper.wp at h
  revert h
  generalize (execOp a.eval o).run P w = r
  intro h
  unfold Oper.upon at h
  unfold Oper.uponIn
  split at h
  · exact h
  · exact h
  · exact h
  · exact ⟨fun h => by simp [Fence.wide] at h, callsIn_wide.2 h⟩
  · exact ⟨fun h => by simp [Fence.wide] at h, rowsIn_of h⟩
  · exact h
  · exact h.elim
theorem anyIn_of {n : Nat} (hno : ¬ LetsOut Q) : ∀ (fuel : Nat) (listed : Array Bool) (a : Act) (w : World), wpAny P md ops Q fuel listed a w → wpAnyIn Fence.wide n P md ops Q fuel listed a w
  | 0, _, _, _, h => h
  | fuel + 1, listed, a, w, h => by
    refine ⟨h.1, fun i hi => ?_⟩
    have hx := h.2 i hi
    unfold wpOp at hx
    unfold wpOpIn
    cases ho : ops[i]? with
    | none =>
      rw [ho] at hx
      exact anyIn_of hno fuel _ _ _ hx
    | some o =>
      rw [ho] at hx
      dsimp only at hx ⊢
      by_cases hw : Region.wanted o (yielded ops a.tmps) = true
      · rw [if_pos hw] at hx ⊢
        rcases hx with hx | hx
        · exact Oper.wpIn_mono (fun a w h => anyIn_of hno fuel _ a w h) (operIn_of hx)
        · exact absurd hx.2 hno
      · rw [if_neg hw] at hx ⊢
        exact ⟨fun _ _ => trivial, anyIn_of hno fuel _ _ _ hx⟩
end
end Go.Proofs.YtggapcfjcdafpaaGreat.TP

namespace Go.Proofs.YtggapcfjcdafpaaGreat.TP
open Go.RowKit Go.Maps
set_option linter.unusedVariables false
set_option linter.unusedSimpArgs false

theorem wp_pushN {P : Program} {w0 w : World} {cs : Array Value} {e' : TypeId} {o : Oper} {a : Act} {K : Act → World → Prop} {Q : Exit → Act → World → Prop} {size bytes base n k : Nat} {t e : TypeId} {v : Value} {xs : List Value} {s x : Operand}
    (E : Elt P t e size bytes) (hown : w0.ownsRow base e size v n xs) (hbase : base ≤ w0.heap.size) (hgd : o.guard = none) (ho : o.op = .call { callee := .builtin .append, args := #[s, x], argTypes := #[t, t] })
    (hs : a.eval s = v) (hx : a.eval x = .slice (some ⟨k, 0, none⟩) 1 1) (hk : k = w0.heap.size) (hw : w = (w0.alloc (.cells cs e')).drew) (hcs : cs.size = size) (h1 : cs.toList.all Value.oneCell' = true) (h63 : n + 1 ≤ maxLen) (hbytes : (n + 1) * bytes ≤ 140737488355328)
    (h : ∀ A c w', Pushed w0 w' base e size v (n + 1) (xs ++ cs.toList) A c → K (a.put o.dst (.slice A (n + 1) c)) w') : o.wp P a w K Q := by
  have := step_pushN (ops := #[]) (Ep := False) (Q := Q) E hown hbase hgd ho hs hx hk hw hcs h1 h63 hbytes h
  rwa [if_pos (by simp [Region.wanted, hgd])] at this

/-- The box of the trie's address, and that of a block's number. -/
def S2 (bx tb ib i : Nat) (X : World) : Prop := Boxed X bx 54 (.pointer (some ⟨tb, 0, none⟩)) ∧ Boxed X ib 21 (.int .i32 i)
section
variable {bx tb ib i : Nat} {X Y : World}
theorem S2.drew (h : S2 bx tb ib i X) : S2 bx tb ib i X.drew := h
theorem S2.alloc (h : S2 bx tb ib i X) (o : Obj) : S2 bx tb ib i (X.alloc o) := ⟨Boxed.alloc h.1 o, Boxed.alloc h.2 o⟩
theorem S2.kept (h : S2 bx tb ib i X) {row : Option Nat} (hg : X.grownBy Y row) (h1 : some bx ≠ row) (h2 : some ib ≠ row) : S2 bx tb ib i Y := ⟨Boxed.kept h.1 hg h1, Boxed.kept h.2 hg h2⟩
theorem S2.set (h : S2 bx tb ib i X) {g j : Nat} (h1 : bx ≠ g) (h2 : ib ≠ g) (u : Value) : S2 bx tb ib i (X.setCell ⟨g, j, none⟩ u) :=
  h.kept (grow_set X g j u) (fun e => by injection e with e; exact h1 e) (fun e => by injection e with e; exact h2 e)
theorem S2.same (h : S2 bx tb ib i X) (h1 : Y.heap[bx]? = X.heap[bx]?) (h2 : Y.heap[ib]? = X.heap[ib]?) : S2 bx tb ib i Y := ⟨h1.trans h.1, h2.trans h.2⟩
end

section
variable {base tb mb : Nat} {m : Int} {A A2 : Option Addr} {n c n2 c2 i : Nat} {Bs : List (List V2)} {Ix : List Nat} {l : List V2 → Option Nat} {W w3 : World}
/-- One number more. -/
theorem Tr.snoc {A' : Option Addr} {c' : Nat} (h : Tr base tb mb m A n c Bs A2 n2 c2 Ix l W) (hp : Pushed W w3 base 21 1 (.slice A2 n2 c2) (n2 + 1) (flatL encN Ix ++ (#[Value.int .i32 (i : Int)] : Array Value).toList) A' c') :
    Tr base tb mb m A n c Bs A' (n2 + 1) c' (Ix ++ [i]) l (w3.setCell ⟨tb, 2, none⟩ (.slice A' (n2 + 1) c')) ∧ Turn (Ow tb mb A n c A2 n2 c2) W (w3.setCell ⟨tb, 2, none⟩ (.slice A' (n2 + 1) c')) ∧ ∀ k, Ow tb mb A n c A' (n2 + 1) c' k → Ow tb mb A n c A2 n2 c2 k ∨ W.heap.size ≤ k := by
  have hg := hp.grown
  have hn1 : ∀ g, (Value.slice A' (n2 + 1) c').ownBlock = some g → (Value.slice A2 n2 c2).ownBlock = some g ∨ W.heap.size ≤ g := fun g e => by
    rcases hp.at_ with e1 | ⟨q, e1, hq⟩
    · exact .inl (e1 ▸ e)
    · rw [e1] at e
      injection e with e
      subst e
      exact .inr hq
  have hcl := h.cel.1
  have hnt : ∀ g, (Value.slice A' (n2 + 1) c').ownBlock = some g → g ≠ tb := fun g e => by
    rcases hn1 g e with e1 | e1
    · exact h.n2' g e1
    · omega
  have b3 := h.cel.grown hg (fun e => h.n2' tb e.symm rfl)
  have b4 := b3.set_ 2 (by simp) (.slice A' (n2 + 1) c')
  refine ⟨⟨by simpa using b4, ?_, ?_, ?_, h.ok, h.wf, h.len, h.t0, h.m0, h.n1, hnt⟩, ⟨hg.os, hg.tape, hg.output, by simpa using hg.size, fun k hk ho => ?_⟩, ?_⟩
  · have := keptRow h.bl hg (fun g e e' => h.n12 g e e')
    exact keptRow this (grow_set w3 tb 2 (.slice A' (n2 + 1) c')) (fun g e e' => by injection e' with e'; exact h.n1 g e e'.symm)
  · have := keptRow hp.own (grow_set w3 tb 2 (.slice A' (n2 + 1) c')) (fun g e e' => by injection e' with e'; exact hnt g e e'.symm)
    rw [flatL_snoc]
    simpa [encN] using this
  · have := h.kn.kept hg (fun e => h.m2 mb e.symm rfl)
    have := this.kept (grow_set w3 tb 2 (.slice A' (n2 + 1) c')) (fun e => by injection e with e; exact h.mt e)
    exact this
  · rw [Below.heap_setCell _ _ _ _ (by show k ≠ tb; exact fun e => ho (.inl e))]
    exact hg.block k hk (fun e => ho (.inr (.inr (.inr e.symm))))
  · rintro k (hk | hk | hk | hk)
    · exact .inl (.inl hk)
    · exact .inl (.inr (.inl hk))
    · exact .inl (.inr (.inr (.inl hk)))
    · rcases hn1 k hk with h' | h'
      · exact .inl (.inr (.inr (.inr h')))
      · exact .inr h'
end

/-- Between the rounds that tell where a block is: X is where they began. -/
def RgI (X : World) (base tb mb : Nat) (m : Int) (A : Option Addr) (n c : Nat) (Bs : List (List V2)) (Ix : List Nat) (l : List V2 → Option Nat) (bx ib i : Nat) (O0 : Nat → Prop) (pre : List Nat) (O : Nat → Prop) (W : World) : Prop :=
  ∃ A2 n2 c2, Tr base tb mb m A n c Bs A2 n2 c2 (Ix ++ List.replicate pre.length i) l W ∧ S2 bx tb ib i W ∧ (∀ k, O k ↔ Ow tb mb A n c A2 n2 c2 k) ∧ (∀ k, O k → O0 k ∨ X.heap.size ≤ k) ∧ Turn O0 X W
/-- .. with the loop's number laid. -/
def RgM (X : World) (base tb mb : Nat) (m : Int) (A : Option Addr) (n c : Nat) (Bs : List (List V2)) (Ix : List Nat) (l : List V2 → Option Nat) (bx ib i : Nat) (O0 : Nat → Prop) (N : Nat) (act : Nat → Act) (x : List Nat × Nat × Act) (O : Nat → Prop) (W : World) : Prop :=
  RgI X base tb mb m A n c Bs Ix l bx ib i O0 x.1 O W ∧ upTo N x.1 x.2.1 ∧ x.2.2 = act x.2.1
section
variable {X : World} {base tb mb : Nat} {m : Int} {A : Option Addr} {n c : Nat} {Bs : List (List V2)} {Ix : List Nat} {l : List V2 → Option Nat} {bx ib i : Nat} {O0 : Nat → Prop} {N : Nat} {act : Nat → Act}
theorem RgI.bears (h1 : bx < X.heap.size) (h2 : ib < X.heap.size) : BearsO (RgI X base tb mb m A n c Bs Ix l bx ib i O0) X.heap.size := by
  rintro pre O V B row ⟨A2, n2, c2, t, s, o, o2, u⟩ hg hr
  refine ⟨A2, n2, c2, t.kept hg.size fun k hk => hg.block k (t.low k hk).2 fun e => (hr k e.symm).2 ((o k).2 hk), s.kept hg (fun e => by have := (hr _ e.symm).1; omega) (fun e => by have := (hr _ e.symm).1; omega), o, o2, ⟨hg.os.trans u.os, hg.tape.trans u.tape, hg.output.trans u.output, Nat.le_trans u.size hg.size, fun k hk ho => (hg.block k (Nat.lt_of_lt_of_le hk u.size) fun e => by have := (hr k e.symm).1; omega).trans (u.old k hk ho)⟩⟩
theorem RgM.bears (h1 : bx < X.heap.size) (h2 : ib < X.heap.size) : BearsO (RgM X base tb mb m A n c Bs Ix l bx ib i O0 N act) X.heap.size := by
  rintro ⟨pre, x, a'⟩ O V B row ⟨h, h3, h4⟩ hg hr
  exact ⟨RgI.bears h1 h2 _ _ _ _ _ h hg hr, h3, h4⟩
/-- A round's end. -/
theorem RgI.step {W W' : World} {pre : List Nat} {O : Nat → Prop} {x : Nat} {A2 A' : Option Addr} {n2 c2 c' : Nat} (t : Tr base tb mb m A n c Bs A2 n2 c2 (Ix ++ List.replicate pre.length i) l W) (o : ∀ k, O k ↔ Ow tb mb A n c A2 n2 c2 k) (o2 : ∀ k, O k → O0 k ∨ X.heap.size ≤ k) (u : Turn O0 X W)
    (h : Tr base tb mb m A n c Bs A' (n2 + 1) c' (Ix ++ List.replicate pre.length i ++ [i]) l W' ∧ Turn (Ow tb mb A n c A2 n2 c2) W W' ∧ ∀ k, Ow tb mb A n c A' (n2 + 1) c' k → Ow tb mb A n c A2 n2 c2 k ∨ W.heap.size ≤ k) (hs : S2 bx tb ib i W') :
    ∃ O', KeepO O O' W W' ∧ RgI X base tb mb m A n c Bs Ix l bx ib i O0 (pre ++ [x]) O' W' := by
  obtain ⟨t', v, e⟩ := h
  refine ⟨Ow tb mb A n c A' (n2 + 1) c', ⟨v.size, fun k hk ho => v.old k hk fun h => ho ((o k).2 h), fun k hk => (e k hk).imp (fun h => (o k).2 h) id, fun k hk => (t'.low k hk).2⟩, A', n2 + 1, c', ?_, hs, fun k => Iff.rfl, fun k hk => ?_, ?_⟩
  · rw [List.length_append, List.length_singleton, List.replicate_succ', ← List.append_assoc]
    exact t'
  · rcases e k hk with h | h
    · exact o2 k ((o k).2 h)
    · exact .inr (Nat.le_trans u.size h)
  · refine ⟨v.os.trans u.os, v.tape.trans u.tape, v.output.trans u.output, Nat.le_trans u.size v.size, fun k hk ho => (v.old k (Nat.lt_of_lt_of_le hk u.size) fun h => ?_).trans (u.old k hk ho)⟩
    rcases o2 k ((o k).2 h) with h' | h'
    · exact ho h'
    · omega
end
end Go.Proofs.YtggapcfjcdafpaaGreat.TP
