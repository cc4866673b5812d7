/- gap: a list's memory; copy and clear within it. -/
import Derived.Test.YtganehhcnflgaaaSl
import Derived.Laws.CopyOwn
import Derived.Lib.SliceRun
import Derived.Deep.RegionLaw
namespace Go.Proofs.Ytganehhcnflgaaa
open Go.RowKit
set_option linter.unusedVariables false
set_option linter.unusedSimpArgs false

def vI (z : Int) : Value := .int .i64 z
theorem vI_one (z : Int) : (vI z).oneCell' = true := rfl

/-- Behind a world: all blocks but those of S are as they were. -/
structure Chg (S : Nat → Prop) (w w' : World) : Prop where
  os : w'.os = w.os
  tape : w'.tape = w.tape
  output : w'.output = w.output
  size : w.heap.size ≤ w'.heap.size
  block : ∀ k, k < w.heap.size → ¬ S k → w'.heap[k]? = w.heap[k]?

theorem Chg.refl (S : Nat → Prop) (w : World) : Chg S w w := ⟨rfl, rfl, rfl, Nat.le_refl _, fun _ _ _ => rfl⟩
theorem Chg.trans {S : Nat → Prop} {w v x : World} (h : Chg S w v) (k : Chg S v x) : Chg S w x :=
  ⟨k.os.trans h.os, k.tape.trans h.tape, k.output.trans h.output, Nat.le_trans h.size k.size, fun j hj hs => (k.block j (Nat.lt_of_lt_of_le hj h.size) hs).trans (h.block j hj hs)⟩
theorem Chg.mono {S T : Nat → Prop} {w v : World} (h : Chg S w v) (hST : ∀ k, k < w.heap.size → S k → T k) : Chg T w v :=
  ⟨h.os, h.tape, h.output, h.size, fun j hj hs => h.block j hj (fun e => hs (hST j hj e))⟩
theorem Chg.of_grown {w v : World} {row : Option Nat} (h : w.grownBy v row) : Chg (fun k => some k = row) w v :=
  ⟨h.os, h.tape, h.output, h.size, fun j hj hs => h.block j hj hs⟩
theorem Chg.of_below {w v : World} {B : Nat} (h : Below B w v) : Chg (fun k => B ≤ k) w v :=
  ⟨h.os, h.tape, h.output, h.size, fun j hj hs => h.block j (by simp only [Nat.not_le] at hs; exact hs)⟩
theorem Chg.setCell {S : Nat → Prop} {w v : World} (h : Chg S w v) (g i : Nat) (hg : S g) (u : Value) : Chg S w (v.setCell ⟨g, i, none⟩ u) := by
  refine ⟨h.os, h.tape, h.output, by rw [World.size_setCell]; exact h.size, fun j hj hs => ?_⟩
  rw [← h.block j hj hs]
  exact Below.heap_setCell v ⟨g, i, none⟩ u j (fun e => hs (e ▸ hg))
theorem Chg.drewN {S : Nat → Prop} {w v : World} (h : Chg S w v) (q : Nat) : Chg S w (v.drewN q) := ⟨h.os, h.tape, h.output, h.size, h.block⟩
theorem Chg.below {S : Nat → Prop} {w v : World} {B : Nat} (h : Chg S w v) (hB : B ≤ w.heap.size) (hS : ∀ k, k < B → ¬ S k) : Below B w v :=
  ⟨h.os, h.tape, h.output, h.size, fun j hj => h.block j (by omega) (hS j hj)⟩

theorem Blk.chg {S : Nat → Prop} {w v : World} {g : Nat} {cs : Array Value} (h : Blk w g cs) (k : Chg S w v) (hs : ¬ S g) : Blk v g cs :=
  ⟨Nat.lt_of_lt_of_le h.1 k.size, fun j => (World.cell?_of_block (a := ⟨g, j, none⟩) (k.block g h.1 hs)).trans (h.2.1 j), fun j => (World.frozen?_of_block (a := ⟨g, j, none⟩) (k.block g h.1 hs)).trans (h.2.2 j)⟩

theorem Rd.chg {S : Nat → Prop} {w v : World} {A : Option Addr} {n : Nat} {f : Nat → Value} (h : Rd w A n f) (k : Chg S w v) (hs : ∀ b o, A = some ⟨b, o, none⟩ → ¬ S b) : Rd v A n f := by
  intro j hj
  obtain ⟨b, o, e, hl, hc⟩ := h j hj
  exact ⟨b, o, e, Nat.lt_of_lt_of_le hl k.size, (World.cell?_of_block (a := ⟨b, o + j, none⟩) (k.block b hl (hs b o e))).trans hc⟩

/-! ### A list's memory -/
/-- A row whose beginning is known, of room for C; or none. -/
def Mem (X : World) (B0 : Nat) (A : Option Addr) (C : Nat) (cur : List Int) : Prop :=
  (A = none ∧ C = 0 ∧ cur = []) ∨ ∃ b rest, A = some ⟨b, 0, none⟩ ∧ B0 ≤ b ∧ X.heap[b]? = some (.cells (cur.map vI ++ rest).toArray 3 (0, 0)) ∧ cur.length ≤ C

/-- The block of it. -/
def Own (A : Option Addr) (k : Nat) : Prop := A.map (·.block) = some k

theorem Mem.chg {S : Nat → Prop} {w v : World} {B0 C : Nat} {A : Option Addr} {cur : List Int} (h : Mem w B0 A C cur) (k : Chg S w v) (hs : ∀ b, Own A b → ¬ S b) : Mem v B0 A C cur := by
  rcases h with h | ⟨b, rest, rfl, h1, h2, h3⟩
  · exact .inl h
  · refine .inr ⟨b, rest, rfl, h1, ?_, h3⟩
    rw [k.block b (by rcases Nat.lt_or_ge b w.heap.size with h | h; (· exact h); (· rw [Array.getElem?_eq_none h] at h2; cases h2)) (hs b rfl)]
    exact h2

theorem Mem.lt {w : World} {B0 C : Nat} {A : Option Addr} {cur : List Int} (h : Mem w B0 A C cur) : ∀ b, Own A b → B0 ≤ b ∧ b < w.heap.size := by
  intro b hb
  rcases h with ⟨rfl, _⟩ | ⟨b', rest, rfl, h1, h2, h3⟩
  · simp [Own] at hb
  · simp [Own] at hb
    subst hb
    refine ⟨h1, ?_⟩
    rcases Nat.lt_or_ge b' w.heap.size with h | h
    · exact h
    · rw [Array.getElem?_eq_none h] at h2; cases h2

theorem Mem.cap {w : World} {B0 C : Nat} {A : Option Addr} {cur : List Int} (h : Mem w B0 A C cur) : cur.length ≤ C := by
  rcases h with ⟨_, rfl, rfl⟩ | ⟨b', rest, rfl, h1, h2, h3⟩
  · exact Nat.le_refl _
  · exact h3

theorem addr_at (b x : Nat) : (⟨b, 0, none⟩ : Addr).add x = ⟨b, x, none⟩ := by rw [Addr.add_lit, Nat.zero_add]

/-- Part of it, as a source. -/
theorem Mem.src {w : World} {B0 C : Nat} {A : Option Addr} {cur : List Int} (h : Mem w B0 A C cur) (x l : Nat) (hx : x + l ≤ cur.length) :
    0 < (((cur.drop x).take l).map vI).length → ∃ ad, A.map (·.add x) = some ad ∧ ∀ (j : Nat) (v : Value), (((cur.drop x).take l).map vI)[j]? = some v → w.cell? (ad.add j) = some v := by
  intro h0
  rcases h with ⟨_, _, rfl⟩ | ⟨b', rest, rfl, h1, h2, h3⟩
  · simp at h0
  · refine ⟨⟨b', x, none⟩, by rw [Option.map_some, addr_at], fun j v hv => ?_⟩
    rw [Addr.add_lit]
    simp only [List.getElem?_map, List.getElem?_take, List.getElem?_drop] at hv
    split at hv
    · have hlt : x + j < cur.length := by omega
      simp [World.cell?, h2]
      rw [List.getElem?_append_left (by simpa using hlt)]
      simpa [hlt] using hv
    · simp at hv

/-- A place of it. -/
theorem Mem.at_ {w : World} {B0 C : Nat} {A : Option Addr} {cur : List Int} (h : Mem w B0 A C cur) (x : Nat) (hx : x < cur.length) : ∃ b, A = some ⟨b, 0, none⟩ ∧ w.cell? ⟨b, x, none⟩ = some (vI (cur.getD x 0)) := by
  rcases h with ⟨_, _, rfl⟩ | ⟨b', rest, rfl, h1, h2, h3⟩
  · simp at hx
  · refine ⟨b', rfl, ?_⟩
    simp [World.cell?, h2]
    rw [List.getElem?_append_left (by simpa using hx)]
    simp [hx]

theorem splice_app (cur cs : List Int) (rest : List Value) (off : Nat) (h : off + cs.length ≤ cur.length) : splice (cur.map vI ++ rest) off (cs.map vI) = (splice cur off cs).map vI ++ rest := by
  unfold splice
  rw [List.take_append_of_le_length (by simp; omega), List.drop_append_of_le_length (by simp; omega)]
  simp

theorem map_splice (cur cs : List Int) (off : Nat) : (splice cur off cs).map vI = splice (cur.map vI) off (cs.map vI) := by
  unfold splice
  simp

theorem splice_nil (cur : List Int) (off : Nat) : splice cur off [] = cur := by simp [splice]

theorem splice_get {cur cs : List Int} {off j : Nat} (h : off + cs.length ≤ cur.length) : (splice cur off cs)[j]? = if j < off then cur[j]? else if j < off + cs.length then cs[j - off]? else cur[j]? := by
  unfold splice
  have e1 : (cur.take off).length = off := by simp; omega
  by_cases h1 : j < off
  · rw [if_pos h1, List.getElem?_append_left (by omega), List.getElem?_take, if_pos h1]
  · rw [if_neg h1, List.getElem?_append_right (by omega), e1]
    by_cases h2 : j < off + cs.length
    · rw [if_pos h2, List.getElem?_append_left (by omega)]
    · rw [if_neg h2, List.getElem?_append_right (by omega), List.getElem?_drop]
      congr 1
      omega

/-- What is known behind a copy, or a clear. -/
def Laid (w w' : World) (B0 : Nat) (A : Option Addr) (C : Nat) (cur : List Int) : Prop := Mem w' B0 A C cur ∧ Chg (Own A) w w'

theorem Laid.base {w w' : World} {B0 C : Nat} {A : Option Addr} {cur : List Int} (h : Laid w.drew w' B0 A C cur) : Laid w w' B0 A C cur := ⟨h.1, h.2.os, h.2.tape, h.2.output, h.2.size, h.2.block⟩

theorem laid_row {w : World} {B0 C b : Nat} {cur : List Int} {rest : List Value} (h1 : B0 ≤ b) (h2 : w.heap[b]? = some (.cells (cur.map vI ++ rest).toArray 3 (0, 0))) (h3 : cur.length ≤ C) (off : Nat) (cs : List Int) (hfit : off + cs.length ≤ cur.length) :
    Laid w (w.setRow b (splice (cur.map vI ++ rest) off (cs.map vI)).toArray) B0 (some ⟨b, 0, none⟩) C (splice cur off cs) := by
  refine ⟨.inr ⟨b, rest, rfl, h1, ?_, by rw [length_splice _ _ _ hfit]; exact h3⟩, rfl, rfl, rfl, by simp [World.setRow], fun k hk hs => setRow_other w b k _ (fun e => hs (by simp [Own, e]))⟩
  rw [← splice_app _ _ _ _ hfit]
  exact setRow_heap w b _ _ _ _ h2

/-- 'copy(dst, src)': dst lies in the list's memory. -/
theorem run_copy_mem {P : Program} {w : World} {t ty e : TypeId} {B0 C off dLen dCap sLen sCap : Nat} {A dp sp : Option Addr} {cur cs : List Int} (hu : P.underlying t = some (.slice e)) (hsz : (P.info? e).map (·.size) = some 1)
    (hM : Mem w B0 A C cur) (hn : cs.length = Nat.min sLen dLen)
    (hpos : 0 < cs.length → dp = A.map (·.add off) ∧ ∃ ad, sp = some ad ∧ ∀ (j : Nat) (v : Value), (cs.map vI)[j]? = some v → w.cell? (ad.add j) = some v) (hfit : off + cs.length ≤ cur.length) :
    ∃ w', (Builtin.copy_ #[t, t] ty #[.slice dp dLen dCap, .slice sp sLen sCap]).run P w = .ok (goInt cs.length) w' ∧ Laid w w' B0 A C (splice cur off cs) := by
  by_cases h0 : cs.length = 0
  · obtain rfl : cs = [] := List.eq_nil_of_length_eq_zero h0
    refine ⟨w, run_copy_none (P := P) w t t ty e dp sp dLen dCap sLen sCap hu hsz (by simpa using hn.symm), ?_⟩
    rw [splice_nil]
    exact ⟨hM, Chg.refl _ _⟩
  · obtain ⟨rfl, ad, rfl, hsrc⟩ := hpos (by omega)
    rcases hM with ⟨_, _, rfl⟩ | ⟨b, rest, rfl, h1, h2, h3⟩
    · rw [List.length_nil] at hfit; omega
    · have hrun := run_copy_row (P := P) w t t ty e b off dLen dCap ad sLen sCap (cur.map vI ++ rest).toArray _ (cs.map vI) hu hsz h2 (by simpa using hn) hsrc (by simp; omega) (by intro v hv; obtain ⟨z, _, rfl⟩ := List.mem_map.1 hv; rfl)
      refine ⟨_, by rw [Option.map_some, addr_at]; exact hrun.trans (by rw [List.length_map]), ?_⟩
      have := laid_row h1 h2 h3 off cs hfit
      unfold splice at this ⊢
      rw [← List.append_assoc, List.length_map] at this
      exact this

theorem step_copy_mem {P : Program} {ops : Array Oper} {o : Oper} {a : Act} {w : World} {K : Act → World → Prop} {Q : Exit → Act → World → Prop} {E : Prop} {d s : Operand} {t e : TypeId} {B0 C off dLen dCap sLen sCap : Nat} {A dp sp : Option Addr} {cur cs : List Int}
    (hgd : o.guard = none) (ho : o.op = .call { callee := .builtin .copy, args := #[d, s], argTypes := #[t, t] }) (hu : P.underlying t = some (.slice e)) (hsz : (P.info? e).map (·.size) = some 1)
    (hd : a.eval d = .slice dp dLen dCap) (hs : a.eval s = .slice sp sLen sCap) (hM : Mem w B0 A C cur) (hn : cs.length = Nat.min sLen dLen)
    (hpos : 0 < cs.length → dp = A.map (·.add off) ∧ ∃ ad, sp = some ad ∧ ∀ (j : Nat) (v : Value), (cs.map vI)[j]? = some v → w.cell? (ad.add j) = some v) (hfit : off + cs.length ≤ cur.length)
    (h : ∀ w', Hid (Laid w w' B0 A C (splice cur off cs)) → K (a.put o.dst (goInt cs.length)) w') : if Region.wanted o (yielded ops a.tmps) = true then Oper.wp P o a w K Q else E := by
  have hw : Region.wanted o (yielded ops a.tmps) = true := by simp [Region.wanted, hgd]
  rw [if_pos hw]
  obtain ⟨w', hrun, hl⟩ := run_copy_mem (ty := o.type) (dCap := dCap) (sCap := sCap) hu hsz hM hn hpos hfit
  unfold Oper.wp
  simp only [execOp, ho, resolve, invoke, builtin, Sem.run_bind, Sem.run_pure, Result.andThen_ok, List.map_toArray, List.map_cons, List.map_nil, hd, hs, hrun]
  exact h w' hl

theorem wpList_copy_mem {P : Program} {ops : Array Oper} {rest : List Oper} {o : Oper} {a : Act} {w : World} {Q : Exit → Act → World → Prop} {d s : Operand} {t e : TypeId} {B0 C off dLen dCap sLen sCap : Nat} {A dp sp : Option Addr} {cur cs : List Int}
    (hgd : o.guard = none) (ho : o.op = .call { callee := .builtin .copy, args := #[d, s], argTypes := #[t, t] }) (hu : P.underlying t = some (.slice e)) (hsz : (P.info? e).map (·.size) = some 1)
    (hd : a.eval d = .slice dp dLen dCap) (hs : a.eval s = .slice sp sLen sCap) (hM : Mem w B0 A C cur) (hn : cs.length = Nat.min sLen dLen)
    (hpos : 0 < cs.length → dp = A.map (·.add off) ∧ ∃ ad, sp = some ad ∧ ∀ (j : Nat) (v : Value), (cs.map vI)[j]? = some v → w.cell? (ad.add j) = some v) (hfit : off + cs.length ≤ cur.length)
    (h : ∀ w', Hid (Laid w w' B0 A C (splice cur off cs)) → wpList P ops Q rest (a.put o.dst (goInt cs.length)) w') : wpList P ops Q (o :: rest) a w := by
  refine wpList_plain hgd fun K hK => ?_
  obtain ⟨w', hrun, hl⟩ := run_copy_mem (ty := o.type) (dCap := dCap) (sCap := sCap) hu hsz hM hn hpos hfit
  unfold Oper.wp
  simp only [execOp, ho, resolve, invoke, builtin, Sem.run_bind, Sem.run_pure, Result.andThen_ok, List.map_toArray, List.map_cons, List.map_nil, hd, hs, hrun]
  exact hK _ _ (h w' hl)

theorem run_clear_none {P : Program} (w : World) (t e ty : TypeId) (ht : P.underlying t = some (.slice e)) (dp : Option Addr) (c : Nat) : (Builtin.clear_ #[t] ty #[.slice dp 0 c]).run P w = .ok (.tuple #[]) w := by
  cases dp <;> simp [Builtin.clear_, run_underlying ht]

theorem setCells_row {b : Nat} {t : TypeId} : ∀ (cs : List Value) (off : Nat) (w : World) (arr : Array Value), w.heap[b]? = some (.cells arr t (0, 0)) → off + cs.length ≤ arr.size →
    w.setCells b off cs = w.setRow b (arr.toList.take off ++ (cs ++ arr.toList.drop (off + cs.length))).toArray
  | [], off, w, arr, hg, h => by
    simp only [World.setCells, List.nil_append, List.length_nil, Nat.add_zero, List.take_append_drop, Array.toArray_toList]
    rw [setRow_self w b arr t (0, 0) hg]
  | v :: rest, off, w, arr, hg, h => by
    have hi : off < arr.size := by simp at h; omega
    simp only [World.setCells]
    rw [setCell_eq_setRow w b off arr t (0, 0) v hg, setCells_row rest (off + 1) _ (arr.setIfInBounds off v) (setRow_heap w b arr _ t _ hg) (by simp at h ⊢; omega), setRow_setRow]
    congr 2
    have e := list_seg_step arr.toList off v rest (by simp at h ⊢; omega)
    simpa [Array.toList_setIfInBounds, Nat.add_assoc, Nat.add_comm 1] using e

theorem run_clear_mem {P : Program} {w : World} {t ty e : TypeId} {B0 C off n c : Nat} {A dp : Option Addr} {cur : List Int} (hu : P.underlying t = some (.slice e)) (hz : ∀ w, (zeroValue e).run P w = .ok (vI 0) w)
    (hM : Mem w B0 A C cur) (hpos : 0 < n → dp = A.map (·.add off)) (hfit : off + n ≤ cur.length) :
    ∃ w', (Builtin.clear_ #[t] ty #[.slice dp n c]).run P w = .ok (.tuple #[]) w' ∧ Laid w w' B0 A C (splice cur off (List.replicate n 0)) := by
  by_cases h0 : n = 0
  · subst h0
    refine ⟨w, run_clear_none w t e ty hu dp c, ?_⟩
    rw [List.replicate_zero, splice_nil]
    exact ⟨hM, Chg.refl _ _⟩
  · obtain rfl := hpos (by omega)
    rcases hM with ⟨_, _, rfl⟩ | ⟨b, rest, rfl, h1, h2, h3⟩
    · rw [List.length_nil] at hfit; omega
    · have hrun := Go.Lib.run_clear_slice (P := P) w t e ty (vI 0) hu hz rfl rfl b off n c (by omega) (fun j hj => by
        simp [World.cell?, h2]; omega) (fun j hj => by simp [World.frozen?, h2])
      refine ⟨_, by rw [Option.map_some, addr_at]; exact hrun, ?_⟩
      rw [setCells_row _ _ _ _ h2 (by simp; omega)]
      have := laid_row h1 h2 h3 off (List.replicate n (0 : Int)) (by rw [List.length_replicate]; exact hfit)
      unfold splice at this ⊢
      simpa using this

theorem step_clear_mem {P : Program} {ops : Array Oper} {o : Oper} {a : Act} {w : World} {K : Act → World → Prop} {Q : Exit → Act → World → Prop} {E : Prop} {s : Operand} {t e : TypeId} {B0 C off n c : Nat} {A dp : Option Addr} {cur : List Int}
    (hgd : o.guard = none) (ho : o.op = .call { callee := .builtin .clear, args := #[s], argTypes := #[t] }) (hu : P.underlying t = some (.slice e)) (hz : ∀ w, (zeroValue e).run P w = .ok (vI 0) w)
    (hs : a.eval s = .slice dp n c) (hM : Mem w B0 A C cur) (hpos : 0 < n → dp = A.map (·.add off)) (hfit : off + n ≤ cur.length)
    (h : ∀ w', Hid (Laid w w' B0 A C (splice cur off (List.replicate n 0))) → K (a.put o.dst (.tuple #[])) w') : if Region.wanted o (yielded ops a.tmps) = true then Oper.wp P o a w K Q else E := by
  have hw : Region.wanted o (yielded ops a.tmps) = true := by simp [Region.wanted, hgd]
  rw [if_pos hw]
  obtain ⟨w', hrun, hl⟩ := run_clear_mem (ty := o.type) (c := c) hu hz hM hpos hfit
  unfold Oper.wp
  simp only [execOp, ho, resolve, invoke, builtin, Sem.run_bind, Sem.run_pure, Result.andThen_ok, List.map_toArray, List.map_cons, List.map_nil, hs, hrun]
  exact h w' hl

theorem wpList_clear_mem {P : Program} {ops : Array Oper} {rest : List Oper} {o : Oper} {a : Act} {w : World} {Q : Exit → Act → World → Prop} {s : Operand} {t e : TypeId} {B0 C off n c : Nat} {A dp : Option Addr} {cur : List Int}
    (hgd : o.guard = none) (ho : o.op = .call { callee := .builtin .clear, args := #[s], argTypes := #[t] }) (hu : P.underlying t = some (.slice e)) (hz : ∀ w, (zeroValue e).run P w = .ok (vI 0) w)
    (hs : a.eval s = .slice dp n c) (hM : Mem w B0 A C cur) (hpos : 0 < n → dp = A.map (·.add off)) (hfit : off + n ≤ cur.length)
    (h : ∀ w', Hid (Laid w w' B0 A C (splice cur off (List.replicate n 0))) → wpList P ops Q rest (a.put o.dst (.tuple #[])) w') : wpList P ops Q (o :: rest) a w := by
  refine wpList_plain hgd fun K hK => ?_
  obtain ⟨w', hrun, hl⟩ := run_clear_mem (ty := o.type) (c := c) hu hz hM hpos hfit
  unfold Oper.wp
  simp only [execOp, ho, resolve, invoke, builtin, Sem.run_bind, Sem.run_pure, Result.andThen_ok, List.map_toArray, List.map_cons, List.map_nil, hs, hrun]
  exact hK _ _ (h w' hl)
end Go.Proofs.Ytganehhcnflgaaa
