/- trie: what a trie that grows is in memory. -/
import Derived.Test.YtggapcfjcdafpaaGreatGb04
import Derived.Sort.BigQuietIn
import Derived.Sort.CutIn
import Derived.Deep.MidRow
import Derived.RangeFuncNested
import Derived.Maps.Views
import Derived.Maps.OwnSet
import Derived.DeepKeys4
import Derived.Test.YtggapcfjcdafpaaGreatGb03
namespace Go.Proofs.YtggapcfjcdafpaaGreat
open Go.RowKit Go.BigFrame
set_option linter.unusedVariables false
set_option linter.unusedSimpArgs false
attribute [local go_sem] Oper.semAt_some

/-- A region that draws its order and only reads, in a round. -/
theorem region_round_lit {F : Fence} {n : Nat} {P : Program} {L : List Oper} {Q : Exit → Act → World → Prop} (l : Nat) {id : Nat} {a : Act} {w : World} (hro : F.round = none) (hm : P.follows .mixedOrders = true) (hB : Region.lexB .any L.toArray = true) (hd : L.all (fun o => match o.op with | .defer _ => false | _ => true) = true)
    (h : wpQuietIn F n P L.toArray (fun w' => ∃ m, w' = w.drewN m) (fun a' => ∀ w', (∃ m, w' = w.drewN m) → Q .normal a' w') L a) : (Code.region id L.toArray true).wpIn (F.inRound l) n P Q a w :=
  region_round _ l hro hm hB hd ⟨1, rfl⟩ h

/-! ### pure -/
section
variable {lo m : Int} {P : List (Pc Int)} {g : Int → Int}
theorem tile_next (h : Tile lo m P) {a : Nat} {x y : Pc Int} (hx : P[a]? = some x) (hy : P[a + 1]? = some y) : y.f = x.t + 1 := by
  obtain ⟨h1, _, _⟩ := tile_at h hy
  obtain ⟨_, _, h2⟩ := tile_at h hx
  exact tile_uniq h1 h2
theorem tile_last (h : Tile lo m P) {a : Nat} {x : Pc Int} (hx : P[a]? = some x) (ha : P.length ≤ a + 1) : x.t + 1 = m := by
  obtain ⟨_, _, h2⟩ := tile_at h hx
  rw [List.take_of_length_le ha] at h2
  exact tile_uniq h2 h
theorem tile_first (h : Tile lo m P) {x : Pc Int} (hx : P[0]? = some x) : x.f = lo := by
  cases P with
  | nil => cases hx
  | cons p P => simp at hx; subst hx; exact h.1
/-- The value that block tells. -/
def bval (g : Int → Int) (m first : Int) (i : Nat) : Int := g (min (first + i) (m - 1))
theorem bval_is (h : Tile lo m P) (hV : Vals g P) {a i : Nat} {x : Pc Int} {first : Int} (hx : P[a]? = some x) (h1 : x.f ≤ first + i) (h2 : first + i ≤ x.t ∨ P.length ≤ a + 1) : bval g m first i = x.v := by
  have hb := tile_bd h (List.mem_of_getElem? hx)
  have hv := hV x (List.mem_of_getElem? hx)
  unfold bval
  rcases h2 with h2 | h2
  · exact hv _ (by omega) (by omega)
  · have := tile_last h hx h2
    exact hv _ (by omega) (by omega)
/-- What stands in block's array when k rounds are over. -/
def outC (g : Int → Int) (m first : Int) (k : Nat) : List Value := (List.range 128).map fun i => .int .i64 (if i < k then bval g m first i else 0)
theorem outC_len (g : Int → Int) (m first : Int) (k : Nat) : (outC g m first k).length = 128 := by simp [outC]
theorem outC_set (g : Int → Int) (m first : Int) (k : Nat) (hk : k < 128) : (outC g m first k).set k (.int .i64 (bval g m first k)) = outC g m first (k + 1) := by
  apply List.ext_getElem
  · simp [outC]
  · intro i h1 h2
    simp only [outC, List.getElem_set, List.getElem_map, List.getElem_range]
    by_cases e : k = i
    · subst e; rw [if_pos rfl, if_pos (Nat.lt_succ_self _)]
    · rw [if_neg e]
      by_cases h : i < k
      · rw [if_pos h, if_pos (by omega)]
      · rw [if_neg h, if_neg (by omega)]
theorem outC_zero (g : Int → Int) (m first : Int) : (outC g m first 0).toArray = Tryz.zeroCells124 := by
  unfold outC
  simp only [Nat.not_lt_zero, if_false]
  rfl
/-- A block's values. -/
def blk (g : Int → Int) (m first : Int) : List Int := (List.range 128).map (bval g m first)
theorem outC_all (g : Int → Int) (m first : Int) : outC g m first 128 = (blk g m first).map (.int .i64) := by
  unfold outC blk
  rw [List.map_map]
  apply List.map_congr_left
  intro i hi
  rw [if_pos (List.mem_range.1 hi)]
  rfl
end

theorem grow_set (w : World) (g j : Nat) (u : Value) : w.grownBy (w.setCell ⟨g, j, none⟩ u) (some g) :=
  ⟨rfl, rfl, rfl, by simp, fun k _ hne => Below.heap_setCell _ _ _ _ (by intro e; exact hne (by rw [e]))⟩
theorem Blk.same {w w' : World} {b : Nat} {cs : Array Value} (h : Blk w b cs) (e : w'.heap[b]? = w.heap[b]?) (hs : w.heap.size ≤ w'.heap.size) : Blk w' b cs :=
  ⟨Nat.lt_of_lt_of_le h.1 hs, fun j => (World.cell?_of_block (a := ⟨b, j, none⟩) e).trans (h.2.1 j), fun j => (World.frozen?_of_block (a := ⟨b, j, none⟩) e).trans (h.2.2 j)⟩

/-! ### what stands in memory -/
/-- What a round of block keeps: s is the first of its blocks, j the piece, k the round. -/
structure BlI (w : World) (A : Option Addr) (nn c : Nat) (first : Int) (j : Nat) (cs : List Value) (W : World) : Prop where
  pcs : Boxed W w.heap.size 80 (.slice A nn c)
  fst : Boxed W (w.heap.size + 1) 3 (.int .i64 first)
  res : Blk W (w.heap.size + 1 + 1) Tryz.zeroCells124
  out : Blk W (w.heap.size + 1 + 1 + 1) cs.toArray
  at_ : Boxed W (w.heap.size + 1 + 1 + 1 + 1) 3 (.int .i64 j)
  be : Below w.heap.size w W
section
variable {w W W' : World} {A : Option Addr} {nn c : Nat} {first : Int} {j : Nat} {cs : List Value}
theorem BlI.grown (h : BlI w A nn c first j cs W) {row : Option Nat} (hg : W.grownBy W' row) (hr : ∀ r, row = some r → w.heap.size + 1 + 1 + 1 + 1 < r) : BlI w A nn c first j cs W' := by
  have n : ∀ k, k ≤ w.heap.size + 1 + 1 + 1 + 1 → some k ≠ row := fun k hk e => by have := hr k e.symm; omega
  exact ⟨Boxed.kept h.pcs hg (n _ (by omega)), Boxed.kept h.fst hg (n _ (by omega)), Blk.same h.res (hg.block _ h.res.1 (n _ (by omega))) hg.size, Blk.same h.out (hg.block _ h.out.1 (n _ (by omega))) hg.size, Boxed.kept h.at_ hg (n _ (by omega)), h.be.grown hg h.be.size (fun k e => by have := hr k e; omega)⟩
theorem BlI.drewN (h : BlI w A nn c first j cs W) (m : Nat) : BlI w A nn c first j cs (W.drewN m) :=
  h.grown (row := none) ⟨rfl, rfl, rfl, Nat.le_refl _, fun _ _ _ => rfl⟩ (fun r e => by cases e)
theorem BlI.next (h : BlI w A nn c first j cs W) (i : Nat) : BlI w A nn c first i cs (W.setCell ⟨w.heap.size + 1 + 1 + 1 + 1, 0, none⟩ (.int .i64 i)) :=
  ⟨Boxed.other h.pcs (by omega) _, Boxed.other h.fst (by omega) _, Blk.far h.res (by show w.heap.size + 1 + 1 + 1 + 1 ≠ _; omega) _, Blk.far h.out (by show w.heap.size + 1 + 1 + 1 + 1 ≠ _; omega) _, Boxed.set _ h.at_, h.be.setCell (p := ⟨w.heap.size + 1 + 1 + 1 + 1, 0, none⟩) (by simp; omega) _⟩
theorem BlI.put (h : BlI w A nn c first j cs W) (i : Nat) (hi : i < cs.length) (v : Value) : BlI w A nn c first j (cs.set i v) (W.setCell ⟨w.heap.size + 1 + 1 + 1, i, none⟩ v) := by
  have hg := grow_set W (w.heap.size + 1 + 1 + 1) i v
  have hs := Blk.set_ h.out i (by simpa using hi) v
  exact ⟨Boxed.kept h.pcs hg (by simp; omega), Boxed.kept h.fst hg (by simp), Blk.same h.res (hg.block _ h.res.1 (by simp)) hg.size, by simpa using hs, Boxed.kept h.at_ hg (by simp), h.be.setCell (p := ⟨w.heap.size + 1 + 1 + 1, i, none⟩) (by simp; omega) _⟩
end
end Go.Proofs.YtggapcfjcdafpaaGreat

namespace Go.Proofs.YtggapcfjcdafpaaGreat
open Go.RowKit Go.BigFrame
set_option linter.unusedVariables false
set_option linter.unusedSimpArgs false
attribute [local go_sem] Oper.semAt_some

theorem opIn_load_mid {F : Fence} {m : Nat} {P : Program} {o : Oper} {a : Act} {w : World} {K : Act → World → Prop} {Q : Exit → Act → World → Prop} (ty : TypeId) (x : Operand) (ho : o.op = .load ty x)
    (b off : Nat) (hx : a.eval x = .pointer (some ⟨b, off, none⟩)) (cs : List Value) (d : TypeDesc) (hc : w.rangeAt b off cs)
    (hu : P.underlying ty = some d) (hd : d.isRow = true) (hi : (P.info? ty).map (·.size) = some cs.length)
    (h : K (a.put o.dst (.agg cs.toArray)) w) : Oper.wpIn F m P o a w K Q := by
  unfold Oper.wpIn
  refine ⟨by simp [Oper.about, ho], ?_⟩
  rw [Oper.semAt_plain F _ _ (by rw [ho]; intro c hc'; cases hc')]
  simp only [execOp, ho, hx, run_loadAt_mid w b off ty cs d hc hu hd hi, Sem.run_bind, Sem.run_pure, Result.andThen_ok]
  exact h
theorem opIn_store_mid {F : Fence} {m : Nat} {P : Program} {o : Oper} {a : Act} {w : World} {K : Act → World → Prop} {Q : Exit → Act → World → Prop} (ty : TypeId) (x y : Operand) (ho : o.op = .store ty x y)
    (b off : Nat) (cells : Array Value) (hx : a.eval x = .pointer (some ⟨b, off, none⟩)) (hy : a.eval y = .agg cells)
    (ht : w.there b off cells.size) (hi : (P.info? ty).map (·.size) = some cells.size) (h1 : cells.all (·.oneCell') = true)
    (h : K (a.put o.dst undef) (w.setCells b off cells.toList)) : Oper.wpIn F m P o a w K Q := by
  unfold Oper.wpIn
  refine ⟨by simp [Oper.about, ho], ?_⟩
  rw [Oper.semAt_plain F _ _ (by rw [ho]; intro c hc'; cases hc')]
  simp only [execOp, ho, hx, hy, run_storeAt_mid w b off ty cells ht hi h1, Sem.run_bind, Sem.run_pure, Result.andThen_ok]
  exact h

theorem outC_one (g : Int → Int) (m first : Int) (k : Nat) : ∀ v ∈ outC g m first k, v.oneCell' = true := by
  intro v hv
  unfold outC at hv
  obtain ⟨i, _, rfl⟩ := List.mem_map.1 hv
  rfl
theorem grow_setCells (b : Nat) : ∀ (vs : List Value) (o : Nat) (w : World), w.grownBy (w.setCells b o vs) (some b)
  | [], o, w => World.grownBy.refl _ _
  | v :: r, o, w => by
    rw [World.setCells]
    exact (grow_set w b o v).trans (grow_setCells b r (o + 1) _)
theorem results_cell_mid {P : Program} {fn : Func} {p : Tmp} {ty : TypeId} (h : fn.results = #[.cell p ty]) (tmps : Array Value) (w : World) (b o : Nat) (hp : tmps.getD p undef = .pointer (some ⟨b, o, none⟩)) (cs : List Value) (d : TypeDesc) (hc : w.rangeAt b o cs)
    (hu : P.underlying ty = some d) (hd : d.isRow = true) (hi : (P.info? ty).map (·.size) = some cs.length) : (results fn tmps).run P w = .ok (.agg cs.toArray) w := by
  have hp' : tmps[p]?.getD undef = .pointer (some ⟨b, o, none⟩) := by simpa using hp
  simp [results, h, hp', asAddr, run_loadVar_mid w b o ty cs d hc hu hd hi]

/-- The number that stands in a box. -/
def atOf (w : World) (b : Nat) : Nat := (intOf ((w.cell? ⟨b, 0, none⟩).getD undef)).toNat

/-- What block tells. -/
def TellsB (g : Int → Int) (m first : Int) (w : World) (e : Ending) (w' : World) : Prop := e = .returned (.agg ((blk g m first).map (.int .i64)).toArray) ∧ Below w.heap.size w w'

/-- .. between the rounds. -/
def BkI (w : World) (A : Option Addr) (c : Nat) (P : List (Pc Int)) (g : Int → Int) (m first : Int) (pre : List Nat) (O : Nat → Prop) (W : World) : Prop :=
  (∀ k, O k ↔ (k = w.heap.size + 1 + 1 + 1 ∨ k = w.heap.size + 1 + 1 + 1 + 1)) ∧ ∃ j x, P[j]? = some x ∧ x.f ≤ first + pre.length ∧ BlI w A P.length c first j (outC g m first pre.length) W
/-- .. with the loop's variable laid. -/
def BkM (w : World) (A : Option Addr) (c : Nat) (P : List (Pc Int)) (g : Int → Int) (m first : Int) (act : Nat → Act) (x : List Nat × Nat × Act) (O : Nat → Prop) (W : World) : Prop :=
  BkI w A c P g m first x.1 O W ∧ upTo 128 x.1 x.2.1 ∧ x.2.2 = act x.2.1
theorem BkI.bears {w : World} {A : Option Addr} {c : Nat} {P : List (Pc Int)} {g : Int → Int} {m first : Int} {b : Nat} (hb : w.heap.size + 1 + 1 + 1 + 1 < b) : BearsO (BkI w A c P g m first) b := by
  rintro pre O A' B row ⟨h1, j, x, h2, h3, h4⟩ hg hr
  exact ⟨h1, j, x, h2, h3, h4.grown hg fun r e => by have := (hr r e).1; omega⟩
theorem BkM.bears {w : World} {A : Option Addr} {c : Nat} {P : List (Pc Int)} {g : Int → Int} {m first : Int} {act : Nat → Act} {b : Nat} (hb : w.heap.size + 1 + 1 + 1 + 1 < b) : BearsO (BkM w A c P g m first act) b := by
  rintro ⟨pre, x, a'⟩ O A' B row ⟨h, h2, h3⟩ hg hr
  exact ⟨BkI.bears hb _ _ _ _ _ h hg hr, h2, h3⟩

/-- A round's end. -/
theorem blk_round {w W wr : World} {A : Option Addr} {c j x : Nat} {P : List (Pc Int)} {g : Int → Int} {lo m first : Int} {y : Pc Int} {O : Nat → Prop} (hT : Tile lo m P)
    (hI : P[j]? = some y ∧ BlI w A P.length c first j (outC g m first x) wr ∧ wr.heap.size = W.heap.size ∧ ∀ k, k ≠ w.heap.size + 1 + 1 + 1 + 1 → wr.heap[k]? = W.heap[k]?) (hyf : y.f ≤ first + x)
    (hO : ∀ k, O k ↔ (k = w.heap.size + 1 + 1 + 1 ∨ k = w.heap.size + 1 + 1 + 1 + 1)) (hs : wr.heap.size = W.heap.size) (hv : bval g m first x = y.v) (hx : x < 128) (hlt : ∀ k, O k → k < W.heap.size) (nq : Nat) :
    ∃ O', KeepO O O' W ((wr.drewN nq).setCell ⟨w.heap.size + 1 + 1 + 1, x, none⟩ (.int .i64 y.v)) ∧ BkI w A c P g m first (List.range x ++ [x]) O' ((wr.drewN nq).setCell ⟨w.heap.size + 1 + 1 + 1, x, none⟩ (.int .i64 y.v)) := by
  obtain ⟨h1, h2, _, h4⟩ := hI
  refine ⟨O, ⟨by simp [hs], fun k hk ho => ?_, fun k hk => .inl hk, fun k hk => by have := hlt k hk; simp; omega⟩, hO, j, y, h1, by simp; omega, ?_⟩
  · have n1 : k ≠ w.heap.size + 1 + 1 + 1 := fun e => ho ((hO k).2 (.inl e))
    have n2 : k ≠ w.heap.size + 1 + 1 + 1 + 1 := fun e => ho ((hO k).2 (.inr e))
    exact (Below.heap_setCell _ _ _ _ n1).trans (h4 k n2)
  · have := (h2.drewN nq).put x (by rw [outC_len]; exact hx) (.int .i64 (bval g m first x))
    rw [outC_set _ _ _ _ hx, hv] at this
    rw [← List.range_succ, List.length_range]
    exact this

set_option maxRecDepth 100000 in
set_option maxHeartbeats 4000000 in
theorem block_in (A : Option Addr) (c : Nat) (P : List (Pc Int)) (g : Int → Int) (lo m first : Int) (w : World) (hLi : Li 3 encP w (fun _ => True) A P) (hT : Tile lo m P) (hV : Vals g P) (hne : 0 < P.length) (hlen : P.length ≤ 100000) (hcl : P.length ≤ c) (hf0 : 0 ≤ first) (hf : lo ≤ first) (hm : first < m) (hm2 : m ≤ 10000000) :
    CallsIn Fence.wide 5 Tryz.prog 88 #[.slice A P.length c, .int .i64 first] w (TellsB g m first w) := by
  have hro : Fence.wide.round = none := rfl
  have h1 : 1 ≤ 5 := by omega
  obtain ⟨p0, b, o, hp0, rfl, hb, _⟩ := hLi.piece hne
  have HL := Lib.hid hLi
  have HP0 := Lib.hid hp0
  have HT := Lib.hid (And.intro hT hV)
  clear hLi hp0 hT hV
  refine callsIn_of_wp_marks Tryz.func88 rfl trivial ?_ hro
  simp only [Tryz.ntmps88, List.size_toArray, List.length_cons, List.length_nil, Nat.reduceAdd, Nat.reduceSub, Array.replicate_succ, Array.replicate_zero, List.push_toArray, List.append_toArray, List.nil_append, List.cons_append]
  gi_wp2_with fail
  refine ⟨trivial, ?_⟩
  refine (numbers_in Fence.wide 4 trivial hro _ _ _).mono ?_
  rintro e w' ⟨rfl, rfl⟩
  have q0 := Boxed.new w 80 (.slice (some ⟨b, o, none⟩) P.length c)
  have q1 := Boxed.new (w.alloc (.cells #[.slice (some ⟨b, o, none⟩) P.length c] 80)) 3 (.int .i64 first)
  have q2 := blk_new ((w.alloc (.cells #[.slice (some ⟨b, o, none⟩) P.length c] 80)).alloc (.cells #[.int .i64 first] 3)) Tryz.zeroCells124 124
  have q3 := blk_new (((w.alloc (.cells #[.slice (some ⟨b, o, none⟩) P.length c] 80)).alloc (.cells #[.int .i64 first] 3)).alloc (.cells Tryz.zeroCells124 124)) Tryz.zeroCells124 124
  have q4 := Boxed.new ((((w.alloc (.cells #[.slice (some ⟨b, o, none⟩) P.length c] 80)).alloc (.cells #[.int .i64 first] 3)).alloc (.cells Tryz.zeroCells124 124)).alloc (.cells Tryz.zeroCells124 124)) 3 (.int .i64 0)
  simp only [World.size_alloc] at q1 q2 q3 q4 ⊢
  obtain ⟨Y, hY⟩ : ∃ Y, (((((w.alloc (.cells #[.slice (some ⟨b, o, none⟩) P.length c] 80)).alloc (.cells #[.int .i64 first] 3)).alloc (.cells Tryz.zeroCells124 124)).alloc (.cells Tryz.zeroCells124 124)).alloc (.cells #[.int .i64 0] 3)) = Y := ⟨_, rfl⟩
  have hYs : Y.heap.size = w.heap.size + 1 + 1 + 1 + 1 + 1 := by rw [← hY]; simp
  have hYI : BlI w (some ⟨b, o, none⟩) P.length c first (0 : Nat) (outC g m first 0) Y := by
    rw [← hY]
    exact ⟨(((q0.alloc _).alloc _).alloc _).alloc _, ((q1.alloc _).alloc _).alloc _, (q2.alloc _).alloc _, by rw [outC_zero]; exact q3.alloc _, q4, belPush (belPush (belPush (belPush (belAlloc _ _) _) _) _) _⟩
  clear q0 q1 q2 q3 q4
  rw [hY]
  clear hY
  obtain ⟨X, hX⟩ : ∃ X, (Y.alloc (.cells #[.int .i64 0] 3)).alloc (.cells #[.int .i64 128] 3) = X := ⟨_, rfl⟩
  have hXs : X.heap.size = w.heap.size + 1 + 1 + 1 + 1 + 1 + 1 + 1 := by rw [← hX]; simp [hYs]
  have hXg : Y.grownBy X none := by rw [← hX]; exact (World.grownBy_alloc _ _ _).trans (World.grownBy_alloc _ _ _)
  have c1 : X.cell? ⟨w.heap.size + 1 + 1 + 1 + 1 + 1, 0, none⟩ = some (.int .i64 0) := by
    have := (Boxed.new Y 3 (.int .i64 0)).alloc (.cells #[.int .i64 128] 3)
    rw [hX, hYs] at this
    exact this.cell
  have c2 : X.cell? ⟨w.heap.size + 1 + 1 + 1 + 1 + 1 + 1, 0, none⟩ = some (.int .i64 128) := by
    have := Boxed.new (Y.alloc (.cells #[.int .i64 0] 3)) 3 (.int .i64 128)
    rw [hX, World.size_alloc, hYs] at this
    exact this.cell
  have hXI := hYI.grown hXg (fun r e => by cases e)
  rw [hX]
  clear hX hXg hYI hYs
  have HX := Lib.hid hXI
  have hbe := hXI.be.size
  clear hXI
  gi_wp2_with fail
  refine wpIn_rangeBox hro h1 (gf := 102) (lb := #[.pointer (some ⟨w.heap.size + 1 + 1 + 1 + 1 + 1, 0, none⟩), .pointer (some ⟨w.heap.size + 1 + 1 + 1 + 1 + 1 + 1, 0, none⟩)]) rfl trivial (enters_of Tryz.func102 (by kernel_rfl) rfl)
    (numbers_seq Fence.wide (5 - 1) trivial hro (by omega) (w.heap.size + 1 + 1 + 1 + 1 + 1) (w.heap.size + 1 + 1 + 1 + 1 + 1 + 1) 0 128 (by omega) (by omega) X (by omega) (by omega) c1 c2) (fun _ => rfl)
    (fun k => k = w.heap.size + 1 + 1 + 1 ∨ k = w.heap.size + 1 + 1 + 1 + 1) ?hO (BkI w (some ⟨b, o, none⟩) c P g m first) (BkM w (some ⟨b, o, none⟩) c P g m first fun x => { tmps := #[.slice (some ⟨b, o, none⟩) P.length c, .int .i64 first,
      .pointer (some ⟨w.heap.size, 0, none⟩), .pointer (some ⟨w.heap.size + 1, 0, none⟩), .pointer (some ⟨w.heap.size + 1 + 1, 0, none⟩), .pointer (some ⟨w.heap.size + 1 + 1 + 1, 0, none⟩), .pointer (some ⟨w.heap.size + 1 + 1 + 1 + 1, 0, none⟩), .int .i64 (x : Int),
      .func (.func 102) #[] #[.pointer (some ⟨w.heap.size + 1 + 1 + 1 + 1 + 1, 0, none⟩), .pointer (some ⟨w.heap.size + 1 + 1 + 1 + 1 + 1 + 1, 0, none⟩)], .int .i64 (x : Int),
      undef, undef, undef, undef, undef, undef, undef, undef, undef, undef, undef, undef, undef, undef, undef, undef, undef, undef, undef, undef, undef, undef, undef, undef, undef, undef], defers := [] })
    (BkI.bears (by omega)) (BkM.bears (by omega)) ?start ?assign ?body ?done
  case hO =>
    rintro k (rfl | rfl)
    · exact ⟨by omega, by rintro (h | h) <;> omega⟩
    · exact ⟨by omega, by rintro (h | h) <;> omega⟩
  case start => exact ⟨fun _ => Iff.rfl, 0, p0, HP0.out, by have := tile_first HT.out.1 HP0.out; simp; omega, HX.out⟩
  case assign =>
    rintro l pre O x W hI hO hN
    simp only [encNum, Int.zero_add]
    gi_wp2
    exact ⟨World.grownBy.refl _ _, O, fun k h => .inl h, hO, hI, hN, rfl⟩
  case body =>
    rintro l pre O x a' W ⟨⟨hO, j, y, hy, hyf, hI⟩, ⟨hpre, hx⟩, hact⟩ hWs hlt
    dsimp only at hI hpre hx hact hyf
    subst hact
    subst hpre
    rw [List.length_range] at hyf hI
    have HI0 := Lib.hid hI
    have HO := Lib.hid hO
    have HY := Lib.hid hy
    clear hI hO hy
    have hx2 : (x : Int) < 128 := by omega
    have hx3 : (0 : Int) ≤ (x : Int) := by omega
    gi_wp2_with fail
    gi_loopw [] (fun wr => ∃ j y, Hid (P[j]? = some y ∧ BlI w (some ⟨b, o, none⟩) P.length c first j (outC g m first x) wr ∧ wr.heap.size = W.heap.size ∧ ∀ k, k ≠ w.heap.size + 1 + 1 + 1 + 1 → wr.heap[k]? = W.heap[k]?) ∧ y.f ≤ first + x) (fun wr => P.length - atOf wr (w.heap.size + 1 + 1 + 1 + 1))
    case atStart => exact ⟨j, y, Lib.hid ⟨HY.out, HI0.out, rfl, fun _ _ => rfl⟩, hyf⟩
    case round =>
      clear hyf HI0 HY
      obtain ⟨j, y, HI, hyf⟩ := hrel
      have hj : j < P.length := (List.getElem?_eq_some_iff.1 HI.out.1).1
      have hsz := HI.out.2.2.1
      have e0 := Boxed.cell HI.out.2.1.pcs
      have e1 := Boxed.cell HI.out.2.1.fst
      have e4 := Boxed.cell HI.out.2.1.at_
      have f4 := Boxed.frozen HI.out.2.1.at_
      obtain ⟨y', b', o', hy', e, _, _, c0, c1', c2'⟩ := (HL.out.later HI.out.2.1.be).piece hj
      injection e with e
      injection e with e e'
      subst e; subst e'
      obtain rfl : y' = y := Option.some.inj (hy'.symm.trans HI.out.1)
      clear hy' c0
      have hat : atOf wr (w.heap.size + 1 + 1 + 1 + 1) = j := by unfold atOf; rw [e4]; rfl
      have hb2 : b < wr.heap.size := Nat.lt_of_lt_of_le hb HI.out.2.1.be.size
      have hbd := tile_bd HT.out.1 (List.mem_of_getElem? HI.out.1)
      have i0 : (0 : Int) ≤ (j : Int) := by omega
      have i1 : (j : Int) < (P.length : Int) := by omega
      have i2 : (j : Int) + 1 ≤ 100001 := by omega
      have i3 : first + (x : Int) ≤ 10000128 := by omega
      have i4 : 0 ≤ first + (x : Int) := by omega
      have v1 : IntKind.i64.wrap (first + (x : Int)) = first + (x : Int) := IntWalk.i64_in _ (by omega)
      have v2 : IntKind.i64.wrap ((j : Int) + 1) = (j : Int) + 1 := IntWalk.i64_in _ (by omega)
      by_cases hgt : y'.t < first + (x : Int)
      · have d1 : decide (y'.t < first + (x : Int)) = true := decide_eq_true hgt
        by_cases hmore : j + 1 < P.length
        · have d2 : decide ((j : Int) + 1 < (P.length : Int)) = true := decide_eq_true (by omega)
          gi_upto_region 5 with fail
          refine region_round_lit l rfl (by kernel_rfl) (by kernel_rfl) (by kernel_rfl) ?_
          repeat (gi_big_quiet_step (fail))
          refine wpQuietIn_nil ?_
          rintro _ ⟨nq, rfl⟩
          gi_wp2_with fail
          go_roundw
          case rel =>
            have hnx : P[j + 1]? = some P[j + 1] := List.getElem?_eq_getElem hmore
            have hn2 := tile_next HT.out.1 HI.out.1 hnx
            refine ⟨j + 1, _, Lib.hid ⟨hnx, (HI.out.2.1.drewN nq).next (j + 1), by simpa using hsz, fun k hk => (Below.heap_setCell _ _ _ _ hk).trans (HI.out.2.2.2 k hk)⟩, by omega⟩
          case measure =>
            rw [hat]
            have := Boxed.cell ((HI.out.2.1.drewN nq).next (j + 1)).at_
            have h2 : atOf ((wr.drewN nq).setCell ⟨w.heap.size + 1 + 1 + 1 + 1, 0, none⟩ (.int .i64 ((j + 1 : Nat) : Int))) (w.heap.size + 1 + 1 + 1 + 1) = j + 1 := by unfold atOf; rw [this]; rfl
            first | (rw [h2]; omega) | (have h3 := h2; push_cast at h3; rw [h3]; omega)
        · have d2 : decide ((j : Int) + 1 < (P.length : Int)) = false := decide_eq_false (by omega)
          have hy0 := outC_len g m first x
          have o3 : wr.cell? ⟨w.heap.size + 1 + 1 + 1, x, none⟩ = some (.int .i64 0) := by
            rw [HI.out.2.1.out.2.1 x]
            simp [outC, hx]
          have f3 := HI.out.2.1.out.2.2 x
          have HV := Lib.hid (bval_is HT.out.1 HT.out.2 HI.out.1 hyf (.inr (by omega)))
          gi_upto_region 5 with fail
          refine region_round_lit l rfl (by kernel_rfl) (by kernel_rfl) (by kernel_rfl) ?_
          repeat (gi_big_quiet_step (fail))
          refine wpQuietIn_nil ?_
          rintro _ ⟨nq, rfl⟩
          gi_wp2_with fail
          exact blk_round HT.out.1 HI.out hyf HO.out hsz HV.out hx (fun k hk => hlt k hk) nq
      · have d1 : decide (y'.t < first + (x : Int)) = false := decide_eq_false hgt
        have hy0 := outC_len g m first x
        have o3 : wr.cell? ⟨w.heap.size + 1 + 1 + 1, x, none⟩ = some (.int .i64 0) := by
          rw [HI.out.2.1.out.2.1 x]
          simp [outC, hx]
        have f3 := HI.out.2.1.out.2.2 x
        have HV := Lib.hid (bval_is HT.out.1 HT.out.2 HI.out.1 hyf (.inl (by omega)))
        gi_upto_region 5 with fail
        refine region_round_lit l rfl (by kernel_rfl) (by kernel_rfl) (by kernel_rfl) ?_
        repeat (gi_big_quiet_step (fail))
        refine wpQuietIn_nil ?_
        rintro _ ⟨nq, rfl⟩
        gi_wp2_with fail
        exact blk_round HT.out.1 HI.out hyf HO.out hsz HV.out hx (fun k hk => hlt k hk) nq
  case done =>
    rintro xs O W rfl ⟨hO, j, y, _, _, hI⟩ hK hn
    gi_upto_region 8 with fail
    have hlen128 := outC_len g m first 128
    rw [List.length_range] at hI
    have r3 : W.rangeAt (w.heap.size + 1 + 1 + 1) 0 (outC g m first 128) := fun i v hv => by
      rw [Nat.zero_add, hI.out.2.1 i]
      simpa using hv
    apply wpIn_region_lit
    refine wpListIn_plain rfl fun K2 hK2 => ?_
    refine opIn_load_mid 124 (Operand.tmp 5) rfl (w.heap.size + 1 + 1 + 1) 0 rfl (outC g m first 128) _ r3 Tryz.underlying124 rfl (by rw [hlen128]; kernel_rfl) ?_
    refine hK2 _ _ ?_
    clear hK2 K2
    refine wpListIn_plain rfl fun K2 hK2 => ?_
    refine opIn_store_mid 124 (Operand.tmp 4) (Operand.tmp 35) rfl (w.heap.size + 1 + 1) 0 (outC g m first 128).toArray rfl rfl ?there (by rw [List.size_toArray, hlen128]; kernel_rfl) ?one ?_
    case there =>
      intro i hi
      rw [List.size_toArray, hlen128] at hi
      rw [Nat.zero_add]
      exact ⟨by rw [hI.res.2.1 i, Array.getElem?_eq_getElem (by have : (Tryz.zeroCells124).size = 128 := by kernel_rfl
                                                                omega)]; rfl, hI.res.2.2 i⟩
    case one => exact all_oneCell_toArray (outC_one g m first 128)
    refine hK2 _ _ ?_
    clear hK2 K2
    apply wpListIn_nil
    have hth : W.there (w.heap.size + 1 + 1) 0 (outC g m first 128).length := by
      intro i hi
      rw [hlen128] at hi
      rw [Nat.zero_add]
      exact ⟨by rw [hI.res.2.1 i, Array.getElem?_eq_getElem (by have : (Tryz.zeroCells124).size = 128 := by kernel_rfl
                                                                omega)]; rfl, hI.res.2.2 i⟩
    have r4 := W.rangeAt_setCells_same (w.heap.size + 1 + 1) 0 (outC g m first 128) hth
    have hg4 := grow_setCells (w.heap.size + 1 + 1) (outC g m first 128) 0 W
    have hK4 := (hg4.block X.heap.size (Array.getElem?_eq_some_iff.1 hK).1 (by intro e; injection e with e; omega)).trans hK
    have hb4 := hI.be.grown hg4 hI.be.size (fun k e => by cases e; omega)
    obtain ⟨V, hV⟩ : ∃ V, W.setCells (w.heap.size + 1 + 1) 0 (outC g m first 128) = V := ⟨_, rfl⟩
    rw [hV] at r4 hg4 hK4 hb4
    have hg5 := grownBy_putObj' V X.heap.size (.deferred none)
    have r5 : (V.putObj X.heap.size (.deferred none)).rangeAt (w.heap.size + 1 + 1) 0 (outC g m first 128) := fun i v hv => (World.cell?_of_block (a := ⟨w.heap.size + 1 + 1, 0 + i, none⟩) (hg5.block _ (World.block_lt_of_cell? V _ (r4 i v hv)) (by intro e; injection e with e; have e' : w.heap.size + 1 + 1 = X.heap.size := e; omega))).trans (r4 i v hv)
    gi_wp2
    rw [hV]
    refine ⟨by simp, .inl ⟨_, _, rfl, run_takeDeferred hK4, ?_⟩⟩
    refine ⟨.agg (outC g m first 128).toArray, results_cell_mid rfl _ _ (w.heap.size + 1 + 1) 0 rfl _ _ r5 Tryz.underlying124 rfl (by rw [hlen128]; kernel_rfl), by rw [outC_all], ?_⟩
    exact hb4.grown hg5 hb4.size (fun k e => by cases e; omega)
theorem block_any (A : Option Addr) (c : Nat) (P : List (Pc Int)) (g : Int → Int) (lo m first : Int) (w : World) (hLi : Li 3 encP w (fun _ => True) A P) (hT : Tile lo m P) (hV : Vals g P) (hne : 0 < P.length) (hlen : P.length ≤ 100000) (hcl : P.length ≤ c) (hf0 : 0 ≤ first) (hf : lo ≤ first) (hm : first < m) (hm2 : m ≤ 10000000) :
    Calls Tryz.prog 88 #[.slice A P.length c, .int .i64 first] w (TellsB g m first w) :=
  (callsIn_wide (n := 5)).1 (block_in A c P g lo m first w hLi hT hV hne hlen hcl hf0 hf hm hm2)
end Go.Proofs.YtggapcfjcdafpaaGreat

namespace Go.Proofs.YtggapcfjcdafpaaGreat
open Go.RowKit Go.Maps
set_option linter.unusedVariables false
set_option linter.unusedSimpArgs false

/-- A block's value. -/
def cellsB (B : List Int) : List Value := B.map (.int .i64)
abbrev bv (B : List Int) : Value := .agg (cellsB B).toArray
theorem cellsB_len (B : List Int) : (cellsB B).length = B.length := by simp [cellsB]
theorem cellsB_inj {A B : List Int} (h : cellsB A = cellsB B) : A = B := by
  induction A generalizing B with
  | nil => cases B with
    | nil => rfl
    | cons b B => simp [cellsB] at h
  | cons a A ih => cases B with
    | nil => simp [cellsB] at h
    | cons b B =>
      simp only [cellsB, List.map_cons, List.cons.injEq, Value.int.injEq, true_and] at h
      rw [h.1, ih h.2]
theorem bv_inj {A B : List Int} (h : bv A = bv B) : A = B := by
  injection h with h
  have := congrArg Array.toList h
  exact cellsB_inj (by simpa using this)
/-- A block is as long as it is to be, and its numbers are ints. -/
def WfB (B : List Int) : Prop := B.length = 128 ∧ ∀ x ∈ B, (Lit.int .i64 x).wf = true

theorem laidOutP : laidOutB Tryz.prog = true := by kernel_rfl
theorem law : Keyed Tryz.prog 124 := Keyed.of_law (deep_law_laid laidOutP (m := 2) (by omega) (of_decide_eq_true (by kernel_rfl)) (by kernel_rfl) (by rw [Tryz.underlying124]))

theorem mapM_some {α β : Type} {f : α → Option β} : ∀ (l : List α), (∀ i ∈ l, ∃ y, f i = some y) → ∃ ys, l.mapM f = some ys
  | [], _ => ⟨[], rfl⟩
  | a :: l, h => by
    obtain ⟨y, hy⟩ := h a (by simp)
    obtain ⟨ys, hys⟩ := mapM_some l fun i hi => h i (by simp [hi])
    exact ⟨y :: ys, by simp [List.mapM_cons, hy, hys]⟩

theorem key_of (B : List Int) (h : WfB B) : ∃ kl, keyOf Tryz.prog 124 (bv B) = some kl := by
  obtain ⟨h1, h2⟩ := h
  have hpos : 0 < Tryz.prog.types.size := of_decide_eq_true (by kernel_rfl)
  obtain ⟨d, hd⟩ : ∃ d, Tryz.prog.types.size + 1 = d + 1 + 1 := ⟨Tryz.prog.types.size - 1, by omega⟩
  have kt : Tryz.prog.keyType 124 = true := by kernel_rfl
  have c1 : Tryz.prog.cellsOf 3 = 1 := by kernel_rfl
  have c4 : Tryz.prog.cellsOf 124 = 128 := by kernel_rfl
  have hl : (cellsB B).length = 128 := by rw [cellsB_len, h1]
  obtain ⟨ys, hys⟩ := mapM_some (f := fun i => Tryz.prog.keyLits (d + 1) 3 (((cellsB B).drop (i * 1)).take 1)) (List.range 128) (by
    intro i hi
    have hi := List.mem_range.1 hi
    have hi2 : i < B.length := by omega
    have e : ((cellsB B).drop (i * 1)).take 1 = [.int .i64 B[i]] := by
      rw [Nat.mul_one, List.drop_eq_getElem_cons (by rw [hl]; exact hi)]
      simp [cellsB]
    refine ⟨[.int .i64 B[i]], ?_⟩
    rw [e]
    unfold Program.keyLits
    rw [Tryz.underlying3]
    simp only [h2 _ (List.getElem_mem hi2), and_self, if_true])
  unfold keyOf
  rw [Tryz.underlying124, hd]
  have hf : (bv B).formed Tryz.prog 124 = true := by
    simp only [bv, Value.formed, Tryz.underlying124, c4, List.size_toArray, hl, BEq.rfl]
  simp only [kt, hf, Bool.and_self, if_true]
  have hk : Tryz.prog.keyLits (d + 1 + 1) 124 (bv B).cells.toList = some ys.flatten := by
    unfold Program.keyLits
    rw [Tryz.underlying124]
    simp only [bv, Value.cells, c1, c4, hl, if_true, hys, Option.map_some]
  rw [hk]
  exact ⟨_, rfl⟩

noncomputable abbrev el : Value → Option (DataW Unit × List MemPlace) := plainElem Tryz.prog 21
/-- A map of blocks tells what l tells. -/
def Kn (w : World) (b n : Nat) (l : List Int → Option Nat) : Prop := ∃ D, w.ownsMap Tryz.prog 124 el b n D ∧
  ∀ B kl, keyOf Tryz.prog 124 (bv B) = some kl → D.atKey kl (.lit (.int .i32 0)) = .lit (.int .i32 ((l B).getD 0 : Nat)) ∧ Maps.has D kl = (l B).isSome
/-- One block more. -/
def also (l : List Int → Option Nat) (B : List Int) (i : Nat) : List Int → Option Nat := fun X => if B = X then some i else l X
theorem Kn.kept {w w' : World} {b n : Nat} {l : List Int → Option Nat} {row : Option Nat} (h : Kn w b n l) (hg : w.grownBy w' row) (hne : some b ≠ row) : Kn w' b n l := by
  obtain ⟨D, h1, h2⟩ := h
  exact ⟨D, h1.kept hg hne, h2⟩
theorem Kn.lt {w : World} {b n : Nat} {l : List Int → Option Nat} (h : Kn w b n l) : b < w.heap.size := h.choose_spec.1.lt
theorem Kn.later {w w' : World} {b n B : Nat} {l : List Int → Option Nat} (h : Kn w b n l) (hb : Below B w w') (hB : b < B) : Kn w' b n l := by
  obtain ⟨D, ⟨es, clock, hh, F, hs, hD⟩, h2⟩ := h
  exact ⟨D, ⟨es, clock, (hb.block _ hB).trans hh, F, hs, hD⟩, h2⟩
theorem Kn.made (w : World) : Kn (w.alloc (.map #[] 0)) w.heap.size 0 (fun _ => none) :=
  ⟨_, World.ownsMap_made w _ _ _, fun B kl _ => ⟨rfl, rfl⟩⟩
theorem Kn.put {w : World} {b n : Nat} {l : List Int → Option Nat} {D : DataW Unit} (hown : w.ownsMap Tryz.prog 124 el b n D) (h : ∀ B kl, keyOf Tryz.prog 124 (bv B) = some kl → D.atKey kl (.lit (.int .i32 0)) = .lit (.int .i32 ((l B).getD 0 : Nat)) ∧ Maps.has D kl = (l B).isSome)
    {w' : World} {B : List Int} {i : Nat} {kl : Lit} (hk : keyOf Tryz.prog 124 (bv B) = some kl) (hown' : w'.ownsMap Tryz.prog 124 el b (n + 1) (D.put kl (.lit (.int .i32 i)))) : Kn w' b (n + 1) (also l B i) := by
  have hm := hown.isMap
  refine ⟨_, hown', fun X kx hx => ?_⟩
  unfold also
  by_cases e : B = X
  · subst e
    rw [hk] at hx
    cases hx
    rw [if_pos rfl, atKey_put_same hm (law.key hk), has_put_same hm (law.key hk)]
    exact ⟨rfl, rfl⟩
  · have hne : kx ≠ kl := fun he => e (bv_inj (law.inj hk (he ▸ hx)))
    rw [if_neg e, atKey_put_other hne, has_put_other hne]
    exact h X kx hx
theorem zeroI32 (w : World) : (zeroValue 21).run Tryz.prog w = .ok (.int .i32 0) w := by kernel_rfl
theorem Kn.look {w : World} {b n : Nat} {l : List Int → Option Nat} (h : Kn w b n l) {B : List Int} (hB : WfB B) :
    (Instr.lookup 121 (.map (some b)) (bv B) true).run Tryz.prog w = .ok (.tuple #[.int .i32 ((l B).getD 0 : Nat), .bool (l B).isSome]) w := by
  obtain ⟨D, h2, h3⟩ := h
  obtain ⟨kl, hk⟩ := key_of B hB
  obtain ⟨ha, hh⟩ := h3 B kl hk
  obtain ⟨u, ps, hrun, hv⟩ := h2.look_ok law Tryz.underlying121 (zeroI32 _) (plainElem_int Tryz.underlying21 (by decide)) hk
  rw [ha] at hv
  obtain ⟨c, rfl, hc, _⟩ := plainElem_int_inv Tryz.underlying21 hv
  simp only [Prod.mk.injEq, DataW.lit.injEq, Lit.int.injEq, true_and] at hc
  rw [hrun, hh, ← hc.1]
end Go.Proofs.YtggapcfjcdafpaaGreat

namespace Go.Proofs.YtggapcfjcdafpaaGreat
open Go.RowKit Go.Maps
set_option linter.unusedVariables false
set_option linter.unusedSimpArgs false

theorem block_elt : Elt Tryz.prog 118 124 128 1024 := elt_of Tryz.underlying118 (z := .agg Tryz.zeroCells124) (by kernel_rfl) (by kernel_rfl) (by decide)
theorem id_elt : Elt Tryz.prog 22 21 1 4 := elt_of Tryz.underlying22 (z := .int .i32 0) (by kernel_rfl) rfl (by decide)
def encN (i : Nat) : List Value := [.int .i32 i]
theorem cellsB_one (B : List Int) : ∀ v ∈ cellsB B, v.oneCell' = true := by
  intro v hv
  obtain ⟨i, _, rfl⟩ := List.mem_map.1 hv
  rfl
/-- What is known of the blocks' numbers. -/
structure LOk (l : List Int → Option Nat) (Bs : List (List Int)) : Prop where
  yes : ∀ B i, l B = some i → Bs[i]? = some B
  no : ∀ B, l B = none → B ∉ Bs
  nd : Bs.Nodup
theorem LOk.nil : LOk (fun _ => none) [] := ⟨fun _ _ h => (by cases h), fun _ _ => by simp, List.nodup_nil⟩
theorem LOk.also {l : List Int → Option Nat} {Bs : List (List Int)} (h : LOk l Bs) {B : List Int} (hB : l B = none) : LOk (also l B Bs.length) (Bs ++ [B]) := by
  refine ⟨fun X i hX => ?_, fun X hX => ?_, ?_⟩
  · unfold Go.Proofs.YtggapcfjcdafpaaGreat.also at hX
    by_cases e : B = X
    · rw [if_pos e] at hX
      cases hX
      simp [e]
    · rw [if_neg e] at hX
      have := h.yes X i hX
      have hl := (List.getElem?_eq_some_iff.1 this).1
      rw [List.getElem?_append_left hl]
      exact this
  · unfold Go.Proofs.YtggapcfjcdafpaaGreat.also at hX
    by_cases e : B = X
    · rw [if_pos e] at hX; cases hX
    · rw [if_neg e] at hX
      have := h.no X hX
      simp only [List.mem_append, List.mem_singleton, not_or]
      exact ⟨this, fun h => e h.symm⟩
  · rw [List.nodup_append]
    exact ⟨h.nd, by simp, fun a ha b hb e => by simp at hb; subst hb; subst e; exact h.no _ hB ha⟩

/-- A trie under way: its cells, its blocks, what it knows of where they are. -/
structure Tr (base : Nat) (tb mb : Nat) (m : Int) (A : Option Addr) (n c : Nat) (Bs : List (List Int)) (A2 : Option Addr) (n2 c2 : Nat) (Ix : List Nat) (l : List Int → Option Nat) (W : World) : Prop where
  cel : Blk W tb #[.int .i64 m, .slice A n c, .slice A2 n2 c2]
  bl : W.ownsRow base 124 128 (.slice A n c) n (flatL cellsB Bs)
  wh : W.ownsRow base 21 1 (.slice A2 n2 c2) n2 (flatL encN Ix)
  kn : Kn W mb Bs.length l
  ok : LOk l Bs
  wf : ∀ B ∈ Bs, WfB B
  len : n = Bs.length
  t0 : base ≤ tb
  m0 : base ≤ mb
  n1 : ∀ g, (Value.slice A n c).ownBlock = some g → g ≠ tb
  n2' : ∀ g, (Value.slice A2 n2 c2).ownBlock = some g → g ≠ tb
/-- What a trie's growing may turn. -/
def Ow (tb mb : Nat) (A : Option Addr) (n c : Nat) (A2 : Option Addr) (n2 c2 : Nat) (k : Nat) : Prop := k = tb ∨ k = mb ∨ (Value.slice A n c).ownBlock = some k ∨ (Value.slice A2 n2 c2).ownBlock = some k
theorem row_heap {w : World} {base size n : Nat} {e : TypeId} {v : Value} {xs : List Value} {g : Nat} (h : w.ownsRow base e size v n xs) (hg : v.ownBlock = some g) : ∃ cur, w.heap[g]? = some (.cells cur e (0, 0)) := by
  obtain ⟨_, ⟨rfl, _⟩ | ⟨g', cap, cur, rfl, _, hh, _⟩⟩ := h
  · cases hg
  · injection hg with hg
    subst hg
    exact ⟨cur, hh⟩
theorem Kn.heap {w : World} {b n : Nat} {l : List Int → Option Nat} (h : Kn w b n l) : ∃ es clock, w.heap[b]? = some (.map es clock) := by
  obtain ⟨D, ⟨es, clock, hh, _⟩, _⟩ := h
  exact ⟨es, clock, hh⟩
section
variable {base tb mb : Nat} {m : Int} {A A2 : Option Addr} {n c n2 c2 : Nat} {Bs : List (List Int)} {Ix : List Nat} {l : List Int → Option Nat} {W W' : World}
theorem Tr.mt (h : Tr base tb mb m A n c Bs A2 n2 c2 Ix l W) : mb ≠ tb := by
  rintro rfl
  obtain ⟨es, clock, e⟩ := h.kn.heap
  have := h.cel.2.1 0
  simp [World.cell?, e] at this
theorem Tr.m1 (h : Tr base tb mb m A n c Bs A2 n2 c2 Ix l W) : ∀ g, (Value.slice A n c).ownBlock = some g → g ≠ mb := by
  rintro g hg rfl
  obtain ⟨es, clock, e⟩ := h.kn.heap
  obtain ⟨cur, e2⟩ := row_heap h.bl hg
  rw [e] at e2; cases e2
theorem Tr.m2 (h : Tr base tb mb m A n c Bs A2 n2 c2 Ix l W) : ∀ g, (Value.slice A2 n2 c2).ownBlock = some g → g ≠ mb := by
  rintro g hg rfl
  obtain ⟨es, clock, e⟩ := h.kn.heap
  obtain ⟨cur, e2⟩ := row_heap h.wh hg
  rw [e] at e2; cases e2
theorem Tr.n12 (h : Tr base tb mb m A n c Bs A2 n2 c2 Ix l W) : ∀ g, (Value.slice A n c).ownBlock = some g → (Value.slice A2 n2 c2).ownBlock ≠ some g := by
  intro g hg hg2
  obtain ⟨cur, e⟩ := row_heap h.bl hg
  obtain ⟨cur2, e2⟩ := row_heap h.wh hg2
  rw [e] at e2
  injection e2 with e2
  injection e2 with _ e2 _
  exact absurd e2 (by decide)
theorem Tr.low (h : Tr base tb mb m A n c Bs A2 n2 c2 Ix l W) : ∀ k, Ow tb mb A n c A2 n2 c2 k → base ≤ k ∧ k < W.heap.size := by
  rintro k (rfl | rfl | hk | hk)
  · exact ⟨h.t0, h.cel.1⟩
  · exact ⟨h.m0, h.kn.lt⟩
  · exact h.bl.lt k hk
  · exact h.wh.lt k hk
/-- What turns none of a trie's blocks leaves the trie. -/
theorem Tr.kept (h : Tr base tb mb m A n c Bs A2 n2 c2 Ix l W) (hs : W.heap.size ≤ W'.heap.size) (hk : ∀ k, Ow tb mb A n c A2 n2 c2 k → W'.heap[k]? = W.heap[k]?) : Tr base tb mb m A n c Bs A2 n2 c2 Ix l W' := by
  refine ⟨?_, ?_, ?_, ?_, h.ok, h.wf, h.len, h.t0, h.m0, h.n1, h.n2'⟩
  · exact Blk.same h.cel (hk tb (.inl rfl)) hs
  · obtain ⟨e1, h1 | ⟨g, cap, cur, e2, h2, h3, h4⟩⟩ := h.bl
    · exact ⟨e1, .inl h1⟩
    · exact ⟨e1, .inr ⟨g, cap, cur, e2, h2, (hk g (.inr (.inr (.inl (by rw [e2]; rfl))))).trans h3, h4⟩⟩
  · obtain ⟨e1, h1 | ⟨g, cap, cur, e2, h2, h3, h4⟩⟩ := h.wh
    · exact ⟨e1, .inl h1⟩
    · exact ⟨e1, .inr ⟨g, cap, cur, e2, h2, (hk g (.inr (.inr (.inr (by rw [e2]; rfl))))).trans h3, h4⟩⟩
  · obtain ⟨D, ⟨es, clock, hh, F, hs, hD⟩, h2⟩ := h.kn
    exact ⟨D, ⟨es, clock, (hk mb (.inr (.inl rfl))).trans hh, F, hs, hD⟩, h2⟩
theorem Tr.later (h : Tr base tb mb m A n c Bs A2 n2 c2 Ix l W) (hb : Below W.heap.size W W') : Tr base tb mb m A n c Bs A2 n2 c2 Ix l W' := h.kept hb.size fun k hk => hb.block k (h.low k hk).2
end
end Go.Proofs.YtggapcfjcdafpaaGreat
