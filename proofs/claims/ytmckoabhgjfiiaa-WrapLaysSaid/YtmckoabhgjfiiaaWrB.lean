/- wrap: the iterator over spots. -/
import Derived.Test.YtmckoabhgjfiiaaWrA
import Derived.RangeFuncBox
import Derived.Shelf.Abstract
import Derived.Shelf.RegionOpen
import Derived.OwnWalkIn
import Derived.TacticsInMore
import Derived.LoopNIn
import Derived.LoopIn
import Derived.IntWalk
namespace Go.Proofs.Ytmckoabhgjfiiaa
open Go.RowKit
set_option linter.unusedVariables false
set_option linter.unusedSimpArgs false
attribute [local go_sem] Oper.semAt_some

theorem grow_set (w : World) (g j : Nat) (u : Value) : w.grownBy (w.setCell ⟨g, j, none⟩ u) (some g) :=
  ⟨rfl, rfl, rfl, by simp, fun k _ hne => Below.heap_setCell _ _ _ _ (by intro e; exact hne (by rw [e]))⟩
theorem Blk.same {w w' : World} {b : Nat} {cs : Array Value} (h : Blk w b cs) (e : w'.heap[b]? = w.heap[b]?) (hs : w.heap.size ≤ w'.heap.size) : Blk w' b cs :=
  ⟨Nat.lt_of_lt_of_le h.1 hs, fun j => (World.cell?_of_block (a := ⟨b, j, none⟩) e).trans (h.2.1 j), fun j => (World.frozen?_of_block (a := ⟨b, j, none⟩) e).trans (h.2.2 j)⟩

/-- What the iterator reads. -/
structure Src (W : World) (K : Nat → Prop) (bl bc : Nat) (A : Option Addr) (c : Nat) (L : List Gl) (cols : Int) : Prop where
  kl : K bl
  kc : K bc
  ka : ∀ b o, A = some ⟨b, o, none⟩ → 0 < L.length → K b
  lt : ∀ k, K k → k < W.heap.size
  sl : W.cell? ⟨bl, 0, none⟩ = some (.slice A L.length c)
  co : W.cell? ⟨bc, 0, none⟩ = some (.int .i64 cols)
  li : Li 2 encG W (fun _ => True) A L
theorem Src.keep {W W' : World} {K : Nat → Prop} {bl bc : Nat} {A : Option Addr} {c : Nat} {L : List Gl} {cols : Int} (h : Src W K bl bc A c L cols) (hs : W.heap.size ≤ W'.heap.size) (hk : ∀ k, K k → W'.heap[k]? = W.heap[k]?) : Src W' K bl bc A c L cols :=
  ⟨h.kl, h.kc, h.ka, fun k hk => Nat.lt_of_lt_of_le (h.lt k hk) hs, (World.cell?_of_block (a := ⟨bl, 0, none⟩) (hk _ h.kl)).trans h.sl, (World.cell?_of_block (a := ⟨bc, 0, none⟩) (hk _ h.kc)).trans h.co, fun j x hj => by
    obtain ⟨b, o, e, hb, hS, hc⟩ := h.li j x hj
    have hb' := h.ka b o e (by have := (List.getElem?_eq_some_iff.1 hj).1; omega)
    exact ⟨b, o, e, Nat.lt_of_lt_of_le hb hs, hS, fun i u hu => (World.cell?_of_block (a := ⟨b, o + (j * 2 + i), none⟩) (hk b hb')).trans (hc i u hu)⟩⟩

/-- What holds at the head of the iterator's round. -/
structure SpI (W : World) (J : List Nat → (Nat → Prop) → World → Prop) (K : Nat → Prop) (bl bc : Nat) (A : Option Addr) (c : Nat) (L : List Gl) (cols : Int) (k : Nat) (O : Nat → Prop) (X : World) : Prop where
  j : J (List.range k) O X
  o : ∀ i, O i → i < X.heap.size ∧ ¬ K i ∧ i ≠ W.heap.size
  src : Src X K bl bc A c L cols
  own : Blk X W.heap.size (encP (stAt cols L k)).toArray
  nk : ¬ K W.heap.size
section
variable {W wr W1 W3 : World} {J : List Nat → (Nat → Prop) → World → Prop} {K : Nat → Prop} {bl bc : Nat} {A : Option Addr} {c : Nat} {L : List Gl} {cols : Int} {k : Nat} {O O' : Nat → Prop}
theorem SpI.call (h : SpI W J K bl bc A c L cols k O wr) (hJ : BearsO J W.heap.size) (hg : wr.grownBy W1 (some W.heap.size)) : J (List.range k) O W1 ∧ ∀ i, O i → i < W1.heap.size :=
  ⟨hJ _ _ _ _ _ h.j hg (fun r e => by cases e; exact ⟨Nat.le_refl _, fun ho => (h.o _ ho).2.2 rfl⟩), fun i hi => Nat.lt_of_lt_of_le (h.o i hi).1 hg.size⟩
/-- Behind a round: what the iterator has of its own is as it was. -/
theorem SpI.back (h : SpI W J K bl bc A c L cols k O wr) {p : Sp} {u v : Value} {T : TypeId} (hg : wr.grownBy W1 (some W.heap.size)) (hB : Blk W1 W.heap.size (encP p).toArray) (hx : W1.heap[wr.heap.size]? = some (.cells #[u, v] T)) (hk : KeepO O O' W1 W3) :
    Blk W3 W.heap.size (encP p).toArray ∧ W3.cell? ⟨wr.heap.size, 1, none⟩ = some v ∧ wr.heap.size < W3.heap.size ∧ (∀ i, O' i → i < W3.heap.size ∧ ¬ K i ∧ i ≠ W.heap.size) ∧ Src W3 K bl bc A c L cols := by
  have hl := (Array.getElem?_eq_some_iff.1 hx).1
  have hBo : ¬ O W.heap.size := fun ho => (h.o _ ho).2.2 rfl
  have hxo : ¬ O wr.heap.size := fun ho => by have := (h.o _ ho).1; omega
  have hKl := h.src.lt
  refine ⟨hB.same (hk.old _ hB.1 hBo) hk.size, ?_, Nat.lt_of_lt_of_le hl hk.size, fun i hi => ⟨hk.lt i hi, ?_, ?_⟩, h.src.keep (Nat.le_trans hg.size hk.size) fun i hi => (hk.old i (Nat.lt_of_lt_of_le (hKl i hi) hg.size) fun ho => (h.o i ho).2.1 hi).trans (hg.block i (hKl i hi) fun e => ?_)⟩
  · have e := hk.old _ hl hxo
    rw [hx] at e
    simp [World.cell?, e]
  · rcases hk.new i hi with h' | h'
    · exact (h.o i h').2.1
    · exact fun hKi => by have := hKl i hKi; have := hg.size; omega
  · rcases hk.new i hi with h' | h'
    · exact (h.o i h').2.2
    · have := hB.1; omega
  · injection e with e
    subst e
    exact h.nk hi
end

abbrev encN (cols : Int) (L : List Gl) (k : Nat) : Array Value := #[.int .i64 (k : Int), .agg (encP (spAt cols L k)).toArray]

set_option maxRecDepth 100000 in
set_option maxHeartbeats 4000000 in
theorem spots1_in (F : Fence) (n : Nat) (hF : F.fn 23) (hro : F.round = none) (hn : 1 ≤ n) (l bl bc : Nat) (K : Nat → Prop) (A : Option Addr) (c : Nat) (L : List Gl) (cols : Int) (hL : Thin L) (hlen : L.length ≤ 1000) (hcl : L.length ≤ c) (h2 : 2 ≤ cols) (h63 : cols ≤ 9223372036854775807)
    (J : List Nat → (Nat → Prop) → World → Prop) (O : Nat → Prop) (W : World) (hJ : BearsO J W.heap.size)
    (hY : ∀ (pre : List Nat) (O : Nat → Prop) (x : Nat) (W1 : World), J pre O W1 → (∀ k, O k → k < W1.heap.size) → pre.length < L.length + 1 → YieldAt F (n - 1) Try.prog l (encN cols L x) W1 fun e W' =>
      e = .returned (.bool true) ∧ ∃ O', J (pre ++ [x]) O' W' ∧ KeepO O O' W1 W')
    (hO : ∀ k, O k → k < W.heap.size ∧ ¬ K k) (hS : Src W K bl bc A c L cols) (h0 : J [] O W) :
    CallsIn F n Try.prog 23 #[.func (.yield l) #[] #[], .pointer (some ⟨bl, 0, none⟩), .pointer (some ⟨bc, 0, none⟩)] W fun e W' => (∃ v, e = .returned v) ∧ ∃ O', J (List.range (L.length + 1)) O' W' := by
  refine callsIn_of_wp Try.func23 rfl hF ?_ hro
  simp only [Try.ntmps23, List.size_toArray, List.length_cons, List.length_nil, Nat.reduceAdd, Nat.reduceSub, Array.replicate_succ, Array.replicate_zero, List.push_toArray, List.append_toArray, List.nil_append, List.cons_append]
  have HS := Lib.hid hS
  have hsl := hS.sl
  have hbl0 : bl < W.heap.size := hS.lt bl hS.kl
  have hJ0 := Lib.hid h0
  clear hS h0
  gi_wp2
  gi_loopw [9] (fun i wr => ∃ (k : Nat) (O : Nat → Prop), k ≤ L.length ∧ i = .int .i64 k ∧ Hid (SpI W J K bl bc A c L cols k O wr)) (fun i _ => L.length - (intOf i).toNat)
  case atStart =>
    have hs : W.heap.size ≤ (W.alloc (.cells #[.int .i64 0, .int .i64 0] 31)).heap.size := by simp
    exact ⟨0, O, Nat.zero_le _, rfl, hJ _ _ _ _ none hJ0.out (World.grownBy_alloc _ _ _) (fun r e => by cases e), fun i hi => ⟨by have := (hO i hi).1; omega, (hO i hi).2, by have := (hO i hi).1; omega⟩,
      HS.out.keep hs (fun k hk => (World.grownBy_alloc W _ none).block k (HS.out.lt k hk) (by simp)), blk_new _ _ _, fun h => by have := HS.out.lt _ h; omega⟩
  case round =>
    obtain ⟨k, O, hk, rfl, HI⟩ := hrel
    by_cases hlt : k < L.length
    · obtain ⟨g, b, o, hg, rfl, hbl, _, c0, c1⟩ := HI.out.src.li.glyph hlt
      have hco := HI.out.src.co
      have hbc := HI.out.src.lt bc HI.out.src.kc
      have hbl1 := HI.out.src.lt bl HI.out.src.kl
      obtain ⟨s, hs⟩ : ∃ s, stAt cols L k = s := ⟨_, rfl⟩
      obtain ⟨y0, y1, y2⟩ := HI.out.own
      rw [hs] at y1
      have l0 : wr.cell? ⟨W.heap.size, 0, none⟩ = some (.int .i64 s.r) := y1 0
      have l1 : wr.cell? ⟨W.heap.size, 1, none⟩ = some (.int .i64 s.c) := y1 1
      have f0 := y2 0
      have f1 := y2 1
      have bd := stAt_bd h2 hL k hk
      rw [hs] at bd
      obtain ⟨b1, b2, b3, b4, b5, b6⟩ := bd
      have hw := hL g (List.mem_of_getElem? hg)
      obtain ⟨hw1, hw2⟩ := hw
      have v1 : IntKind.i64.wrap (cols - s.c) = cols - s.c := IntWalk.i64_in _ (by omega)
      have v2 : IntKind.i64.wrap (s.r + 1) = s.r + 1 := IntWalk.i64_in _ (by omega)
      have i1 : (k : Int) < (L.length : Int) := by omega
      have i2 : (0 : Int) ≤ (k : Int) := by omega
      clear y1 y2
      have HG := Lib.hid hg
      have HS2 := Lib.hid hs
      rcases Nat.eq_zero_or_pos k with hz | hpos
      · have hsp0 : adv cols s g.w = s := by rw [← hs, hz]; exact adv_first h2 hL (List.mem_of_getElem? hg)
        have hsp : spAt cols L k = s := by rw [spAt_some hg, hs, hsp0]
        have d4 : decide ((0 : Int) < (k : Int)) = false := decide_eq_false (by omega)
        have d4' : decide (0 < k) = false := decide_eq_false (by omega)
        clear hz hg hs
        obtain ⟨W1, hW1⟩ : ∃ W1, wr.alloc (.cells #[.string g.t, .int .i64 g.w] 42) = W1 := ⟨_, rfl⟩
        have hg1 : wr.grownBy W1 (some W.heap.size) := by rw [← hW1]; exact World.grownBy_alloc _ _ _
        have hB1 : Blk W1 W.heap.size (encP s).toArray := by rw [← hW1]; exact (HS2.out ▸ HI.out.own).alloc _
        have hx1 : W1.heap[wr.heap.size]? = some (.cells #[.string g.t, .int .i64 g.w] 42) := by rw [← hW1]; exact World.alloc_heap_new wr _
        have hq := HI.out.call hJ hg1
        obtain ⟨fn, tmps, assign, body, hy, hR⟩ := hY (List.range k) O k W1 hq.1 hq.2 (by simp; omega)
        have HQ := Lib.hid (show _ ∧ _ ∧ _ from ⟨hg1, hB1, hx1⟩)
        clear hq hg1 hB1 hx1
        simp only [encN, hsp] at hy
        dsimp only [encP] at hy
        subst hW1
        gi_wp2
        refine hR.mono ?_
        rintro e W3 ⟨rfl, O', hJ3, hK3⟩
        have HBk := Lib.hid (HI.out.back HQ.out.1 HQ.out.2.1 HQ.out.2.2 hK3)
        rw [← List.range_succ] at hJ3
        have HJ3 := Lib.hid hJ3
        have hown := HBk.out.1
        have m0 : W3.cell? ⟨W.heap.size, 0, none⟩ = some (.int .i64 (s).r) := hown.2.1 0
        have m1 : W3.cell? ⟨W.heap.size, 1, none⟩ = some (.int .i64 (s).c) := hown.2.1 1
        have e0 := hown.2.2 0
        have e1 := hown.2.2 1
        have mx := HBk.out.2.1
        have hwx := HBk.out.2.2.1
        have hwb := hown.1
        try dsimp only at m0 m1
        clear hown hJ3 hK3 hR hy y0 l0 l1 f0 f1
        gi_wp2
        go_roundw
        case rel =>
          refine ⟨k + 1, O', by omega, by go_num, hJ _ _ _ _ (some W.heap.size) HJ3.out (grow_set _ _ _ _) (fun r e => by cases e; exact ⟨Nat.le_refl _, fun ho => (HBk.out.2.2.2.1 _ ho).2.2 rfl⟩), fun i hi => ⟨by rw [World.size_setCell]; exact (HBk.out.2.2.2.1 i hi).1, (HBk.out.2.2.2.1 i hi).2⟩, HBk.out.2.2.2.2.keep (by rw [World.size_setCell]; exact Nat.le_refl _) (fun i hi => Below.heap_setCell _ _ _ _ (by show i ≠ W.heap.size; exact fun e => HI.out.nk (e ▸ hi))), ?_, HI.out.nk⟩
          have hst := HG.out
          rw [stAt_succ hst, HS2.out]
          unfold stp
          rw [hsp0]
          first | exact HBk.out.1.set_ 1 (by simp [encP]) _ | (have hset := HBk.out.1.set_ 1 (by simp [encP]) (.int .i64 g.w); simpa [encP] using hset)
        case measure => simp [intOf]; omega
      · have d4 : decide ((0 : Int) < (k : Int)) = true := decide_eq_true (by omega)
        have d4' : decide (0 < k) = true := decide_eq_true (by omega)
        by_cases hwr : cols - s.c < g.w
        · have hsp0 : adv cols s g.w = ⟨s.r + 1, 0⟩ := if_pos hwr
          have hsp : spAt cols L k = ⟨s.r + 1, 0⟩ := by rw [spAt_some hg, hs, hsp0]
          have d5 : decide (cols - s.c < g.w) = true := decide_eq_true hwr
          clear hg hs
          obtain ⟨W1, hW1⟩ : ∃ W1, ((wr.setCell ⟨W.heap.size, 0, none⟩ (.int .i64 (s.r + 1))).setCell ⟨W.heap.size, 1, none⟩ (.int .i64 0)).alloc (.cells #[.string g.t, .int .i64 g.w] 42) = W1 := ⟨_, rfl⟩
          have hg1 : wr.grownBy W1 (some W.heap.size) := by rw [← hW1]; exact ((grow_set _ _ _ _).trans (grow_set _ _ _ _)).trans (World.grownBy_alloc _ _ _)
          have hB1 : Blk W1 W.heap.size (encP (⟨s.r + 1, 0⟩ : Sp)).toArray := by rw [← hW1]; exact ((((HS2.out ▸ HI.out.own).set_ 0 (by simp [encP]) _).set_ 1 (by simp [encP]) _).alloc _ : _)
          have hx1 : W1.heap[wr.heap.size]? = some (.cells #[.string g.t, .int .i64 g.w] 42) := by rw [← hW1]; exact (by have := World.alloc_heap_new ((wr.setCell ⟨W.heap.size, 0, none⟩ (.int .i64 (s.r + 1))).setCell ⟨W.heap.size, 1, none⟩ (.int .i64 0)) (.cells #[.string g.t, .int .i64 g.w] 42); simpa using this)
          have hq := HI.out.call hJ hg1
          obtain ⟨fn, tmps, assign, body, hy, hR⟩ := hY (List.range k) O k W1 hq.1 hq.2 (by simp; omega)
          have HQ := Lib.hid (show _ ∧ _ ∧ _ from ⟨hg1, hB1, hx1⟩)
          clear hq hg1 hB1 hx1
          simp only [encN, hsp] at hy
          dsimp only [encP] at hy
          subst hW1
          gi_wp2
          refine hR.mono ?_
          rintro e W3 ⟨rfl, O', hJ3, hK3⟩
          have HBk := Lib.hid (HI.out.back HQ.out.1 HQ.out.2.1 HQ.out.2.2 hK3)
          rw [← List.range_succ] at hJ3
          have HJ3 := Lib.hid hJ3
          have hown := HBk.out.1
          have m0 : W3.cell? ⟨W.heap.size, 0, none⟩ = some (.int .i64 ((⟨s.r + 1, 0⟩ : Sp)).r) := hown.2.1 0
          have m1 : W3.cell? ⟨W.heap.size, 1, none⟩ = some (.int .i64 ((⟨s.r + 1, 0⟩ : Sp)).c) := hown.2.1 1
          have e0 := hown.2.2 0
          have e1 := hown.2.2 1
          have mx := HBk.out.2.1
          have hwx := HBk.out.2.2.1
          have hwb := hown.1
          try dsimp only at m0 m1
          clear hown hJ3 hK3 hR hy y0 l0 l1 f0 f1
          gi_wp2
          go_roundw
          case rel =>
            refine ⟨k + 1, O', by omega, by go_num, hJ _ _ _ _ (some W.heap.size) HJ3.out (grow_set _ _ _ _) (fun r e => by cases e; exact ⟨Nat.le_refl _, fun ho => (HBk.out.2.2.2.1 _ ho).2.2 rfl⟩), fun i hi => ⟨by rw [World.size_setCell]; exact (HBk.out.2.2.2.1 i hi).1, (HBk.out.2.2.2.1 i hi).2⟩, HBk.out.2.2.2.2.keep (by rw [World.size_setCell]; exact Nat.le_refl _) (fun i hi => Below.heap_setCell _ _ _ _ (by show i ≠ W.heap.size; exact fun e => HI.out.nk (e ▸ hi))), ?_, HI.out.nk⟩
            have hst := HG.out
            rw [stAt_succ hst, HS2.out]
            unfold stp
            rw [hsp0]
            first | exact HBk.out.1.set_ 1 (by simp [encP]) _ | (have hset := HBk.out.1.set_ 1 (by simp [encP]) (.int .i64 g.w); simpa [encP] using hset)
          case measure => simp [intOf]; omega
        · have hsp0 : adv cols s g.w = s := if_neg hwr
          have hsp : spAt cols L k = s := by rw [spAt_some hg, hs, hsp0]
          have d5 : decide (cols - s.c < g.w) = false := decide_eq_false hwr
          clear hg hs
          obtain ⟨W1, hW1⟩ : ∃ W1, wr.alloc (.cells #[.string g.t, .int .i64 g.w] 42) = W1 := ⟨_, rfl⟩
          have hg1 : wr.grownBy W1 (some W.heap.size) := by rw [← hW1]; exact World.grownBy_alloc _ _ _
          have hB1 : Blk W1 W.heap.size (encP s).toArray := by rw [← hW1]; exact (HS2.out ▸ HI.out.own).alloc _
          have hx1 : W1.heap[wr.heap.size]? = some (.cells #[.string g.t, .int .i64 g.w] 42) := by rw [← hW1]; exact World.alloc_heap_new wr _
          have hq := HI.out.call hJ hg1
          obtain ⟨fn, tmps, assign, body, hy, hR⟩ := hY (List.range k) O k W1 hq.1 hq.2 (by simp; omega)
          have HQ := Lib.hid (show _ ∧ _ ∧ _ from ⟨hg1, hB1, hx1⟩)
          clear hq hg1 hB1 hx1
          simp only [encN, hsp] at hy
          dsimp only [encP] at hy
          subst hW1
          gi_wp2
          refine hR.mono ?_
          rintro e W3 ⟨rfl, O', hJ3, hK3⟩
          have HBk := Lib.hid (HI.out.back HQ.out.1 HQ.out.2.1 HQ.out.2.2 hK3)
          rw [← List.range_succ] at hJ3
          have HJ3 := Lib.hid hJ3
          have hown := HBk.out.1
          have m0 : W3.cell? ⟨W.heap.size, 0, none⟩ = some (.int .i64 (s).r) := hown.2.1 0
          have m1 : W3.cell? ⟨W.heap.size, 1, none⟩ = some (.int .i64 (s).c) := hown.2.1 1
          have e0 := hown.2.2 0
          have e1 := hown.2.2 1
          have mx := HBk.out.2.1
          have hwx := HBk.out.2.2.1
          have hwb := hown.1
          try dsimp only at m0 m1
          clear hown hJ3 hK3 hR hy y0 l0 l1 f0 f1
          gi_wp2
          go_roundw
          case rel =>
            refine ⟨k + 1, O', by omega, by go_num, hJ _ _ _ _ (some W.heap.size) HJ3.out (grow_set _ _ _ _) (fun r e => by cases e; exact ⟨Nat.le_refl _, fun ho => (HBk.out.2.2.2.1 _ ho).2.2 rfl⟩), fun i hi => ⟨by rw [World.size_setCell]; exact (HBk.out.2.2.2.1 i hi).1, (HBk.out.2.2.2.1 i hi).2⟩, HBk.out.2.2.2.2.keep (by rw [World.size_setCell]; exact Nat.le_refl _) (fun i hi => Below.heap_setCell _ _ _ _ (by show i ≠ W.heap.size; exact fun e => HI.out.nk (e ▸ hi))), ?_, HI.out.nk⟩
            have hst := HG.out
            rw [stAt_succ hst, HS2.out]
            unfold stp
            rw [hsp0]
            first | exact HBk.out.1.set_ 1 (by simp [encP]) _ | (have hset := HBk.out.1.set_ 1 (by simp [encP]) (.int .i64 g.w); simpa [encP] using hset)
          case measure => simp [intOf]; omega
    · obtain rfl : k = L.length := by omega
      have hco := HI.out.src.co
      have hsl2 := HI.out.src.sl
      have hbc := HI.out.src.lt bc HI.out.src.kc
      have hbl1 := HI.out.src.lt bl HI.out.src.kl
      have nbl : bl ≠ W.heap.size := fun e => HI.out.nk (e ▸ HI.out.src.kl)
      have nbl' : W.heap.size ≠ bl := fun e => nbl e.symm
      obtain ⟨s, hs⟩ : ∃ s, stAt cols L L.length = s := ⟨_, rfl⟩
      obtain ⟨y0, y1, y2⟩ := HI.out.own
      rw [hs] at y1
      have l0 : wr.cell? ⟨W.heap.size, 0, none⟩ = some (.int .i64 s.r) := y1 0
      have l1 : wr.cell? ⟨W.heap.size, 1, none⟩ = some (.int .i64 s.c) := y1 1
      have f0 := y2 0
      have f1 := y2 1
      have bd := stAt_bd h2 hL L.length (Nat.le_refl _)
      rw [hs] at bd
      obtain ⟨b1, b2, b3, b4, b5, b6⟩ := bd
      have v2 : IntKind.i64.wrap (s.r + 1) = s.r + 1 := IntWalk.i64_in _ (by omega)
      clear y1 y2 b6
      by_cases hwr : cols ≤ s.c
      · have hsp : spAt cols L L.length = ⟨s.r + 1, 0⟩ := by rw [spAt_end, hs]; exact if_pos hwr
        have d5 : decide (cols ≤ s.c) = true := decide_eq_true hwr
        clear hs
        obtain ⟨W1, hW1⟩ : ∃ W1, ((wr.setCell ⟨W.heap.size, 0, none⟩ (.int .i64 (s.r + 1))).setCell ⟨W.heap.size, 1, none⟩ (.int .i64 0)) = W1 := ⟨_, rfl⟩
        have hg1 : wr.grownBy W1 (some W.heap.size) := by rw [← hW1]; exact (grow_set _ _ _ _).trans (grow_set _ _ _ _)
        have hq := HI.out.call hJ hg1
        obtain ⟨fn, tmps, assign, body, hy, hR⟩ := hY (List.range L.length) O L.length W1 hq.1 hq.2 (by simp)
        clear hq hg1
        simp only [encN, hsp] at hy
        dsimp only [encP] at hy
        subst hW1
        clear hsp hlt
        gi_wp2
        refine hR.mono ?_
        rintro e W3 ⟨rfl, O', hJ3, hK3⟩
        rw [← List.range_succ] at hJ3
        have HJ3 := Lib.hid hJ3
        clear hJ3 hK3 hR hy
        gi_wp2
        go_end0
        exact ⟨⟨_, rfl⟩, _, HJ3.out⟩
      · have hsp : spAt cols L L.length = s := by rw [spAt_end, hs]; exact if_neg hwr
        have d5 : decide (cols ≤ s.c) = false := decide_eq_false hwr
        clear hs
        obtain ⟨W1, hW1⟩ : ∃ W1, wr = W1 := ⟨_, rfl⟩
        have hg1 : wr.grownBy W1 (some W.heap.size) := by rw [← hW1]; exact ⟨rfl, rfl, rfl, Nat.le_refl _, fun _ _ _ => rfl⟩
        have hq := HI.out.call hJ hg1
        obtain ⟨fn, tmps, assign, body, hy, hR⟩ := hY (List.range L.length) O L.length W1 hq.1 hq.2 (by simp)
        clear hq hg1
        simp only [encN, hsp] at hy
        dsimp only [encP] at hy
        subst hW1
        clear hsp hlt
        gi_wp2
        refine hR.mono ?_
        rintro e W3 ⟨rfl, O', hJ3, hK3⟩
        rw [← List.range_succ] at hJ3
        have HJ3 := Lib.hid hJ3
        clear hJ3 hK3 hR hy
        gi_wp2
        go_end0
        exact ⟨⟨_, rfl⟩, _, HJ3.out⟩

/-- What spots hands back: the spots, by their numbers. -/
theorem spots_seq (F : Fence) (n : Nat) (hF : F.fn 23) (hro : F.round = none) (hn : 1 ≤ n) (bl bc : Nat) (K : Nat → Prop) (A : Option Addr) (c : Nat) (L : List Gl) (cols : Int) (hL : Thin L) (hlen : L.length ≤ 1000) (hcl : L.length ≤ c) (h2 : 2 ≤ cols) (h63 : cols ≤ 9223372036854775807)
    (w : World) (hS : Src w K bl bc A c L cols) (hb : ∀ b, K b → b < w.heap.size) :
    SeqOwn F n Try.prog 23 #[.pointer (some ⟨bl, 0, none⟩), .pointer (some ⟨bc, 0, none⟩)] (encN cols L) K (fun xs => xs = List.range (L.length + 1)) (L.length + 1) w := by
  intro l J O W hW hO hJ hY h0
  refine (spots1_in F n hF hro hn l bl bc K A c L cols hL hlen hcl h2 h63 J O W hJ hY (fun k hk => ⟨Nat.lt_of_lt_of_le (hO k hk).1 hW.size, (hO k hk).2⟩) (hS.keep hW.size fun k hk => hW.block k (hb k hk)) h0).mono ?_
  rintro e W' ⟨he, O', hj⟩
  exact ⟨he, _, O', rfl, hj⟩

set_option maxHeartbeats 1000000 in
theorem spots_in (F : Fence) (n : Nat) (h5 : F.fn 16) (hro : F.round = none) (A : Option Addr) (len c : Nat) (cols : Int) (w : World) :
    CallsIn F n Try.prog 16 #[.slice A len c, .int .i64 cols] w fun e w' => e = .returned (.func (.func 23) #[] #[.pointer (some ⟨w.heap.size, 0, none⟩), .pointer (some ⟨w.heap.size + 1, 0, none⟩)]) ∧ w' = (w.alloc (.cells #[.slice A len c] 23)).alloc (.cells #[.int .i64 cols] 3) := by
  refine callsIn_of_wp Try.func16 rfl h5 ?_ hro
  simp only [Try.ntmps16, List.size_toArray, List.length_cons, List.length_nil, Nat.reduceAdd, Nat.reduceSub, Array.replicate_succ, Array.replicate_zero, List.push_toArray, List.append_toArray, List.nil_append, List.cons_append]
  gi_wp2
  go_ret
  exact ⟨by simp, rfl⟩
end Go.Proofs.Ytmckoabhgjfiiaa
