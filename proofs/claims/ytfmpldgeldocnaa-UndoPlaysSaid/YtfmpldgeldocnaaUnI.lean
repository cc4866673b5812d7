/- undo: Stack.All. -/
import Derived.Test.YtfmpldgeldocnaaUnH
namespace Go.Proofs.Ytfmpldgeldocnaa
open Go.RowKit Go.Shelf
set_option linter.unusedVariables false
set_option linter.unusedSimpArgs false
attribute [local go_sem] Oper.semAt_some

/-- Groups that are undone, the first one first. -/
def runS (gs : List AG) (l : List Int) (c : Int) : Option (List Int × Int) := gs.foldl (fun o g => o.bind fun p => (runE g.eds.reverse p.1).map fun m => (m, g.cur)) (some (l, c))
theorem runS_nil (l : List Int) (c : Int) : runS [] l c = some (l, c) := rfl
theorem foldS_none (gs : List AG) : gs.foldl (fun (o : Option (List Int × Int)) g => o.bind fun p => (runE g.eds.reverse p.1).map fun m => (m, g.cur)) none = none := by
  induction gs with
  | nil => rfl
  | cons e es ih => simpa using ih
theorem runS_cons (g : AG) (gs : List AG) (l : List Int) (c : Int) : runS (g :: gs) l c = (runE g.eds.reverse l).bind fun m => runS gs m g.cur := by
  unfold runS
  simp only [List.foldl_cons, Option.bind_some]
  cases h : runE g.eds.reverse l with
  | none => simp [foldS_none]
  | some l' => simp
theorem runS_append (gs hs : List AG) (l : List Int) (c : Int) : runS (gs ++ hs) l c = (runS gs l c).bind fun p => runS hs p.1 p.2 := by
  induction gs generalizing l c with
  | nil => simp [runS_nil]
  | cons g gs ih =>
    rw [List.cons_append, runS_cons, runS_cons]
    cases runE g.eds.reverse l with
    | none => rfl
    | some l' => simp [ih]
theorem runS_snoc (gs : List AG) (g : AG) (l m : List Int) (c x : Int) (h : runS gs l c = some (m, x)) : runS (gs ++ [g]) l c = (runE g.eds.reverse m).map fun m' => (m', g.cur) := by
  rw [runS_append, h]
  simp only [Option.bind_some, runS_cons]
  cases runE g.eds.reverse m with
  | none => rfl
  | some m' => rfl

/-- What a round of All leaves. -/
structure UA (n₀ Bs : Nat) (X : World) (l : List Int) (x : Int) (W : World) : Prop where
  line : ∃ A n c, Boxed W (n₀ + 1) 27 (.slice A n c) ∧ Txt W (.slice A n c) l
  cu : Boxed W (n₀ + 1 + 1) 3 (.int .i64 x)
  r0 : Boxed W (n₀ + 1 + 1 + 1) 27 (.slice none 0 0)
  r1 : Boxed W (n₀ + 1 + 1 + 1 + 1) 3 (.int .i64 0)
  r2 : Boxed W (n₀ + 1 + 1 + 1 + 1 + 1) 4 (.bool false)
  kp : KpB n₀ Bs X W
  size : X.heap.size ≤ W.heap.size
theorem UA.kept {n₀ Bs : Nat} {l : List Int} {x : Int} {X W W' : World} {row : Option Nat} (h : UA n₀ Bs X l x W) (hn : n₀ ≤ X.heap.size) (hBs : Bs < X.heap.size) (hg : W.grownBy W' row) (hr : ∀ r, row = some r → X.heap.size ≤ r ∧ ∃ o : Obj, W.heap[r]? = some o ∧ o.isCells = false) : UA n₀ Bs X l x W' := by
  obtain ⟨⟨A, n, c, b, t⟩, cu, r0, r1, r2, kp, hs⟩ := h
  have hr' := fun r e => (hr r e).2
  refine ⟨⟨A, n, c, Bxd.kept b hg hr', t.kept hg hr'⟩, Bxd.kept cu hg hr', Bxd.kept r0 hg hr', Bxd.kept r1 hg hr', Bxd.kept r2 hg hr', ⟨kp.1.grown hg (Nat.le_trans hn hs) (fun k e => Nat.le_trans hn (hr k e).1), fun j => ?_⟩, Nat.le_trans hs hg.size⟩
  refine (World.cell?_of_block (a := ⟨Bs, j, none⟩) (hg.block Bs (Nat.lt_of_lt_of_le hBs hs) fun e => ?_)).trans (kp.2 j)
  have := (hr Bs e.symm).1
  omega
/-- The same, in a world that a callee has left. -/
theorem UA.later {n₀ Bs : Nat} {l : List Int} {x : Int} {X W V : World} (h : UA n₀ Bs X l x W) (hn : n₀ ≤ X.heap.size) (hBs : Bs < X.heap.size) (hb : Below W.heap.size W V) : UA n₀ Bs X l x V := by
  obtain ⟨⟨A, n, c, b, t⟩, cu, r0, r1, r2, kp, hs⟩ := h
  refine ⟨⟨A, n, c, boxLater b hb (Boxed.lt b), t.later hb⟩, boxLater cu hb (Boxed.lt cu), boxLater r0 hb (Boxed.lt r0), boxLater r1 hb (Boxed.lt r1), boxLater r2 hb (Boxed.lt r2), ⟨kp.1.trans (hb.mono (Nat.le_trans hn hs)), fun j => ?_⟩, Nat.le_trans hs hb.size⟩
  exact (World.cell?_of_block (a := ⟨Bs, j, none⟩) (hb.block Bs (Nat.lt_of_lt_of_le hBs hs))).trans (kp.2 j)
/-- A line and a cursor are stored. -/
theorem UA.put {n₀ Bs : Nat} {l m : List Int} {x y : Int} {X V : World} {A : Option Addr} {n c : Nat} (h : UA n₀ Bs X l x V) (hb1 : n₀ + 1 + 1 + 1 + 1 + 1 < Bs) (ht : Txt V (.slice A n c) m) : UA n₀ Bs X m y ((V.setCell ⟨n₀ + 1, 0, none⟩ (.slice A n c)).setCell ⟨n₀ + 1 + 1, 0, none⟩ (.int .i64 y)) := by
  obtain ⟨⟨A', n', c', b, t⟩, cu, r0, r1, r2, kp, hs⟩ := h
  have b1 := Boxed.other cu (show n₀ + 1 + 1 ≠ n₀ + 1 by omega) (.slice A n c)
  refine ⟨⟨A, n, c, Boxed.other (Boxed.set _ b) (by omega) _, (ht.shape (boxBlk b) (noTxt_slice _ _ _) 0 _).shape (boxBlk b1) (noTxt_int _) 0 _⟩, Boxed.set _ b1, Boxed.other (Boxed.other r0 (by omega) _) (by omega) _, Boxed.other (Boxed.other r1 (by omega) _) (by omega) _, Boxed.other (Boxed.other r2 (by omega) _) (by omega) _, ⟨(kp.1.setCell (p := ⟨n₀ + 1, 0, none⟩) (by simp) _).setCell (p := ⟨n₀ + 1 + 1, 0, none⟩) (by simp; omega) _, fun j => ?_⟩, by simpa using hs⟩
  refine (World.cell?_of_block (a := ⟨Bs, j, none⟩) ?_).trans (kp.2 j)
  show ((V.setCell _ _).setCell _ _).heap[Bs]? = _
  rw [Below.heap_setCell _ _ _ _ (by show Bs ≠ n₀ + 1 + 1; omega), Below.heap_setCell _ _ _ _ (by show Bs ≠ n₀ + 1; omega)]
theorem kpb_of {n₀ Bs : Nat} {W V : World} (hn : n₀ ≤ W.heap.size) (hB : Bs < W.heap.size) (hb1 : n₀ + 1 + 1 < Bs) (hb : Below W.heap.size W V) (u v : Value) : KpB n₀ Bs W ((V.setCell ⟨n₀ + 1, 0, none⟩ u).setCell ⟨n₀ + 1 + 1, 0, none⟩ v) := by
  refine ⟨((hb.mono hn).setCell (p := ⟨n₀ + 1, 0, none⟩) (by simp) _).setCell (p := ⟨n₀ + 1 + 1, 0, none⟩) (by simp; omega) _, fun j => World.cell?_of_block (a := ⟨Bs, j, none⟩) ?_⟩
  show ((V.setCell _ _).setCell _ _).heap[Bs]? = _
  rw [Below.heap_setCell _ _ _ _ (by show Bs ≠ n₀ + 1 + 1; omega), Below.heap_setCell _ _ _ _ (by show Bs ≠ n₀ + 1; omega)]
  exact hb.block Bs hB

/-- Three results in cells, behind the rounds' deferred calls. -/
theorem all_end {w V : World} {D n₀ : Nat} {A : Option Addr} {n c : Nat} {x : Int} {ok : Bool} {l : List Int} (hD : w.heap.size ≤ D) (r0 : Boxed V (n₀ + 1 + 1 + 1) 27 (.slice A n c)) (r1 : Boxed V (n₀ + 1 + 1 + 1 + 1) 3 (.int .i64 x)) (r2 : Boxed V (n₀ + 1 + 1 + 1 + 1 + 1) 4 (.bool ok)) (hb : Below w.heap.size w V) (ht : Txt V (.slice A n c) l) (hK : V.heap[D]? = some (.deferred (some []))) (o : Obj) :
    (V.putObj D o).cell? ⟨n₀ + 1 + 1 + 1, 0, none⟩ = some (.slice A n c) ∧ (V.putObj D o).cell? ⟨n₀ + 1 + 1 + 1 + 1, 0, none⟩ = some (.int .i64 x) ∧ (V.putObj D o).cell? ⟨n₀ + 1 + 1 + 1 + 1 + 1, 0, none⟩ = some (.bool ok) ∧ Below w.heap.size w (V.putObj D o) ∧ Txt (V.putObj D o) (.slice A n c) l := by
  have hg := grownBy_putObj' V D o
  have hr : ∀ r, some D = some r → ∃ o : Obj, V.heap[r]? = some o ∧ o.isCells = false := fun r e => by cases e; exact ⟨_, hK, rfl⟩
  exact ⟨Boxed.cell (Bxd.kept r0 hg hr), Boxed.cell (Bxd.kept r1 hg hr), Boxed.cell (Bxd.kept r2 hg hr), hb.grown hg hb.size (fun k e => by cases e; exact hD), ht.kept hg hr⟩

/-- Three results are stored. -/
theorem all_last {w W : World} {D : Nat} {A : Option Addr} {n c : Nat} {y : Int} {l : List Int} (hD : w.heap.size + 1 + 1 + 1 + 1 + 1 < D) (tl : Txt W (.slice A n c) l) (r0 : Boxed W (w.heap.size + 1 + 1 + 1) 27 (.slice none 0 0)) (r1 : Boxed W (w.heap.size + 1 + 1 + 1 + 1) 3 (.int .i64 0)) (r2 : Boxed W (w.heap.size + 1 + 1 + 1 + 1 + 1) 4 (.bool false)) (hbW : Below w.heap.size w W) (hK : W.heap[D]? = some (.deferred (some []))) (o : Obj) (V : World)
    (hV : V = (((W.setCell ⟨w.heap.size + 1 + 1 + 1, 0, none⟩ (.slice A n c)).setCell ⟨w.heap.size + 1 + 1 + 1 + 1, 0, none⟩ (.int .i64 y)).setCell ⟨w.heap.size + 1 + 1 + 1 + 1 + 1, 0, none⟩ (.bool true)).drew) :
    V.heap[D]? = some (.deferred (some [])) ∧ (V.putObj D o).cell? ⟨w.heap.size + 1 + 1 + 1, 0, none⟩ = some (.slice A n c) ∧ (V.putObj D o).cell? ⟨w.heap.size + 1 + 1 + 1 + 1, 0, none⟩ = some (.int .i64 y) ∧ (V.putObj D o).cell? ⟨w.heap.size + 1 + 1 + 1 + 1 + 1, 0, none⟩ = some (.bool true) ∧ Below w.heap.size w (V.putObj D o) ∧ Txt (V.putObj D o) (.slice A n c) l := by
  have e5 : V.heap[D]? = some (.deferred (some [])) := by
    rw [hV]
    show (((W.setCell _ _).setCell _ _).setCell _ _).heap[D]? = _
    rw [Below.heap_setCell _ _ _ _ (by show D ≠ w.heap.size + 1 + 1 + 1 + 1 + 1; omega), Below.heap_setCell _ _ _ _ (by show D ≠ w.heap.size + 1 + 1 + 1 + 1; omega), Below.heap_setCell _ _ _ _ (by show D ≠ w.heap.size + 1 + 1 + 1; omega)]
    exact hK
  have g1 := Boxed.other r1 (show w.heap.size + 1 + 1 + 1 + 1 ≠ w.heap.size + 1 + 1 + 1 by omega) (.slice A n c)
  have g2 := Boxed.other (Boxed.other r2 (show w.heap.size + 1 + 1 + 1 + 1 + 1 ≠ w.heap.size + 1 + 1 + 1 by omega) (.slice A n c)) (show w.heap.size + 1 + 1 + 1 + 1 + 1 ≠ w.heap.size + 1 + 1 + 1 + 1 by omega) (.int .i64 y)
  have p0 : Boxed V (w.heap.size + 1 + 1 + 1) 27 (.slice A n c) := by
    rw [hV]
    exact Boxed.other (Boxed.other (Boxed.set (.slice A n c) r0) (by omega) (.int .i64 y)) (by omega) (.bool true)
  have p1 : Boxed V (w.heap.size + 1 + 1 + 1 + 1) 3 (.int .i64 y) := by
    rw [hV]
    exact Boxed.other (Boxed.set (.int .i64 y) g1) (by omega) (.bool true)
  have p2 : Boxed V (w.heap.size + 1 + 1 + 1 + 1 + 1) 4 (.bool true) := by
    rw [hV]
    exact Boxed.set (.bool true) g2
  have pb : Below w.heap.size w V := by
    rw [hV]
    exact (((hbW.setCell (p := ⟨w.heap.size + 1 + 1 + 1, 0, none⟩) (by simp; omega) _).setCell (p := ⟨w.heap.size + 1 + 1 + 1 + 1, 0, none⟩) (by simp; omega) _).setCell (p := ⟨w.heap.size + 1 + 1 + 1 + 1 + 1, 0, none⟩) (by simp; omega) _).drew
  have pt : Txt V (.slice A n c) l := by
    rw [hV]
    exact (((tl.shape (boxBlk r0) (noTxt_slice _ _ _) 0 _).shape (boxBlk g1) (noTxt_int _) 0 _).shape (boxBlk g2) (noTxt_bool _) 0 _).later (Below.refl _ _).drew
  exact ⟨e5, all_end (by omega) p0 p1 p2 pb pt e5 o⟩

def grOf (H : List GrH) (j : Nat) : GrH := H.getD j ⟨none, 0, 0, 0⟩
theorem grOf_is {H : List GrH} : ∀ (j : Nat) (x : GrH), H[j]? = some x → grOf H j = x := fun j x h => by simp [grOf, List.getD, h]
def TellsA (o : Option (List Int × Int)) (w : World) (e : Ending) (w' : World) : Prop := ∃ A n c x, e = .returned (.tuple #[.slice A n c, .int .i64 x, .bool o.isSome]) ∧ Txt w' (.slice A n c) ((o.map (·.1)).getD []) ∧ x = (o.map (·.2)).getD 0 ∧ Below w.heap.size w w'
/-- All groups are light. -/
def LightS (B M : Nat) (S : List AG) : Prop := ∀ g ∈ S, Light B g.eds ∧ B * g.eds.length ≤ M

set_option maxRecDepth 100000 in
set_option maxHeartbeats 4000000 in
theorem all_in (G : Option Addr) (n c : Nat) (cur : Int) (S : List AG) (A : Option Addr) (ln lc : Nat) (l : List Int) (w : World) (hG : Stk w (.slice G n c) S) (hl : Txt w (.slice A ln lc) l) (B M : Nat) (hB0 : 1 ≤ B) (hB1 : B ≤ 1000) (hM : 1 ≤ M) (hB : LightS B M S) (hs : l.length + M * S.length ≤ 90000) :
    CallsIn Fence.wide 6 Try.prog 17 #[.agg #[.slice G n c], .slice A ln lc, .int .i64 cur] w (TellsA (runS S.reverse l cur) w) := by
  have hro : Fence.wide.round = none := rfl
  have h1 : 1 ≤ 6 := by omega
  obtain ⟨H, hH, hR⟩ := hG
  obtain ⟨rfl, hLi, hnil, hcap, hcap2⟩ := hH.parts
  have HLen := Lib.hid hR.1
  obtain ⟨W0, hW0⟩ : ∃ W0, ((((((w.alloc (.cells #[.slice G H.length c] 25)).alloc (.cells #[.slice A ln lc] 27)).alloc (.cells #[.int .i64 cur] 3)).alloc (.cells #[.slice none 0 0] 27)).alloc (.cells #[.int .i64 0] 3)).alloc (.cells #[.bool false] 4)) = W0 := ⟨_, rfl⟩
  have b0 : Below w.heap.size w W0 := hW0 ▸ belPush (belPush (belPush (belPush (belPush (belAlloc _ _) _) _) _) _) _
  have s0 : W0.heap.size = w.heap.size + 1 + 1 + 1 + 1 + 1 + 1 := by rw [← hW0]; simp
  have q0 : Boxed W0 w.heap.size 25 (.slice G H.length c) ∧ Boxed W0 (w.heap.size + 1) 27 (.slice A ln lc) ∧ Boxed W0 (w.heap.size + 1 + 1) 3 (.int .i64 cur) ∧ Boxed W0 (w.heap.size + 1 + 1 + 1) 27 (.slice none 0 0) ∧ Boxed W0 (w.heap.size + 1 + 1 + 1 + 1) 3 (.int .i64 0) ∧ Boxed W0 (w.heap.size + 1 + 1 + 1 + 1 + 1) 4 (.bool false) := by
    have a0 := Boxed.new w 25 (.slice G H.length c)
    have a1 := Boxed.new (w.alloc (.cells #[.slice G H.length c] 25)) 27 (.slice A ln lc)
    have a2 := Boxed.new ((w.alloc (.cells #[.slice G H.length c] 25)).alloc (.cells #[.slice A ln lc] 27)) 3 (.int .i64 cur)
    have a3 := Boxed.new (((w.alloc (.cells #[.slice G H.length c] 25)).alloc (.cells #[.slice A ln lc] 27)).alloc (.cells #[.int .i64 cur] 3)) 27 (.slice none 0 0)
    have a4 := Boxed.new ((((w.alloc (.cells #[.slice G H.length c] 25)).alloc (.cells #[.slice A ln lc] 27)).alloc (.cells #[.int .i64 cur] 3)).alloc (.cells #[.slice none 0 0] 27)) 3 (.int .i64 0)
    have a5 := Boxed.new (((((w.alloc (.cells #[.slice G H.length c] 25)).alloc (.cells #[.slice A ln lc] 27)).alloc (.cells #[.int .i64 cur] 3)).alloc (.cells #[.slice none 0 0] 27)).alloc (.cells #[.int .i64 0] 3)) 4 (.bool false)
    simp only [World.size_alloc] at a1 a2 a3 a4 a5
    rw [← hW0]
    exact ⟨((((a0.alloc _).alloc _).alloc _).alloc _).alloc _, (((a1.alloc _).alloc _).alloc _).alloc _, ((a2.alloc _).alloc _).alloc _, (a3.alloc _).alloc _, a4.alloc _, a5⟩
  have C := Lib.hid ((clone_any _ _ _ (hl.later b0) (by omega)).mono (R' := fun e' w' => ∃ A' n c', e' = .returned (.slice A' n c') ∧ Txt w' (.slice A' n c') l ∧ Below w.heap.size w w' ∧ W0.heap.size ≤ w'.heap.size ∧ Boxed w' w.heap.size 25 (.slice G H.length c) ∧ Boxed w' (w.heap.size + 1) 27 (.slice A ln lc) ∧ Boxed w' (w.heap.size + 1 + 1) 3 (.int .i64 cur) ∧ Boxed w' (w.heap.size + 1 + 1 + 1) 27 (.slice none 0 0) ∧ Boxed w' (w.heap.size + 1 + 1 + 1 + 1) 3 (.int .i64 0) ∧ Boxed w' (w.heap.size + 1 + 1 + 1 + 1 + 1) 4 (.bool false)) (by
    rintro e' w' ⟨A, n, c', rfl, g1, g2⟩
    exact ⟨A, n, c', rfl, g1.any, b0.trans (g2.mono b0.size), g2.size, boxLater q0.1 g2 (by omega), boxLater q0.2.1 g2 (by omega), boxLater q0.2.2.1 g2 (by omega), boxLater q0.2.2.2.1 g2 (by omega), boxLater q0.2.2.2.2.1 g2 (by omega), boxLater q0.2.2.2.2.2 g2 (by omega)⟩))
  rw [← hW0] at C
  refine callsIn_of_wp_marks Try.func17 rfl trivial ?_ hro
  simp only [Try.ntmps17, List.size_toArray, List.length_cons, List.length_nil, Nat.reduceAdd, Nat.reduceSub, Array.replicate_succ, Array.replicate_zero, List.push_toArray, List.append_toArray, List.nil_append, List.cons_append]
  have HK := Lib.hid (And.intro hH (And.intro hLi (And.intro hR hl)))
  clear hl q0 b0 hH hLi hR s0 hW0
  gi_wp2_with fail
  refine ⟨trivial, ?_⟩
  refine (callsIn_wide.2 C.out).mono ?_
  rintro e w1 ⟨A1, n1, c1, rfl, t1, b1, z1, p0, p1, p2, p3, p4, p5⟩
  have HP := Lib.hid (And.intro t1 (And.intro b1 (And.intro p0 (And.intro p1 (And.intro p2 (And.intro p3 (And.intro p4 (And.intro p5 z1))))))))
  obtain ⟨y0, k0, j0⟩ := (show _ from boxBlk p0)
  obtain ⟨y1, k1, j1⟩ := (show _ from boxBlk p1)
  clear t1 b1 p0 p1 p2 p3 p4 p5 C
  gi_wp2_with (refine ⟨trivial, ?_⟩; gi_at_call 26; refine (backG_in Fence.wide (6 - 1) trivial hro _ _ _ _).mono ?_; rintro e w' ⟨rfl, rfl⟩)
  obtain ⟨t1, b1, p0, p1, p2, p3, p4, p5, z1⟩ := HP.out
  have s1 : w.heap.size + 1 + 1 + 1 + 1 + 1 + 1 ≤ w1.heap.size := by simpa using z1
  obtain ⟨X, hX⟩ : ∃ X, (w1.setCell ⟨w.heap.size + 1, 0, none⟩ (.slice A1 n1 c1)).alloc (.cells #[.slice G H.length c] 23) = X := ⟨_, rfl⟩
  have hbX : Below w.heap.size w X := by rw [← hX]; exact belPush (b1.setCell (by simp) _) _
  have hszX : X.heap.size = w1.heap.size + 1 := by rw [← hX]; simp
  have bS : Boxed X w1.heap.size 23 (.slice G H.length c) := by
    rw [← hX]
    have h := Boxed.new (w1.setCell ⟨w.heap.size + 1, 0, none⟩ (.slice A1 n1 c1)) 23 (.slice G H.length c)
    rwa [World.size_setCell] at h
  have hU : UA w.heap.size w1.heap.size X l cur X := by
    refine ⟨⟨A1, n1, c1, ?_, ?_⟩, ?_, ?_, ?_, ?_, KpB.refl _ _ _, Nat.le_refl _⟩
    · rw [← hX]; exact (Boxed.set _ p1).alloc _
    · rw [← hX]; exact (t1.shape (boxBlk p1) (noTxt_slice _ _ _) 0 _).later (belAlloc _ _)
    · rw [← hX]; exact (Boxed.other p2 (by omega) _).alloc _
    · rw [← hX]; exact (Boxed.other p3 (by omega) _).alloc _
    · rw [← hX]; exact (Boxed.other p4 (by omega) _).alloc _
    · rw [← hX]; exact (Boxed.other p5 (by omega) _).alloc _
  rw [hX]
  obtain ⟨hH, hLi, hR, hl⟩ := HK.out
  have hlen : S.length = H.length := hR.1.symm
  have hltA : ∀ b o, G = some ⟨b, o, none⟩ → 0 < S.length → b < w.heap.size := fun b o e h => by
    obtain ⟨b', o', e', hl', _⟩ := hLi.at (j := 0) (by omega)
    rw [e] at e'
    injection e' with e'
    injection e' with e1 e2
    omega
  have hBsX : w1.heap.size < X.heap.size := by omega
  have hcS : X.cell? ⟨w1.heap.size, 0, none⟩ = some (.slice G S.length c) := by rw [hlen]; exact bS.cell
  have hLs : S.length ≤ 90000 := by have := Nat.le_mul_of_pos_left S.length hM; omega
  have HB := Lib.hid hB
  have HSz := Lib.hid hs
  clear hX t1 b1 p0 p1 p2 p3 p4 p5 z1 y0 k0 j0 y1 k1 j1 hB hs
  refine wpIn_rangeFunc_ownH hro h1 (gf := 33) (lb := #[.pointer (some ⟨w1.heap.size, 0, none⟩)]) rfl trivial (enters_of Try.func33 (by kernel_rfl) rfl)
    (backG_stops Fence.wide (6 - 1) trivial hro (by omega) w1.heap.size w.heap.size G S.length c (grOf H) (by omega) X hBsX hbX.size hcS H hlen.symm grOf_is (hLi.later hbX) hltA) kpb_t (kpb_b hbX.size hBsX) (Below.refl _ _) (fun _ => rfl)
    (fun pre W => ∃ m x, runS (pre.map fun j : Fin S.length => S[j.1]'j.2) l cur = some (m, x) ∧ m.length ≤ l.length + M * pre.length ∧ UA w.heap.size w1.heap.size X m x W)
    (fun q pre W => q = .ret ∧ runS (pre.map fun j : Fin S.length => S[j.1]'j.2) l cur = none ∧ Boxed W (w.heap.size + 1 + 1 + 1) 27 (.slice none 0 0) ∧ Boxed W (w.heap.size + 1 + 1 + 1 + 1) 3 (.int .i64 0) ∧ Boxed W (w.heap.size + 1 + 1 + 1 + 1 + 1) 4 (.bool false) ∧ Below w.heap.size w W)
    (fun pre W W' row h hg hr => by obtain ⟨m, x, h1, h2, h3⟩ := h; exact ⟨m, x, h1, h2, h3.kept hbX.size hBsX hg hr⟩)
    (fun q pre W W' row h hg hr => by
      obtain ⟨h0, h1, h2, h3, h3', h4⟩ := h
      have hr' := fun r e => (hr r e).2
      exact ⟨h0, h1, Bxd.kept h2 hg hr', Bxd.kept h3 hg hr', Bxd.kept h3' hg hr', h4.grown hg h4.size (fun k e => by have := (hr k e).1; omega)⟩)
    ⟨l, cur, rfl, by omega, hU⟩
    (fun x a' W => ∃ Bx, w.heap.size + 1 + 1 + 1 + 1 + 1 < Bx ∧ Bx ≠ w1.heap.size ∧ Bxd W Bx 40 #[.slice (grOf H x.1).E (grOf H x.1).n (grOf H x.1).c, .int .i64 (grOf H x.1).cur] ∧ a' = { tmps := #[.agg #[.slice G H.length c], .slice A ln lc, .int .i64 cur, .pointer (some ⟨w.heap.size, 0, none⟩), .pointer (some ⟨w.heap.size + 1, 0, none⟩), .pointer (some ⟨w.heap.size + 1 + 1, 0, none⟩), .pointer (some ⟨w.heap.size + 1 + 1 + 1, 0, none⟩), .pointer (some ⟨w.heap.size + 1 + 1 + 1 + 1, 0, none⟩), .pointer (some ⟨w.heap.size + 1 + 1 + 1 + 1 + 1, 0, none⟩), undef, .pointer (some ⟨Bx, 0, none⟩), undef, undef, .slice A ln lc, .slice A1 n1 c1, .pointer (some ⟨w.heap.size, 0, none⟩), .slice G H.length c, .func (.func 33) #[] #[.pointer (some ⟨w1.heap.size, 0, none⟩)], .int .i64 (x.1 : Int), valG (grOf H x.1), undef, undef, undef, undef, undef, undef, undef, undef, undef, undef, undef, undef, undef], defers := [] })
    (fun x a' _ W W' row h hg hr => by
      obtain ⟨Bx, h1, h2, h3, h4⟩ := h
      exact ⟨Bx, h1, h2, h3.kept hg (fun r e => (hr r e).2), h4⟩)
    ?assign ?body ?done ?stop
  case assign =>
    rintro l' pre x W K hI hK
    have hI0 := Lib.hid hI
    obtain ⟨m, y, hm, hml, hU1⟩ := hI
    have hU2 := Lib.hid hU1
    clear hU hm hml hU1
    dsimp only [bwE, valG]
    gi_wp2
    have hsz := hU2.out.size
    refine hK _ _ ((KeepsOthers.alloc _ _).from _) ⟨(Below.refl _ W).alloc (by omega) _, fun j => World.cell?_of_block (a := ⟨w1.heap.size, j, none⟩) (Below.heap_alloc _ _ _ (by show w1.heap.size < _; omega))⟩ ?_ ⟨W.heap.size, by omega, by omega, Bxd.new W _ _, rfl⟩
    obtain ⟨m, y, hm, hml, hu⟩ := hI0.out
    exact ⟨m, y, hm, hml, hu.kept hbX.size hBsX (World.grownBy_alloc W _ none) (fun r e => by cases e)⟩
  case body =>
    rintro l' pre x a' W hl' hrec ⟨m, y, hm, hml, hU1⟩ ⟨Bx, hx1, hx2, bX, rfl⟩ hlt
    obtain ⟨gr, hed⟩ : ∃ gr, S[x.1]'x.2 = gr := ⟨_, rfl⟩
    have hE1 : GrIs w (grOf H x.1) gr := by
      have hj : H[x.1]? = some (H[x.1]'(by have := x.2; omega)) := List.getElem?_eq_getElem _
      rw [grOf_is _ _ hj]
      exact hR.2 x.1 _ _ hj (by rw [← hed]; exact List.getElem?_eq_getElem _)
    generalize grOf H x.1 = h at hE1 bX ⊢
    obtain ⟨E, en, ec, gc⟩ := h
    obtain ⟨q1, q2⟩ := hE1
    dsimp only at q1 q2 bX
    subst q1
    have HUA := Lib.hid hU1
    obtain ⟨⟨A2, n2, c2, bl, tl⟩, cu, r0, r1, r2, kp, hsz⟩ := hU1
    have hW : Below w.heap.size w W := hbX.trans kp.1
    have hbe := q2.later hW
    have hLB := HB.out gr (by rw [← hed]; exact List.getElem_mem _)
    have hbound : m.length + B * gr.eds.length ≤ l.length + M * (pre.length + 1) ∧ l.length + M * (pre.length + 1) ≤ 90000 := by
      have h2 := HSz.out
      have h3 := Nat.mul_le_mul_left M (show pre.length + 1 ≤ S.length from hlt)
      have h4 := hLB.2
      rw [Nat.mul_add] at *
      omega
    have HN := Lib.hid (And.intro hbound hLB.1)
    have HT := Lib.hid tl
    have HEd := Lib.hid hbe
    have HM := Lib.hid (And.intro hm hed)
    have HQ := Lib.hid hW
    have cl := bl.cell
    have ll0 := Boxed.lt bl
    obtain ⟨yx, kx, jx⟩ := (show _ from bX.blk)
    have HbX := Lib.hid bX
    have hmx : Try.prog.follows .mixedOrders = true := by kernel_rfl
    have hmx2 : 1 ≤ 6 - 1 - 1 := by omega
    have hfin : ∀ o, runE gr.eds.reverse m = o → runS ((pre ++ [x]).map fun j : Fin S.length => S[j.1]'j.2) l cur = o.map fun m' => (m', gr.cur) := fun o ho => by
      rw [List.map_append, List.map_cons, List.map_nil, hed, runS_snoc _ _ _ _ _ _ hm, ho]
    have HF := Lib.hid hfin
    have CU := undo_is E en ec gr.cur gr.eds A2 n2 c2 m W hbe tl B hB0 hB1 hLB.1 (by omega)
    have hml2 : ∀ m', runE gr.eds.reverse m = some m' → m'.length ≤ l.length + M * (pre.length + 1) := fun m' h => by
      have h5 := runE_len (B := B) (fun e he => hLB.1 e (List.mem_reverse.1 he)) h
      rw [List.length_reverse] at h5
      omega
    have HL := Lib.hid hml2
    cases hd : runE gr.eds.reverse m with
    | none =>
      rw [hd] at CU
      have HD := Lib.hid hd
      have CU := Lib.hid (show Calls _ _ _ _ (TellsE [] false W) from CU)
      clear q2 hbe hLB hml hm hed bl tl cu r0 r1 r2 kp hsz hU hLi hR hH hl bS hcS hbound bX hd hfin hml2
      dsimp only [valG]
      gi_wp2_with (refine ⟨trivial, ?_⟩; gi_at_call 27; refine (CallsIn.inRound l' (callsIn_wide.2 CU.out)).mono ?_; rintro e w4 ⟨A4, n4, c4, rfl, t4, hb4⟩; have U4 := HUA.out.later hbX.size hBsX hb4; have HW4 := Lib.hid (And.intro U4 hb4); have e1 := U4.r0.cell; have f1 := U4.r0.frozen; have e2 := U4.r1.cell; have f2 := U4.r1.frozen; have e3 := U4.r2.cell; have f3 := U4.r2.frozen; clear t4 hb4 U4)
      have hU4 := HW4.out.1
      exact ⟨(keeps_below _ HW4.out.2).trans ((((KeepsOthers.setCell _ _ _).from _).trans ((KeepsOthers.setCell _ _ _).from _)).trans ((KeepsOthers.setCell _ _ _).from _)), rfl, HF.out _ HD.out, Boxed.other (Boxed.other (Boxed.set _ hU4.r0) (by omega) _) (by omega) _, Boxed.other (Boxed.set _ (Boxed.other hU4.r1 (by omega) _)) (by omega) _, Boxed.set _ (Boxed.other (Boxed.other hU4.r2 (by omega) _) (by omega) _), (((HQ.out.trans (HW4.out.2.mono HQ.out.size)).setCell (by simp; omega) _).setCell (by simp; omega) _).setCell (by simp; omega) _⟩
    | some m' =>
      rw [hd] at CU
      have HD := Lib.hid hd
      have CU := Lib.hid (show Calls _ _ _ _ (TellsE m' true W) from CU)
      clear q2 hbe hLB hml hm hed bl tl cu r0 r1 r2 kp hsz hU hLi hR hH hl bS hcS hbound bX hd hfin hml2
      dsimp only [valG]
      gi_wp2_with (refine ⟨trivial, ?_⟩; gi_at_call 27; refine (CallsIn.inRound l' (callsIn_wide.2 CU.out)).mono ?_; rintro e w4 ⟨A4, n4, c4, rfl, t4, hb4⟩; have U4 := HUA.out.later hbX.size hBsX hb4; have b4 := HbX.out.later hb4 HbX.out.lt; have HW4 := Lib.hid (And.intro U4 (And.intro hb4 t4)); have e1 := U4.cu.cell; have f1 := U4.cu.frozen; obtain ⟨⟨A5, n5, c5, b5, _⟩, _⟩ := U4; have e2 := b5.cell; have f2 := b5.frozen; obtain ⟨y4, k4, j4⟩ := (show _ from b4.blk); clear t4 hb4 b4 b5)
      refine wpIn_region_any hmx (any_inRound l' rfl ?_ _ _ _ _ ?_)
      · exact no_defer (by rfl)
      change wpAnyIn _ _ _ _ _ _ _ _ _ (World.drew _)
      refine wpAnyIn_take (i := 0) (v := ?_) rfl rfl (by kernel_rfl) (by kernel_rfl) (by kernel_rfl) (fun _ _ _ h => h) ⟨Or.inl ⟨by rfl, ?_⟩, fun _ => rfl⟩ ?_
      rotate_left
      · intro Z; go_simp; try with_reducible rfl
      simp only [Act.put, List.setIfInBounds_toArray, List.set_cons_zero, List.set_cons_succ, List.getElem_toArray, List.getElem_cons_zero, List.getElem_cons_succ]
      refine wpAnyIn_take (i := 1) (v := ?_) rfl rfl (by kernel_rfl) (by kernel_rfl) (by kernel_rfl) (fun _ _ _ h => h) ⟨Or.inl ⟨by rfl, ?_⟩, fun _ => rfl⟩ ?_
      rotate_left
      · intro Z; go_simp; try with_reducible rfl
      simp only [Act.put, List.setIfInBounds_toArray, List.set_cons_zero, List.set_cons_succ, List.getElem_toArray, List.getElem_cons_zero, List.getElem_cons_succ]
      refine wpAnyIn_ready (rs := [2, 3]) (by kernel_rfl) (by simp) ?_
      refine AllReadyIn.cons rfl (fun K hK => ?_) (AllReadyIn.cons rfl (fun K hK => ?_) AllReadyIn.nil)
      · go_simp; refine hK _ _ ?_; clear hK K
        refine wpAnyIn_ready (rs := [3]) (by kernel_rfl) (by simp) ?_
        refine AllReadyIn.cons rfl (fun K hK => ?_) AllReadyIn.nil
        go_simp; refine hK _ _ ?_; clear hK K
        refine wpAnyIn_ready (rs := [4]) (by kernel_rfl) (by simp) ?_
        refine AllReadyIn.cons rfl (fun K hK => ?_) AllReadyIn.nil
        go_simp; refine hK _ _ ?_; clear hK K
        refine wpAnyIn_done (by kernel_rfl) ?_ _
        go_simp
        exact ⟨(keeps_below _ HW4.out.2.1.drew).trans (((KeepsOthers.setCell _ _ _).from _).trans ((KeepsOthers.setCell _ _ _).from _)), kpb_of (Nat.le_trans hbX.size HUA.out.size) (Nat.lt_of_lt_of_le hBsX HUA.out.size) (by omega) HW4.out.2.1.drew _ _, m', gr.cur, HF.out _ HD.out, by rw [List.length_append]; exact HL.out _ HD.out, (HUA.out.later hbX.size hBsX HW4.out.2.1.drew).put (by omega) (HW4.out.2.2.later (Below.refl _ _).drew)⟩
      · go_simp; refine hK _ _ ?_; clear hK K
        refine wpAnyIn_ready (rs := [2]) (by kernel_rfl) (by simp) ?_
        refine AllReadyIn.cons rfl (fun K hK => ?_) AllReadyIn.nil
        go_simp; refine hK _ _ ?_; clear hK K
        refine wpAnyIn_ready (rs := [4]) (by kernel_rfl) (by simp) ?_
        refine AllReadyIn.cons rfl (fun K hK => ?_) AllReadyIn.nil
        go_simp; refine hK _ _ ?_; clear hK K
        refine wpAnyIn_done (by kernel_rfl) ?_ _
        go_simp
        exact ⟨(keeps_below _ HW4.out.2.1.drew).trans (((KeepsOthers.setCell _ _ _).from _).trans ((KeepsOthers.setCell _ _ _).from _)), kpb_of (Nat.le_trans hbX.size HUA.out.size) (Nat.lt_of_lt_of_le hBsX HUA.out.size) (by omega) HW4.out.2.1.drew _ _, m', gr.cur, HF.out _ HD.out, by rw [List.length_append]; exact HL.out _ HD.out, (HUA.out.later hbX.size hBsX HW4.out.2.1.drew).put (by omega) (HW4.out.2.2.later (Below.refl _ _).drew)⟩
  case done =>
    rintro D ys W hD hS ⟨m, y, hm, hml, hU1⟩ hK
    rw [came_take hS (Nat.le_refl _), List.take_of_length_le (by simp)] at hm
    have HUA := Lib.hid hU1
    obtain ⟨⟨A2, n2, c2, bl, tl⟩, cu, r0, r1, r2, kp, hsz⟩ := hU1
    have hmx : Try.prog.follows .mixedOrders = true := by kernel_rfl
    have e0 := bl.cell
    have e1 := cu.cell
    have e2 := r0.cell
    have f2 := r0.frozen
    have e3 := r1.cell
    have f3 := r1.frozen
    have e4 := r2.cell
    have f4 := r2.frozen
    have HMm := Lib.hid hm
    have HZ := Lib.hid (And.intro bl (And.intro tl (And.intro r0 (And.intro r1 (And.intro r2 (hbX.trans kp.1))))))
    have HKD := Lib.hid hK
    clear hm hml hU bl tl cu r0 r1 r2 kp hLi hR hH hl bS hcS
    gi_wp2
    refine wpIn_region_any hmx ?_
    change wpAnyIn _ _ _ _ _ _ _ _ _ (World.drew _)
    refine wpAnyIn_ready (rs := [0, 1]) (by kernel_rfl) (by simp) ?_
    refine AllReadyIn.cons rfl (fun K hK => ?_) (AllReadyIn.cons rfl (fun K hK => ?_) AllReadyIn.nil)
    · go_simp; refine hK _ _ ?_; clear hK K
      refine wpAnyIn_ready (rs := [1, 2]) (by kernel_rfl) (by simp) ?_
      refine AllReadyIn.cons rfl (fun K hK => ?_) (AllReadyIn.cons rfl (fun K hK => ?_) AllReadyIn.nil)
      · go_simp; refine hK _ _ ?_; clear hK K
        refine wpAnyIn_ready (rs := [2]) (by kernel_rfl) (by simp) ?_
        refine AllReadyIn.cons rfl (fun K hK => ?_) AllReadyIn.nil
        go_simp; refine hK _ _ ?_; clear hK K
        refine wpAnyIn_ready (rs := [3]) (by kernel_rfl) (by simp) ?_
        refine AllReadyIn.cons rfl (fun K hK => ?_) AllReadyIn.nil
        go_simp; refine hK _ _ ?_; clear hK K
        refine wpAnyIn_ready (rs := [4]) (by kernel_rfl) (by simp) ?_
        refine AllReadyIn.cons rfl (fun K hK => ?_) AllReadyIn.nil
        go_simp; refine hK _ _ ?_; clear hK K
        refine wpAnyIn_done (by kernel_rfl) ?_ _
        gi_wp2
        obtain ⟨bl, tl, r0, r1, r2, hbW⟩ := HZ.out
        obtain ⟨e5, x0, x1, x2, hb', ht'⟩ := all_last (D := D) (y := y) (by omega) tl r0 r1 r2 hbW HKD.out (.deferred none) _ rfl
        refine ⟨by simp, .inl ⟨_, _, rfl, run_takeDeferred e5, ?_⟩⟩
        rw [HMm.out]
        refine ⟨.tuple #[.slice A2 n2 c2, .int .i64 y, .bool true], by simp [results, Try.results17, go_sem, x0, x1, x2], _, _, _, _, rfl, ht', rfl, hb'⟩
      · go_simp; refine hK _ _ ?_; clear hK K
        refine wpAnyIn_ready (rs := [1]) (by kernel_rfl) (by simp) ?_
        refine AllReadyIn.cons rfl (fun K hK => ?_) AllReadyIn.nil
        go_simp; refine hK _ _ ?_; clear hK K
        refine wpAnyIn_ready (rs := [3]) (by kernel_rfl) (by simp) ?_
        refine AllReadyIn.cons rfl (fun K hK => ?_) AllReadyIn.nil
        go_simp; refine hK _ _ ?_; clear hK K
        refine wpAnyIn_ready (rs := [4]) (by kernel_rfl) (by simp) ?_
        refine AllReadyIn.cons rfl (fun K hK => ?_) AllReadyIn.nil
        go_simp; refine hK _ _ ?_; clear hK K
        refine wpAnyIn_done (by kernel_rfl) ?_ _
        gi_wp2
        obtain ⟨bl, tl, r0, r1, r2, hbW⟩ := HZ.out
        obtain ⟨e5, x0, x1, x2, hb', ht'⟩ := all_last (D := D) (y := y) (by omega) tl r0 r1 r2 hbW HKD.out (.deferred none) _ rfl
        refine ⟨by simp, .inl ⟨_, _, rfl, run_takeDeferred e5, ?_⟩⟩
        rw [HMm.out]
        refine ⟨.tuple #[.slice A2 n2 c2, .int .i64 y, .bool true], by simp [results, Try.results17, go_sem, x0, x1, x2], _, _, _, _, rfl, ht', rfl, hb'⟩
    · go_simp; refine hK _ _ ?_; clear hK K
      refine wpAnyIn_ready (rs := [0]) (by kernel_rfl) (by simp) ?_
      refine AllReadyIn.cons rfl (fun K hK => ?_) AllReadyIn.nil
      go_simp; refine hK _ _ ?_; clear hK K
      refine wpAnyIn_ready (rs := [2]) (by kernel_rfl) (by simp) ?_
      refine AllReadyIn.cons rfl (fun K hK => ?_) AllReadyIn.nil
      go_simp; refine hK _ _ ?_; clear hK K
      refine wpAnyIn_ready (rs := [3]) (by kernel_rfl) (by simp) ?_
      refine AllReadyIn.cons rfl (fun K hK => ?_) AllReadyIn.nil
      go_simp; refine hK _ _ ?_; clear hK K
      refine wpAnyIn_ready (rs := [4]) (by kernel_rfl) (by simp) ?_
      refine AllReadyIn.cons rfl (fun K hK => ?_) AllReadyIn.nil
      go_simp; refine hK _ _ ?_; clear hK K
      refine wpAnyIn_done (by kernel_rfl) ?_ _
      gi_wp2
      obtain ⟨bl, tl, r0, r1, r2, hbW⟩ := HZ.out
      obtain ⟨e5, x0, x1, x2, hb', ht'⟩ := all_last (D := D) (y := y) (by omega) tl r0 r1 r2 hbW HKD.out (.deferred none) _ rfl
      refine ⟨by simp, .inl ⟨_, _, rfl, run_takeDeferred e5, ?_⟩⟩
      rw [HMm.out]
      refine ⟨.tuple #[.slice A2 n2 c2, .int .i64 y, .bool true], by simp [results, Try.results17, go_sem, x0, x1, x2], _, _, _, _, rfl, ht', rfl, hb'⟩
  case stop =>
    rintro D q pre W hD ⟨k, hk, hS⟩ ⟨rfl, hm, r0, r1, r2, hb⟩ hK
    rw [came_take hS hk] at hm
    have hm2 : runS S.reverse l cur = none := by
      rw [← List.take_append_drop k S.reverse, runS_append, hm]
      rfl
    rw [hm2]
    clear hm hm2 hU hLi hR hH hl bS hcS
    gi_wp2
    obtain ⟨x0, x1, x2, hb', ht'⟩ := all_end (D := D) (l := []) (by have := hbX.size; omega) r0 r1 r2 hb (Sl.nil _ _ _) hK (.deferred none)
    refine ⟨by simp, .inl ⟨_, _, rfl, run_takeDeferred hK, ?_⟩⟩
    refine ⟨.tuple #[.slice none 0 0, .int .i64 0, .bool false], by simp [results, Try.results17, go_sem, x0, x1, x2], _, _, _, _, rfl, ht', rfl, hb'⟩
theorem all_is (G : Option Addr) (n c : Nat) (cur : Int) (S : List AG) (A : Option Addr) (ln lc : Nat) (l : List Int) (w : World) (hG : Stk w (.slice G n c) S) (hl : Txt w (.slice A ln lc) l) (B M : Nat) (hB0 : 1 ≤ B) (hB1 : B ≤ 1000) (hM : 1 ≤ M) (hB : LightS B M S) (hs : l.length + M * S.length ≤ 90000) :
    Calls Try.prog 17 #[.agg #[.slice G n c], .slice A ln lc, .int .i64 cur] w (TellsA (runS S.reverse l cur) w) :=
  (callsIn_wide (n := 6)).1 (all_in G n c cur S A ln lc l w hG hl B M hB0 hB1 hM hB hs)
end Go.Proofs.Ytfmpldgeldocnaa
