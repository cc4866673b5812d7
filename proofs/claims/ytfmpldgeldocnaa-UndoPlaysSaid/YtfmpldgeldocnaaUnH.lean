/- undo: Group.Undo. -/
import Derived.Test.YtfmpldgeldocnaaUnG
import Derived.RangeFuncNested
import Derived.Test.YtfmpldgeldocnaaRndQ
namespace Go.Proofs.Ytfmpldgeldocnaa
open Go.RowKit Go.Shelf
set_option linter.unusedVariables false
set_option linter.unusedSimpArgs false
attribute [local go_sem] Oper.semAt_some

/-- A block of cells, to the letter. -/
def Bxd (W : World) (B : Nat) (t : TypeId) (cs : Array Value) : Prop := W.heap[B]? = some (.cells cs t (0, 0))
theorem Bxd.lt {W : World} {B : Nat} {t : TypeId} {cs : Array Value} (h : Bxd W B t cs) : B < W.heap.size := (Array.getElem?_eq_some_iff.1 h).1
theorem Bxd.blk {W : World} {B : Nat} {t : TypeId} {cs : Array Value} (h : Bxd W B t cs) : Blk W B cs :=
  ⟨h.lt, fun j => by simp [World.cell?, show W.heap[B]? = _ from h], fun j => by simp [World.frozen?, show W.heap[B]? = _ from h]⟩
theorem Bxd.new (W : World) (t : TypeId) (cs : Array Value) : Bxd (W.alloc (.cells cs t)) W.heap.size t cs := World.alloc_heap_new W _
theorem Bxd.kept {W W' : World} {row : Option Nat} {B : Nat} {t : TypeId} {cs : Array Value} (h : Bxd W B t cs) (hg : W.grownBy W' row) (hr : ∀ r, row = some r → ∃ o : Obj, W.heap[r]? = some o ∧ o.isCells = false) : Bxd W' B t cs :=
  (hg.block B h.lt (fun e' => by obtain ⟨o, ho, hc⟩ := hr B e'.symm; rw [show W.heap[B]? = _ from h] at ho; cases ho; cases hc)).trans h
theorem Bxd.later {W W' : World} {n B : Nat} {t : TypeId} {cs : Array Value} (h : Bxd W B t cs) (hb : Below n W W') (hn : B < n) : Bxd W' B t cs := (hb.block B hn).trans h
theorem boxed_bxd {W : World} {B : Nat} {t : TypeId} {v : Value} : Boxed W B t v ↔ Bxd W B t #[v] := Iff.rfl
theorem boxBlk {W : World} {B : Nat} {t : TypeId} {v : Value} (h : Boxed W B t v) : Blk W B #[v] := Bxd.blk h
theorem boxLater {W W' : World} {n B : Nat} {t : TypeId} {v : Value} (h : Boxed W B t v) (hb : Below n W W') (hn : B < n) : Boxed W' B t v := (hb.block B hn).trans h
theorem Txt.kept {w w' : World} {row : Option Nat} {v : Value} {l : List Int} (h : Txt w v l) (hg : w.grownBy w' row) (hr : ∀ r, row = some r → ∃ o : Obj, w.heap[r]? = some o ∧ o.isCells = false) : Txt w' v l := by
  obtain ⟨A, c, e, hrd, hx⟩ := h
  refine ⟨A, c, e, fun j hj => ?_, hx⟩
  obtain ⟨b, o, e, hl, hc⟩ := hrd j hj
  exact ⟨b, o, e, Nat.lt_of_lt_of_le hl hg.size, cell_kept hc hg hr⟩
theorem kpb_t {n₀ Bs : Nat} : ∀ {A B C : World}, KpB n₀ Bs A B → KpB n₀ Bs B C → KpB n₀ Bs A C := fun h k => h.trans k
theorem kpb_b {n₀ Bs : Nat} {w : World} (hn : n₀ ≤ w.heap.size) (hB : Bs < w.heap.size) : ∀ (W : World) (l : Nat) (o o' : Obj), w.heap.size ≤ l → W.heap[l]? = some o → o.isCells = false → o.isWalk = false → KpB n₀ Bs W (W.putObj l o') :=
  fun W l o o' hl h1 h2 h3 => ⟨belowK_b hn W l o o' hl h1 h2 h3, fun j => World.cell?_of_block (a := ⟨Bs, j, none⟩) (World.putObj_heap_other (by show Bs ≠ l; omega))⟩

/-- What has come, as a list. -/
theorem came_take {α : Type} {L : List α} {pre : List (Fin L.length)} {k : Nat} (h : Came pre k) (hk : k ≤ L.length) : (pre.map fun j : Fin L.length => L[j.1]'j.2) = L.reverse.take k := by
  have hl := h.len
  have h' : ∀ i (hi : i < pre.length), (pre[i]'hi).1 = L.length - 1 - i := fun i hi => by
    have h2 := congrArg (fun l => l[i]?) (show pre.map (·.1) = came (bwN L.length) k from h)
    simp [came, bwN, hi] at h2
    rw [List.getElem?_eq_getElem (by simp; omega)] at h2
    simpa [bwN] using h2
  apply List.ext_getElem
  · simp; omega
  · intro i h1 h2
    have hi : i < pre.length := by simpa using h1
    simp only [List.getElem_map, List.getElem_take, List.getElem_reverse]
    congr 1
    exact h' i hi

/-- What a round of Undo leaves. -/
structure UI (n₀ Bs : Nat) (X : World) (l : List Int) (W : World) : Prop where
  line : ∃ A n c, Boxed W (n₀ + 1) 27 (.slice A n c) ∧ Txt W (.slice A n c) l
  r0 : Boxed W (n₀ + 1 + 1) 27 (.slice none 0 0)
  r1 : Boxed W (n₀ + 1 + 1 + 1) 4 (.bool false)
  kp : KpB n₀ Bs X W
  size : X.heap.size ≤ W.heap.size
theorem UI.kept {n₀ Bs : Nat} {l : List Int} {X W W' : World} {row : Option Nat} (h : UI n₀ Bs X l W) (hn : n₀ ≤ X.heap.size) (hBs : Bs < X.heap.size) (hg : W.grownBy W' row) (hr : ∀ r, row = some r → X.heap.size ≤ r ∧ ∃ o : Obj, W.heap[r]? = some o ∧ o.isCells = false) : UI n₀ Bs X l W' := by
  obtain ⟨⟨A, n, c, b, t⟩, r0, r1, kp, hs⟩ := h
  have hr' := fun r e => (hr r e).2
  refine ⟨⟨A, n, c, Bxd.kept b hg hr', t.kept hg hr'⟩, Bxd.kept r0 hg hr', Bxd.kept r1 hg hr', ⟨kp.1.grown hg (Nat.le_trans hn hs) (fun k e => Nat.le_trans hn (hr k e).1), fun j => ?_⟩, Nat.le_trans hs hg.size⟩
  refine (World.cell?_of_block (a := ⟨Bs, j, none⟩) (hg.block Bs (Nat.lt_of_lt_of_le hBs hs) fun e => ?_)).trans (kp.2 j)
  have := (hr Bs e.symm).1
  omega

theorem keeps_below {W V : World} (B : Nat) (h : Below W.heap.size W V) : KeepsFrom B W V :=
  (show KeepsOthers W V from ⟨h.size, fun i o hi _ => (h.block i (Array.getElem?_eq_some_iff.1 hi).1).trans hi⟩).from _
/-- Behind an edit that fits: the line is stored. -/
theorem ui_next {n₀ Bs : Nat} {X W V : World} {A A' : Option Addr} {n c n' c' : Nat} {m : List Int} (hn : n₀ + 1 + 1 + 1 < Bs) (hX : n₀ ≤ X.heap.size) (hB : Bs < X.heap.size)
    (bl : Boxed W (n₀ + 1) 27 (.slice A n c)) (r0 : Boxed W (n₀ + 1 + 1) 27 (.slice none 0 0)) (r1 : Boxed W (n₀ + 1 + 1 + 1) 4 (.bool false)) (kp : KpB n₀ Bs X W) (hsz : X.heap.size ≤ W.heap.size)
    (hb : Below W.heap.size W V) (ht : Txt V (.slice A' n' c') m) :
    KeepsFrom X.heap.size W (V.setCell ⟨n₀ + 1, 0, none⟩ (.slice A' n' c')) ∧ KpB n₀ Bs W (V.setCell ⟨n₀ + 1, 0, none⟩ (.slice A' n' c')) ∧ UI n₀ Bs X m (V.setCell ⟨n₀ + 1, 0, none⟩ (.slice A' n' c')) := by
  have q1 := boxLater bl hb (Boxed.lt bl)
  have q2 := boxLater r0 hb (Boxed.lt r0)
  have q3 := boxLater r1 hb (Boxed.lt r1)
  have kk : KpB n₀ Bs W (V.setCell ⟨n₀ + 1, 0, none⟩ (.slice A' n' c')) := ⟨(hb.mono (by omega)).setCell (p := ⟨n₀ + 1, 0, none⟩) (by simp) _, fun j => World.cell?_of_block (a := ⟨Bs, j, none⟩) (by
    show (V.setCell ⟨n₀ + 1, 0, none⟩ (.slice A' n' c')).heap[Bs]? = W.heap[Bs]?
    rw [Below.heap_setCell _ _ _ _ (by show Bs ≠ n₀ + 1; omega)]
    exact hb.block Bs (by omega))⟩
  exact ⟨(keeps_below _ hb).trans ((KeepsOthers.setCell _ _ _).from _), kk, ⟨_, _, _, Boxed.set _ q1, ht.shape (boxBlk q1) (noTxt_slice _ _ _) 0 _⟩, Boxed.other q2 (by omega) _, Boxed.other q3 (by omega) _, kp.trans kk, by have := hb.size; simp; omega⟩

/-- Two results in cells, behind the rounds' deferred calls. -/
theorem undo_end {w V : World} {D n₀ : Nat} {A : Option Addr} {n c : Nat} {ok : Bool} {l : List Int} (hD : w.heap.size ≤ D) (r0 : Boxed V (n₀ + 1 + 1) 27 (.slice A n c)) (r1 : Boxed V (n₀ + 1 + 1 + 1) 4 (.bool ok)) (hb : Below w.heap.size w V) (ht : Txt V (.slice A n c) l) (hK : V.heap[D]? = some (.deferred (some []))) (o : Obj) :
    (V.putObj D o).cell? ⟨n₀ + 1 + 1, 0, none⟩ = some (.slice A n c) ∧ (V.putObj D o).cell? ⟨n₀ + 1 + 1 + 1, 0, none⟩ = some (.bool ok) ∧ Below w.heap.size w (V.putObj D o) ∧ Txt (V.putObj D o) (.slice A n c) l := by
  have hg := grownBy_putObj' V D o
  have hr : ∀ r, some D = some r → ∃ o : Obj, V.heap[r]? = some o ∧ o.isCells = false := fun r e => by cases e; exact ⟨_, hK, rfl⟩
  exact ⟨Boxed.cell (Bxd.kept r0 hg hr), Boxed.cell (Bxd.kept r1 hg hr), hb.grown hg hb.size (fun k e => by cases e; exact hD), ht.kept hg hr⟩

def edOf (H : List EdH) (j : Nat) : EdH := H.getD j ⟨0, none, 0, 0, none, 0, 0⟩
theorem edOf_is {H : List EdH} : ∀ (j : Nat) (x : EdH), H[j]? = some x → edOf H j = x := fun j x h => by simp [edOf, List.getD, h]

set_option maxRecDepth 100000 in
set_option maxHeartbeats 4000000 in
theorem undo_in (E : Option Addr) (n c : Nat) (cur : Int) (L : List AE) (A : Option Addr) (ln lc : Nat) (l : List Int) (w : World) (hE : Eds w (.slice E n c) L) (hl : Txt w (.slice A ln lc) l) (B : Nat) (hB0 : 1 ≤ B) (hB1 : B ≤ 1000) (hB : Light B L) (hs : l.length + B * L.length ≤ 90000) :
    CallsIn Fence.wide 6 Try.prog 27 #[.agg #[.slice E n c, .int .i64 cur], .slice A ln lc] w (TellsE ((runE L.reverse l).getD []) (runE L.reverse l).isSome w) := by
  have hro : Fence.wide.round = none := rfl
  have h1 : 1 ≤ 6 := by omega
  obtain ⟨H, hH, hR⟩ := hE
  obtain ⟨rfl, hLi, hnil, hcap, hcap2⟩ := hH.parts
  have HLen := Lib.hid hR.1
  obtain ⟨W0, hW0⟩ : ∃ W0, ((((w.alloc (.cells #[.slice E H.length c, .int .i64 cur] 40)).alloc (.cells #[.slice A ln lc] 27)).alloc (.cells #[.slice none 0 0] 27)).alloc (.cells #[.bool false] 4)) = W0 := ⟨_, rfl⟩
  have b0 : Below w.heap.size w W0 := hW0 ▸ belPush (belPush (belPush (belAlloc _ _) _) _) _
  have s0 : W0.heap.size = w.heap.size + 1 + 1 + 1 + 1 := by rw [← hW0]; simp
  have q0 : Bxd W0 w.heap.size 40 #[.slice E H.length c, .int .i64 cur] ∧ Boxed W0 (w.heap.size + 1) 27 (.slice A ln lc) ∧ Boxed W0 (w.heap.size + 1 + 1) 27 (.slice none 0 0) ∧ Boxed W0 (w.heap.size + 1 + 1 + 1) 4 (.bool false) := by
    have a0 := Bxd.new w 40 #[.slice E H.length c, .int .i64 cur]
    have a1 := Boxed.new (w.alloc (.cells #[.slice E H.length c, .int .i64 cur] 40)) 27 (.slice A ln lc)
    have a2 := Boxed.new ((w.alloc (.cells #[.slice E H.length c, .int .i64 cur] 40)).alloc (.cells #[.slice A ln lc] 27)) 27 (.slice none 0 0)
    have a3 := Boxed.new (((w.alloc (.cells #[.slice E H.length c, .int .i64 cur] 40)).alloc (.cells #[.slice A ln lc] 27)).alloc (.cells #[.slice none 0 0] 27)) 4 (.bool false)
    simp only [World.size_alloc] at a1 a2 a3
    rw [← hW0]
    exact ⟨((a0.later (belAlloc _ _) (by simp)).later (belAlloc _ _) (by simp; omega)).later (belAlloc _ _) (by simp; omega), (a1.alloc _).alloc _, a2.alloc _, a3⟩
  have C := Lib.hid ((clone_any _ _ _ (hl.later b0) (by omega)).mono (R' := fun e' w' => ∃ A' n c', e' = .returned (.slice A' n c') ∧ Txt w' (.slice A' n c') l ∧ Below w.heap.size w w' ∧ W0.heap.size ≤ w'.heap.size ∧ Bxd w' w.heap.size 40 #[.slice E H.length c, .int .i64 cur] ∧ Boxed w' (w.heap.size + 1) 27 (.slice A ln lc) ∧ Boxed w' (w.heap.size + 1 + 1) 27 (.slice none 0 0) ∧ Boxed w' (w.heap.size + 1 + 1 + 1) 4 (.bool false)) (by
    rintro e' w' ⟨A, n, c', rfl, g1, g2⟩
    exact ⟨A, n, c', rfl, g1.any, b0.trans (g2.mono b0.size), g2.size, q0.1.later g2 (by omega), boxLater q0.2.1 g2 (by omega), boxLater q0.2.2.1 g2 (by omega), boxLater q0.2.2.2 g2 (by omega)⟩))
  rw [← hW0] at C
  refine callsIn_of_wp_marks Try.func27 rfl trivial ?_ hro
  simp only [Try.ntmps27, List.size_toArray, List.length_cons, List.length_nil, Nat.reduceAdd, Nat.reduceSub, Array.replicate_succ, Array.replicate_zero, List.push_toArray, List.append_toArray, List.nil_append, List.cons_append]
  have HK := Lib.hid (And.intro hH (And.intro hLi (And.intro hR (And.intro hl q0))))
  have HS := Lib.hid (And.intro s0 b0)
  clear hl q0 b0 hH hLi hR s0 hW0
  gi_wp2_with fail
  refine ⟨trivial, ?_⟩
  refine (callsIn_wide.2 C.out).mono ?_
  rintro e w1 ⟨A1, n1, c1, rfl, t1, b1, z1, p0, p1, p2, p3⟩
  have HP := Lib.hid (And.intro t1 (And.intro b1 (And.intro p0 (And.intro p1 (And.intro p2 (And.intro p3 z1))))))
  obtain ⟨y0, k0, j0⟩ := (show _ from p0.blk)
  obtain ⟨y1, k1, j1⟩ := (show _ from boxBlk p1)
  clear t1 b1 p0 p1 p2 p3 C
  gi_wp2_with (refine ⟨trivial, ?_⟩; gi_at_call 34; refine (back_in Fence.wide (6 - 1) trivial hro _ _ _ _).mono ?_; rintro e w' ⟨rfl, rfl⟩)
  obtain ⟨t1, b1, p0, p1, p2, p3, z1⟩ := HP.out
  have s1 : w.heap.size + 1 + 1 + 1 + 1 ≤ w1.heap.size := by simpa using z1
  obtain ⟨X, hX⟩ : ∃ X, (w1.setCell ⟨w.heap.size + 1, 0, none⟩ (.slice A1 n1 c1)).alloc (.cells #[.slice E H.length c] 38) = X := ⟨_, rfl⟩
  have hbX : Below w.heap.size w X := by rw [← hX]; exact belPush (b1.setCell (by simp) _) _
  have hszX : X.heap.size = w1.heap.size + 1 := by rw [← hX]; simp
  have bS : Boxed X w1.heap.size 38 (.slice E H.length c) := by
    rw [← hX]
    have h := Boxed.new (w1.setCell ⟨w.heap.size + 1, 0, none⟩ (.slice A1 n1 c1)) 38 (.slice E H.length c)
    rwa [World.size_setCell] at h
  have hU : UI w.heap.size w1.heap.size X l X := by
    refine ⟨⟨A1, n1, c1, ?_, ?_⟩, ?_, ?_, KpB.refl _ _ _, Nat.le_refl _⟩
    · rw [← hX]; exact (Boxed.set _ p1).alloc _
    · rw [← hX]; exact (t1.shape (boxBlk p1) (noTxt_slice _ _ _) 0 _).later (belAlloc _ _)
    · rw [← hX]; exact (Boxed.other p2 (by omega) _).alloc _
    · rw [← hX]; exact (Boxed.other p3 (by omega) _).alloc _
  rw [hX]
  obtain ⟨hH, hLi, hR, hl, _⟩ := HK.out
  have hlen : L.length = H.length := hR.1.symm
  have hltA : ∀ b o, E = some ⟨b, o, none⟩ → 0 < L.length → b < w.heap.size := fun b o e h => by
    obtain ⟨b', o', e', hl', _⟩ := hLi.at (j := 0) (by omega)
    rw [e] at e'
    injection e' with e'
    injection e' with e1 e2
    omega
  have hBsX : w1.heap.size < X.heap.size := by omega
  have hcS : X.cell? ⟨w1.heap.size, 0, none⟩ = some (.slice E L.length c) := by rw [hlen]; exact bS.cell
  have hLs : L.length ≤ 90000 := by have := Nat.le_mul_of_pos_left L.length hB0; omega
  have HB := Lib.hid hB
  have HSz := Lib.hid hs
  clear hX t1 b1 p0 p1 p2 p3 z1 y0 k0 j0 y1 k1 j1 hB hs
  refine wpIn_rangeFunc_ownH hro h1 (gf := 38) (lb := #[.pointer (some ⟨w1.heap.size, 0, none⟩)]) rfl trivial (enters_of Try.func38 (by kernel_rfl) rfl)
    (back_stops Fence.wide (6 - 1) trivial hro (by omega) w1.heap.size w.heap.size E L.length c (edOf H) (by omega) X hBsX hbX.size hcS H hlen.symm edOf_is (hLi.later hbX) hltA) kpb_t (kpb_b hbX.size hBsX) (Below.refl _ _) (fun _ => rfl)
    (fun pre W => ∃ m, runE (pre.map fun j : Fin L.length => L[j.1]'j.2) l = some m ∧ UI w.heap.size w1.heap.size X m W)
    (fun q pre W => q = .ret ∧ runE (pre.map fun j : Fin L.length => L[j.1]'j.2) l = none ∧ Boxed W (w.heap.size + 1 + 1) 27 (.slice none 0 0) ∧ Boxed W (w.heap.size + 1 + 1 + 1) 4 (.bool false) ∧ Below w.heap.size w W)
    (fun pre W W' row h hg hr => by obtain ⟨m, h1, h2⟩ := h; exact ⟨m, h1, h2.kept hbX.size hBsX hg hr⟩)
    (fun q pre W W' row h hg hr => by
      obtain ⟨h0, h1, h2, h3, h4⟩ := h
      have hr' := fun r e => (hr r e).2
      exact ⟨h0, h1, Bxd.kept h2 hg hr', Bxd.kept h3 hg hr', h4.grown hg h4.size (fun k e => by have := (hr k e).1; omega)⟩)
    ⟨l, rfl, hU⟩
    (fun x a' W => ∃ Bx, w.heap.size + 1 + 1 + 1 < Bx ∧ Bx ≠ w1.heap.size ∧ Bxd W Bx 34 #[.int .i64 (edOf H x.1).at_, .slice (edOf H x.1).A (edOf H x.1).n (edOf H x.1).c, .slice (edOf H x.1).B (edOf H x.1).m (edOf H x.1).d] ∧ a' = { tmps := #[.agg #[.slice E H.length c, .int .i64 cur], .slice A ln lc, .pointer (some ⟨w.heap.size, 0, none⟩), .pointer (some ⟨w.heap.size + 1, 0, none⟩), .pointer (some ⟨w.heap.size + 1 + 1, 0, none⟩), .pointer (some ⟨w.heap.size + 1 + 1 + 1, 0, none⟩), undef, .pointer (some ⟨Bx, 0, none⟩), undef, undef, .slice A ln lc, .slice A1 n1 c1, .pointer (some ⟨w.heap.size, 0, none⟩), .slice E H.length c, .func (.func 38) #[] #[.pointer (some ⟨w1.heap.size, 0, none⟩)], .int .i64 (x.1 : Int), valE (edOf H x.1), undef, undef, undef, undef, undef, undef, undef, undef, undef, undef, undef], defers := [] })
    (fun x a' _ W W' row h hg hr => by
      obtain ⟨Bx, h1, h2, h3, h4⟩ := h
      exact ⟨Bx, h1, h2, h3.kept hg (fun r e => (hr r e).2), h4⟩)
    ?assign ?body ?done ?stop
  case assign =>
    rintro l' pre x W K hI hK
    have hI0 := Lib.hid hI
    obtain ⟨m, hm, hU1⟩ := hI
    have hU2 := Lib.hid hU1
    clear hU hm hU1
    dsimp only [bwE, valE]
    gi_wp2
    have hsz := hU2.out.size
    refine hK _ _ ((KeepsOthers.alloc _ _).from _) ⟨(Below.refl _ W).alloc (by omega) _, fun j => World.cell?_of_block (a := ⟨w1.heap.size, j, none⟩) (Below.heap_alloc _ _ _ (by show w1.heap.size < _; omega))⟩ ?_ ⟨W.heap.size, by omega, by omega, Bxd.new W _ _, rfl⟩
    obtain ⟨m, hm, hu⟩ := hI0.out
    exact ⟨m, hm, hu.kept hbX.size hBsX (World.grownBy_alloc W _ none) (fun r e => by cases e)⟩
  case body =>
    rintro l' pre x a' W hl' hrec ⟨m, hm, hU1⟩ ⟨Bx, hx1, hx2, bX, rfl⟩ hlt
    obtain ⟨ed, hed⟩ : ∃ ed, L[x.1]'x.2 = ed := ⟨_, rfl⟩
    have hE1 : EdIs w (edOf H x.1) ed := by
      have hj : H[x.1]? = some (H[x.1]'(by have := x.2; omega)) := List.getElem?_eq_getElem _
      rw [edOf_is _ _ hj]
      exact hR.2 x.1 _ _ hj (by rw [← hed]; exact List.getElem?_eq_getElem _)
    generalize edOf H x.1 = h at hE1 bX ⊢
    obtain ⟨at_, O, on, oc, I, im, ic⟩ := h
    obtain ⟨⟨A2, n2, c2, bl, tl⟩, r0, r1, kp, hsz⟩ := hU1
    have hW : Below w.heap.size w W := hbX.trans kp.1
    have hbe : EdIs W ⟨at_, I, im, ic, O, on, oc⟩ ed.back := by
      have := hE1.later hW
      exact ⟨this.1, this.2.2, this.2.1⟩
    have hLB := HB.out ed (by rw [← hed]; exact List.getElem_mem _)
    have hml : m.length ≤ 90000 := by
      have h1 := runE_len (B := B) (es := pre.map fun j : Fin L.length => L[j.1]'j.2) (fun e he => by
        obtain ⟨j, _, rfl⟩ := List.mem_map.1 he
        exact HB.out _ (List.getElem_mem _)) hm
      have h2 := HSz.out
      simp only [List.length_map] at h1
      have h3 := Nat.mul_le_mul_left B (Nat.le_of_lt hlt)
      omega
    have HN := Lib.hid (show m.length ≤ 100000 ∧ ed.back.old.length ≤ 1000 ∧ ed.back.new.length ≤ 1000 from ⟨by omega, by have h : ed.back.old.length ≤ B := hLB.2; omega, by have h : ed.back.new.length ≤ B := hLB.1; omega⟩)
    have HT := Lib.hid tl
    have HEd := Lib.hid hbe
    have HM := Lib.hid (And.intro hm hed)
    have HQ := Lib.hid (And.intro bl (And.intro r0 (And.intro r1 (And.intro kp (And.intro hsz hW)))))
    have cl := bl.cell
    have ll0 := Boxed.lt bl
    obtain ⟨yx, kx, jx⟩ := (show _ from bX.blk)
    have hmx : Try.prog.follows .mixedOrders = true := by kernel_rfl
    have hmx2 : 1 ≤ 6 - 1 - 1 := by omega
    clear hE1 hbe hLB hml hm hed bl tl r0 r1 kp hsz hU hLi hR hH hl bS hcS
    dsimp only [valE]
    gi_wp2
    refine wpIn_region_any hmx (any_inRound l' rfl ?_ _ _ _ _ ?_)
    · exact no_defer (by rfl)
    change wpAnyIn _ _ _ _ _ _ _ _ _ (World.drew _)
    refine wpAnyIn_ready (rs := [0, 2]) (by kernel_rfl) (by simp) ?_
    refine AllReadyIn.cons rfl (fun K hK => ?_) (AllReadyIn.cons rfl (fun K hK => ?_) AllReadyIn.nil)
    · go_simp; refine hK _ _ ?_; clear hK K
      refine wpAnyIn_ready (rs := [1, 2]) (by kernel_rfl) (by simp) ?_
      refine AllReadyIn.cons rfl (fun K hK => ?_) (AllReadyIn.cons rfl (fun K hK => ?_) AllReadyIn.nil)
      · rw [if_pos (by rfl)]; go_simp; refine ⟨trivial, ?_⟩; refine (callsIn_wide.2 (back_is at_ O on oc I im ic _)).mono ?_; rintro e w3 ⟨rfl, hb3⟩; have hW3 : Below W.heap.size W w3 := (Below.refl W.heap.size W).drew.trans hb3; have cl3 := (hW3.cell (p := ⟨w.heap.size + 1, 0, none⟩) ll0).trans cl; have HW3 := Lib.hid hW3; clear hb3 hW3; dsimp only; refine hK _ _ ?_; clear hK K
        refine wpAnyIn_ready (rs := [2]) (by kernel_rfl) (by simp) ?_
        refine AllReadyIn.cons rfl (fun K hK => ?_) AllReadyIn.nil
        go_simp; refine hK _ _ ?_; clear hK K
        refine wpAnyIn_ready (rs := [3]) (by kernel_rfl) (by simp) ?_
        refine AllReadyIn.cons rfl (fun K hK => ?_) AllReadyIn.nil
        rw [if_pos (by rfl)]; go_simp; refine ⟨trivial, ?_⟩; refine (callsIn_wide.2 (do_is at_ I im ic O on oc _ ed.back m w3 (HEd.out.later HW3.out) (HT.out.later HW3.out) HN.out.1 HN.out.2.1 HN.out.2.2)).mono ?_; rintro e w4 ⟨A4, n4, c4, rfl, t4, hb4⟩; have HW4 := Lib.hid (And.intro t4 (HW3.out.trans (hb4.mono HW3.out.size))); clear t4 hb4; dsimp only; refine hK _ _ ?_; clear hK K
        refine wpAnyIn_take (i := 4) (v := ?_) rfl rfl (by kernel_rfl) (by kernel_rfl) (by kernel_rfl) (fun _ _ _ h => h) ⟨Or.inl ⟨by rfl, ?_⟩, fun _ => rfl⟩ ?_
        rotate_left
        · intro Z; go_simp; try with_reducible rfl
        simp only [Act.put, List.setIfInBounds_toArray, List.set_cons_zero, List.set_cons_succ, List.getElem_toArray, List.getElem_cons_zero, List.getElem_cons_succ]
        refine wpAnyIn_take (i := 5) (v := ?_) rfl rfl (by kernel_rfl) (by kernel_rfl) (by kernel_rfl) (fun _ _ _ h => h) ⟨Or.inl ⟨by rfl, ?_⟩, fun _ => rfl⟩ ?_
        rotate_left
        · intro Z; go_simp; try with_reducible rfl
        simp only [Act.put, List.setIfInBounds_toArray, List.set_cons_zero, List.set_cons_succ, List.getElem_toArray, List.getElem_cons_zero, List.getElem_cons_succ]
        refine wpAnyIn_take (i := 6) (v := ?_) rfl rfl (by kernel_rfl) (by kernel_rfl) (by kernel_rfl) (fun _ _ _ h => h) ⟨Or.inl ⟨by rfl, ?_⟩, fun _ => rfl⟩ ?_
        rotate_left
        · intro Z; go_simp; try with_reducible rfl
        simp only [Act.put, List.setIfInBounds_toArray, List.set_cons_zero, List.set_cons_succ, List.getElem_toArray, List.getElem_cons_zero, List.getElem_cons_succ]
        refine wpAnyIn_take (i := 7) (v := ?_) rfl rfl (by kernel_rfl) (by kernel_rfl) (by kernel_rfl) (fun _ _ _ h => h) ⟨Or.inl ⟨by rfl, ?_⟩, fun _ => rfl⟩ ?_
        rotate_left
        · intro Z; go_simp; try with_reducible rfl
        simp only [Act.put, List.setIfInBounds_toArray, List.set_cons_zero, List.set_cons_succ, List.getElem_toArray, List.getElem_cons_zero, List.getElem_cons_succ]
        refine wpAnyIn_take (i := 8) (v := ?_) rfl rfl (by kernel_rfl) (by kernel_rfl) (by kernel_rfl) (fun _ _ _ h => h) ⟨Or.inl ⟨by rfl, ?_⟩, fun _ => rfl⟩ ?_
        rotate_left
        · intro Z; go_simp; try with_reducible rfl
        simp only [Act.put, List.setIfInBounds_toArray, List.set_cons_zero, List.set_cons_succ, List.getElem_toArray, List.getElem_cons_zero, List.getElem_cons_succ]
        refine wpAnyIn_done (by kernel_rfl) ?_ _
        obtain ⟨bl, r0, r1, kp, hsz, hW⟩ := HQ.out
        have q1 := boxLater bl HW4.out.2 (Boxed.lt bl)
        have q2 := boxLater r0 HW4.out.2 (Boxed.lt r0)
        have q3 := boxLater r1 HW4.out.2 (Boxed.lt r1)
        have c1' := q1.cell
        have f1' := q1.frozen
        have c2' := q2.cell
        have f2' := q2.frozen
        have c3' := q3.cell
        have f3' := q3.frozen
        have HM1 := Lib.hid (show runE ((pre ++ [x]).map fun j : Fin L.length => L[j.1]'j.2) l = doE ed.back m by rw [List.map_append, runE_append, HM.out.1, List.map_cons, List.map_nil, HM.out.2]; simp [runE])
        cases hd : doE ed.back m with
        | none =>
          have HD := Lib.hid hd
          simp only [Option.isSome_none]
          have HQ2 := Lib.hid (And.intro q2 q3)
          clear hd bl r0 r1 kp hsz hW q1 q2 q3 cl3 cl kx jx
          gi_wp2
          exact ⟨(keeps_below _ HW4.out.2).trans (((KeepsOthers.setCell _ _ _).from _).trans ((KeepsOthers.setCell _ _ _).from _)), rfl, by rw [HM1.out, HD.out], Boxed.other (Boxed.set _ HQ2.out.1) (by omega) _, Boxed.set _ (Boxed.other HQ2.out.2 (by omega) _), ((HQ.out.2.2.2.2.2.trans (HW4.out.2.mono HQ.out.2.2.2.2.2.size)).setCell (by simp; omega) _).setCell (by simp; omega) _⟩
        | some m' =>
          have HD := Lib.hid hd
          simp only [Option.isSome_some]
          have ht' : Txt w4 (.slice A4 n4 c4) m' := by have := HW4.out.1; rw [hd] at this; exact this
          have HZ := Lib.hid (ui_next (by omega) hbX.size hBsX bl r0 r1 kp hsz HW4.out.2 ht')
          clear hd bl r0 r1 kp hsz hW q1 q2 q3 cl3 cl kx jx ht'
          gi_wp2
          exact ⟨HZ.out.1, HZ.out.2.1, m', by rw [HM1.out, HD.out], HZ.out.2.2⟩
      · go_simp; refine hK _ _ ?_; clear hK K
        refine wpAnyIn_ready (rs := [1]) (by kernel_rfl) (by simp) ?_
        refine AllReadyIn.cons rfl (fun K hK => ?_) AllReadyIn.nil
        rw [if_pos (by rfl)]; go_simp; refine ⟨trivial, ?_⟩; refine (callsIn_wide.2 (back_is at_ O on oc I im ic _)).mono ?_; rintro e w3 ⟨rfl, hb3⟩; have hW3 : Below W.heap.size W w3 := (Below.refl W.heap.size W).drew.trans hb3; have cl3 := (hW3.cell (p := ⟨w.heap.size + 1, 0, none⟩) ll0).trans cl; have HW3 := Lib.hid hW3; clear hb3 hW3; dsimp only; refine hK _ _ ?_; clear hK K
        refine wpAnyIn_ready (rs := [3]) (by kernel_rfl) (by simp) ?_
        refine AllReadyIn.cons rfl (fun K hK => ?_) AllReadyIn.nil
        rw [if_pos (by rfl)]; go_simp; refine ⟨trivial, ?_⟩; refine (callsIn_wide.2 (do_is at_ I im ic O on oc _ ed.back m w3 (HEd.out.later HW3.out) (HT.out.later HW3.out) HN.out.1 HN.out.2.1 HN.out.2.2)).mono ?_; rintro e w4 ⟨A4, n4, c4, rfl, t4, hb4⟩; have HW4 := Lib.hid (And.intro t4 (HW3.out.trans (hb4.mono HW3.out.size))); clear t4 hb4; dsimp only; refine hK _ _ ?_; clear hK K
        refine wpAnyIn_take (i := 4) (v := ?_) rfl rfl (by kernel_rfl) (by kernel_rfl) (by kernel_rfl) (fun _ _ _ h => h) ⟨Or.inl ⟨by rfl, ?_⟩, fun _ => rfl⟩ ?_
        rotate_left
        · intro Z; go_simp; try with_reducible rfl
        simp only [Act.put, List.setIfInBounds_toArray, List.set_cons_zero, List.set_cons_succ, List.getElem_toArray, List.getElem_cons_zero, List.getElem_cons_succ]
        refine wpAnyIn_take (i := 5) (v := ?_) rfl rfl (by kernel_rfl) (by kernel_rfl) (by kernel_rfl) (fun _ _ _ h => h) ⟨Or.inl ⟨by rfl, ?_⟩, fun _ => rfl⟩ ?_
        rotate_left
        · intro Z; go_simp; try with_reducible rfl
        simp only [Act.put, List.setIfInBounds_toArray, List.set_cons_zero, List.set_cons_succ, List.getElem_toArray, List.getElem_cons_zero, List.getElem_cons_succ]
        refine wpAnyIn_take (i := 6) (v := ?_) rfl rfl (by kernel_rfl) (by kernel_rfl) (by kernel_rfl) (fun _ _ _ h => h) ⟨Or.inl ⟨by rfl, ?_⟩, fun _ => rfl⟩ ?_
        rotate_left
        · intro Z; go_simp; try with_reducible rfl
        simp only [Act.put, List.setIfInBounds_toArray, List.set_cons_zero, List.set_cons_succ, List.getElem_toArray, List.getElem_cons_zero, List.getElem_cons_succ]
        refine wpAnyIn_take (i := 7) (v := ?_) rfl rfl (by kernel_rfl) (by kernel_rfl) (by kernel_rfl) (fun _ _ _ h => h) ⟨Or.inl ⟨by rfl, ?_⟩, fun _ => rfl⟩ ?_
        rotate_left
        · intro Z; go_simp; try with_reducible rfl
        simp only [Act.put, List.setIfInBounds_toArray, List.set_cons_zero, List.set_cons_succ, List.getElem_toArray, List.getElem_cons_zero, List.getElem_cons_succ]
        refine wpAnyIn_take (i := 8) (v := ?_) rfl rfl (by kernel_rfl) (by kernel_rfl) (by kernel_rfl) (fun _ _ _ h => h) ⟨Or.inl ⟨by rfl, ?_⟩, fun _ => rfl⟩ ?_
        rotate_left
        · intro Z; go_simp; try with_reducible rfl
        simp only [Act.put, List.setIfInBounds_toArray, List.set_cons_zero, List.set_cons_succ, List.getElem_toArray, List.getElem_cons_zero, List.getElem_cons_succ]
        refine wpAnyIn_done (by kernel_rfl) ?_ _
        obtain ⟨bl, r0, r1, kp, hsz, hW⟩ := HQ.out
        have q1 := boxLater bl HW4.out.2 (Boxed.lt bl)
        have q2 := boxLater r0 HW4.out.2 (Boxed.lt r0)
        have q3 := boxLater r1 HW4.out.2 (Boxed.lt r1)
        have c1' := q1.cell
        have f1' := q1.frozen
        have c2' := q2.cell
        have f2' := q2.frozen
        have c3' := q3.cell
        have f3' := q3.frozen
        have HM1 := Lib.hid (show runE ((pre ++ [x]).map fun j : Fin L.length => L[j.1]'j.2) l = doE ed.back m by rw [List.map_append, runE_append, HM.out.1, List.map_cons, List.map_nil, HM.out.2]; simp [runE])
        cases hd : doE ed.back m with
        | none =>
          have HD := Lib.hid hd
          simp only [Option.isSome_none]
          have HQ2 := Lib.hid (And.intro q2 q3)
          clear hd bl r0 r1 kp hsz hW q1 q2 q3 cl3 cl kx jx
          gi_wp2
          exact ⟨(keeps_below _ HW4.out.2).trans (((KeepsOthers.setCell _ _ _).from _).trans ((KeepsOthers.setCell _ _ _).from _)), rfl, by rw [HM1.out, HD.out], Boxed.other (Boxed.set _ HQ2.out.1) (by omega) _, Boxed.set _ (Boxed.other HQ2.out.2 (by omega) _), ((HQ.out.2.2.2.2.2.trans (HW4.out.2.mono HQ.out.2.2.2.2.2.size)).setCell (by simp; omega) _).setCell (by simp; omega) _⟩
        | some m' =>
          have HD := Lib.hid hd
          simp only [Option.isSome_some]
          have ht' : Txt w4 (.slice A4 n4 c4) m' := by have := HW4.out.1; rw [hd] at this; exact this
          have HZ := Lib.hid (ui_next (by omega) hbX.size hBsX bl r0 r1 kp hsz HW4.out.2 ht')
          clear hd bl r0 r1 kp hsz hW q1 q2 q3 cl3 cl kx jx ht'
          gi_wp2
          exact ⟨HZ.out.1, HZ.out.2.1, m', by rw [HM1.out, HD.out], HZ.out.2.2⟩
    · go_simp; refine hK _ _ ?_; clear hK K
      refine wpAnyIn_ready (rs := [0]) (by kernel_rfl) (by simp) ?_
      refine AllReadyIn.cons rfl (fun K hK => ?_) AllReadyIn.nil
      go_simp; refine hK _ _ ?_; clear hK K
      refine wpAnyIn_ready (rs := [1]) (by kernel_rfl) (by simp) ?_
      refine AllReadyIn.cons rfl (fun K hK => ?_) AllReadyIn.nil
      rw [if_pos (by rfl)]; go_simp; refine ⟨trivial, ?_⟩; refine (callsIn_wide.2 (back_is at_ O on oc I im ic _)).mono ?_; rintro e w3 ⟨rfl, hb3⟩; have hW3 : Below W.heap.size W w3 := (Below.refl W.heap.size W).drew.trans hb3; have cl3 := (hW3.cell (p := ⟨w.heap.size + 1, 0, none⟩) ll0).trans cl; have HW3 := Lib.hid hW3; clear hb3 hW3; dsimp only; refine hK _ _ ?_; clear hK K
      refine wpAnyIn_ready (rs := [3]) (by kernel_rfl) (by simp) ?_
      refine AllReadyIn.cons rfl (fun K hK => ?_) AllReadyIn.nil
      rw [if_pos (by rfl)]; go_simp; refine ⟨trivial, ?_⟩; refine (callsIn_wide.2 (do_is at_ I im ic O on oc _ ed.back m w3 (HEd.out.later HW3.out) (HT.out.later HW3.out) HN.out.1 HN.out.2.1 HN.out.2.2)).mono ?_; rintro e w4 ⟨A4, n4, c4, rfl, t4, hb4⟩; have HW4 := Lib.hid (And.intro t4 (HW3.out.trans (hb4.mono HW3.out.size))); clear t4 hb4; dsimp only; refine hK _ _ ?_; clear hK K
      refine wpAnyIn_take (i := 4) (v := ?_) rfl rfl (by kernel_rfl) (by kernel_rfl) (by kernel_rfl) (fun _ _ _ h => h) ⟨Or.inl ⟨by rfl, ?_⟩, fun _ => rfl⟩ ?_
      rotate_left
      · intro Z; go_simp; try with_reducible rfl
      simp only [Act.put, List.setIfInBounds_toArray, List.set_cons_zero, List.set_cons_succ, List.getElem_toArray, List.getElem_cons_zero, List.getElem_cons_succ]
      refine wpAnyIn_take (i := 5) (v := ?_) rfl rfl (by kernel_rfl) (by kernel_rfl) (by kernel_rfl) (fun _ _ _ h => h) ⟨Or.inl ⟨by rfl, ?_⟩, fun _ => rfl⟩ ?_
      rotate_left
      · intro Z; go_simp; try with_reducible rfl
      simp only [Act.put, List.setIfInBounds_toArray, List.set_cons_zero, List.set_cons_succ, List.getElem_toArray, List.getElem_cons_zero, List.getElem_cons_succ]
      refine wpAnyIn_take (i := 6) (v := ?_) rfl rfl (by kernel_rfl) (by kernel_rfl) (by kernel_rfl) (fun _ _ _ h => h) ⟨Or.inl ⟨by rfl, ?_⟩, fun _ => rfl⟩ ?_
      rotate_left
      · intro Z; go_simp; try with_reducible rfl
      simp only [Act.put, List.setIfInBounds_toArray, List.set_cons_zero, List.set_cons_succ, List.getElem_toArray, List.getElem_cons_zero, List.getElem_cons_succ]
      refine wpAnyIn_take (i := 7) (v := ?_) rfl rfl (by kernel_rfl) (by kernel_rfl) (by kernel_rfl) (fun _ _ _ h => h) ⟨Or.inl ⟨by rfl, ?_⟩, fun _ => rfl⟩ ?_
      rotate_left
      · intro Z; go_simp; try with_reducible rfl
      simp only [Act.put, List.setIfInBounds_toArray, List.set_cons_zero, List.set_cons_succ, List.getElem_toArray, List.getElem_cons_zero, List.getElem_cons_succ]
      refine wpAnyIn_take (i := 8) (v := ?_) rfl rfl (by kernel_rfl) (by kernel_rfl) (by kernel_rfl) (fun _ _ _ h => h) ⟨Or.inl ⟨by rfl, ?_⟩, fun _ => rfl⟩ ?_
      rotate_left
      · intro Z; go_simp; try with_reducible rfl
      simp only [Act.put, List.setIfInBounds_toArray, List.set_cons_zero, List.set_cons_succ, List.getElem_toArray, List.getElem_cons_zero, List.getElem_cons_succ]
      refine wpAnyIn_done (by kernel_rfl) ?_ _
      obtain ⟨bl, r0, r1, kp, hsz, hW⟩ := HQ.out
      have q1 := boxLater bl HW4.out.2 (Boxed.lt bl)
      have q2 := boxLater r0 HW4.out.2 (Boxed.lt r0)
      have q3 := boxLater r1 HW4.out.2 (Boxed.lt r1)
      have c1' := q1.cell
      have f1' := q1.frozen
      have c2' := q2.cell
      have f2' := q2.frozen
      have c3' := q3.cell
      have f3' := q3.frozen
      have HM1 := Lib.hid (show runE ((pre ++ [x]).map fun j : Fin L.length => L[j.1]'j.2) l = doE ed.back m by rw [List.map_append, runE_append, HM.out.1, List.map_cons, List.map_nil, HM.out.2]; simp [runE])
      cases hd : doE ed.back m with
      | none =>
        have HD := Lib.hid hd
        simp only [Option.isSome_none]
        have HQ2 := Lib.hid (And.intro q2 q3)
        clear hd bl r0 r1 kp hsz hW q1 q2 q3 cl3 cl kx jx
        gi_wp2
        exact ⟨(keeps_below _ HW4.out.2).trans (((KeepsOthers.setCell _ _ _).from _).trans ((KeepsOthers.setCell _ _ _).from _)), rfl, by rw [HM1.out, HD.out], Boxed.other (Boxed.set _ HQ2.out.1) (by omega) _, Boxed.set _ (Boxed.other HQ2.out.2 (by omega) _), ((HQ.out.2.2.2.2.2.trans (HW4.out.2.mono HQ.out.2.2.2.2.2.size)).setCell (by simp; omega) _).setCell (by simp; omega) _⟩
      | some m' =>
        have HD := Lib.hid hd
        simp only [Option.isSome_some]
        have ht' : Txt w4 (.slice A4 n4 c4) m' := by have := HW4.out.1; rw [hd] at this; exact this
        have HZ := Lib.hid (ui_next (by omega) hbX.size hBsX bl r0 r1 kp hsz HW4.out.2 ht')
        clear hd bl r0 r1 kp hsz hW q1 q2 q3 cl3 cl kx jx ht'
        gi_wp2
        exact ⟨HZ.out.1, HZ.out.2.1, m', by rw [HM1.out, HD.out], HZ.out.2.2⟩
  case done =>
    rintro D ys W hD hS ⟨m, hm, hU1⟩ hK
    rw [came_take hS (Nat.le_refl _), List.take_of_length_le (by simp)] at hm
    obtain ⟨⟨A2, n2, c2, bl, tl⟩, r0, r1, kp, hsz⟩ := hU1
    have c1' := bl.cell
    have c2' := r0.cell
    have f2' := r0.frozen
    have c3' := r1.cell
    have f3' := r1.frozen
    have HMm := Lib.hid hm
    have HZ := Lib.hid (And.intro bl (And.intro tl (And.intro r0 (And.intro r1 (hbX.trans kp.1)))))
    clear hm hU bl tl r0 r1 kp hLi hR hH hl bS hcS
    gi_wp2
    obtain ⟨bl, tl, r0, r1, hbW⟩ := HZ.out
    have e1 : ((W.setCell ⟨w.heap.size + 1 + 1, 0, none⟩ (.slice A2 n2 c2)).setCell ⟨w.heap.size + 1 + 1 + 1, 0, none⟩ (.bool true)).heap[D]? = some (.deferred (some [])) := by
      rw [Below.heap_setCell _ _ _ _ (by show D ≠ w.heap.size + 1 + 1 + 1; omega), Below.heap_setCell _ _ _ _ (by show D ≠ w.heap.size + 1 + 1; omega)]
      exact hK
    obtain ⟨x0, x1, hb', ht'⟩ := undo_end (D := D) (by omega) (Boxed.other (Boxed.set (.slice A2 n2 c2) r0) (by omega) (.bool true)) (Boxed.set (.bool true) (Boxed.other r1 (by omega) (.slice A2 n2 c2))) ((hbW.setCell (p := ⟨w.heap.size + 1 + 1, 0, none⟩) (by simp; omega) _).setCell (p := ⟨w.heap.size + 1 + 1 + 1, 0, none⟩) (by simp; omega) _) ((tl.shape (boxBlk r0) (noTxt_slice _ _ _) 0 _).shape (boxBlk (Boxed.other r1 (by omega) (.slice A2 n2 c2))) (noTxt_bool _) 0 _) e1 (.deferred none)
    refine ⟨by simp, .inl ⟨_, _, rfl, run_takeDeferred e1, ?_⟩⟩
    rw [HMm.out]
    refine ⟨.tuple #[.slice A2 n2 c2, .bool true], by simp [results, Try.results27, go_sem, x0, x1], _, _, _, rfl, ht', hb'⟩
  case stop =>
    rintro D q pre W hD ⟨k, hk, hS⟩ ⟨rfl, hm, r0, r1, hb⟩ hK
    rw [came_take hS hk] at hm
    have hm2 : runE L.reverse l = none := by
      rw [← List.take_append_drop k L.reverse, runE_append, hm]
      rfl
    rw [hm2]
    clear hm hm2 hU hLi hR hH hl bS hcS
    gi_wp2
    obtain ⟨x0, x1, hb', ht'⟩ := undo_end (D := D) (l := []) (by have := hbX.size; omega) r0 r1 hb (Sl.nil _ _ _) hK (.deferred none)
    refine ⟨by simp, .inl ⟨_, _, rfl, run_takeDeferred hK, ?_⟩⟩
    refine ⟨.tuple #[.slice none 0 0, .bool false], by simp [results, Try.results27, go_sem, x0, x1], _, _, _, rfl, ht', hb'⟩
theorem undo_is (E : Option Addr) (n c : Nat) (cur : Int) (L : List AE) (A : Option Addr) (ln lc : Nat) (l : List Int) (w : World) (hE : Eds w (.slice E n c) L) (hl : Txt w (.slice A ln lc) l) (B : Nat) (hB0 : 1 ≤ B) (hB1 : B ≤ 1000) (hB : Light B L) (hs : l.length + B * L.length ≤ 90000) :
    Calls Try.prog 27 #[.agg #[.slice E n c, .int .i64 cur], .slice A ln lc] w (TellsE ((runE L.reverse l).getD []) (runE L.reverse l).isSome w) :=
  (callsIn_wide (n := 6)).1 (undo_in E n c cur L A ln lc l w hE hl B hB0 hB1 hB hs)
end Go.Proofs.Ytfmpldgeldocnaa
