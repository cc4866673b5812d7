/- past: All. -/
import Derived.Test.YtfnieoffgnnldaaDoorPastB
namespace Go.Proofs.YtfnieoffgnnldaaDoor
open Go.RowKit Go.Shelf
set_option linter.unusedVariables false
set_option linter.unusedSimpArgs false
attribute [local go_sem] Oper.semAt_some

theorem Rd.kept {w w' : World} {row : Option Nat} {A : Option Addr} {n : Nat} {f : Nat → Value} (h : Rd w A n f) (hg : w.grownBy w' row) (hr : ∀ r, row = some r → ∃ o : Obj, w.heap[r]? = some o ∧ o.isCells = false) : Rd w' A n f := by
  intro j hj
  obtain ⟨b, o, e, hl, hc⟩ := h j hj
  exact ⟨b, o, e, Nat.lt_of_lt_of_le hl hg.size, cell_kept hc hg hr⟩
theorem Sl.kept {w w' : World} {row : Option Nat} {S : Nat → Prop} {v : Value} {n : Nat} {f : Nat → Value} (h : Sl w S v n f) (hg : w.grownBy w' row) (hr : ∀ r, row = some r → ∃ o : Obj, w.heap[r]? = some o ∧ o.isCells = false) : Sl w' S v n f := by
  obtain ⟨A, c, e, hrd, hx⟩ := h
  exact ⟨A, c, e, hrd.kept hg hr, hx⟩

theorem kpb_t {n₀ Bs : Nat} : ∀ {A B C : World}, KpB n₀ Bs A B → KpB n₀ Bs B C → KpB n₀ Bs A C := fun h k => h.trans k
theorem kpb_b {n₀ Bs : Nat} {w : World} (hn : n₀ ≤ w.heap.size) (hB : Bs < w.heap.size) : ∀ (W : World) (l : Nat) (o o' : Obj), w.heap.size ≤ l → W.heap[l]? = some o → o.isCells = false → o.isWalk = false → KpB n₀ Bs W (W.putObj l o') :=
  fun W l o o' hl h1 h2 h3 => ⟨belowK_b hn W l o o' hl h1 h2 h3, fun j => World.cell?_of_block (a := ⟨Bs, j, none⟩) (World.putObj_heap_other (by show Bs ≠ l; omega))⟩

/-- 'append' in a region that draws its order: one element more. -/
theorem opIn_push {F : Fence} {m : Nat} {P : Program} {w0 : World} {cs : Array Value} {e' : TypeId} {o : Oper} {a : Act} {K : Act → World → Prop} {Q : Exit → Act → World → Prop} {size bytes base n k : Nat} {t e : TypeId} {v : Value} {xs : List Value} {s x : Operand}
    (E : Elt P t e size bytes) (hown : w0.ownsRow base e size v n xs) (hbase : base ≤ w0.heap.size) (ho : o.op = .call { callee := .builtin .append, args := #[s, x], argTypes := #[t, t] })
    (hs : a.eval s = v) (hx : a.eval x = .slice (some ⟨k, 0, none⟩) 1 1) (hk : k = w0.heap.size) (hcs : cs.size = size) (h1 : cs.toList.all Value.oneCell' = true) (h63 : n + 1 ≤ maxLen) (hbytes : (n + 1) * bytes ≤ 140737488355328)
    (h : ∀ A c w', Pushed w0 w' base e size v (n + 1) (xs ++ cs.toList) A c → K (a.put o.dst (.slice A (n + 1) c)) w') : Oper.wpIn F m P o a (w0.alloc (.cells cs e')) K Q := by
  obtain ⟨ht, i, z, hi, hz, hsize, hby, hzs, hsz⟩ := E
  subst hk
  obtain ⟨v', w', hrun, hown', hg, _, hat⟩ := run_append_own_at (P := P) (w0.alloc (.cells cs e')) base t o.type e i z size bytes ht hi hz hsize hby hzs hsz v n xs (hown.alloc _) ⟨w0.heap.size, 0, none⟩ 1 1 cs.toList (by simp [hcs])
    (by intro j u hj; rw [Addr.add_lit, Nat.zero_add, World.cell?_alloc_new, ← hj]; simp) (fun u hu => List.all_eq_true.1 h1 u hu) h63 hbytes (by rw [World.size_alloc]; omega)
  obtain ⟨A, c, rfl⟩ := own_slice hown'
  have hP : Pushed w0 w' base e size v (n + 1) (xs ++ cs.toList) A c := by
    refine ⟨hown', (World.grownBy_alloc w0 _ _).trans hg, ?_⟩
    rcases hat with e1 | e1
    · exact .inl e1
    · exact .inr ⟨_, e1, by rw [World.size_alloc]; omega⟩
  unfold Oper.wpIn
  refine ⟨?_, ?_⟩
  · simp [Oper.about, ho, resolve, Target.leads, Sem.run_pure]
  · rw [Oper.semAt_plain F _ _ (by rw [ho]; intro c hc'; cases hc')]
    simp [execOp, ho, resolve, invoke, builtin, hs, hx, hrun, Result.andThen]
    exact h A c w' hP

/-- What a round of All leaves: the box holds what has come. -/
structure AllI (n₀ Bs : Nat) (X : World) (B : Nat) (L : List (List Int)) (k : Nat) (W : World) : Prop where
  box : ∃ v xs, Boxed W B 30 v ∧ W.ownsRow X.heap.size 22 1 v k xs ∧ OwnTs X.heap.size W v xs k L
  kp : KpB n₀ Bs X W
  size : X.heap.size ≤ W.heap.size

theorem AllI.kept {n₀ Bs B k : Nat} {L : List (List Int)} {X W W' : World} {row : Option Nat} (h : AllI n₀ Bs X B L k W) (hn : n₀ ≤ X.heap.size) (hBs : Bs < X.heap.size) (hg : W.grownBy W' row) (hr : ∀ r, row = some r → X.heap.size ≤ r ∧ ∃ o : Obj, W.heap[r]? = some o ∧ o.isCells = false) : AllI n₀ Bs X B L k W' := by
  obtain ⟨⟨v, xs, hv, hw, ht⟩, hk, hs⟩ := h
  refine ⟨⟨v, xs, hv.kept hg (fun e' => ?_), hw.kept hg ?_, fun j hj => ?_⟩, ⟨hk.1.grown hg (Nat.le_trans hn hs) (fun k e => Nat.le_trans hn (hr k e).1), fun j => ?_⟩, Nat.le_trans hs hg.size⟩
  · obtain ⟨o, ho, hc⟩ := (hr B e'.symm).2
    rw [show W.heap[B]? = _ from hv] at ho; cases ho; cases hc
  · rcases hw.2 with ⟨rfl, _⟩ | ⟨g, cap, cur, rfl, _, hgb, _⟩
    · exact .inl rfl
    · refine .inr fun e' => ?_
      obtain ⟨o, ho, hc⟩ := (hr g (by simpa [Value.ownBlock] using e'.symm)).2
      rw [hgb] at ho; cases ho; cases hc
  · obtain ⟨u, h1, h2⟩ := ht j hj
    exact ⟨u, h1, Sl.kept h2 hg fun r e => (hr r e).2⟩
  · refine (World.cell?_of_block (a := ⟨Bs, j, none⟩) (hg.block Bs (Nat.lt_of_lt_of_le hBs hs) fun e => ?_)).trans (hk.2 j)
    have := (hr Bs e.symm).1
    omega

theorem OwnTs.congr {base : Nat} {w : World} {v : Value} {xs : List Value} {k : Nat} {L M : List (List Int)} (h : OwnTs base w v xs k L) (e : ∀ j, j < k → L.getD j [] = M.getD j []) : OwnTs base w v xs k M := fun j hj => by
  obtain ⟨u, h1, h2⟩ := h j hj
  exact ⟨u, h1, by rw [← e j hj]; exact h2⟩

theorem all_round {n₀ Bs B k : Nat} {L : List (List Int)} {l : List Int} {X W w3 w' : World} {v u : Value} {xs : List Value} {A : Option Addr} {c : Nat} (hn : n₀ ≤ Bs) (hn2 : n₀ ≤ B) (hBs : Bs < X.heap.size) (hB : B < X.heap.size) (hne : Bs ≠ B)
    (hv : Boxed W B 30 v) (hw : W.ownsRow X.heap.size 22 1 v k xs) (ht : OwnTs X.heap.size W v xs k L) (hk : KpB n₀ Bs X W) (hs : X.heap.size ≤ W.heap.size) (hl : L.length = k)
    (tc : TxtS w3 (fun b => W.heap.size ≤ b) u l) (hb3 : Below W.heap.size W w3) (hp : Pushed w3 w' X.heap.size 22 1 v (k + 1) (xs ++ [u]) A c) :
    Boxed w' B 30 v ∧ KeepsFrom X.heap.size W (w'.setCell ⟨B, 0, none⟩ (.slice A (k + 1) c)) ∧ KpB n₀ Bs W (w'.setCell ⟨B, 0, none⟩ (.slice A (k + 1) c)) ∧ AllI n₀ Bs X B (L ++ [l]) (k + 1) (w'.setCell ⟨B, 0, none⟩ (.slice A (k + 1) c)) := by
  have hv3 : Boxed w3 B 30 v := (hb3.block B hv.lt).trans hv
  have hw3 := own_later hw hb3
  have hr (r : Nat) (e : v.ownBlock = some r) : X.heap.size ≤ r := (hw.lt r e).1
  have hv' : Boxed w' B 30 v := hv3.kept hp.grown fun e => by have := hr B e.symm; omega
  have hb' : Below n₀ w3 w' := (Below.refl n₀ w3).grown hp.grown (by have := hb3.size; omega) fun r e => by have := hr r e; omega
  have hbW : Below n₀ W (w'.setCell ⟨B, 0, none⟩ (.slice A (k + 1) c)) := ((hb3.mono (by omega)).trans hb').setCell (p := ⟨B, 0, none⟩) hn2 _
  have hcB : ∀ j, (w'.setCell ⟨B, 0, none⟩ (.slice A (k + 1) c)).cell? ⟨Bs, j, none⟩ = W.cell? ⟨Bs, j, none⟩ := fun j => by
    refine World.cell?_of_block (a := ⟨Bs, j, none⟩) ?_
    show (w'.setCell ⟨B, 0, none⟩ (.slice A (k + 1) c)).heap[Bs]? = W.heap[Bs]?
    rw [Below.heap_setCell _ _ _ _ (by exact hne), hp.grown.block Bs (by have := hb3.size; omega) (fun e => by have := hr Bs e.symm; omega)]
    exact hb3.block Bs (by omega)
  have hKp : KpB n₀ Bs W (w'.setCell ⟨B, 0, none⟩ (.slice A (k + 1) c)) := ⟨hbW, hcB⟩
  refine ⟨hv', ?_, hKp, ⟨?_, hk.trans hKp, Nat.le_trans hs hbW.size⟩⟩
  · have k1 : KeepsOthers W w3 := ⟨hb3.size, fun i o hi _ => (hb3.block i (Array.getElem?_eq_some_iff.1 hi).1).trans hi⟩
    have k2 : KeepsOthers w3 w' := KeepsOthers.of_grownBy hp.grown fun j o ej hj => by
      rcases hw3.2 with ⟨rfl, _⟩ | ⟨g, cap, cur, rfl, _, hgb, _⟩
      · simp [Value.ownBlock] at ej
      · obtain rfl : g = j := by simpa [Value.ownBlock] using ej
        rw [hgb] at hj; cases hj; rfl
    exact ((k1.trans k2).trans (KeepsOthers.setCell _ _ _)).from _
  · refine ⟨_, _, hv'.set _, hp.own.kept (grownBy_setCell' w' B _) ?_, ?_⟩
    · exact .inr fun e => by have := (hp.own.lt B e).1; omega
    · have ht2 : OwnTs X.heap.size W v xs k (L ++ [l]) := ht.congr fun j hj => by simp [List.getD, List.getElem?_append, hl, hj]
      have h := OwnTs.push ht2 hw hb3 hs (by simpa [List.getD, List.getElem?_append, hl] using tc) hp
      intro j hj
      obtain ⟨y, h1, h2⟩ := h j hj
      exact ⟨y, h1, Sl.far h2 (p := ⟨B, 0, none⟩) (fun e => by have := e.1; simp at this; omega) _⟩

theorem TxtsS.kept {w w' : World} {row : Option Nat} {S : Nat → Prop} {v : Value} {L : List (List Int)} (h : TxtsS w S v L) (hg : w.grownBy w' row) (hr : ∀ r, row = some r → ∃ o : Obj, w.heap[r]? = some o ∧ o.isCells = false) : TxtsS w' S v L := by
  obtain ⟨vs, h1, h2⟩ := h
  exact ⟨vs, Sl.kept h1 hg hr, fun j hj => Sl.kept (h2 j hj) hg hr⟩

theorem came_rev {L : List (List Int)} {ys : List (Fin L.length)} (h : Came ys L.length) : (ys.map fun j : Fin L.length => L.getD j.1 []) = L.reverse := by
  have e : (ys.map fun j : Fin L.length => L.getD j.1 []) = (ys.map (·.1)).map fun j => L.getD j [] := by rw [List.map_map]; rfl
  rw [e, h]
  apply List.ext_getElem
  · simp [came]
  · intro i h1 h2
    simp only [List.length_reverse] at h2
    simp [came, bwN, List.getElem_reverse, List.getD, List.getElem?_eq_getElem (show L.length - 1 - i < L.length by omega)]

set_option maxRecDepth 100000 in
set_option maxHeartbeats 4000000 in
theorem all_in (A : Option Addr) (len cap : Nat) (k : Int) (lv : Value) (L : List (List Int)) (w : World) (hL : Txts w (.slice A len cap) L) (hn : L.length ≤ 1000) (hm : ∀ l ∈ L, l.length ≤ 1000000) :
    CallsIn Fence.wide 5 Tryd.prog 22 #[.agg #[.slice A len cap, .int .i64 k, lv]] w fun e w' => ∃ A n c, e = .returned (.slice A n c) ∧ TxtsS w' (fun b => w.heap.size ≤ b) (.slice A n c) L.reverse ∧ Below w.heap.size w w' := by
  have hro : Fence.wide.round = none := rfl
  have h1 : 1 ≤ 5 := by omega
  refine callsIn_of_wp_marks Tryd.func22 rfl trivial ?_ hro
  simp only [Tryd.ntmps22, List.size_toArray, List.length_cons, List.length_nil, Nat.reduceAdd, Nat.reduceSub, Array.replicate_succ, Array.replicate_zero, List.push_toArray, List.append_toArray, List.nil_append, List.cons_append]
  gi_wp2_with (refine ⟨trivial, ?_⟩; gi_at_call 40; refine (back_in Fence.wide (5 - 1) trivial hro _ _ _ _).mono ?_; rintro e w' ⟨rfl, rfl⟩)
  obtain ⟨zs, hzs, hzt⟩ := hL
  obtain ⟨hlen, hrd, hnil, hcap, hcap2⟩ := hzs.parts
  subst hlen
  obtain ⟨X, hX⟩ : ∃ X, (((w.alloc (.cells #[.slice A L.length cap, .int .i64 k, lv] 43)).alloc (.cells #[.slice none 0 0] 30)).alloc (.cells #[.slice A L.length cap] 30)) = X := ⟨_, rfl⟩
  have hbX : Below w.heap.size w X := by rw [← hX]; exact (((Below.refl _ w).alloc (Nat.le_refl _) _).alloc (by simp) _).alloc (by simp; omega) _
  have hszX : X.heap.size = w.heap.size + 1 + 1 + 1 := by rw [← hX]; simp
  have bO : Boxed X (w.heap.size + 1) 30 (.slice none 0 0) := by
    rw [← hX]
    have h := Boxed.new (w.alloc (.cells #[.slice A L.length cap, .int .i64 k, lv] 43)) 30 (.slice none 0 0)
    rw [World.size_alloc] at h
    exact h.alloc _
  have bS : Boxed X (w.heap.size + 1 + 1) 30 (.slice A L.length cap) := by
    rw [← hX]
    have h := Boxed.new ((w.alloc (.cells #[.slice A L.length cap, .int .i64 k, lv] 43)).alloc (.cells #[.slice none 0 0] 30)) 30 (.slice A L.length cap)
    rw [World.size_alloc, World.size_alloc] at h
    exact h
  rw [hX]
  have hltA : ∀ b o, A = some ⟨b, o, none⟩ → 0 < L.length → b < w.heap.size := fun b o e h => by
    obtain ⟨b', o', e', hl', _⟩ := hrd 0 h
    rw [e] at e'
    injection e' with e'
    injection e' with e1 e2
    omega
  clear hX
  refine wpIn_rangeFunc_ownG hro h1 (gf := 51) (lb := #[.pointer (some ⟨w.heap.size + 1 + 1, 0, none⟩)]) rfl trivial (enters_of Tryd.func51 (by kernel_rfl) rfl)
    (back_stops Fence.wide (5 - 1) trivial hro (by omega) (w.heap.size + 1 + 1) w.heap.size A L.length cap zs (by omega) X (by omega) hbX.size bS.cell (hrd.later hbX) hltA) kpb_t (kpb_b hbX.size (by omega)) (Below.refl _ _) (fun _ => rfl)
    (fun pre W => AllI w.heap.size (w.heap.size + 1 + 1) X (w.heap.size + 1) (pre.map fun j : Fin L.length => L.getD j.1 []) pre.length W)
    (fun _ _ _ => False)
    (fun pre W W' row h hg hr => h.kept hbX.size (by omega) hg hr)
    (fun _ _ _ _ _ hs _ _ => hs)
    ⟨⟨_, [], bO, World.ownsRow_nil _ _ _ _, fun j hj => absurd hj (by simp)⟩, KpB.refl _ _ _, Nat.le_refl _⟩
    (fun x => { tmps := #[.agg #[.slice A L.length cap, .int .i64 k, lv], .pointer (some ⟨w.heap.size, 0, none⟩), .slice none 0 0, .pointer (some ⟨w.heap.size + 1, 0, none⟩), undef, zs x.1, .pointer (some ⟨w.heap.size, 0, none⟩), .slice A L.length cap, .func (.func 51) #[] #[.pointer (some ⟨w.heap.size + 1 + 1, 0, none⟩)], .int .i64 (x.1 : Int), zs x.1, undef, undef, undef, undef, undef, undef], defers := [] }) ?assign ?body ?done ?stop
  case assign =>
    intro l x W K hK
    gi_wp2
    exact hK
  case body =>
    rintro l pre x W ⟨⟨v, xs, hv, hrow, hts⟩, hB1, hB2⟩ hlt
    have hB := And.intro hB1 hB2
    have hc := hv.cell
    have hf := hv.frozen
    have hmx : Tryd.prog.follows .mixedOrders = true := by kernel_rfl
    have hmx2 : 1 ≤ 5 - 1 - 1 := by omega
    obtain ⟨lx, hlx⟩ : ∃ lx, L.getD x.1 [] = lx := ⟨_, rfl⟩
    have hll : lx.length ≤ 1000000 := by
      rw [← hlx]
      have : L[x.1]? = some (L[x.1]'x.2) := List.getElem?_eq_getElem x.2
      rw [List.getD, this, Option.getD_some]
      exact hm _ (List.getElem_mem x.2)
    have hT := hzt x.1 x.2
    rw [hlx] at hT
    have HT := Lib.hid hT
    obtain ⟨Az, cz, ez, _⟩ := hT.is
    rw [ez] at HT ⊢
    have HX := Lib.hid hlx
    clear hlx hT ez
    gi_wp2
    have HB := Lib.hid hB
    have HH := Lib.hid (show _ ∧ _ ∧ _ from ⟨hv, hrow, hts⟩)
    clear hB hv hrow hts
    refine wpIn_region_any hmx ?_
    change wpAnyIn _ _ _ _ _ _ _ _ _ (World.drew _)
    refine wpAnyIn_ready (rs := [0, 1]) (by kernel_rfl) (by simp) ?_
    refine AllReadyIn.cons rfl (fun K hK => ?_) (AllReadyIn.cons rfl (fun K hK => ?_) AllReadyIn.nil)
    · go_simp; refine hK _ _ ?_; clear hK K
      refine wpAnyIn_ready (rs := [1]) (by kernel_rfl) (by simp) ?_
      refine AllReadyIn.cons rfl (fun K hK => ?_) AllReadyIn.nil
      go_simp; refine hK _ _ ?_; clear hK K
      refine wpAnyIn_ready (rs := [2]) (by kernel_rfl) (by simp) ?_
      refine AllReadyIn.cons rfl (fun K hK => ?_) AllReadyIn.nil
      rw [if_pos (by rfl)]; go_simp; refine ⟨trivial, ?_⟩; refine (CallsIn.inRound l (callsIn_wide.2 (clone_any _ _ _ (TxtS.any (TxtS.later HT.out ((hbX.trans HB.out.1.1).drew))) (by omega)))).mono ?_; rintro e w3 hw3; obtain ⟨Ac, nc, cc, rfl, tc, bc⟩ := hw3; have hb3 := (Below.refl W.heap.size W).drew.trans bc; have hlt3 := Nat.lt_of_lt_of_le (Boxed.lt HH.out.1) hb3.size; have hc3 := (bc.cell (p := ⟨w.heap.size + 1, 0, none⟩) (Boxed.lt HH.out.1)).trans hc; have hca := fun o : Obj => (((Below.refl _ w3).alloc (Nat.le_refl _) o).cell (p := ⟨w.heap.size + 1, 0, none⟩) hlt3).trans hc3; have HC := Lib.hid (show _ ∧ _ from ⟨tc, hb3⟩); clear tc bc hb3; dsimp only; refine hK _ _ ?_; clear hK K
      refine wpAnyIn_ready (rs := [3]) (by kernel_rfl) (by simp) ?_
      refine AllReadyIn.cons rfl (fun K hK => ?_) AllReadyIn.nil
      go_simp; refine hK _ _ ?_; clear hK K
      refine wpAnyIn_ready (rs := [4]) (by kernel_rfl) (by simp) ?_
      refine AllReadyIn.cons rfl (fun K hK => ?_) AllReadyIn.nil
      rw [if_pos (by rfl)]
      refine opIn_push slT_elt (own_later HH.out.2.1 HC.out.2) (by have := HC.out.2.size; have := HB.out.2; omega) (by rfl) (by rfl) (by rfl) (by rfl) (by rfl) (by rfl) (by unfold maxLen; omega) (by omega) ?_
      intro A3 c3 w4 hp
      have HR := Lib.hid (all_round (n₀ := w.heap.size) (by omega) (by omega) (by omega) (by omega) (by omega) HH.out.1 HH.out.2.1 HH.out.2.2 HB.out.1 HB.out.2 (by simp) HC.out.1 HC.out.2 hp)
      have hc4 := HR.out.1.cell
      have hf4 := HR.out.1.frozen
      clear hp
      refine hK _ _ ?_; clear hK K
      refine wpAnyIn_ready (rs := [5]) (by kernel_rfl) (by simp) ?_
      refine AllReadyIn.cons rfl (fun K hK => ?_) AllReadyIn.nil
      go_simp
      refine hK _ _ ?_; clear hK K
      refine wpAnyIn_done (by kernel_rfl) ?_ _
      go_simp
      exact ⟨HR.out.2.1, HR.out.2.2.1, by have h := HR.out.2.2.2; rw [← HX.out] at h; show AllI _ _ _ _ (List.map _ (pre ++ [x])) (pre ++ [x]).length _; rw [List.map_append, List.length_append]; exact h⟩
    · go_simp; refine hK _ _ ?_; clear hK K
      refine wpAnyIn_ready (rs := [0, 2]) (by kernel_rfl) (by simp) ?_
      refine AllReadyIn.cons rfl (fun K hK => ?_) (AllReadyIn.cons rfl (fun K hK => ?_) AllReadyIn.nil)
      · go_simp; refine hK _ _ ?_; clear hK K
        refine wpAnyIn_ready (rs := [2]) (by kernel_rfl) (by simp) ?_
        refine AllReadyIn.cons rfl (fun K hK => ?_) AllReadyIn.nil
        rw [if_pos (by rfl)]; go_simp; refine ⟨trivial, ?_⟩; refine (CallsIn.inRound l (callsIn_wide.2 (clone_any _ _ _ (TxtS.any (TxtS.later HT.out ((hbX.trans HB.out.1.1).drew))) (by omega)))).mono ?_; rintro e w3 hw3; obtain ⟨Ac, nc, cc, rfl, tc, bc⟩ := hw3; have hb3 := (Below.refl W.heap.size W).drew.trans bc; have hlt3 := Nat.lt_of_lt_of_le (Boxed.lt HH.out.1) hb3.size; have hc3 := (bc.cell (p := ⟨w.heap.size + 1, 0, none⟩) (Boxed.lt HH.out.1)).trans hc; have hca := fun o : Obj => (((Below.refl _ w3).alloc (Nat.le_refl _) o).cell (p := ⟨w.heap.size + 1, 0, none⟩) hlt3).trans hc3; have HC := Lib.hid (show _ ∧ _ from ⟨tc, hb3⟩); clear tc bc hb3; dsimp only; refine hK _ _ ?_; clear hK K
        refine wpAnyIn_ready (rs := [3]) (by kernel_rfl) (by simp) ?_
        refine AllReadyIn.cons rfl (fun K hK => ?_) AllReadyIn.nil
        go_simp; refine hK _ _ ?_; clear hK K
        refine wpAnyIn_ready (rs := [4]) (by kernel_rfl) (by simp) ?_
        refine AllReadyIn.cons rfl (fun K hK => ?_) AllReadyIn.nil
        rw [if_pos (by rfl)]
        refine opIn_push slT_elt (own_later HH.out.2.1 HC.out.2) (by have := HC.out.2.size; have := HB.out.2; omega) (by rfl) (by rfl) (by rfl) (by rfl) (by rfl) (by rfl) (by unfold maxLen; omega) (by omega) ?_
        intro A3 c3 w4 hp
        have HR := Lib.hid (all_round (n₀ := w.heap.size) (by omega) (by omega) (by omega) (by omega) (by omega) HH.out.1 HH.out.2.1 HH.out.2.2 HB.out.1 HB.out.2 (by simp) HC.out.1 HC.out.2 hp)
        have hc4 := HR.out.1.cell
        have hf4 := HR.out.1.frozen
        clear hp
        refine hK _ _ ?_; clear hK K
        refine wpAnyIn_ready (rs := [5]) (by kernel_rfl) (by simp) ?_
        refine AllReadyIn.cons rfl (fun K hK => ?_) AllReadyIn.nil
        go_simp
        refine hK _ _ ?_; clear hK K
        refine wpAnyIn_done (by kernel_rfl) ?_ _
        go_simp
        exact ⟨HR.out.2.1, HR.out.2.2.1, by have h := HR.out.2.2.2; rw [← HX.out] at h; show AllI _ _ _ _ (List.map _ (pre ++ [x])) (pre ++ [x]).length _; rw [List.map_append, List.length_append]; exact h⟩
      · rw [if_pos (by rfl)]; go_simp; refine ⟨trivial, ?_⟩; refine (CallsIn.inRound l (callsIn_wide.2 (clone_any _ _ _ (TxtS.any (TxtS.later HT.out ((hbX.trans HB.out.1.1).drew))) (by omega)))).mono ?_; rintro e w3 hw3; obtain ⟨Ac, nc, cc, rfl, tc, bc⟩ := hw3; have hb3 := (Below.refl W.heap.size W).drew.trans bc; have hlt3 := Nat.lt_of_lt_of_le (Boxed.lt HH.out.1) hb3.size; have hc3 := (bc.cell (p := ⟨w.heap.size + 1, 0, none⟩) (Boxed.lt HH.out.1)).trans hc; have hca := fun o : Obj => (((Below.refl _ w3).alloc (Nat.le_refl _) o).cell (p := ⟨w.heap.size + 1, 0, none⟩) hlt3).trans hc3; have HC := Lib.hid (show _ ∧ _ from ⟨tc, hb3⟩); clear tc bc hb3; dsimp only; refine hK _ _ ?_; clear hK K
        refine wpAnyIn_ready (rs := [0, 3]) (by kernel_rfl) (by simp) ?_
        refine AllReadyIn.cons rfl (fun K hK => ?_) (AllReadyIn.cons rfl (fun K hK => ?_) AllReadyIn.nil)
        · go_simp; refine hK _ _ ?_; clear hK K
          refine wpAnyIn_ready (rs := [3]) (by kernel_rfl) (by simp) ?_
          refine AllReadyIn.cons rfl (fun K hK => ?_) AllReadyIn.nil
          go_simp; refine hK _ _ ?_; clear hK K
          refine wpAnyIn_ready (rs := [4]) (by kernel_rfl) (by simp) ?_
          refine AllReadyIn.cons rfl (fun K hK => ?_) AllReadyIn.nil
          rw [if_pos (by rfl)]
          refine opIn_push slT_elt (own_later HH.out.2.1 HC.out.2) (by have := HC.out.2.size; have := HB.out.2; omega) (by rfl) (by rfl) (by rfl) (by rfl) (by rfl) (by rfl) (by unfold maxLen; omega) (by omega) ?_
          intro A3 c3 w4 hp
          have HR := Lib.hid (all_round (n₀ := w.heap.size) (by omega) (by omega) (by omega) (by omega) (by omega) HH.out.1 HH.out.2.1 HH.out.2.2 HB.out.1 HB.out.2 (by simp) HC.out.1 HC.out.2 hp)
          have hc4 := HR.out.1.cell
          have hf4 := HR.out.1.frozen
          clear hp
          refine hK _ _ ?_; clear hK K
          refine wpAnyIn_ready (rs := [5]) (by kernel_rfl) (by simp) ?_
          refine AllReadyIn.cons rfl (fun K hK => ?_) AllReadyIn.nil
          go_simp
          refine hK _ _ ?_; clear hK K
          refine wpAnyIn_done (by kernel_rfl) ?_ _
          go_simp
          exact ⟨HR.out.2.1, HR.out.2.2.1, by have h := HR.out.2.2.2; rw [← HX.out] at h; show AllI _ _ _ _ (List.map _ (pre ++ [x])) (pre ++ [x]).length _; rw [List.map_append, List.length_append]; exact h⟩
        · go_simp; refine hK _ _ ?_; clear hK K
          refine wpAnyIn_ready (rs := [0]) (by kernel_rfl) (by simp) ?_
          refine AllReadyIn.cons rfl (fun K hK => ?_) AllReadyIn.nil
          go_simp; refine hK _ _ ?_; clear hK K
          refine wpAnyIn_ready (rs := [4]) (by kernel_rfl) (by simp) ?_
          refine AllReadyIn.cons rfl (fun K hK => ?_) AllReadyIn.nil
          rw [if_pos (by rfl)]
          refine opIn_push slT_elt (own_later HH.out.2.1 HC.out.2) (by have := HC.out.2.size; have := HB.out.2; omega) (by rfl) (by rfl) (by rfl) (by rfl) (by rfl) (by rfl) (by unfold maxLen; omega) (by omega) ?_
          intro A3 c3 w4 hp
          have HR := Lib.hid (all_round (n₀ := w.heap.size) (by omega) (by omega) (by omega) (by omega) (by omega) HH.out.1 HH.out.2.1 HH.out.2.2 HB.out.1 HB.out.2 (by simp) HC.out.1 HC.out.2 hp)
          have hc4 := HR.out.1.cell
          have hf4 := HR.out.1.frozen
          clear hp
          refine hK _ _ ?_; clear hK K
          refine wpAnyIn_ready (rs := [5]) (by kernel_rfl) (by simp) ?_
          refine AllReadyIn.cons rfl (fun K hK => ?_) AllReadyIn.nil
          go_simp
          refine hK _ _ ?_; clear hK K
          refine wpAnyIn_done (by kernel_rfl) ?_ _
          go_simp
          exact ⟨HR.out.2.1, HR.out.2.2.1, by have h := HR.out.2.2.2; rw [← HX.out] at h; show AllI _ _ _ _ (List.map _ (pre ++ [x])) (pre ++ [x]).length _; rw [List.map_append, List.length_append]; exact h⟩
  case done =>
    rintro D ys W hD hS ⟨⟨v, xs, hv, hrow, hts⟩, hB1, hB2⟩ hK
    have hc := hv.cell
    have hDB : D ≠ w.heap.size + 1 := by omega
    gi_wp2
    obtain ⟨A', c', rfl⟩ := own_slice hrow
    have hl : (ys.map fun j : Fin L.length => L.getD j.1 []).length = ys.length := by simp
    have htx : TxtsS W (fun b => w.heap.size ≤ b) (.slice A' ys.length c') (ys.map fun j : Fin L.length => L.getD j.1 []) :=
      txts_own hl hrow (fun b hb => by omega) fun j hj => by
        obtain ⟨u, h1, h2⟩ := hts j hj
        exact ⟨u, h1, Sl.mono h2 fun b hb => by have := hb.1; omega⟩
    rw [came_rev hS] at htx
    refine ⟨by simp, .inl ⟨_, _, rfl, run_takeDeferred hK, ?_⟩⟩
    refine ⟨_, results_tmp rfl _ _ _, _, _, _, rfl, htx.kept (grownBy_putObj' W D _) (fun r e => by cases e; exact ⟨_, hK, rfl⟩), (hbX.trans hB1.1).grown (grownBy_putObj' W D _) (by omega) fun k e => by cases e; omega⟩
  case stop =>
    rintro D c pre W _ _ h _
    exact h.elim
theorem all_any (A : Option Addr) (len cap : Nat) (k : Int) (lv : Value) (L : List (List Int)) (w : World) (hL : Txts w (.slice A len cap) L) (hn : L.length ≤ 1000) (hm : ∀ l ∈ L, l.length ≤ 1000000) :
    Calls Tryd.prog 22 #[.agg #[.slice A len cap, .int .i64 k, lv]] w fun e w' => ∃ A n c, e = .returned (.slice A n c) ∧ TxtsS w' (fun b => w.heap.size ≤ b) (.slice A n c) L.reverse ∧ Below w.heap.size w w' :=
  (callsIn_wide (n := 5)).1 (all_in A len cap k lv L w hL hn hm)

end Go.Proofs.YtfnieoffgnnldaaDoor
