/- past: newest, handed n1. -/
import Derived.Test.YtmhjhndnbgabjaaPxI
import Derived.RangeFuncNested
namespace Go.Proofs.Ytmhjhndnbgabjaa
open Go.RowKit Go.Shelf
set_option linter.unusedVariables false
set_option linter.unusedSimpArgs false
attribute [local go_sem] Oper.semAt_some

theorem newest_none_n1 {M : List (List Int)} {f : List Int → Bool} {ys : List (Fin M.length)} (h : Came ys M.length) (hf : ∀ j ∈ ys, f (M.getD j.1 []) = false) : newestP M f = none := by
  unfold newestP
  rw [← came_rev h, List.find?_eq_none]
  intro x hx
  obtain ⟨j, hj, rfl⟩ := List.mem_map.1 hx
  rw [hf j hj]
  exact Bool.false_ne_true
theorem newest_some_n1 {M : List (List Int)} {f : List Int → Bool} {pre : List (Fin M.length)} {x : Fin M.length} {k : Nat} (h : Came (pre ++ [x]) k) (hk : k ≤ M.length) (hf : ∀ j ∈ pre, f (M.getD j.1 []) = false) (hx : f (M.getD x.1 []) = true) : newestP M f = some (M.getD x.1 []) := by
  unfold newestP
  have e : ((pre ++ [x]).map fun j : Fin M.length => M.getD j.1 []) = M.reverse.take k := by
    have hl := h.len
    have h' : ∀ i (hi : i < (pre ++ [x]).length), ((pre ++ [x])[i]'hi).1 = M.length - 1 - i := fun i hi => by
      have h2 := congrArg (fun l => l[i]?) (show (pre ++ [x]).map (·.1) = came (bwN M.length) k from h)
      simp only [came, List.getElem?_map] at h2
      rw [List.getElem?_eq_getElem hi, List.getElem?_eq_getElem (by simp; omega)] at h2
      simpa [bwN] using h2
    apply List.ext_getElem
    · rw [List.length_map, hl, List.length_take, List.length_reverse]; omega
    · intro i h1 h2
      have hi : i < (pre ++ [x]).length := by simpa using h1
      rw [List.getElem_map, List.getElem_take, List.getElem_reverse, h' i hi]
      have hb : M.length - 1 - i < M.length := by rw [hl] at hi; omega
      simp [List.getD, hb]
  rw [← List.take_append_drop k M.reverse, ← e, List.find?_append, List.map_append, List.find?_append]
  have n : (pre.map fun j : Fin M.length => M.getD j.1 []).find? f = none := by
    rw [List.find?_eq_none]
    intro y hy
    obtain ⟨j, hj, rfl⟩ := List.mem_map.1 hy
    rw [hf j hj]
    exact Bool.false_ne_true
  rw [n]
  simp only [List.map_cons, List.map_nil, List.find?_cons_of_pos hx, Option.none_or, Option.some_or]
theorem boxL_n1 {W W' : World} {n B : Nat} {t : TypeId} {v : Value} (h : Boxed W B t v) (hb : Below n W W') (hn : B < n) : Boxed W' B t v := (hb.block B hn).trans h
theorem boxK_n1 {W W' : World} {row : Option Nat} {B : Nat} {t : TypeId} {v : Value} (h : Boxed W B t v) (hg : W.grownBy W' row) (hr : ∀ r, row = some r → ∃ o : Obj, W.heap[r]? = some o ∧ o.isCells = false) : Boxed W' B t v :=
  (hg.block B (Boxed.lt h) (fun e' => by obtain ⟨o, ho, hc⟩ := hr B e'.symm; rw [show W.heap[B]? = _ from h] at ho; cases ho; cases hc)).trans h
theorem keepsRefl_n1 (B : Nat) (W : World) : KeepsFrom B W W := ⟨Nat.le_refl _, fun _ _ _ h _ => h⟩
theorem keeps_drew_n1 (B : Nat) (W : World) (k : Nat) : KeepsFrom B W (W.drewN k) := ⟨Nat.le_refl _, fun _ _ _ h _ => h⟩
theorem boxBlk_n1 {W : World} {B : Nat} {t : TypeId} {v : Value} (h : Boxed W B t v) : Blk W B #[v] := ⟨Boxed.lt h, fun j => by simp [World.cell?, show W.heap[B]? = _ from h], fun j => by simp [World.frozen?, show W.heap[B]? = _ from h]⟩
theorem newest_end_n1 {w V : World} {D n₀ : Nat} {A : Option Addr} {n c : Nat} {ok : Int} (hD : w.heap.size ≤ D) (r0 : Boxed V (n₀ + 1 + 1) 24 (.slice A n c)) (r1 : Boxed V (n₀ + 1 + 1 + 1) 47 (.int .i64 ok)) (hb : Below w.heap.size w V) (hK : V.heap[D]? = some (.deferred (some []))) (o : Obj) :
    (V.putObj D o).cell? ⟨n₀ + 1 + 1, 0, none⟩ = some (.slice A n c) ∧ (V.putObj D o).cell? ⟨n₀ + 1 + 1 + 1, 0, none⟩ = some (.int .i64 ok) ∧ Below w.heap.size w (V.putObj D o) := by
  have hg := grownBy_putObj' V D o
  have hr : ∀ r, some D = some r → ∃ o : Obj, V.heap[r]? = some o ∧ o.isCells = false := fun r e => by cases e; exact ⟨_, hK, rfl⟩
  exact ⟨Boxed.cell (boxK_n1 r0 hg hr), Boxed.cell (boxK_n1 r1 hg hr), hb.grown hg hb.size (fun k e => by cases e; exact hD)⟩
/-- What a round of newest leaves. -/
structure NI_n1 (n₀ Bs : Nat) (X : World) (fv : Value) (W : World) : Prop where
  ft : Boxed W (n₀ + 1) 74 fv
  r0 : Boxed W (n₀ + 1 + 1) 24 (.slice none 0 0)
  r1 : Boxed W (n₀ + 1 + 1 + 1) 47 (.int .i64 0)
  kp : KpB n₀ Bs X W
  size : X.heap.size ≤ W.heap.size
theorem NI_n1.kept {n₀ Bs : Nat} {X W W' : World} {fv : Value} {row : Option Nat} (h : NI_n1 n₀ Bs X fv W) (hn : n₀ ≤ X.heap.size) (hBs : Bs < X.heap.size) (hg : W.grownBy W' row) (hr : ∀ r, row = some r → X.heap.size ≤ r ∧ ∃ o : Obj, W.heap[r]? = some o ∧ o.isCells = false) : NI_n1 n₀ Bs X fv W' := by
  have hr' := fun r e => (hr r e).2
  refine ⟨boxK_n1 h.ft hg hr', boxK_n1 h.r0 hg hr', boxK_n1 h.r1 hg hr', ⟨h.kp.1.grown hg (Nat.le_trans hn h.size) (fun k e => Nat.le_trans hn (hr k e).1), fun j => ?_⟩, Nat.le_trans h.size hg.size⟩
  refine (World.cell?_of_block (a := ⟨Bs, j, none⟩) (hg.block Bs (Nat.lt_of_lt_of_le hBs h.size) fun e => ?_)).trans (h.kp.2 j)
  have := (hr Bs e.symm).1
  omega
theorem NI_n1.drew {n₀ Bs : Nat} {X W : World} {fv : Value} (h : NI_n1 n₀ Bs X fv W) (k : Nat) : NI_n1 n₀ Bs X fv (W.drewN k) := ⟨h.ft, h.r0, h.r1, ⟨below_drewN h.kp.1 k, h.kp.2⟩, h.size⟩

set_option maxRecDepth 100000 in
set_option maxHeartbeats 4000000 in
theorem newest_in_n1 (A : Option Addr) (len cap : Nat) (k : Int) (lv : Value) (M : List (List Int)) (m : List Int) (B : Nat) (w : World) (hL : Txts w (.slice A len cap) M) (hn : M.length ≤ 1000) (hm : ∀ l ∈ M, l.length ≤ 100000) (hB : ∃ u, w.cell? ⟨B, 0, none⟩ = some u ∧ Txt w u m) (hBl : B < w.heap.size) (hml : m.length ≤ 100000) :
    CallsIn Fence.wide 6 Try.prog 35 #[.agg #[.slice A len cap, .int .i64 k, lv], .func (.func 36) #[] #[.pointer (some ⟨B, 0, none⟩)]] w fun e w' => ∃ A' n' c', e = .returned (.tuple #[.slice A' n' c', .int .i64 (errO (newestP M fun l => hasP l m))]) ∧ Txt w' (.slice A' n' c') ((newestP M fun l => hasP l m).getD []) ∧ Below w.heap.size w w' := by
  have hro : Fence.wide.round = none := rfl
  have h1 : 1 ≤ 6 := by omega
  refine callsIn_of_wp_marks Try.func35 rfl trivial ?_ hro
  simp only [Try.ntmps35, List.size_toArray, List.length_cons, List.length_nil, Nat.reduceAdd, Nat.reduceSub, Array.replicate_succ, Array.replicate_zero, List.push_toArray, List.append_toArray, List.nil_append, List.cons_append]
  gi_wp2_with (refine ⟨trivial, ?_⟩; gi_at_call 27; refine (back_in Fence.wide (6 - 1) trivial hro _ _ _ _).mono ?_; rintro e w' ⟨rfl, rfl⟩)
  obtain ⟨zs, hzs, hzt⟩ := hL
  obtain ⟨hlen, hrd, hnil, hcap, hcap2⟩ := hzs.parts
  subst hlen
  obtain ⟨X, hX⟩ : ∃ X, ((((w.alloc (.cells #[.slice A M.length cap, .int .i64 k, lv] 26)).alloc (.cells #[.func (.func 36) #[] #[.pointer (some ⟨B, 0, none⟩)]] 74)).alloc (.cells #[.slice none 0 0] 24)).alloc (.cells #[.int .i64 0] 47)).alloc (.cells #[.slice A M.length cap] 23) = X := ⟨_, rfl⟩
  have hbX : Below w.heap.size w X := by rw [← hX]; exact ((((((Below.refl _ w).alloc (Nat.le_refl _) _).alloc (by simp) _).alloc (by simp; omega) _).alloc (by simp; omega) _).alloc (by simp; omega) _)
  have hszX : X.heap.size = w.heap.size + 1 + 1 + 1 + 1 + 1 := by rw [← hX]; simp
  have bF : Boxed X (w.heap.size + 1) 74 (.func (.func 36) #[] #[.pointer (some ⟨B, 0, none⟩)]) := by
    rw [← hX]
    have h := Boxed.new (w.alloc (.cells #[.slice A M.length cap, .int .i64 k, lv] 26)) 74 (.func (.func 36) #[] #[.pointer (some ⟨B, 0, none⟩)])
    rw [World.size_alloc] at h
    exact ((h.alloc _).alloc _).alloc _
  have b0 : Boxed X (w.heap.size + 1 + 1) 24 (.slice none 0 0) := by
    rw [← hX]
    have h := Boxed.new ((w.alloc (.cells #[.slice A M.length cap, .int .i64 k, lv] 26)).alloc (.cells #[.func (.func 36) #[] #[.pointer (some ⟨B, 0, none⟩)]] 74)) 24 (.slice none 0 0)
    simp only [World.size_alloc] at h
    exact (h.alloc _).alloc _
  have b1 : Boxed X (w.heap.size + 1 + 1 + 1) 47 (.int .i64 0) := by
    rw [← hX]
    have h := Boxed.new (((w.alloc (.cells #[.slice A M.length cap, .int .i64 k, lv] 26)).alloc (.cells #[.func (.func 36) #[] #[.pointer (some ⟨B, 0, none⟩)]] 74)).alloc (.cells #[.slice none 0 0] 24)) 47 (.int .i64 0)
    simp only [World.size_alloc] at h
    exact h.alloc _
  have bS : Boxed X (w.heap.size + 1 + 1 + 1 + 1) 23 (.slice A M.length cap) := by
    rw [← hX]
    have h := Boxed.new ((((w.alloc (.cells #[.slice A M.length cap, .int .i64 k, lv] 26)).alloc (.cells #[.func (.func 36) #[] #[.pointer (some ⟨B, 0, none⟩)]] 74)).alloc (.cells #[.slice none 0 0] 24)).alloc (.cells #[.int .i64 0] 47)) 23 (.slice A M.length cap)
    simp only [World.size_alloc] at h
    exact h
  rw [hX]
  have hltA : ∀ b o, A = some ⟨b, o, none⟩ → 0 < M.length → b < w.heap.size := fun b o e h => by
    obtain ⟨b', o', e', hl', _⟩ := hrd 0 h
    rw [e] at e'
    injection e' with e'
    injection e' with e1 e2
    omega
  obtain ⟨fv, hfv⟩ : ∃ fv : Value, .func (.func 36) #[] #[.pointer (some ⟨B, 0, none⟩)] = fv := ⟨_, rfl⟩
  have HFV := Lib.hid hfv
  clear hX hfv
  refine wpIn_rangeFunc_ownH hro h1 (gf := 31) (lb := #[.pointer (some ⟨w.heap.size + 1 + 1 + 1 + 1, 0, none⟩)]) rfl trivial (enters_of Try.func31 (by kernel_rfl) rfl)
    (back_stops Fence.wide (6 - 1) trivial hro (by omega) (w.heap.size + 1 + 1 + 1 + 1) w.heap.size A M.length cap zs (by omega) X (by omega) hbX.size bS.cell (hrd.later hbX) hltA) kpb_t (kpb_b hbX.size (by omega)) (Below.refl _ _) (fun _ => rfl)
    (fun pre W => (∀ j ∈ pre, (hasP (M.getD j.1 []) m) = false) ∧ NI_n1 w.heap.size (w.heap.size + 1 + 1 + 1 + 1) X fv W)
    (fun q pre W => q = .ret ∧ ∃ A' n' c' l', (∀ k, k ≤ M.length → Came pre k → newestP M (fun l => hasP l m) = some l') ∧ Boxed W (w.heap.size + 1 + 1) 24 (.slice A' n' c') ∧ Boxed W (w.heap.size + 1 + 1 + 1) 47 (.int .i64 0) ∧ Txt W (.slice A' n' c') l' ∧ Below w.heap.size w W)
    (fun pre W W' row h hg hr => ⟨h.1, h.2.kept hbX.size (by omega) hg hr⟩)
    (fun q pre W W' row h hg hr => by
      obtain ⟨h0, A', n', c', l', h1, h2, h3, h4, h5⟩ := h
      have hr' := fun r e => (hr r e).2
      exact ⟨h0, A', n', c', l', h1, boxK_n1 h2 hg hr', boxK_n1 h3 hg hr', Sl.kept h4 hg hr', h5.grown hg h5.size (fun k e => by have := (hr k e).1; omega)⟩)
    ⟨fun j hj => absurd hj (by simp), by rw [← HFV.out]; exact ⟨bF, b0, b1, KpB.refl _ _ _, Nat.le_refl _⟩⟩
    (fun x a' W => a' = { tmps := #[.agg #[.slice A M.length cap, .int .i64 k, lv], .func (.func 36) #[] #[.pointer (some ⟨B, 0, none⟩)], .pointer (some ⟨w.heap.size, 0, none⟩), .pointer (some ⟨w.heap.size + 1, 0, none⟩), .pointer (some ⟨w.heap.size + 1 + 1, 0, none⟩), .pointer (some ⟨w.heap.size + 1 + 1 + 1, 0, none⟩), undef, zs x.1, .pointer (some ⟨w.heap.size, 0, none⟩), .slice A M.length cap, .func (.func 31) #[] #[.pointer (some ⟨w.heap.size + 1 + 1 + 1 + 1, 0, none⟩)], .int .i64 (x.1 : Int), zs x.1, undef, undef, undef, undef], defers := [] })
    (fun x a' _ W W' row h hg hr => h)
    ?assign ?body ?done ?stop
  case assign =>
    rintro l' pre x W K hI hK
    gi_wp2
    exact hK _ _ (keepsRefl_n1 _ _) (KpB.refl _ _ _) hI rfl
  case body =>
    rintro l' pre x a' W hl' hrec ⟨hpre, hU⟩ rfl hlt
    obtain ⟨ln, hln⟩ : ∃ ln, M.getD x.1 [] = ln := ⟨_, rfl⟩
    have hll : ln.length ≤ 100000 := by
      rw [← hln]
      have : M[x.1]? = some (M[x.1]'x.2) := List.getElem?_eq_getElem x.2
      rw [List.getD, this, Option.getD_some]
      exact hm _ (List.getElem_mem x.2)
    have hW : Below w.heap.size w W := hbX.trans hU.kp.1
    have hT := hzt x.1 x.2
    rw [hln] at hT
    have hTS : TxtS W (fun b => b < w.heap.size) (zs x.1) ln := TxtS.later (Sl.mono (TxtS.old hT) fun b hb => hb.1) hW
    have hTW : Txt W (zs x.1) ln := TxtS.any hTS
    have hBW : ∃ u, W.cell? ⟨B, 0, none⟩ = some u ∧ Txt W u m := by
      obtain ⟨u, h1, h2⟩ := hB
      exact ⟨u, (hW.cell (p := ⟨B, 0, none⟩) hBl).trans h1, h2.later hW⟩
    obtain ⟨zv, hzv⟩ : ∃ zv, zs x.1 = zv := ⟨_, rfl⟩
    rw [hzv] at hTW hTS ⊢
    have C := Lib.hid (named1_any zv ln m B W hTW hBW hll hml)
    obtain ⟨Az, cz, rfl, _, _⟩ := Sl.is hTW
    obtain ⟨q, hq⟩ : ∃ q, hasP ln m = q := ⟨_, rfl⟩
    rw [hq] at C
    have HQ := Lib.hid hq
    have HP := Lib.hid hpre
    have HLN := Lib.hid hln
    have HT := Lib.hid hTS
    have HU := Lib.hid hU
    have HW := Lib.hid hW
    have cF := hU.ft.cell
    rw [← HFV.out] at cF
    have c0 := HU.out.r0.cell
    have g0 := HU.out.r0.frozen
    have c1 := HU.out.r1.cell
    have g1 := HU.out.r1.frozen
    clear hq hpre hln hTW hTS hU hW hT hBW hzv hzs hrd hzt hB bF b0 b1 bS
    cases q
    case false =>
      gi_wp2_with (refine ⟨trivial, ?_⟩; refine (CallsIn.inRound l' (callsIn_wide.2 C.out)).mono ?_; rintro e w5 hw5; obtain ⟨rfl, k5, rfl⟩ := hw5)
      exact ⟨keeps_drew_n1 _ _ _, ⟨below_drewN (Below.refl _ _) _, fun _ => rfl⟩, fun j hj => by
        rcases List.mem_append.1 hj with h | h
        · exact HP.out j h
        · simp at h
          subst h
          rw [HLN.out]
          exact HQ.out, HU.out.drew k5⟩
    case true =>
      gi_wp2_with (refine ⟨trivial, ?_⟩; refine (CallsIn.inRound l' (callsIn_wide.2 C.out)).mono ?_; rintro e w5 hw5; obtain ⟨rfl, k5, rfl⟩ := hw5)
      have hs := HU.out.size
      refine ⟨(keeps_drew_n1 _ _ _).trans (((KeepsOthers.setCell _ _ _).from _).trans ((KeepsOthers.setCell _ _ _).from _)), rfl, _, _, _, ln, fun k hk hc => by rw [← HLN.out]; exact newest_some_n1 hc hk HP.out (by rw [HLN.out]; exact HQ.out), Boxed.other (Boxed.set _ (HU.out.drew k5).r0) (by omega) _, Boxed.set _ (Boxed.other (HU.out.drew k5).r1 (by omega) _), ?_, ?_⟩
      · exact TxtS.any (Sl.far (p := ⟨w.heap.size + 1 + 1 + 1, 0, none⟩) (Sl.far (p := ⟨w.heap.size + 1 + 1, 0, none⟩) (TxtS.later HT.out (below_drewN (Below.refl _ _) k5)) (by show ¬ (w.heap.size + 1 + 1 < w.heap.size); omega) _) (by show ¬ (w.heap.size + 1 + 1 + 1 < w.heap.size); omega) _)
      · exact ((below_drewN HW.out k5).setCell (p := ⟨w.heap.size + 1 + 1, 0, none⟩) (by simp; omega) _).setCell (p := ⟨w.heap.size + 1 + 1 + 1, 0, none⟩) (by simp; omega) _
  case done =>
    rintro D ys W hD hS ⟨hpre, hU⟩ hK
    have HN := Lib.hid (newest_none_n1 (f := fun l => hasP l m) hS hpre)
    have HU := Lib.hid hU
    have HW := Lib.hid (hbX.trans hU.kp.1)
    have c0 := hU.r0.cell
    have g0 := hU.r0.frozen
    have c1 := hU.r1.cell
    have g1 := hU.r1.frozen
    have hs := hU.size
    clear hpre hU hzs hrd hzt hB bF b0 b1 bS
    gi_wp2
    have e1 : ((W.setCell ⟨w.heap.size + 1 + 1, 0, none⟩ (.slice none 0 0)).setCell ⟨w.heap.size + 1 + 1 + 1, 0, none⟩ (.int .i64 5)).heap[D]? = some (.deferred (some [])) := by
      rw [Below.heap_setCell _ _ _ _ (by show D ≠ w.heap.size + 1 + 1 + 1; omega), Below.heap_setCell _ _ _ _ (by show D ≠ w.heap.size + 1 + 1; omega)]
      exact hK
    obtain ⟨x0, x1, hb'⟩ := newest_end_n1 (D := D) (by omega) (Boxed.other (Boxed.set (.slice none 0 0) HU.out.r0) (by omega) (.int .i64 5)) (Boxed.set (.int .i64 5) (Boxed.other HU.out.r1 (by omega) (.slice none 0 0))) ((HW.out.setCell (p := ⟨w.heap.size + 1 + 1, 0, none⟩) (by simp; omega) _).setCell (p := ⟨w.heap.size + 1 + 1 + 1, 0, none⟩) (by simp; omega) _) e1 (.deferred none)
    refine ⟨by simp, .inl ⟨_, _, rfl, run_takeDeferred e1, ?_⟩⟩
    rw [HN.out]
    exact ⟨.tuple #[.slice none 0 0, .int .i64 5], by simp [results, Try.results35, go_sem, x0, x1], _, _, _, rfl, Sl.nil _ _ _, hb'⟩
  case stop =>
    rintro D q pre W hD ⟨k, hk, hS⟩ ⟨rfl, A', n', c', l', hl', r0, r1, ht, hb⟩ hK
    have HN := Lib.hid (hl' k hk hS)
    have HB := Lib.hid (And.intro r0 (And.intro r1 (And.intro ht hb)))
    clear hl' hzs hrd hzt hB bF b0 b1 bS r0 r1 ht hb
    gi_wp2
    obtain ⟨x0, x1, hb'⟩ := newest_end_n1 (D := D) (by have := hbX.size; omega) HB.out.1 HB.out.2.1 HB.out.2.2.2 hK (.deferred none)
    have ht' : Txt (W.putObj D (.deferred none)) (.slice A' n' c') l' := Sl.kept HB.out.2.2.1 (grownBy_putObj' W D _) (fun r e => by cases e; exact ⟨_, hK, rfl⟩)
    refine ⟨by simp, .inl ⟨_, _, rfl, run_takeDeferred hK, ?_⟩⟩
    rw [HN.out]
    exact ⟨.tuple #[.slice A' n' c', .int .i64 0], by simp [results, Try.results35, go_sem, x0, x1], _, _, _, rfl, ht', hb'⟩
theorem newest_n1_any (A : Option Addr) (len cap : Nat) (k : Int) (lv : Value) (M : List (List Int)) (m : List Int) (B : Nat) (w : World) (hL : Txts w (.slice A len cap) M) (hn : M.length ≤ 1000) (hm : ∀ l ∈ M, l.length ≤ 100000) (hB : ∃ u, w.cell? ⟨B, 0, none⟩ = some u ∧ Txt w u m) (hBl : B < w.heap.size) (hml : m.length ≤ 100000) :
    Calls Try.prog 35 #[.agg #[.slice A len cap, .int .i64 k, lv], .func (.func 36) #[] #[.pointer (some ⟨B, 0, none⟩)]] w fun e w' => ∃ A' n' c', e = .returned (.tuple #[.slice A' n' c', .int .i64 (errO (newestP M fun l => hasP l m))]) ∧ Txt w' (.slice A' n' c') ((newestP M fun l => hasP l m).getD []) ∧ Below w.heap.size w w' :=
  (callsIn_wide (n := 6)).1 (newest_in_n1 A len cap k lv M m B w hL hn hm hB hBl hml)
end Go.Proofs.Ytmhjhndnbgabjaa
