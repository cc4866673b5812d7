/- wrap: Lay. -/
import Derived.Test.YtmckoabhgjfiiaaWrC
import Derived.Test.YtmckoabhgjfiiaaGwK
import Derived.Test.YtmckoabhgjfiiaaRndQ
namespace Go.Proofs.Ytmckoabhgjfiiaa
open Go.RowKit
set_option linter.unusedVariables false
set_option linter.unusedSimpArgs false
attribute [local go_sem] Oper.semAt_some

/-- The grid when a glyph has been laid. -/
def layStep (R n : Nat) (cols top : Int) (M : List Gl) (F : Nat → Nat → Cl) (k : Nat) : Nat → Nat → Cl :=
  match M[k]? with
  | some g => if top ≤ (spAt cols M k).r then putF R n F ((spAt cols M k).r - top) (spAt cols M k).c g.t g.w else F
  | none => F
def layF (R n : Nat) (cols top : Int) (M : List Gl) (pre : List Nat) : Nat → Nat → Cl := pre.foldl (layStep R n cols top M) fun _ _ => blank
theorem layF_snoc (R n : Nat) (cols top : Int) (M : List Gl) (pre : List Nat) (k : Nat) : layF R n cols top M (pre ++ [k]) = layStep R n cols top M (layF R n cols top M pre) k := by
  simp [layF, List.foldl_append]

/-- What Lay's loop has laid: X is the world ahead of the loop. -/
structure LaI (w X : World) (lo hi g cb C R n : Nat) (cols top : Int) (M : List Gl) (pre : List Nat) (O : Nat → Prop) (W : World) : Prop where
  pg : PG W lo hi g cb C R n (layF R n cols top M pre)
  o : ∀ k, Iv lo hi k → O k
  size : X.heap.size ≤ W.heap.size
  fix : ∀ k, k < X.heap.size → ¬ Iv lo hi k → W.heap[k]? = X.heap[k]?
  below : Below w.heap.size w W
  low : w.heap.size ≤ lo
theorem LaI.bears {w X : World} {lo hi g cb C R n : Nat} {cols top : Int} {M : List Gl} (hX : w.heap.size ≤ X.heap.size) : BearsO (LaI w X lo hi g cb C R n cols top M) X.heap.size := by
  rintro pre O A B row ⟨h1, h2, h3, h4, h5, h6⟩ hg hr
  refine ⟨h1.chg (S := fun k => row = some k) ⟨hg.os, hg.tape, hg.output, hg.size, fun k hk hn => hg.block k hk fun e => hn e.symm⟩ ?_, h2, Nat.le_trans h3 hg.size, fun k h5 h6 => (hg.block k (by omega) fun e => by have := (hr k e.symm).1; omega).trans (h4 k h5 h6), h5.grown hg h5.size fun k e => Nat.le_trans hX (hr k e).1, h6⟩
  intro j h5 h6 e
  exact (hr j e).2 (h2 j ⟨h5, h6⟩)
/-- .. with the loop's variable laid. -/
def LaM (w X : World) (lo hi g cb C R n : Nat) (cols top : Int) (M : List Gl) (N : Nat) (act : Nat → Nat → Act) (x : List Nat × Nat × Act) (O : Nat → Prop) (W : World) : Prop :=
  LaI w X lo hi g cb C R n cols top M x.1 O W ∧ x.1.length < N ∧ ∃ b, x.2.2 = act x.2.1 b ∧ Blk W b (encP (spAt cols M x.2.1)).toArray ∧ O b ∧ ¬ Iv lo hi b
theorem LaM.bears {w X : World} {lo hi g cb C R n : Nat} {cols top : Int} {M : List Gl} {N : Nat} {act : Nat → Nat → Act} (hX : w.heap.size ≤ X.heap.size) : BearsO (LaM w X lo hi g cb C R n cols top M N act) X.heap.size := by
  rintro ⟨pre, x, a'⟩ O A B row ⟨h, hn, c, h1, h2, h3, h4⟩ hg hr
  exact ⟨LaI.bears hX _ _ _ _ _ h hg hr, hn, c, h1, h2.same (hg.block c h2.1 fun e => (hr _ e.symm).2 h3) hg.size, h3, h4⟩
/-- A round's end. -/
theorem LaI.done {w X W W' : World} {lo hi g cb C R n : Nat} {cols top : Int} {M : List Gl} {pre : List Nat} {x : Nat} {O : Nat → Prop} (h : LaI w X lo hi g cb C R n cols top M pre O W) (hO : ∀ k, O k → k < W.heap.size)
    (hp : PG W' lo hi g cb C R n (layStep R n cols top M (layF R n cols top M pre) x)) (hc : Chg (Iv lo hi) W W') : ∃ O', KeepO O O' W W' ∧ LaI w X lo hi g cb C R n cols top M (pre ++ [x]) O' W' :=
  ⟨O, ⟨hc.size, fun k hk ho => hc.block k hk fun hi => ho (h.o k hi), fun k hk => .inl hk, fun k hk => Nat.lt_of_lt_of_le (hO k hk) hc.size⟩, by rw [layF_snoc]; exact hp, h.o, Nat.le_trans h.size hc.size, fun k hk hn => (hc.block k (by have := h.size; omega) hn).trans (h.fix k hk hn), h.below.trans (hc.below h.below.size fun k hk hi => by have := hi.1; have := h.low; omega), h.low⟩
theorem layStep_out {R n : Nat} {cols top : Int} {M : List Gl} {F : Nat → Nat → Cl} {k : Nat} (h : M.length ≤ k) : layStep R n cols top M F k = F := by
  unfold layStep
  rw [List.getElem?_eq_none h]
theorem layStep_high {R n : Nat} {cols top : Int} {M : List Gl} {F : Nat → Nat → Cl} {k : Nat} {g : Gl} (hg : M[k]? = some g) (h : ¬ top ≤ (spAt cols M k).r) : layStep R n cols top M F k = F := by
  unfold layStep
  rw [hg]
  exact if_neg h
theorem layStep_low {R n : Nat} {cols top : Int} {M : List Gl} {F : Nat → Nat → Cl} {k : Nat} {g : Gl} (hg : M[k]? = some g) (h : top ≤ (spAt cols M k).r) : layStep R n cols top M F k = putF R n F ((spAt cols M k).r - top) (spAt cols M k).c g.t g.w := by
  unfold layStep
  rw [hg]
  exact if_pos h
theorem putF_out {R n : Nat} {F : Nat → Nat → Cl} {r c wd : Int} {t : ByteArray} (h : ¬ r < R) : putF R n F r c t wd = F := by
  unfold putF
  rw [if_neg]
  intro hk
  have := of_decide_eq_true hk
  unfold okP at this
  omega

set_option maxRecDepth 100000 in
set_option maxHeartbeats 4000000 in
theorem lay_in (A : Option Addr) (c : Nat) (M : List Gl) (R n : Nat) (top : Int) (w : World) (hLi : Li 2 encG w (fun _ => True) A M) (hM : Thin M) (hlen : M.length ≤ 1000) (hcl : M.length ≤ c) (r1 : 1 ≤ R) (r2 : R ≤ 500) (n1 : 2 ≤ n) (n2 : n ≤ 1000) (t1 : -1000 ≤ top) (t2 : top ≤ 1000) :
    CallsIn Fence.wide 5 Try.prog 12 #[.slice A M.length c, .int .i64 R, .int .i64 n, .int .i64 top] w fun e w' => ∃ lo hi g cb C, e = .returned (ptr g) ∧ PG w' lo hi g cb C R n (layF R n n top M (List.range (M.length + 1))) ∧ w.heap.size ≤ lo ∧ hi ≤ w'.heap.size ∧ Below w.heap.size w w' := by
  have hro : Fence.wide.round = none := rfl
  have h1 : 1 ≤ 5 := by omega
  have HL := Lib.hid hLi
  clear hLi
  refine callsIn_of_wp_marks Try.func12 rfl trivial ?_ hro
  simp only [Try.ntmps12, List.size_toArray, List.length_cons, List.length_nil, Nat.reduceAdd, Nat.reduceSub, Array.replicate_succ, Array.replicate_zero, List.push_toArray, List.append_toArray, List.nil_append, List.cons_append]
  have B3 := Lib.hid (blk_three w #[.slice A M.length c] #[.int .i64 (R : Int)] #[.int .i64 top] 23 3 3)
  obtain ⟨V, hV⟩ : ∃ V, ((w.alloc (.cells #[.slice A M.length c] 23)).alloc (.cells #[.int .i64 (R : Int)] 3)).alloc (.cells #[.int .i64 top] 3) = V := ⟨_, rfl⟩
  have hVw : V.heap.size = w.heap.size + 3 := by rw [← hV]; simp
  have hVb : Below w.heap.size w V := by rw [← hV]; exact (((Below.refl _ w).alloc (Nat.le_refl _) _).alloc (by simp) _).alloc (by simp; omega) _
  have v0 : V.cell? ⟨w.heap.size, 0, none⟩ = some (.slice A M.length c) := hV ▸ B3.out.1.2.1 0
  have v1 : V.cell? ⟨w.heap.size + 1, 0, none⟩ = some (.int .i64 (R : Int)) := hV ▸ B3.out.2.1.2.1 0
  have v2 : V.cell? ⟨w.heap.size + 1 + 1, 0, none⟩ = some (.int .i64 top) := hV ▸ B3.out.2.2.2.1 0
  gi_wp2_with (first
      | (refine ⟨trivial, ?_⟩; gi_at_call 19; refine (callsIn_wide.2 (new_in _ r1 r2 n1 n2)).mono ?_; rintro e w1 ⟨g, cb, C, rfl, hp, hb⟩; have k0 := (hb.cell (p := ⟨w.heap.size, 0, none⟩) (by show w.heap.size < _; omega)).trans v0; have k1 := (hb.cell (p := ⟨w.heap.size + 1, 0, none⟩) (by show w.heap.size + 1 < _; omega)).trans v1; have k2 := (hb.cell (p := ⟨w.heap.size + 1 + 1, 0, none⟩) (by show w.heap.size + 1 + 1 < _; omega)).trans v2; have hw1 := hb.size; have hq0 : w.heap.size < w1.heap.size := (by omega); have hq1 : w.heap.size + 1 < w1.heap.size := (by omega); have hq2 : w.heap.size + 1 + 1 < w1.heap.size := (by omega))
      | (refine ⟨trivial, ?_⟩; gi_at_call 16; refine (spots_in Fence.wide (5 - 1) trivial hro _ _ _ _ _).mono ?_; rintro e w' ⟨rfl, rfl⟩))
  obtain ⟨X, hX⟩ : ∃ X, (((w1.alloc (.cells #[ptr g] 36)).alloc (.cells #[.slice A M.length c] 23)).alloc (.cells #[.int .i64 (n : Int)] 3)) = X := ⟨_, rfl⟩
  have C3 := blk_three w1 #[ptr g] #[.slice A M.length c] #[.int .i64 (n : Int)] 36 23 3
  have hsz : X.heap.size = w1.heap.size + 3 := by rw [← hX]; simp
  have hb1X : Below w1.heap.size w1 X := by rw [← hX]; exact (((Below.refl _ w1).alloc (Nat.le_refl _) _).alloc (by simp) _).alloc (by simp; omega) _
  rw [hX] at C3
  have hwX : Below w.heap.size w X := (hVb.trans (hb.mono hVb.size)).trans (hb1X.mono (by omega))
  have x0 := (hb1X.cell (p := ⟨w.heap.size, 0, none⟩) hq0).trans k0
  have x1 := (hb1X.cell (p := ⟨w.heap.size + 1, 0, none⟩) hq1).trans k1
  have x2 := (hb1X.cell (p := ⟨w.heap.size + 1 + 1, 0, none⟩) hq2).trans k2
  have x3 : X.cell? ⟨w1.heap.size, 0, none⟩ = some (ptr g) := C3.1.2.1 0
  have x4 : X.cell? ⟨w1.heap.size + 1, 0, none⟩ = some (.slice A M.length c) := C3.2.1.2.1 0
  have x5 : X.cell? ⟨w1.heap.size + 1 + 1, 0, none⟩ = some (.int .i64 (n : Int)) := C3.2.2.2.1 0
  have hpX := hp.later hb1X
  have hLX := Lib.hid (HL.out.later hwX)
  have HWX := Lib.hid hwX
  have hbz : ∀ b o, A = some ⟨b, o, none⟩ → 0 < M.length → b < w.heap.size := fun b o e h => by
    obtain ⟨g, b', o', _, e', hb', _⟩ := HL.out.glyph h
    rw [e] at e'
    injection e' with e'
    injection e' with e1 e2
    omega
  obtain ⟨lo, hlo⟩ : ∃ lo, V.heap.size = lo := ⟨_, rfl⟩
  obtain ⟨hi, hhi⟩ : ∃ hi, w1.heap.size = hi := ⟨_, rfl⟩
  have hp' : PG X lo hi g cb C R n fun _ _ => blank := by rw [← hlo, ← hhi]; exact hpX
  have HP := Lib.hid hp'
  have hh1 : w1.heap.size ≤ hi := by omega
  have hh2 : hi ≤ w1.heap.size := by omega
  have hh3 : w.heap.size + 3 ≤ lo := by omega
  have hg1 := hp'.g1
  have hg2 := hp'.g2
  rw [hX]
  clear hX C3 hV hb hp hpX hp' B3 k0 k1 k2 v0 v1 v2 hb1X hwX hlo hhi
  refine wpIn_rangeBox hro h1 (gf := 23) (lb := #[.pointer (some ⟨w1.heap.size + 1, 0, none⟩), .pointer (some ⟨w1.heap.size + 1 + 1, 0, none⟩)]) rfl trivial (enters_of Try.func23 (by kernel_rfl) rfl)
    (spots_seq Fence.wide (5 - 1) trivial hro (by omega) (w1.heap.size + 1) (w1.heap.size + 1 + 1) (fun k => k = w1.heap.size + 1 ∨ k = w1.heap.size + 1 + 1 ∨ ∃ b o, A = some ⟨b, o, none⟩ ∧ 0 < M.length ∧ k = b) A c M n hM hlen hcl (by omega) (by omega) X
      ⟨.inl rfl, .inr (.inl rfl), fun b o e h => .inr (.inr ⟨b, o, e, h, rfl⟩), ?klt, x4, x5, hLX.out⟩ ?klt2) (fun _ => rfl)
    (Iv lo hi) ?hO (LaI w X lo hi g cb C R n n top M) (LaM w X lo hi g cb C R n n top M (M.length + 1) fun x b => { tmps := #[.slice A M.length c, .int .i64 (R : Int), .int .i64 (n : Int), .int .i64 top, .pointer (some ⟨w.heap.size, 0, none⟩), .pointer (some ⟨w.heap.size + 1, 0, none⟩), undef, .pointer (some ⟨w.heap.size + 1 + 1, 0, none⟩), .pointer none, .pointer (some ⟨w1.heap.size, 0, none⟩), .int .i64 (x : Int), .pointer (some ⟨b, 0, none⟩), undef, .int .i64 (R : Int), .int .i64 (n : Int), ptr g, ptr g, .bool false, .slice A M.length c, .int .i64 (n : Int), .func (.func 23) #[] #[.pointer (some ⟨w1.heap.size + 1, 0, none⟩), .pointer (some ⟨w1.heap.size + 1 + 1, 0, none⟩)], .int .i64 (x : Int), .agg #[.int .i64 (spAt n M x).r, .int .i64 (spAt n M x).c], undef, undef, undef, undef, undef, undef, undef, undef, undef, undef, undef, undef, undef, undef, undef, undef, undef, undef, undef, undef, undef, undef, undef, undef, undef, undef, undef], defers := [] })
    (LaI.bears (by omega)) (LaM.bears (by omega)) ?start ?assign ?body ?done
  case klt =>
    rintro k (rfl | rfl | ⟨b, o, e, h, rfl⟩)
    · omega
    · omega
    · have := hbz k o e h; omega
  case klt2 =>
    rintro k (rfl | rfl | ⟨b, o, e, h, rfl⟩)
    · omega
    · omega
    · have := hbz k o e h; omega
  case hO =>
    rintro k ⟨h3, h4⟩
    refine ⟨by omega, ?_⟩
    rintro (h | h | ⟨b, o, e, h, h'⟩)
    · omega
    · omega
    · have := hbz b o e h; omega
  case start => exact ⟨HP.out, fun k h => h, Nat.le_refl _, fun _ _ _ => rfl, HWX.out, by omega⟩
  case assign =>
    rintro l pre O x W hI hO hN
    simp only [encN, encP]
    gi_wp2
    refine ⟨World.grownBy_alloc _ _ _, fun k => O k ∨ k = W.heap.size, ?_, ?_, ?_⟩
    · rintro k (h | rfl)
      · exact .inl h
      · exact .inr (Nat.le_refl _)
    · rintro k (h | rfl)
      · have := hO k h; simp; omega
      · simp
    · have hs := hI.size
      exact ⟨⟨hI.pg.later ((Below.refl _ W).alloc (Nat.le_refl _) _), fun k h => .inl (hI.o k h), by simp; omega, fun k h3 h4 => ((World.grownBy_alloc W _ none).block k (by omega) (by simp)).trans (hI.fix k h3 h4), hI.below.alloc hI.below.size _, hI.low⟩, hN, W.heap.size, rfl, blk_new _ _ _, .inr rfl, fun h => by have := h.2; omega⟩
  case body =>
    rintro l pre O x a' W ⟨hI, hN, b, hact, hblk, hob, hiv⟩ hWs hlt
    dsimp only at hI hN hact hblk
    subst hact
    have HI := Lib.hid hI
    have HO := Lib.hid hlt
    have hfix := hI.fix
    have hs := hI.size
    have e (k : Nat) (u : Value) (h : k < X.heap.size) (h' : ¬ Iv lo hi k) (hc : X.cell? ⟨k, 0, none⟩ = some u) : W.cell? ⟨k, 0, none⟩ = some u := (World.cell?_of_block (a := ⟨k, 0, none⟩) (hfix k h h')).trans hc
    have q0 := e _ _ (by omega) (fun h => by have := h.1; omega) x0
    have q1 := e _ _ (by omega) (fun h => by have := h.1; omega) x1
    have q2 := e _ _ (by omega) (fun h => by have := h.1; omega) x2
    have q3 := e _ _ (by omega) (fun h => by have := h.2; omega) x3
    obtain ⟨p, hp⟩ : ∃ p, spAt n M x = p := ⟨_, rfl⟩
    rw [hp] at hblk
    have p0 : W.cell? ⟨b, 0, none⟩ = some (.int .i64 p.r) := hblk.2.1 0
    have p1 : W.cell? ⟨b, 1, none⟩ = some (.int .i64 p.c) := hblk.2.1 1
    rw [hp]
    by_cases hx : x < M.length
    · obtain ⟨gg, ab, ao, hgg, rfl, hab, _, c0, c1⟩ := hLX.out.glyph hx
      have hbz' := hbz ab ao rfl (by omega)
      have g0 : W.cell? ⟨ab, ao + x * 2, none⟩ = some (.string gg.t) := (World.cell?_of_block (a := ⟨ab, ao + x * 2, none⟩) (hfix ab hab (fun h => by have := h.1; omega))).trans c0
      have g1' : W.cell? ⟨ab, ao + x * 2 + 1, none⟩ = some (.int .i64 gg.w) := (World.cell?_of_block (a := ⟨ab, ao + x * 2 + 1, none⟩) (hfix ab hab (fun h => by have := h.1; omega))).trans c1
      have i1 : (x : Int) < (M.length : Int) := by omega
      have i2 : (0 : Int) ≤ (x : Int) := by omega
      have bd := spAt_bd (cols := (n : Int)) (by omega) hM x (by omega)
      rw [hp] at bd
      obtain ⟨b1, b2, b3, b4, b5⟩ := bd
      have u1 : IntKind.i64.wrap (p.r - top) = p.r - top := IntWalk.i64_in _ (by omega)
      by_cases ht : top ≤ p.r
      · have d1 : decide (top ≤ p.r) = true := decide_eq_true ht
        have hst := layStep_low (R := R) (n := n) (top := top) (F := layF R n n top M pre) hgg (by rw [hp]; exact ht)
        rw [hp] at hst
        have HST := Lib.hid hst
        clear hst hfix e c0 c1 hgg
        by_cases hr : p.r - top < (R : Int)
        · have d2 : decide (p.r - top < (R : Int)) = true := decide_eq_true hr
          have hmx : Try.prog.follows .mixedOrders = true := by kernel_rfl
          have hmx2 : 1 ≤ 5 - 1 - 1 := by omega
          gi_wp2
          refine wpIn_region_any hmx (any_inRound l rfl ?_ _ _ _ _ ?_)
          · exact no_defer (by rfl)
          change wpAnyIn _ _ _ _ _ _ _ _ _ (World.drew _)
          refine wpAnyIn_take (i := 1) (v := ?_) rfl rfl (by kernel_rfl) (by kernel_rfl) (by kernel_rfl) (fun _ _ _ h => h) ⟨Or.inl ⟨by rfl, ?_⟩, fun _ => rfl⟩ ?_
          rotate_left
          · intro Z; go_simp; try with_reducible rfl
          simp only [Act.put, List.setIfInBounds_toArray, List.set_cons_zero, List.set_cons_succ]
          refine wpAnyIn_take (i := 2) (v := ?_) rfl rfl (by kernel_rfl) (by kernel_rfl) (by kernel_rfl) (fun _ _ _ h => h) ⟨Or.inl ⟨by rfl, ?_⟩, fun _ => rfl⟩ ?_
          rotate_left
          · intro Z; go_simp; try with_reducible rfl
          simp only [Act.put, List.setIfInBounds_toArray, List.set_cons_zero, List.set_cons_succ]
          refine wpAnyIn_take (i := 5) (v := ?_) rfl rfl (by kernel_rfl) (by kernel_rfl) (by kernel_rfl) (fun _ _ _ h => h) ⟨Or.inl ⟨by rfl, ?_⟩, fun _ => rfl⟩ ?_
          rotate_left
          · intro Z; go_simp; try with_reducible rfl
          simp only [Act.put, List.setIfInBounds_toArray, List.set_cons_zero, List.set_cons_succ]
          refine wpAnyIn_ready (rs := [0, 3, 4]) (by kernel_rfl) (by simp) ?_
          refine AllReadyIn.cons rfl (fun K hK => ?_) (AllReadyIn.cons rfl (fun K hK => ?_) (AllReadyIn.cons rfl (fun K hK => ?_) AllReadyIn.nil))
          · go_simp; refine hK _ _ ?_; clear hK K
            refine wpAnyIn_ready (rs := [3, 4]) (by kernel_rfl) (by simp) ?_
            refine AllReadyIn.cons rfl (fun K hK => ?_) (AllReadyIn.cons rfl (fun K hK => ?_) AllReadyIn.nil)
            · go_simp; refine hK _ _ ?_; clear hK K
              refine wpAnyIn_ready (rs := [4]) (by kernel_rfl) (by simp) ?_
              refine AllReadyIn.cons rfl (fun K hK => ?_) AllReadyIn.nil
              go_simp; refine hK _ _ ?_; clear hK K
              refine wpAnyIn_take (i := 6) (v := ?_) rfl rfl (by kernel_rfl) (by kernel_rfl) (by kernel_rfl) (fun _ _ _ h => h) ⟨Or.inl ⟨by rfl, ?_⟩, fun _ => rfl⟩ ?_
              rotate_left
              · intro Z; go_simp; try with_reducible rfl
              simp only [Act.put, List.setIfInBounds_toArray, List.set_cons_zero, List.set_cons_succ]
              refine wpAnyIn_ready (rs := [7]) (by kernel_rfl) (by simp) ?_
              refine AllReadyIn.cons rfl (fun K hK => ?_) AllReadyIn.nil
              go_simp; refine hK _ _ ?_; clear hK K
              refine wpAnyIn_ready (rs := [8]) (by kernel_rfl) (by simp) ?_
              refine AllReadyIn.cons rfl (fun K hK => ?_) AllReadyIn.nil
              rw [if_pos (by rfl)]; go_simp; refine ⟨trivial, ?_⟩; refine (callsIn_wide.2 (put_all (HI.out.pg.later (by repeat (first | exact Below.refl _ _ | refine Below.drew ?_))) _ _ _ _)).mono ?_; rintro e w3 ⟨rfl, hP3, hC3⟩; have HR := Lib.hid (HI.out.done (x := x) HO.out (by rw [HST.out]; exact hP3) (((Chg.refl _ W).drew').trans hC3)); clear hP3 hC3; dsimp only; refine hK _ _ ?_; clear hK K
              refine wpAnyIn_done (by kernel_rfl) ?_ _
              exact HR.out
            · go_simp; refine hK _ _ ?_; clear hK K
              refine wpAnyIn_take (i := 6) (v := ?_) rfl rfl (by kernel_rfl) (by kernel_rfl) (by kernel_rfl) (fun _ _ _ h => h) ⟨Or.inl ⟨by rfl, ?_⟩, fun _ => rfl⟩ ?_
              rotate_left
              · intro Z; go_simp; try with_reducible rfl
              simp only [Act.put, List.setIfInBounds_toArray, List.set_cons_zero, List.set_cons_succ]
              refine wpAnyIn_ready (rs := [3, 7]) (by kernel_rfl) (by simp) ?_
              refine AllReadyIn.cons rfl (fun K hK => ?_) (AllReadyIn.cons rfl (fun K hK => ?_) AllReadyIn.nil)
              · go_simp; refine hK _ _ ?_; clear hK K
                refine wpAnyIn_ready (rs := [7]) (by kernel_rfl) (by simp) ?_
                refine AllReadyIn.cons rfl (fun K hK => ?_) AllReadyIn.nil
                go_simp; refine hK _ _ ?_; clear hK K
                refine wpAnyIn_ready (rs := [8]) (by kernel_rfl) (by simp) ?_
                refine AllReadyIn.cons rfl (fun K hK => ?_) AllReadyIn.nil
                rw [if_pos (by rfl)]; go_simp; refine ⟨trivial, ?_⟩; refine (callsIn_wide.2 (put_all (HI.out.pg.later (by repeat (first | exact Below.refl _ _ | refine Below.drew ?_))) _ _ _ _)).mono ?_; rintro e w3 ⟨rfl, hP3, hC3⟩; have HR := Lib.hid (HI.out.done (x := x) HO.out (by rw [HST.out]; exact hP3) (((Chg.refl _ W).drew').trans hC3)); clear hP3 hC3; dsimp only; refine hK _ _ ?_; clear hK K
                refine wpAnyIn_done (by kernel_rfl) ?_ _
                exact HR.out
              · go_simp; refine hK _ _ ?_; clear hK K
                refine wpAnyIn_ready (rs := [3]) (by kernel_rfl) (by simp) ?_
                refine AllReadyIn.cons rfl (fun K hK => ?_) AllReadyIn.nil
                go_simp; refine hK _ _ ?_; clear hK K
                refine wpAnyIn_ready (rs := [8]) (by kernel_rfl) (by simp) ?_
                refine AllReadyIn.cons rfl (fun K hK => ?_) AllReadyIn.nil
                rw [if_pos (by rfl)]; go_simp; refine ⟨trivial, ?_⟩; refine (callsIn_wide.2 (put_all (HI.out.pg.later (by repeat (first | exact Below.refl _ _ | refine Below.drew ?_))) _ _ _ _)).mono ?_; rintro e w3 ⟨rfl, hP3, hC3⟩; have HR := Lib.hid (HI.out.done (x := x) HO.out (by rw [HST.out]; exact hP3) (((Chg.refl _ W).drew').trans hC3)); clear hP3 hC3; dsimp only; refine hK _ _ ?_; clear hK K
                refine wpAnyIn_done (by kernel_rfl) ?_ _
                exact HR.out
          · go_simp; refine hK _ _ ?_; clear hK K
            refine wpAnyIn_ready (rs := [0, 4]) (by kernel_rfl) (by simp) ?_
            refine AllReadyIn.cons rfl (fun K hK => ?_) (AllReadyIn.cons rfl (fun K hK => ?_) AllReadyIn.nil)
            · go_simp; refine hK _ _ ?_; clear hK K
              refine wpAnyIn_ready (rs := [4]) (by kernel_rfl) (by simp) ?_
              refine AllReadyIn.cons rfl (fun K hK => ?_) AllReadyIn.nil
              go_simp; refine hK _ _ ?_; clear hK K
              refine wpAnyIn_take (i := 6) (v := ?_) rfl rfl (by kernel_rfl) (by kernel_rfl) (by kernel_rfl) (fun _ _ _ h => h) ⟨Or.inl ⟨by rfl, ?_⟩, fun _ => rfl⟩ ?_
              rotate_left
              · intro Z; go_simp; try with_reducible rfl
              simp only [Act.put, List.setIfInBounds_toArray, List.set_cons_zero, List.set_cons_succ]
              refine wpAnyIn_ready (rs := [7]) (by kernel_rfl) (by simp) ?_
              refine AllReadyIn.cons rfl (fun K hK => ?_) AllReadyIn.nil
              go_simp; refine hK _ _ ?_; clear hK K
              refine wpAnyIn_ready (rs := [8]) (by kernel_rfl) (by simp) ?_
              refine AllReadyIn.cons rfl (fun K hK => ?_) AllReadyIn.nil
              rw [if_pos (by rfl)]; go_simp; refine ⟨trivial, ?_⟩; refine (callsIn_wide.2 (put_all (HI.out.pg.later (by repeat (first | exact Below.refl _ _ | refine Below.drew ?_))) _ _ _ _)).mono ?_; rintro e w3 ⟨rfl, hP3, hC3⟩; have HR := Lib.hid (HI.out.done (x := x) HO.out (by rw [HST.out]; exact hP3) (((Chg.refl _ W).drew').trans hC3)); clear hP3 hC3; dsimp only; refine hK _ _ ?_; clear hK K
              refine wpAnyIn_done (by kernel_rfl) ?_ _
              exact HR.out
            · go_simp; refine hK _ _ ?_; clear hK K
              refine wpAnyIn_take (i := 6) (v := ?_) rfl rfl (by kernel_rfl) (by kernel_rfl) (by kernel_rfl) (fun _ _ _ h => h) ⟨Or.inl ⟨by rfl, ?_⟩, fun _ => rfl⟩ ?_
              rotate_left
              · intro Z; go_simp; try with_reducible rfl
              simp only [Act.put, List.setIfInBounds_toArray, List.set_cons_zero, List.set_cons_succ]
              refine wpAnyIn_ready (rs := [0, 7]) (by kernel_rfl) (by simp) ?_
              refine AllReadyIn.cons rfl (fun K hK => ?_) (AllReadyIn.cons rfl (fun K hK => ?_) AllReadyIn.nil)
              · go_simp; refine hK _ _ ?_; clear hK K
                refine wpAnyIn_ready (rs := [7]) (by kernel_rfl) (by simp) ?_
                refine AllReadyIn.cons rfl (fun K hK => ?_) AllReadyIn.nil
                go_simp; refine hK _ _ ?_; clear hK K
                refine wpAnyIn_ready (rs := [8]) (by kernel_rfl) (by simp) ?_
                refine AllReadyIn.cons rfl (fun K hK => ?_) AllReadyIn.nil
                rw [if_pos (by rfl)]; go_simp; refine ⟨trivial, ?_⟩; refine (callsIn_wide.2 (put_all (HI.out.pg.later (by repeat (first | exact Below.refl _ _ | refine Below.drew ?_))) _ _ _ _)).mono ?_; rintro e w3 ⟨rfl, hP3, hC3⟩; have HR := Lib.hid (HI.out.done (x := x) HO.out (by rw [HST.out]; exact hP3) (((Chg.refl _ W).drew').trans hC3)); clear hP3 hC3; dsimp only; refine hK _ _ ?_; clear hK K
                refine wpAnyIn_done (by kernel_rfl) ?_ _
                exact HR.out
              · go_simp; refine hK _ _ ?_; clear hK K
                refine wpAnyIn_ready (rs := [0]) (by kernel_rfl) (by simp) ?_
                refine AllReadyIn.cons rfl (fun K hK => ?_) AllReadyIn.nil
                go_simp; refine hK _ _ ?_; clear hK K
                refine wpAnyIn_ready (rs := [8]) (by kernel_rfl) (by simp) ?_
                refine AllReadyIn.cons rfl (fun K hK => ?_) AllReadyIn.nil
                rw [if_pos (by rfl)]; go_simp; refine ⟨trivial, ?_⟩; refine (callsIn_wide.2 (put_all (HI.out.pg.later (by repeat (first | exact Below.refl _ _ | refine Below.drew ?_))) _ _ _ _)).mono ?_; rintro e w3 ⟨rfl, hP3, hC3⟩; have HR := Lib.hid (HI.out.done (x := x) HO.out (by rw [HST.out]; exact hP3) (((Chg.refl _ W).drew').trans hC3)); clear hP3 hC3; dsimp only; refine hK _ _ ?_; clear hK K
                refine wpAnyIn_done (by kernel_rfl) ?_ _
                exact HR.out
          · go_simp; refine hK _ _ ?_; clear hK K
            refine wpAnyIn_take (i := 6) (v := ?_) rfl rfl (by kernel_rfl) (by kernel_rfl) (by kernel_rfl) (fun _ _ _ h => h) ⟨Or.inl ⟨by rfl, ?_⟩, fun _ => rfl⟩ ?_
            rotate_left
            · intro Z; go_simp; try with_reducible rfl
            simp only [Act.put, List.setIfInBounds_toArray, List.set_cons_zero, List.set_cons_succ]
            refine wpAnyIn_ready (rs := [0, 3, 7]) (by kernel_rfl) (by simp) ?_
            refine AllReadyIn.cons rfl (fun K hK => ?_) (AllReadyIn.cons rfl (fun K hK => ?_) (AllReadyIn.cons rfl (fun K hK => ?_) AllReadyIn.nil))
            · go_simp; refine hK _ _ ?_; clear hK K
              refine wpAnyIn_ready (rs := [3, 7]) (by kernel_rfl) (by simp) ?_
              refine AllReadyIn.cons rfl (fun K hK => ?_) (AllReadyIn.cons rfl (fun K hK => ?_) AllReadyIn.nil)
              · go_simp; refine hK _ _ ?_; clear hK K
                refine wpAnyIn_ready (rs := [7]) (by kernel_rfl) (by simp) ?_
                refine AllReadyIn.cons rfl (fun K hK => ?_) AllReadyIn.nil
                go_simp; refine hK _ _ ?_; clear hK K
                refine wpAnyIn_ready (rs := [8]) (by kernel_rfl) (by simp) ?_
                refine AllReadyIn.cons rfl (fun K hK => ?_) AllReadyIn.nil
                rw [if_pos (by rfl)]; go_simp; refine ⟨trivial, ?_⟩; refine (callsIn_wide.2 (put_all (HI.out.pg.later (by repeat (first | exact Below.refl _ _ | refine Below.drew ?_))) _ _ _ _)).mono ?_; rintro e w3 ⟨rfl, hP3, hC3⟩; have HR := Lib.hid (HI.out.done (x := x) HO.out (by rw [HST.out]; exact hP3) (((Chg.refl _ W).drew').trans hC3)); clear hP3 hC3; dsimp only; refine hK _ _ ?_; clear hK K
                refine wpAnyIn_done (by kernel_rfl) ?_ _
                exact HR.out
              · go_simp; refine hK _ _ ?_; clear hK K
                refine wpAnyIn_ready (rs := [3]) (by kernel_rfl) (by simp) ?_
                refine AllReadyIn.cons rfl (fun K hK => ?_) AllReadyIn.nil
                go_simp; refine hK _ _ ?_; clear hK K
                refine wpAnyIn_ready (rs := [8]) (by kernel_rfl) (by simp) ?_
                refine AllReadyIn.cons rfl (fun K hK => ?_) AllReadyIn.nil
                rw [if_pos (by rfl)]; go_simp; refine ⟨trivial, ?_⟩; refine (callsIn_wide.2 (put_all (HI.out.pg.later (by repeat (first | exact Below.refl _ _ | refine Below.drew ?_))) _ _ _ _)).mono ?_; rintro e w3 ⟨rfl, hP3, hC3⟩; have HR := Lib.hid (HI.out.done (x := x) HO.out (by rw [HST.out]; exact hP3) (((Chg.refl _ W).drew').trans hC3)); clear hP3 hC3; dsimp only; refine hK _ _ ?_; clear hK K
                refine wpAnyIn_done (by kernel_rfl) ?_ _
                exact HR.out
            · go_simp; refine hK _ _ ?_; clear hK K
              refine wpAnyIn_ready (rs := [0, 7]) (by kernel_rfl) (by simp) ?_
              refine AllReadyIn.cons rfl (fun K hK => ?_) (AllReadyIn.cons rfl (fun K hK => ?_) AllReadyIn.nil)
              · go_simp; refine hK _ _ ?_; clear hK K
                refine wpAnyIn_ready (rs := [7]) (by kernel_rfl) (by simp) ?_
                refine AllReadyIn.cons rfl (fun K hK => ?_) AllReadyIn.nil
                go_simp; refine hK _ _ ?_; clear hK K
                refine wpAnyIn_ready (rs := [8]) (by kernel_rfl) (by simp) ?_
                refine AllReadyIn.cons rfl (fun K hK => ?_) AllReadyIn.nil
                rw [if_pos (by rfl)]; go_simp; refine ⟨trivial, ?_⟩; refine (callsIn_wide.2 (put_all (HI.out.pg.later (by repeat (first | exact Below.refl _ _ | refine Below.drew ?_))) _ _ _ _)).mono ?_; rintro e w3 ⟨rfl, hP3, hC3⟩; have HR := Lib.hid (HI.out.done (x := x) HO.out (by rw [HST.out]; exact hP3) (((Chg.refl _ W).drew').trans hC3)); clear hP3 hC3; dsimp only; refine hK _ _ ?_; clear hK K
                refine wpAnyIn_done (by kernel_rfl) ?_ _
                exact HR.out
              · go_simp; refine hK _ _ ?_; clear hK K
                refine wpAnyIn_ready (rs := [0]) (by kernel_rfl) (by simp) ?_
                refine AllReadyIn.cons rfl (fun K hK => ?_) AllReadyIn.nil
                go_simp; refine hK _ _ ?_; clear hK K
                refine wpAnyIn_ready (rs := [8]) (by kernel_rfl) (by simp) ?_
                refine AllReadyIn.cons rfl (fun K hK => ?_) AllReadyIn.nil
                rw [if_pos (by rfl)]; go_simp; refine ⟨trivial, ?_⟩; refine (callsIn_wide.2 (put_all (HI.out.pg.later (by repeat (first | exact Below.refl _ _ | refine Below.drew ?_))) _ _ _ _)).mono ?_; rintro e w3 ⟨rfl, hP3, hC3⟩; have HR := Lib.hid (HI.out.done (x := x) HO.out (by rw [HST.out]; exact hP3) (((Chg.refl _ W).drew').trans hC3)); clear hP3 hC3; dsimp only; refine hK _ _ ?_; clear hK K
                refine wpAnyIn_done (by kernel_rfl) ?_ _
                exact HR.out
            · go_simp; refine hK _ _ ?_; clear hK K
              refine wpAnyIn_ready (rs := [0, 3]) (by kernel_rfl) (by simp) ?_
              refine AllReadyIn.cons rfl (fun K hK => ?_) (AllReadyIn.cons rfl (fun K hK => ?_) AllReadyIn.nil)
              · go_simp; refine hK _ _ ?_; clear hK K
                refine wpAnyIn_ready (rs := [3]) (by kernel_rfl) (by simp) ?_
                refine AllReadyIn.cons rfl (fun K hK => ?_) AllReadyIn.nil
                go_simp; refine hK _ _ ?_; clear hK K
                refine wpAnyIn_ready (rs := [8]) (by kernel_rfl) (by simp) ?_
                refine AllReadyIn.cons rfl (fun K hK => ?_) AllReadyIn.nil
                rw [if_pos (by rfl)]; go_simp; refine ⟨trivial, ?_⟩; refine (callsIn_wide.2 (put_all (HI.out.pg.later (by repeat (first | exact Below.refl _ _ | refine Below.drew ?_))) _ _ _ _)).mono ?_; rintro e w3 ⟨rfl, hP3, hC3⟩; have HR := Lib.hid (HI.out.done (x := x) HO.out (by rw [HST.out]; exact hP3) (((Chg.refl _ W).drew').trans hC3)); clear hP3 hC3; dsimp only; refine hK _ _ ?_; clear hK K
                refine wpAnyIn_done (by kernel_rfl) ?_ _
                exact HR.out
              · go_simp; refine hK _ _ ?_; clear hK K
                refine wpAnyIn_ready (rs := [0]) (by kernel_rfl) (by simp) ?_
                refine AllReadyIn.cons rfl (fun K hK => ?_) AllReadyIn.nil
                go_simp; refine hK _ _ ?_; clear hK K
                refine wpAnyIn_ready (rs := [8]) (by kernel_rfl) (by simp) ?_
                refine AllReadyIn.cons rfl (fun K hK => ?_) AllReadyIn.nil
                rw [if_pos (by rfl)]; go_simp; refine ⟨trivial, ?_⟩; refine (callsIn_wide.2 (put_all (HI.out.pg.later (by repeat (first | exact Below.refl _ _ | refine Below.drew ?_))) _ _ _ _)).mono ?_; rintro e w3 ⟨rfl, hP3, hC3⟩; have HR := Lib.hid (HI.out.done (x := x) HO.out (by rw [HST.out]; exact hP3) (((Chg.refl _ W).drew').trans hC3)); clear hP3 hC3; dsimp only; refine hK _ _ ?_; clear hK K
                refine wpAnyIn_done (by kernel_rfl) ?_ _
                exact HR.out
        · have d2 : decide (p.r - top < (R : Int)) = false := decide_eq_false hr
          have HR := Lib.hid (HI.out.done (x := x) HO.out (by rw [HST.out, putF_out hr]; exact HI.out.pg) (Chg.refl _ W))
          gi_wp2
          exact HR.out
      · have d1 : decide (top ≤ p.r) = false := decide_eq_false ht
        have HR := Lib.hid (HI.out.done (x := x) HO.out (by rw [layStep_high hgg (by rw [hp]; exact ht)]; exact HI.out.pg) (Chg.refl _ W))
        clear hfix e hgg
        gi_wp2
        exact HR.out
    · have i1 : ¬ ((x : Int) < (M.length : Int)) := by omega
      have HR := Lib.hid (HI.out.done (x := x) HO.out (by rw [layStep_out (by omega)]; exact HI.out.pg) (Chg.refl _ W))
      clear hfix e
      gi_wp2
      exact HR.out
  case done =>
    rintro xs O W rfl hI hK hn
    have q3 : W.cell? ⟨w1.heap.size, 0, none⟩ = some (ptr g) := (World.cell?_of_block (a := ⟨w1.heap.size, 0, none⟩) (hI.fix w1.heap.size (by omega) (fun h => by have := h.2; omega))).trans x3
    have HI := Lib.hid hI
    gi_wp2
    refine ⟨by simp, .inl ⟨_, _, rfl, run_takeDeferred hK, ?_⟩⟩
    refine ⟨_, results_tmp rfl _ _ _, ?_⟩
    have hg := grownBy_putObj' W X.heap.size (.deferred none)
    have hXW : Below w.heap.size w W := HI.out.below
    refine ⟨lo, hi, g, cb, C, rfl, HI.out.pg.chg (S := fun k => k = X.heap.size) ⟨hg.os, hg.tape, hg.output, hg.size, fun k hk hn => hg.block k hk fun e => by injection e with e; exact hn e⟩ (fun j h3 h4 e => by omega), by omega, by have := HI.out.size; have := hg.size; omega, hXW.grown hg hXW.size fun k e => by cases e; omega⟩
theorem lay_any (A : Option Addr) (c : Nat) (M : List Gl) (R n : Nat) (top : Int) (w : World) (hLi : Li 2 encG w (fun _ => True) A M) (hM : Thin M) (hlen : M.length ≤ 1000) (hcl : M.length ≤ c) (r1 : 1 ≤ R) (r2 : R ≤ 500) (n1 : 2 ≤ n) (n2 : n ≤ 1000) (t1 : -1000 ≤ top) (t2 : top ≤ 1000) :
    Calls Try.prog 12 #[.slice A M.length c, .int .i64 R, .int .i64 n, .int .i64 top] w fun e w' => ∃ lo hi g cb C, e = .returned (ptr g) ∧ PG w' lo hi g cb C R n (layF R n n top M (List.range (M.length + 1))) ∧ w.heap.size ≤ lo ∧ hi ≤ w'.heap.size ∧ Below w.heap.size w w' :=
  (callsIn_wide (n := 5)).1 (lay_in A c M R n top w hLi hM hlen hcl r1 r2 n1 n2 t1 t2)
end Go.Proofs.Ytmckoabhgjfiiaa
