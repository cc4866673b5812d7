/- wrap: Place. -/
import Derived.Test.YtmckoabhgjfiiaaWrB
import Derived.Test.YtmckoabhgjfiiaaTel
namespace Go.Proofs.Ytmckoabhgjfiiaa
open Go.RowKit
set_option linter.unusedVariables false
set_option linter.unusedSimpArgs false
attribute [local go_sem] Oper.semAt_some

/-- 'append' in a region that draws its order: one element more. -/
theorem opIn_push {F : Fence} {m : Nat} {P : Program} {w0 : World} {cs : Array Value} {e' : TypeId} {o : Oper} {a : Act} {K : Act → World → Prop} {Q : Exit → Act → World → Prop} {size bytes base n k : Nat} {t e : TypeId} {v : Value} {xs : List Value} {s x : Operand}
    (E : Elt P t e size bytes) (hown : w0.ownsRow base e size v n xs) (hbase : base ≤ w0.heap.size) (ho : o.op = .call { callee := .builtin .append, args := #[s, x], argTypes := #[t, t] })
    (hs : a.eval s = v) (hx : a.eval x = .slice (some ⟨k, 0, none⟩) 1 1) (hk : k = w0.heap.size) (hcs : cs.size = size) (h1 : cs.toList.all Value.oneCell' = true) (h63 : n + 1 ≤ maxLen) (hbytes : (n + 1) * bytes ≤ 140737488355328)
    (h : ∀ A c w', Pushed w0 w' base e size v (n + 1) (xs ++ cs.toList) A c → K (a.put o.dst (.slice A (n + 1) c)) w') : Oper.wpIn F m P o a (w0.alloc (.cells cs e')) K Q := by
  obtain ⟨ht, i, z, hi, hz, hsize, hby, hzs, hsz⟩ := E
  subst hk
  obtain ⟨v', w', hrun, hown', hg, _, hat⟩ := run_append_own_at (P := P) (w0.alloc (.cells cs e')) base t o.type e i z size bytes ht hi hz hsize hby hzs hsz v n xs (hown.alloc _) ⟨w0.heap.size, 0, none⟩ 1 1 cs.toList (by simp [hcs])
    (by intro j u hj; rw [Addr.add_lit, Nat.zero_add, World.cell?_alloc_new, ← hj]; simp) (fun u hu => List.all_eq_true.1 h1 u hu) h63 hbytes (by rw [World.size_alloc]; omega)
  obtain ⟨A, c, rfl⟩ := own_slice hown'
  have hP : Pushed w0 w' base e size v (n + 1) (xs ++ cs.toList) A c := by
    refine ⟨hown', (World.grownBy_alloc w0 _ _).trans hg, ?_⟩
    rcases hat with e1 | e1
    · exact .inl e1
    · exact .inr ⟨_, e1, by rw [World.size_alloc]; omega⟩
  unfold Oper.wpIn
  refine ⟨?_, ?_⟩
  · simp [Oper.about, ho, resolve, Target.leads, Sem.run_pure]
  · rw [Oper.semAt_plain F _ _ (by rw [ho]; intro c hc'; cases hc')]
    simp [execOp, ho, resolve, invoke, builtin, hs, hx, hrun, Result.andThen]
    exact h A c w' hP

theorem listIn_push {F : Fence} {m : Nat} {P : Program} {w0 : World} {cs : Array Value} {e' : TypeId} {ops : Array Oper} {rest : List Oper} {o : Oper} {a : Act} {Q : Exit → Act → World → Prop} {size bytes base n k : Nat} {t e : TypeId} {v : Value} {xs : List Value} {s x : Operand}
    (E : Elt P t e size bytes) (hown : w0.ownsRow base e size v n xs) (hbase : base ≤ w0.heap.size) (hgd : o.guard = none) (ho : o.op = .call { callee := .builtin .append, args := #[s, x], argTypes := #[t, t] })
    (hs : a.eval s = v) (hx : a.eval x = .slice (some ⟨k, 0, none⟩) 1 1) (hk : k = w0.heap.size) (hcs : cs.size = size) (h1 : cs.toList.all Value.oneCell' = true) (h63 : n + 1 ≤ maxLen) (hbytes : (n + 1) * bytes ≤ 140737488355328)
    (h : ∀ A c w', Pushed w0 w' base e size v (n + 1) (xs ++ cs.toList) A c → wpListIn F m P ops Q rest (a.put o.dst (.slice A (n + 1) c)) w') : wpListIn F m P ops Q (o :: rest) a (w0.alloc (.cells cs e')) := wpListIn_plain hgd fun K hK => opIn_push E hown hbase ho hs hx hk hcs h1 h63 hbytes fun A c w' hp => hK _ _ (h A c w' hp)

def placeP (cols : Int) (L : List Gl) : List Sp := if cols < 2 then [] else spots cols L

/-- What Place's loop has gathered. -/
structure PlI (w : World) (ob : Nat) (cols : Int) (L : List Gl) (pre : List Nat) (O : Nat → Prop) (W : World) : Prop where
  box : ∃ A c, Boxed W ob 26 (.slice A pre.length c) ∧ W.ownsRow w.heap.size 31 2 (.slice A pre.length c) pre.length (flatL encP (pre.map (spAt cols L))) ∧ ∀ g, (Value.slice A pre.length c).ownBlock = some g → O g
  ob : O ob
  off : ∀ k, O k → w.heap.size ≤ k
  below : Below w.heap.size w W
theorem PlI.bears {w : World} {ob : Nat} {cols : Int} {L : List Gl} {b : Nat} (hb : w.heap.size ≤ b) : BearsO (PlI w ob cols L) b := by
  rintro pre O A B row ⟨⟨v, c, h1, h2, h3⟩, h4, h5, h6⟩ hg hr
  refine ⟨⟨v, c, h1.kept hg (fun e => (hr _ e.symm).2 h4), h2.kept hg ?_, h3⟩, h4, h5, h6.grown hg h6.size (fun k e => Nat.le_trans hb (hr k e).1)⟩
  cases e : (Value.slice v pre.length c).ownBlock with
  | none => exact .inl rfl
  | some g => exact .inr fun e' => (hr g e'.symm).2 (h3 g e)

/-- .. with the loop's variable laid. -/
def PlM (w : World) (ob : Nat) (cols : Int) (L : List Gl) (N : Nat) (act : Nat → Nat → Act) (x : List Nat × Nat × Act) (O : Nat → Prop) (W : World) : Prop :=
  PlI w ob cols L x.1 O W ∧ x.1.length < N ∧ ∃ b, x.2.2 = act x.2.1 b ∧ Blk W b (encP (spAt cols L x.2.1)).toArray ∧ O b
theorem PlM.bears {w : World} {ob : Nat} {cols : Int} {L : List Gl} {N : Nat} {act : Nat → Nat → Act} {b : Nat} (hb : w.heap.size ≤ b) : BearsO (PlM w ob cols L N act) b := by
  rintro ⟨pre, x, a'⟩ O A B row ⟨h, hn, c, h1, h2, h3⟩ hg hr
  exact ⟨PlI.bears hb _ _ _ _ _ h hg hr, hn, c, h1, h2.same (hg.block c h2.1 fun e => (hr _ e.symm).2 h3) hg.size, h3⟩

/-- A round's end. -/
theorem PlI.push {w W W' : World} {ob : Nat} {cols : Int} {L : List Gl} {pre : List Nat} {O : Nat → Prop} {x : Nat} {A A' : Option Addr} {c c' : Nat} (h1 : Boxed W ob 26 (.slice A pre.length c)) (h2 : W.ownsRow w.heap.size 31 2 (.slice A pre.length c) pre.length (flatL encP (pre.map (spAt cols L))))
    (h3 : ∀ g, (Value.slice A pre.length c).ownBlock = some g → O g) (h4 : O ob) (h5 : ∀ k, O k → w.heap.size ≤ k) (h6 : Below w.heap.size w W) (hl : ∀ k, O k → k < W.heap.size)
    (hp : Pushed W W' w.heap.size 31 2 (.slice A pre.length c) (pre.length + 1) (flatL encP (pre.map (spAt cols L)) ++ encP (spAt cols L x)) A' c') :
    ∃ O', KeepO O O' W (W'.setCell ⟨ob, 0, none⟩ (.slice A' (pre.length + 1) c')) ∧ PlI w ob cols L (pre ++ [x]) O' (W'.setCell ⟨ob, 0, none⟩ (.slice A' (pre.length + 1) c')) := by
  have hte : 26 ≠ 31 := by decide
  have hn := h1.not_row hte h2
  have hs := hp.grown.size
  have hb1 := h1.kept hp.grown hn
  have hob := hb1.not_row hte hp.own
  have hat : ∀ g, (Value.slice A' (pre.length + 1) c').ownBlock = some g → O g ∨ W.heap.size ≤ g := fun g e => by
    rcases hp.at_ with h | ⟨k, h, hk⟩
    · exact .inl (h3 g (h ▸ e))
    · rw [h] at e; injection e with e; subst e; exact .inr hk
  refine ⟨fun k => O k ∨ (Value.slice A' (pre.length + 1) c').ownBlock = some k, ⟨by rw [World.size_setCell]; exact hs, fun k hk ho => ?_, fun k hk => ?_, fun k hk => ?_⟩, ⟨⟨A', c', ?_, ?_, fun g e => .inr (by simpa using e)⟩, .inl h4, fun k hk => ?_, ?_⟩⟩
  · rw [Below.heap_setCell _ _ _ _ (by show k ≠ ob; exact fun e => ho (e ▸ h4))]
    exact hp.grown.block k hk fun e => ho (h3 k e.symm)
  · rcases hk with h | h
    · exact .inl h
    · exact hat k h
  · rw [World.size_setCell]
    rcases hk with h | h
    · exact Nat.lt_of_lt_of_le (hl k h) hs
    · exact (hp.own.lt k h).2
  · have := hb1.set (.slice A' (pre.length + 1) c')
    simpa using this
  · have := hp.own.kept (grow_set W' ob 0 (.slice A' (pre.length + 1) c')) (.inr hob.symm)
    rw [List.map_append, flatL_append]
    simpa [flatL] using this
  · rcases hk with h | h
    · exact h5 k h
    · exact (hp.own.lt k h).1
  · exact (h6.grown hp.grown h6.size fun k e => h5 k (h3 k e)).setCell (p := ⟨ob, 0, none⟩) (h5 _ h4) _

set_option maxRecDepth 100000 in
set_option maxHeartbeats 4000000 in
theorem place_in (A : Option Addr) (c : Nat) (L : List Gl) (cols : Int) (w : World) (hLi : Li 2 encG w (fun _ => True) A L) (hL : Thin L) (hlen : L.length ≤ 1000) (hcl : L.length ≤ c) (h63 : cols ≤ 9223372036854775807) :
    CallsIn Fence.wide 5 Try.prog 8 #[.slice A L.length c, .int .i64 cols] w (TellsO 31 2 encP (placeP cols L) w) := by
  have hro : Fence.wide.round = none := rfl
  have h1 : 1 ≤ 5 := by omega
  have HL := Lib.hid hLi
  clear hLi
  refine callsIn_of_wp_marks Try.func8 rfl trivial ?_ hro
  simp only [Try.ntmps8, List.size_toArray, List.length_cons, List.length_nil, Nat.reduceAdd, Nat.reduceSub, Array.replicate_succ, Array.replicate_zero, List.push_toArray, List.append_toArray, List.nil_append, List.cons_append]
  by_cases h2 : cols < 2
  · have d1 : decide (cols < 2) = true := decide_eq_true h2
    have hp : placeP cols L = [] := if_pos h2
    have HT := Lib.hid (show TellsO 31 2 encP (placeP cols L) w (.returned (.slice none 0 0)) w from ⟨_, _, _, rfl, by rw [hp]; exact World.ownsRow_nil _ _ _ _, Below.refl _ _⟩)
    clear hp
    gi_wp2
    refine ⟨_, results_tmp rfl _ _ _, ?_⟩
    exact HT.out
  · have d1 : decide (cols < 2) = false := decide_eq_false h2
    have hp : placeP cols L = spots cols L := if_neg h2
    obtain ⟨ht, i, z, hi, hz, hsize, hby, hzs, hsz⟩ := spot_elt
    have v1 : IntKind.i64.wrap ((L.length : Int) + 1) = (L.length : Int) + 1 := IntWalk.i64_in _ (by omega)
    gi_wp2_with (first
      | (gi_at_make; refine wpListIn_make_own _ rfl _ _ _ rfl w.heap.size _ i z 2 ht hi hz hsize .i64 .i64 ((L.length : Int) + 1) (L.length + 1) rfl rfl (by omega) (by rw [hby]; omega) (by unfold maxLen; omega) (Nat.le_refl _) ?_; intro w1 hown1 hg1)
      | (refine ⟨trivial, ?_⟩; gi_at_call 16; refine (spots_in Fence.wide (5 - 1) trivial hro _ _ _ _ _).mono ?_; rintro e w' ⟨rfl, rfl⟩))
    obtain ⟨X, hX⟩ : ∃ X, (((w1.alloc (.cells #[.slice (some ⟨w.heap.size, 0, none⟩) 0 (L.length + 1)] 26)).alloc (.cells #[.slice A L.length c] 23)).alloc (.cells #[.int .i64 cols] 3)) = X := ⟨_, rfl⟩
    have hl1 := hown1.lt w.heap.size rfl
    have hsz : X.heap.size = w1.heap.size + 1 + 1 + 1 := by rw [← hX]; simp
    have hbX : w.grownBy X none := by rw [← hX]; exact ((hg1.trans (World.grownBy_alloc _ _ _)).trans (World.grownBy_alloc _ _ _)).trans (World.grownBy_alloc _ _ _)
    have hBX : Below w.heap.size w X := (Below.refl _ w).grown hbX (Nat.le_refl _) (fun k e => by cases e)
    have bO : Boxed X w1.heap.size 26 (.slice (some ⟨w.heap.size, 0, none⟩) 0 (L.length + 1)) := by
      rw [← hX]
      exact ((Boxed.new w1 26 _).alloc _).alloc _
    have bL : X.cell? ⟨w1.heap.size + 1, 0, none⟩ = some (.slice A L.length c) := by
      have h := Boxed.new (w1.alloc (.cells #[.slice (some ⟨w.heap.size, 0, none⟩) 0 (L.length + 1)] 26)) 23 (.slice A L.length c)
      rw [World.size_alloc] at h
      rw [← hX]
      exact (h.alloc _).cell
    have bC : X.cell? ⟨w1.heap.size + 1 + 1, 0, none⟩ = some (.int .i64 cols) := by
      have h := Boxed.new ((w1.alloc (.cells #[.slice (some ⟨w.heap.size, 0, none⟩) 0 (L.length + 1)] 26)).alloc (.cells #[.slice A L.length c] 23)) 3 (.int .i64 cols)
      rw [World.size_alloc, World.size_alloc] at h
      rw [← hX]
      exact h.cell
    have hw0 : X.ownsRow w.heap.size 31 2 (.slice (some ⟨w.heap.size, 0, none⟩) 0 (L.length + 1)) 0 [] := by
      rw [← hX]
      exact ((hown1.alloc _).alloc _).alloc _
    rw [hX]
    clear hX
    have hbz : ∀ b o, A = some ⟨b, o, none⟩ → 0 < L.length → b < w.heap.size := fun b o e h => by
      obtain ⟨g, b', o', _, e', hb', _⟩ := HL.out.glyph h
      rw [e] at e'
      injection e' with e'
      injection e' with e1 e2
      omega
    refine wpIn_rangeBox hro h1 (gf := 23) (lb := #[.pointer (some ⟨w1.heap.size + 1, 0, none⟩), .pointer (some ⟨w1.heap.size + 1 + 1, 0, none⟩)]) rfl trivial (enters_of Try.func23 (by kernel_rfl) rfl)
      (spots_seq Fence.wide (5 - 1) trivial hro (by omega) (w1.heap.size + 1) (w1.heap.size + 1 + 1) (fun k => k = w1.heap.size + 1 ∨ k = w1.heap.size + 1 + 1 ∨ ∃ b o, A = some ⟨b, o, none⟩ ∧ 0 < L.length ∧ k = b) A c L cols hL hlen hcl (by omega) h63 X
        ⟨.inl rfl, .inr (.inl rfl), fun b o e h => .inr (.inr ⟨b, o, e, h, rfl⟩), ?klt, bL, bC, HL.out.later hBX⟩ ?klt2) (fun _ => rfl)
      (fun k => k = w1.heap.size ∨ k = w.heap.size) ?hO (PlI w w1.heap.size cols L) (PlM w w1.heap.size cols L (L.length + 1) fun x b => { tmps := #[.slice A L.length c, .int .i64 cols, undef, undef, .slice none 0 0, .pointer (some ⟨w1.heap.size, 0, none⟩), undef, .pointer (some ⟨b, 0, none⟩), .int .i64 cols, .bool false, .slice A L.length c, .int .i64 (L.length : Int), .int .i64 ((L.length : Int) + 1), .slice (some ⟨w.heap.size, 0, none⟩) 0 (L.length + 1), .slice A L.length c, .int .i64 cols, .func (.func 23) #[] #[.pointer (some ⟨w1.heap.size + 1, 0, none⟩), .pointer (some ⟨w1.heap.size + 1 + 1, 0, none⟩)], .int .i64 (x : Int), .agg #[.int .i64 (spAt cols L x).r, .int .i64 (spAt cols L x).c], undef, undef, undef, undef, undef], defers := [] })
      (PlI.bears (by omega)) (PlM.bears (by omega)) ?start ?assign ?body ?done
    case klt =>
      rintro k (rfl | rfl | ⟨b, o, e, h, rfl⟩)
      · omega
      · omega
      · have := hbz k o e h; omega
    case klt2 =>
      rintro k (rfl | rfl | ⟨b, o, e, h, rfl⟩)
      · omega
      · omega
      · have := hbz k o e h; omega
    case hO =>
      rintro k (rfl | rfl)
      · refine ⟨by omega, ?_⟩
        rintro (h | h | ⟨b, o, e, h, h'⟩)
        · omega
        · omega
        · have := hbz b o e h; omega
      · refine ⟨by omega, ?_⟩
        rintro (h | h | ⟨b, o, e, h, h'⟩)
        · omega
        · omega
        · have := hbz b o e h; omega
    case start => exact ⟨⟨_, _, bO, hw0, fun g e => .inr (by simp [Value.ownBlock] at e; exact e.symm)⟩, .inl rfl, by rintro k (rfl | rfl) <;> omega, hBX⟩
    case assign =>
      rintro l pre O x W hI hO hN
      simp only [encN, encP]
      gi_wp2
      refine ⟨World.grownBy_alloc _ _ _, fun k => O k ∨ k = W.heap.size, ?_, ?_, ?_⟩
      · rintro k (h | rfl)
        · exact .inl h
        · exact .inr (Nat.le_refl _)
      · rintro k (h | rfl)
        · have := hO k h; simp; omega
        · simp
      · obtain ⟨⟨v, cc, h1, h2, h3⟩, h4, h5, h6⟩ := hI
        exact ⟨⟨⟨v, cc, h1.alloc _, h2.alloc _, fun g e => .inl (h3 g e)⟩, .inl h4, by rintro k (h | rfl); exact h5 k h; exact h6.size, h6.alloc h6.size _⟩, hN, W.heap.size, rfl, blk_new _ _ _, .inr rfl⟩
    case body =>
      rintro l pre O x a' W ⟨⟨⟨v, cc, h1, h2, h3⟩, h4, h5, h6⟩, hN, b, hact, hblk, hob⟩ hWs hlt
      dsimp only at h1 h2 h3 h4 h5 h6 hN hact
      subst hact
      have HH := Lib.hid (show _ ∧ _ ∧ _ ∧ _ ∧ _ ∧ _ ∧ _ from ⟨h1, h2, h3, h4, h5, h6, hlt⟩)
      have q0 := h1.cell
      have q1 := h1.frozen
      have hlb := h1.lt
      have hlb2 := hblk.1
      obtain ⟨s, hs⟩ : ∃ s, spAt cols L x = s := ⟨_, rfl⟩
      have HSP := Lib.hid hs
      rw [hs] at hblk
      have p0 : W.cell? ⟨b, 0, none⟩ = some (.int .i64 s.r) := hblk.2.1 0
      have p1 : W.cell? ⟨b, 1, none⟩ = some (.int .i64 s.c) := hblk.2.1 1
      rw [hs]
      have hnk := h1.not_row (by decide) h2
      have h6s := h6.size
      clear h1 h3 h4 h5 hlt hblk hs h6 hob
      gi_wp2_with (gi_at_builtin; refine listIn_push spot_elt h2 h6s rfl rfl rfl rfl rfl rfl rfl (by unfold maxLen; omega) (by omega) ?_; intro A3 c3 w3 hp; have hb3 := HH.out.1.kept hp.grown hnk; have r0 := hb3.cell; have r1 := hb3.frozen; have HP := Lib.hid hp; clear hp hb3)
      have := PlI.push HH.out.1 HH.out.2.1 HH.out.2.2.1 HH.out.2.2.2.1 HH.out.2.2.2.2.1 HH.out.2.2.2.2.2.1 HH.out.2.2.2.2.2.2 (x := x) (by rw [HSP.out]; exact HP.out)
      exact this
    case done =>
      rintro xs O W rfl hI hK hn
      obtain ⟨⟨v, cc, h1, h2, h3⟩, h4, h5, h6⟩ := hI
      have q0 := h1.cell
      gi_wp2
      refine ⟨by simp, .inl ⟨_, _, rfl, run_takeDeferred hK, ?_⟩⟩
      refine ⟨_, results_tmp rfl _ _ _, ?_⟩
      refine ⟨v, _, cc, rfl, ?_, h6.grown (grownBy_putObj' W _ _) h6.size (fun k e => by cases e; omega)⟩
      have h := h2.kept (grownBy_putObj' W X.heap.size (.deferred none)) (by
        cases e : (Value.slice v (List.range (L.length + 1)).length cc).ownBlock with
        | none => exact .inl rfl
        | some g => exact .inr fun e' => by injection e' with e'; subst e'; exact hn (h3 _ e))
      rw [hp]
      rw [List.length_range] at h
      exact h
theorem place_any (A : Option Addr) (c : Nat) (L : List Gl) (cols : Int) (w : World) (hLi : Li 2 encG w (fun _ => True) A L) (hL : Thin L) (hlen : L.length ≤ 1000) (hcl : L.length ≤ c) (h63 : cols ≤ 9223372036854775807) :
    Calls Try.prog 8 #[.slice A L.length c, .int .i64 cols] w (TellsO 31 2 encP (placeP cols L) w) :=
  (callsIn_wide (n := 5)).1 (place_in A c L cols w hLi hL hlen hcl h63)
end Go.Proofs.Ytmckoabhgjfiiaa
