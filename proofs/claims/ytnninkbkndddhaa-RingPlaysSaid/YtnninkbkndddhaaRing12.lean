/- ring: the document's Turn and Join. -/
import Derived.Test.YtnninkbkndddhaaRing11
namespace Go.Proofs.Ytnninkbkndddhaa
open Go.RowKit
set_option linter.unusedVariables false
set_option linter.unusedSimpArgs false

set_option maxHeartbeats 1000000 in
theorem rturn_any (u : Value) (k : Nat) (L : List (List Int)) (S : Nat → Prop) (w : World) (hL : TxtsS w S u L) (hf : Fine (L, k) 1000000) : Calls Try.prog 22 #[.agg #[u, .int .i64 k]] w (TellsR L (if L = [] then k else (k + 1) % L.length) S w) := by
  obtain ⟨A, c, rfl, hc, hc2⟩ := hL.is
  have HL := Lib.hid hL
  clear hL
  have hn : L.length ≤ 60 := hf.few
  by_cases hge : L.length ≤ k + 1
  · have hk' : (if L = [] then k else (k + 1) % L.length) = 0 := by
      by_cases h : L = []
      · rw [if_pos h]; exact hf.zero h
      · rw [if_neg h]
        have : k < L.length := hf.top h
        rw [show k + 1 = L.length by omega]
        exact Nat.mod_self _
    have hkb : (k : Int) ≤ 60 := by
      by_cases h : L = []
      · have : k = 0 := hf.zero h; omega
      · have : k < L.length := hf.top h; omega
    rw [hk']
    have hd : decide ((L.length : Int) ≤ (k : Int) + 1) = true := by simp; omega
    clear hk'
    go_enter Try.func22, Try.ntmps22
    go_wp2
    refine at_world (Stored w S (w.heap.size + 1) (.slice A L.length c) (.int .i64 0) L) ?_ ?_
    · exact stored_new _ _ _ _ _ _ _ HL.out
    rintro X ⟨x0, x1, hts, hX⟩
    refine bodyPost_ret (v := .agg #[.slice A L.length c, .int .i64 0]) (by simp [results, Try.results22, go_sem, x0, x1]) rfl ⟨_, _, _, rfl, hts, hX⟩
  · have hne : ¬ L = [] := fun h => by simp [h] at hge
    have hk' : (if L = [] then k else (k + 1) % L.length) = k + 1 := by
      rw [if_neg hne]; exact Nat.mod_eq_of_lt (by omega)
    rw [hk']
    have hd : decide ((L.length : Int) ≤ (k : Int) + 1) = false := by simp; omega
    clear hk' hne
    go_enter Try.func22, Try.ntmps22
    go_wp2
    refine at_world (Stored w S (w.heap.size + 1) (.slice A L.length c) (.int .i64 ((k : Int) + 1)) L) ?_ ?_
    · exact stored_new _ _ _ _ _ _ _ HL.out
    rintro X ⟨x0, x1, hts, hX⟩
    refine bodyPost_ret (v := .agg #[.slice A L.length c, .int .i64 ((k : Int) + 1)]) (by simp [results, Try.results22, go_sem, x0, x1]) rfl ⟨_, _, _, rfl, hts, hX⟩

/-! ### Join -/
set_option maxHeartbeats 1000000 in
theorem rjoin_none (u v : Value) (l : List Int) (k : Int) (ahead : Bool) (S : Nat → Prop) (w : World) (hL : TxtsS w S u []) (hl : TxtS w S v l) :
    Calls Try.prog 21 #[.agg #[u, .int .i64 k], v, .bool ahead] w (TellsR [l] 0 S w) := by
  have HV := Lib.hid (And.intro hL.old hl.old)
  obtain ⟨A, c, rfl, hc, hc2⟩ := hL.is
  clear hL hl
  go_enter Try.func21, Try.ntmps21
  go_wp2_with fail
  refine (radd_any _ v [] l k _ _ (HV.out.1.later (below_two w _ _)) (by simp) (HV.out.2.later (below_two w _ _))).mono ?_
  rintro e w1 ⟨A1, n1, c1, rfl, ht1, hb1⟩
  obtain ⟨⟨z0, z1⟩, B0, B1, hbw⟩ := two_later hb1
  have ht2 : TxtsS w1 (Out2 w S) (.slice A1 n1 c1) [l] := ht1.mono fun b hb => by
    rcases hb with hb | hb
    · exact .inr (by simpa [World.size_alloc] using hb)
    · exact .inl hb
  have H := Lib.hid (And.intro ht2 hbw)
  have HB := Lib.hid B1
  obtain ⟨_, k1, j1⟩ := (show _ from B1)
  clear ht1 hb1 B0 B1 hbw ht2
  go_wp2
  refine at_world (Stored w S (w.heap.size + 1) (.slice A1 n1 c1) (.int .i64 0) [l]) ?_ ?_
  · exact stored_of HB.out H.out.2 H.out.1
  rintro X ⟨x0, x1, hts, hX⟩
  refine bodyPost_ret (v := .agg #[.slice A1 n1 c1, .int .i64 0]) (by simp [results, Try.results21, go_sem, x0, x1]) rfl ⟨_, _, _, rfl, hts, hX⟩

theorem txt_rd {w : World} {S : Nat → Prop} {A : Option Addr} {n c : Nat} {l : List Int} (h : TxtS w S (.slice A n c) l) : Rd w A n (liR l) ∧ (A = none → n = 0 ∧ c = 0) ∧ n = l.length := by
  obtain ⟨e, h1, h2, _⟩ := Sl.parts h
  rw [e]
  exact ⟨h1, h2, rfl⟩

/-- What holds when two texts have been put one behind the other. -/
structure RJ (w : World) (bx : Array Value) (Ax : Option Addr) (nx cx : Nat) (m : List Int) (X : World) : Prop where
  own : X.ownsRow (w.heap.size + 2) 21 1 (.slice Ax nx cx) nx (m.map (Value.int .i32))
  len : nx = m.length
  box : Blk X w.heap.size bx
  res : Blk X (w.heap.size + 1) #[.slice none 0 0, .int .i64 0]
  below : Below w.heap.size w X

theorem rj_start (w : World) (bx : Array Value) (t : TypeId) : RJ w bx none 0 0 [] ((w.alloc (.cells bx t)).alloc (.cells #[.slice none 0 0, .int .i64 0] t)) := by
  have h2 := blk_new (w.alloc (.cells bx t)) #[.slice none 0 0, .int .i64 0] t
  rw [World.size_alloc] at h2
  exact ⟨World.ownsRow_nil _ _ _ _, rfl, (blk_new w bx t).alloc _, h2, below_two w _ _⟩

theorem RJ.cat {w X Y : World} {bx : Array Value} {Ax A : Option Addr} {nx cx n c : Nat} {m l : List Int} (R : RJ w bx Ax nx cx m X) (hl : n = l.length) (hp : Pushed X Y (w.heap.size + 2) 21 1 (.slice Ax nx cx) (nx + n) (m.map (Value.int .i32) ++ (List.range n).map (liR l)) A c) : RJ w bx A (nx + n) c (m ++ l) Y := by
  subst hl
  have ho := hp.own
  rw [liR_map, ← List.map_append] at ho
  have hlt (k : Nat) (hk : (Value.slice Ax nx cx).ownBlock = some k) : w.heap.size + 2 ≤ k := (R.own.lt k hk).1
  exact ⟨ho, by rw [R.len, List.length_append], R.box.grown hp.grown (fun e => by have := hlt _ e.symm; omega), R.res.grown hp.grown (fun e => by have := hlt _ e.symm; omega), hp.below R.below R.own (by omega)⟩

theorem out_start (X : World) (a b : Value) (s t : TypeId) : Blk ((X.alloc (.cells #[a] s)).alloc (.cells #[.slice (some ⟨X.heap.size, 0, none⟩) 1 1, b] t)) (X.heap.size + 1) #[.slice (some ⟨X.heap.size, 0, none⟩) 1 1, b] := by
  have h2 := blk_new (X.alloc (.cells #[a] s)) #[.slice (some ⟨X.heap.size, 0, none⟩) 1 1, b] t
  rw [World.size_alloc] at h2
  exact h2

/-- What is known when the rest has been put behind it. -/
theorem rj_end {w X Y : World} {bx : Array Value} {Ax A3 : Option Addr} {nx cx c3 n : Nat} {m : List Int} {T : List (List Int)} {S : Nat → Prop} {f : Nat → Value} {s t : TypeId} (R : RJ w bx Ax nx cx m X) (hn : n = T.length)
    (hT : ∀ j, j < T.length → TxtS w S (f j) (T.getD j []))
    (hp : Pushed ((X.alloc (.cells #[.slice Ax nx cx] s)).alloc (.cells #[.slice (some ⟨X.heap.size, 0, none⟩) 1 1, .int .i64 0] t)).drew Y X.heap.size 26 1 (.slice (some ⟨X.heap.size, 0, none⟩) 1 1) (1 + n) ([.slice Ax nx cx] ++ (List.range n).map f) A3 c3) :
    TxtsS (Y.setCell ⟨X.heap.size + 1, 0, none⟩ (.slice A3 (1 + n) c3)) (Out2 w S) (.slice A3 (1 + n) c3) (m :: T) ∧ Blk (Y.setCell ⟨X.heap.size + 1, 0, none⟩ (.slice A3 (1 + n) c3)) (X.heap.size + 1) #[.slice A3 (1 + n) c3, .int .i64 0] ∧
      Blk (Y.setCell ⟨X.heap.size + 1, 0, none⟩ (.slice A3 (1 + n) c3)) (w.heap.size + 1) #[.slice none 0 0, .int .i64 0] ∧ Below w.heap.size w (Y.setCell ⟨X.heap.size + 1, 0, none⟩ (.slice A3 (1 + n) c3)) := by
  subst hn
  have hzX := R.res.1
  have hbX : Below X.heap.size X ((X.alloc (.cells #[.slice Ax nx cx] s)).alloc (.cells #[.slice (some ⟨X.heap.size, 0, none⟩) 1 1, .int .i64 0] t)).drew := (below_two X _ _).drew
  have hrow : (Value.slice (some ⟨X.heap.size, 0, none⟩) 1 1).ownBlock = some X.heap.size := rfl
  have hbY : Below X.heap.size X Y := hbX.grown hp.grown hbX.size (fun k hk => by rw [hrow] at hk; injection hk with e; omega)
  have hO := ((out_start X (.slice Ax nx cx) (.int .i64 0) s t).drew.grown hp.grown (by rw [hrow]; intro e; injection e with e; omega)).set_ 0 (by simp) (.slice A3 (1 + T.length) c3)
  have hR := ((R.res.later hbY R.res.1).far (p := ⟨X.heap.size + 1, 0, none⟩) (by show X.heap.size + 1 ≠ w.heap.size + 1; omega) (.slice A3 (1 + T.length) c3))
  have hB := (R.below.trans (hbY.mono R.below.size)).setCell (p := ⟨X.heap.size + 1, 0, none⟩) (by show w.heap.size ≤ X.heap.size + 1; omega) (.slice A3 (1 + T.length) c3)
  refine ⟨?_, hO, hR, hB⟩
  have hA3 : ∀ k, (Value.slice A3 (1 + T.length) c3).ownBlock = some k → k = X.heap.size ∨ X.heap.size + 2 ≤ k := by
    intro k hk
    rcases hp.at_ with h | ⟨q, h, hq⟩
    · rw [h, hrow] at hk; injection hk with e; exact .inl e.symm
    · rw [h] at hk; injection hk with e; subst e
      have : X.heap.size + 1 + 1 ≤ q := by simpa [World.size_alloc] using hq
      exact .inr (by omega)
  have ho := own_setCell hp.own (X.heap.size + 1) 0 (.slice A3 (1 + T.length) c3) (fun e => by rcases hA3 _ e with h | h <;> omega)
  refine txts_own (by simp; omega) ho (fun b hb => .inr (by omega)) fun j hj => ?_
  have hfar {x : Value} {q : List Int} {U : Nat → Prop} (h : TxtS Y U x q) (hU : ∀ b, U b → Out2 w S b ∧ b ≠ X.heap.size + 1) : TxtS (Y.setCell ⟨X.heap.size + 1, 0, none⟩ (.slice A3 (1 + T.length) c3)) (Out2 w S) x q :=
    Sl.mono (Sl.far (S := U) h (p := ⟨X.heap.size + 1, 0, none⟩) (fun e => (hU _ e).2 rfl) _) fun b hb => (hU b hb).1
  cases j with
  | zero =>
    refine ⟨_, rfl, ?_⟩
    have hx : TxtS X (fun b => w.heap.size + 2 ≤ b) (.slice Ax nx cx) m := by
      have := txt_own (l := m) R.len.symm R.own
      exact this
    exact hfar (TxtS.later hx.old hbY) fun b hb => ⟨.inr hb.2, by omega⟩
  | succ j =>
    have hjT : j < T.length := by omega
    refine ⟨f j, by rw [show [Value.slice Ax nx cx] ++ (List.range T.length).map f = Value.slice Ax nx cx :: (List.range T.length).map f from rfl, List.getElem?_cons_succ, List.getElem?_map, List.getElem?_range hjT]; rfl, ?_⟩
    have hb0 : Below w.heap.size w Y := R.below.trans (hbY.mono R.below.size)
    exact hfar (TxtS.later (hT j hjT).old hb0) fun b hb => ⟨.inl hb, by have := R.below.size; omega⟩

end Go.Proofs.Ytnninkbkndddhaa
