/- Plain words on memory: a slice that reads as a function of the place; rows of the call's own. -/
import Derived.Test.YtfnieoffgnnldaaDoorRows
import Derived.WalkKit
import Derived.ProofKit
import Derived.OpenShut
import Derived.WalkSmall
import Derived.WalkSpells
import Derived.WalkLawsBesides
import Derived.BigQuiet
import Derived.Deep.QuietTactic
import Derived.Deep.RegionHeld3
import Derived.Deep.DeepCutAuto
import Derived.Deep.LoopGhost
import Derived.Lib.Hide
import Derived.Laws.OwnMore
import Derived.Maps.AppendAt
import Derived.Laws.AppendOwnNone
import Derived.Outline
namespace Go.Proofs.YtfnieoffgnnldaaDoor
open Go.RowKit
set_option linter.unusedVariables false
set_option linter.unusedSimpArgs false

/-- The slice at A with n places of one cell each holds f 0, f 1, .. -/
def Rd (w : World) (A : Option Addr) (n : Nat) (f : Nat → Value) : Prop :=
  ∀ j, j < n → ∃ b o, A = some ⟨b, o, none⟩ ∧ b < w.heap.size ∧ w.cell? ⟨b, o + j, none⟩ = some (f j)

theorem Rd.empty (w : World) (A : Option Addr) (f : Nat → Value) : Rd w A 0 f := fun _ h => absurd h (by omega)

theorem Rd.later {w w' : World} {A : Option Addr} {n : Nat} {f : Nat → Value} (h : Rd w A n f) (hb : Below w.heap.size w w') : Rd w' A n f := by
  intro j hj
  obtain ⟨b, o, e, hl, hc⟩ := h j hj
  exact ⟨b, o, e, Nat.lt_of_lt_of_le hl hb.size, (hb.cell (p := ⟨b, o + j, none⟩) hl).trans hc⟩

theorem Rd.drewN {w : World} {A : Option Addr} {n : Nat} {f : Nat → Value} (h : Rd w A n f) (k : Nat) : Rd (w.drewN k) A n f := h

theorem Rd.congr {w : World} {A : Option Addr} {n : Nat} {f g : Nat → Value} (h : Rd w A n f) (e : ∀ j, j < n → f j = g j) : Rd w A n g := by
  intro j hj
  rw [← e j hj]
  exact h j hj

theorem Rd.all {w : World} {A : Option Addr} {n : Nat} {f : Nat → Value} (h : Rd w A n f) (hn : 0 < n) : ∃ b o, A = some ⟨b, o, none⟩ ∧ b < w.heap.size ∧ ∀ j, j < n → w.cell? ⟨b, o + j, none⟩ = some (f j) := by
  obtain ⟨b, o, rfl, hl, _⟩ := h 0 hn
  refine ⟨b, o, rfl, hl, fun j hj => ?_⟩
  obtain ⟨b', o', e, _, hc⟩ := h j hj
  injection e with e
  injection e with e1 e2
  subst e1
  subst e2
  exact hc

theorem below_cell {w w1 : World} (hb : Below w.heap.size w w1) : (∀ b o, b < w.heap.size → w1.cell? ⟨b, o, none⟩ = w.cell? ⟨b, o, none⟩) ∧ (∀ b o, b < w.heap.size → w1.frozen? ⟨b, o, none⟩ = w.frozen? ⟨b, o, none⟩) :=
  ⟨fun b o h => hb.cell (p := ⟨b, o, none⟩) h, fun b o h => hb.frozen (p := ⟨b, o, none⟩) h⟩


theorem rd_new (w : World) (cs : Array Value) (t : TypeId) (n : Nat) (f : Nat → Value) (h : ∀ j, j < n → cs[j]? = some (f j)) : Rd (w.alloc (.cells cs t)) (some ⟨w.heap.size, 0, none⟩) n f := by
  intro j hj
  refine ⟨_, _, rfl, by simp [World.size_alloc], ?_⟩
  rw [Nat.zero_add, World.cell?_alloc_new]
  exact h j hj

theorem own_new (w : World) (cs : Array Value) (e : TypeId) (n : Nat) (hn : cs.size = n) (hm : n ≤ maxLen) : (w.alloc (.cells cs e)).ownsRow w.heap.size e 1 (.slice (some ⟨w.heap.size, 0, none⟩) n n) n cs.toList := by
  subst hn
  exact ⟨by simp, .inr ⟨w.heap.size, cs.size, cs, rfl, Nat.le_refl _, heap_alloc_new w _, Nat.le_refl _, hm, by simp, by rw [Nat.mul_one]; exact List.take_of_length_le (by simp)⟩⟩

theorem rd_own {w : World} {base : Nat} {e : TypeId} {A : Option Addr} {c n : Nat} {xs : List Value} {f : Nat → Value} (h : w.ownsRow base e 1 (.slice A n c) n xs) (hf : ∀ j, j < n → xs[j]? = some (f j)) : Rd w A n f := by
  intro j hj
  rcases h.2 with ⟨_, hx⟩ | ⟨g, cap, cur, hv, _⟩
  · omega
  · injection hv with hA _ _
    subst hA
    have hc := h.cells (g := g) rfl j _ (hf j hj)
    rw [Addr.add_lit] at hc
    exact ⟨_, _, rfl, (h.lt g rfl).2, hc⟩

theorem own_slice {w : World} {base : Nat} {e : TypeId} {size n : Nat} {v : Value} {xs : List Value} (h : w.ownsRow base e size v n xs) : ∃ A c, v = .slice A n c := by
  rcases h.2 with ⟨rfl, hx⟩ | ⟨g, cap, cur, rfl, _⟩
  · subst hx
    exact ⟨none, 0, rfl⟩
  · exact ⟨_, _, rfl⟩

/-! ### append of one element to a row of the call's own -/
/-- Type t is a slice of e; an e has 'size' cells and 'bytes' bytes. -/
def Elt (P : Program) (t e : TypeId) (size bytes : Nat) : Prop :=
  P.underlying t = some (.slice e) ∧ ∃ i z, P.info? e = some i ∧ i.zero = some z ∧ i.size = size ∧ i.bytes = bytes ∧ z.cells.size = size ∧ 0 < size

theorem elt_of {P : Program} {t e : TypeId} {size bytes : Nat} {z : Value} (h : P.underlying t = some (.slice e)) (hi : (P.info? e).map (fun i => (i.zero, i.size, i.bytes)) = some (some z, size, bytes)) (hz : z.cells.size = size) (hs : 0 < size) : Elt P t e size bytes := by
  obtain ⟨i, h1, h2, h3, h4⟩ := info_parts hi
  exact ⟨h, i, z, h1, h2, h3, h4, hz, hs⟩

/-- What is known behind 'v = append(v, x)': the row has x behind it; what was there but that row is as it was. -/
structure Pushed (w0 w' : World) (base : Nat) (e : TypeId) (size : Nat) (v : Value) (n : Nat) (xs : List Value) (A : Option Addr) (c : Nat) : Prop where
  own : w'.ownsRow base e size (.slice A n c) n xs
  grown : w0.grownBy w' v.ownBlock
  at_ : (Value.slice A n c).ownBlock = v.ownBlock ∨ ∃ k, (Value.slice A n c).ownBlock = some k ∧ w0.heap.size ≤ k

theorem wpList_push {P : Program} {w0 : World} {cs : Array Value} {e' : TypeId} {ops : Array Oper} {rest : List Oper} {o : Oper} {a : Act} {Q : Exit → Act → World → Prop} {size bytes base n k : Nat} {t e : TypeId} {v : Value} {xs : List Value} {s x : Operand}
    (E : Elt P t e size bytes) (hown : w0.ownsRow base e size v n xs) (hbase : base ≤ w0.heap.size) (hgd : o.guard = none) (ho : o.op = .call { callee := .builtin .append, args := #[s, x], argTypes := #[t, t] })
    (hs : a.eval s = v) (hx : a.eval x = .slice (some ⟨k, 0, none⟩) 1 1) (hk : k = w0.heap.size) (hcs : cs.size = size) (h1 : cs.toList.all Value.oneCell' = true) (h63 : n + 1 ≤ maxLen) (hbytes : (n + 1) * bytes ≤ 140737488355328)
    (h : ∀ A c w', Pushed w0 w' base e size v (n + 1) (xs ++ cs.toList) A c → wpList P ops Q rest (a.put o.dst (.slice A (n + 1) c)) w') : wpList P ops Q (o :: rest) a (w0.alloc (.cells cs e')) := by
  obtain ⟨ht, i, z, hi, hz, hsize, hby, hzs, hsz⟩ := E
  subst hk
  refine wpList_append_own_at (w0.alloc (.cells cs e')) hgd s x t ho base e i z size bytes ht hi hz hsize hby hzs hsz v n xs hs (hown.alloc _) ⟨w0.heap.size, 0, none⟩ 1 1 cs.toList hx (by simp [hcs]) ?_ ?_ h63 hbytes (by rw [World.size_alloc]; omega) ?_
  · intro j u hj
    rw [Addr.add_lit, Nat.zero_add, World.cell?_alloc_new, ← hj]
    simp
  · intro u hu
    exact List.all_eq_true.1 h1 u hu
  · intro v' w' hown' hg _ hat
    obtain ⟨A, c, rfl⟩ := own_slice hown'
    refine h A c w' ⟨hown', (World.grownBy_alloc w0 _ _).trans hg, ?_⟩
    rcases hat with e1 | e1
    · exact .inl e1
    · exact .inr ⟨_, e1, by rw [World.size_alloc]; omega⟩

theorem Pushed.below {W w0 w' : World} {base : Nat} {e : TypeId} {size : Nat} {v : Value} {n m : Nat} {xs ys : List Value} {A : Option Addr} {c : Nat} (h : Pushed w0 w' base e size v n xs A c)
    (hb : Below W.heap.size W w0) (hown : w0.ownsRow base e size v m ys) (hB : W.heap.size ≤ base) : Below W.heap.size W w' :=
  hb.grown h.grown hb.size fun k hk => Nat.le_trans hB (hown.lt k hk).1

/-- 'v = append(v, x...)': x is any slice whose places are known, nil let in. -/
theorem wpList_cat {P : Program} {w : World} {ops : Array Oper} {rest : List Oper} {o : Oper} {a : Act} {Q : Exit → Act → World → Prop} {bytes base n m c : Nat} {t e : TypeId} {v : Value} {xs : List Value} {s x : Operand} {A : Option Addr} {f : Nat → Value}
    (E : Elt P t e 1 bytes) (hown : w.ownsRow base e 1 v n xs) (hbase : base ≤ w.heap.size) (hgd : o.guard = none) (ho : o.op = .call { callee := .builtin .append, args := #[s, x], argTypes := #[t, t] })
    (hs : a.eval s = v) (hx : a.eval x = .slice A m c) (hr : Rd w A m f) (hA : A = none → m = 0 ∧ c = 0) (h1 : ∀ j, j < m → (f j).oneCell' = true) (h63 : n + m ≤ maxLen) (hbytes : (n + m) * bytes ≤ 140737488355328)
    (h : ∀ A' c' w', Pushed w w' base e 1 v (n + m) (xs ++ (List.range m).map f) A' c' → wpList P ops Q rest (a.put o.dst (.slice A' (n + m) c')) w') : wpList P ops Q (o :: rest) a w := by
  obtain ⟨ht, i, z, hi, hz, hsize, hby, hzs, hsz⟩ := E
  rcases A with _ | ad
  · obtain ⟨rfl, rfl⟩ := hA rfl
    refine wpList_append_own_none hgd s x t ho base e i 1 ht hi v n xs hs hown hx ?_
    obtain ⟨A', c', rfl⟩ := own_slice hown
    exact h A' c' w ⟨by simpa using hown, World.grownBy.refl w _, .inl rfl⟩
  · refine wpList_append_own_at w hgd s x t ho base e i z 1 bytes ht hi hz hsize hby hzs hsz v n xs hs hown ad m c ((List.range m).map f) hx (by simp) ?_ ?_ h63 hbytes hbase ?_
    · intro j u hj
      have hjm : j < m := by
        rcases Nat.lt_or_ge j m with hlt | hge
        · exact hlt
        · rw [List.getElem?_eq_none (by simpa using hge)] at hj; cases hj
      obtain ⟨b, off, e1, _, hc⟩ := hr j hjm
      injection e1 with e1
      subst e1
      rw [Addr.add_lit, hc, ← hj]
      simp [hjm]
    · intro u hu
      obtain ⟨j, hj, rfl⟩ := List.mem_map.1 hu
      exact h1 j (List.mem_range.1 hj)
    · intro v' w' hown' hg _ hat
      obtain ⟨A', c', rfl⟩ := own_slice hown'
      refine h A' c' w' ⟨hown', hg, ?_⟩
      rcases hat with e1 | e1
      · exact .inl e1
      · exact .inr ⟨_, e1, Nat.le_refl _⟩

/-! ### A block of the call's own, cell by cell -/
def Blk (w : World) (g : Nat) (cs : Array Value) : Prop := g < w.heap.size ∧ (∀ j, w.cell? ⟨g, j, none⟩ = cs[j]?) ∧ ∀ j, w.frozen? ⟨g, j, none⟩ = false

theorem blk_new (w : World) (cs : Array Value) (t : TypeId) : Blk (w.alloc (.cells cs t)) w.heap.size cs := by
  refine ⟨by simp [World.size_alloc], fun j => World.cell?_alloc_new w cs t j, fun j => ?_⟩
  rw [frozen?_alloc_cells]
  simp [World.frozen?]

theorem Blk.later {w w' : World} {B g : Nat} {cs : Array Value} (h : Blk w g cs) (hb : Below B w w') (hg : g < B) : Blk w' g cs :=
  ⟨Nat.lt_of_lt_of_le h.1 hb.size, fun j => (hb.cell (p := ⟨g, j, none⟩) hg).trans (h.2.1 j), fun j => (hb.frozen (p := ⟨g, j, none⟩) hg).trans (h.2.2 j)⟩

theorem Blk.alloc {w : World} {g : Nat} {cs : Array Value} (h : Blk w g cs) (o : Obj) : Blk (w.alloc o) g cs := h.later ((Below.refl _ _).alloc (Nat.le_refl _) o) h.1

/-- Three blocks that were just laid. -/
theorem blk_three (w : World) (a b c : Array Value) (s t u : TypeId) : Blk (((w.alloc (.cells a s)).alloc (.cells b t)).alloc (.cells c u)) w.heap.size a ∧ Blk (((w.alloc (.cells a s)).alloc (.cells b t)).alloc (.cells c u)) (w.heap.size + 1) b ∧ Blk (((w.alloc (.cells a s)).alloc (.cells b t)).alloc (.cells c u)) (w.heap.size + 1 + 1) c := by
  refine ⟨((blk_new w a s).alloc _).alloc _, ?_, ?_⟩
  · have h := (blk_new (w.alloc (.cells a s)) b t).alloc (.cells c u)
    rwa [World.size_alloc] at h
  · have h := blk_new ((w.alloc (.cells a s)).alloc (.cells b t)) c u
    rwa [World.size_alloc, World.size_alloc] at h

theorem grown_of_below {w w' : World} (hb : Below w.heap.size w w') : w.grownBy w' none := ⟨hb.os, hb.tape, hb.output, hb.size, fun k hk _ => hb.block k hk⟩

theorem own_later {w w' : World} {base : Nat} {e : TypeId} {size n : Nat} {v : Value} {xs : List Value} (h : w.ownsRow base e size v n xs) (hb : Below w.heap.size w w') : w'.ownsRow base e size v n xs :=
  h.kept (grown_of_below hb) (by cases hv : v.ownBlock with
    | none => exact .inl rfl
    | some k => exact .inr (by simp))

theorem Blk.grown {w w' : World} {g : Nat} {cs : Array Value} {row : Option Nat} (h : Blk w g cs) (hg : w.grownBy w' row) (hne : some g ≠ row) : Blk w' g cs :=
  ⟨Nat.lt_of_lt_of_le h.1 hg.size, fun j => (World.cell?_of_block (a := ⟨g, j, none⟩) (hg.block g h.1 hne)).trans (h.2.1 j), fun j => (World.frozen?_of_block (a := ⟨g, j, none⟩) (hg.block g h.1 hne)).trans (h.2.2 j)⟩

/-- The world under a name, with what is known of it. -/
theorem at_world {P : World → Prop} {X : World} (F : World → Prop) (hF : F X) (h : ∀ X, F X → P X) : P X := h X hF

theorem Blk.drew {w : World} {g : Nat} {cs : Array Value} (h : Blk w g cs) : Blk w.drew g cs := h
theorem Blk.drewN {w : World} {g : Nat} {cs : Array Value} (h : Blk w g cs) (n : Nat) : Blk (w.drewN n) g cs := h

theorem Blk.far {w : World} {g : Nat} {cs : Array Value} (h : Blk w g cs) {p : Addr} (hp : p.block ≠ g) (u : Value) : Blk (w.setCell p u) g cs := by
  have e : (w.setCell p u).heap[g]? = w.heap[g]? := Below.heap_setCell w p u g (fun k => hp k.symm)
  refine ⟨by rw [World.size_setCell]; exact h.1, fun j => ?_, fun j => ?_⟩
  · exact (World.cell?_of_block (a := ⟨g, j, none⟩) e).trans (h.2.1 j)
  · exact (World.frozen?_of_block (a := ⟨g, j, none⟩) e).trans (h.2.2 j)

theorem Blk.set_ {w : World} {g : Nat} {cs : Array Value} (h : Blk w g cs) (i : Nat) (hi : i < cs.size) (u : Value) : Blk (w.setCell ⟨g, i, none⟩ u) g (cs.setIfInBounds i u) := by
  refine ⟨by rw [World.size_setCell]; exact h.1, fun j => ?_, fun j => ?_⟩
  · by_cases hj : j = i
    · subst hj
      rw [World.cell?_setCell_same (u := cs[j]) _ _ _ (by rw [h.2.1]; simp [hi])]
      simp [hi]
    · rw [World.cell?_setCell_other _ _ _ _ (by intro e; injection e with _ e2; exact hj e2.symm), h.2.1]
      simp [Array.getElem?_setIfInBounds, Ne.symm hj]
  · rw [World.frozen?_setCell, h.2.2]

theorem quiet_here {P : Program} {f : FuncId} {args : Array Value} {w : World} {n : Nat} {v : Value} (h : Calls P f args (w.drewN n) fun e w' => e = .returned v ∧ w.drewN n = w') : Calls P f args (w.drewN n) fun e w'' => e = .returned v ∧ ∃ m, w'' = w.drewN m :=
  h.mono fun _ _ hh => ⟨hh.1, n, hh.2.symm⟩

/-! ### A law's last step: below the heap's old size nothing has turned, so each argument reads as it did. -/
section
open Go.WideShapes Go.ChangeShapes
variable {H : Type} {enc : TypeId × Value → H} {P : Program}

theorem all_stay (hl : laidOutB P = true) {W W' : World} (hb : Below W.heap.size W W') : ∀ {ts : List TypeId} {vs : List Value} {ds : List (DataW H)} {ps : List MemPlace},
    (ts.all fun t => P.readableRec t && decide (t < P.types.size)) = true → DataW.TrodAll enc P W 0 (fun _ => true) true ts vs ds ps → (∀ x ∈ ps, x.block < W.heap.size) →
    DataW.TrodAll enc P W' 0 (fun b => decide (b < W.heap.size)) true ts vs ds ps
  | [], _, _, _, _, h, _ => by
    obtain ⟨rfl, rfl, rfl⟩ := trodAll_nil h
    exact trodAll_mk0
  | t :: ts, _, _, _, ht, h, hlt => by
    obtain ⟨v, vs1, d, ds1, a, b, rfl, rfl, rfl, h1, h2⟩ := trodAll_cons h
    simp only [List.all_cons, Bool.and_eq_true, decide_eq_true_eq] at ht
    exact trodAll_cons_mk (Below.trod hl ht.1.1 ht.1.2 h1 hb fun x hx => hlt x (List.mem_append_left _ hx)) (all_stay hl hb ht.2 h2 fun x hx => hlt x (List.mem_append_right _ hx))

theorem law_post {f : Func} {s : ChangeSpec} {W W' : World} {args : Array Value} {ds : List (DataW H)} {before : List MemPlace} {tb : TypeId}
    (hW : DataW.Whole enc P f.params.toList s.vars false W args.toList ds [] before) (hv : s.vars = []) (hres : (s.fn H (ds ++ [])).results = [.lit (.bool true)]) (hargs : (s.fn H (ds ++ [])).args = ds)
    (hvars : (s.fn H (ds ++ [])).vars = []) (hl : laidOutB P = true) (hread : (f.params.toList.all fun t => P.readableRec t && decide (t < P.types.size)) = true) (hr : f.resultTypes = #[tb]) (hb : P.underlying tb = some .bool)
    (hk : Below W.heap.size W W') : s.post enc P f false true false false W args (.bool true) W' := by
  have hlt : ∀ p ∈ before, p.block < W.heap.size := fun p hp => hW.lt p hp
  have hW0 := hW
  obtain ⟨p, q, hA, hV, hpq, _, _⟩ := hW
  refine ⟨ds, [], before, [], p, q, hW0, ?_, ?_, ?_, World.keptBut_mono (fun x hx => ⟨hx, ?_⟩) (hk.frame (· ∈ before)), fun h => by cases h⟩
  · rw [hres, hr]
    exact trodAll_cons_mk (shut_bool hb true) trodAll_mk0
  · rw [hargs]
    exact all_stay hl hk hread hA fun x hx => hlt x (by rw [hpq]; exact List.mem_append_left _ hx)
  · rw [hvars]
    rw [hv] at hV ⊢
    obtain ⟨_, rfl⟩ := trodVars_none hV
    rfl
  · rw [hpq, List.mem_append] at hx
    exact Or.inr hx
end

end Go.Proofs.YtfnieoffgnnldaaDoor
