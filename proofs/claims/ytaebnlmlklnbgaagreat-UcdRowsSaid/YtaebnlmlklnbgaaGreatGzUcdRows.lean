/- 'typebar/typebarlaw04.UcdRows' returns true for every input, and each argument reads behind the call as it read before. No condition. -/
import Derived.Test.YtaebnlmlklnbgaaGreatGz01
import Derived.Deep.Slices
import Derived.Deep.Fields
import Derived.Test.YtaebnlmlklnbgaaGreatGz08
import Derived.Test.YtaebnlmlklnbgaaGreatGz25
import Derived.Test.YtaebnlmlklnbgaaGreatGz27
namespace Go.Proofs.YtaebnlmlklnbgaaGreat
open Go.ChangeShapes Go.WideShapes Go.ChangeAt Go.RowKit Go.Deep
set_option linter.unusedVariables false
set_option linter.unusedSimpArgs false

theorem wf_i32 {a : Int} (h : (Lit.int .i32 a).wf = true) : -2147483648 ≤ a ∧ a ≤ 2147483647 := by
  simp [Lit.wf, IntKind.min, IntKind.max, IntKind.bits, IntKind.signed] at h; omega
theorem wf_i64 {a : Int} (h : (Lit.int .i64 a).wf = true) : -9223372036854775808 ≤ a ∧ a ≤ 9223372036854775807 := by
  simp [Lit.wf, IntKind.min, IntKind.max, IntKind.bits, IntKind.signed] at h; omega
theorem wf_u8 {a : Int} (h : (Lit.int .u8 a).wf = true) : 0 ≤ a ∧ a ≤ 255 := by
  simp [Lit.wf, IntKind.min, IntKind.max, IntKind.bits, IntKind.signed] at h; omega

section
variable {H : Type} {enc : TypeId × Value → H} {P : Program} {W : World} {base : Nat} {spare : Nat → Bool} {held : Bool}

/-- What a value of a type reads as, in whatever fuel. -/
def Reads (enc : TypeId × Value → H) (P : Program) (W : World) (base : Nat) (spare : Nat → Bool) (held : Bool) (T : TypeId) (v : Value) : Prop :=
  ∃ fuel y, DataW.trod enc P W base spare held fuel T [v] = some y

theorem reads_int {T : TypeId} {k : IntKind} {v : Value} (hT : P.underlying T = some (.int k)) (h : Reads enc P W base spare held T v) : ∃ x, v = .int k x ∧ (Lit.int k x).wf = true := by
  obtain ⟨fuel, y, hf⟩ := h
  obtain ⟨x, h1, _, h2⟩ := DataW.trod_int hT hf
  simp only [List.cons.injEq, and_true] at h1
  exact ⟨x, h1, h2⟩

/-- A slice that came in, its cells by the place. -/
theorem reads_slice {T E : TypeId} {v : Value} (hT : P.underlying T = some (.slice E)) (hC : P.cellsOf E = 1) (h : Reads enc P W base spare held T v) :
    ∃ A n c, ∃ V : Nat → Value, v = .slice A n c ∧ Rd W A n V ∧ (A = none → n = 0 ∧ c = 0) ∧ n ≤ c ∧ c ≤ maxLen ∧ ∀ j, j < n → Reads enc P W base spare held E (V j) := by
  obtain ⟨fuel, y, hf⟩ := h
  rcases open_slice1 hT hC hf with ⟨hcs, _⟩ | ⟨a, len, cap, m, n, V, D, Pl, hcs, _, hl, hm, hmm, _, hi⟩
  · simp only [List.cons.injEq, and_true] at hcs
    subst hcs
    exact ⟨none, 0, 0, fun _ => .nilIface, rfl, Rd.empty _ _ _, fun _ => ⟨rfl, rfl⟩, Nat.le_refl _, Nat.zero_le _, fun j hj => absurd hj (by omega)⟩
  · simp only [List.cons.injEq, and_true] at hcs
    subst hcs
    have hle : len ≤ m := by rw [hmm]; split <;> omega
    refine ⟨some a, len, cap, V, rfl, fun j hj => ?_, (fun e => by cases e), hl, hm, fun j hj => ⟨n, _, (hi j (by omega)).2⟩⟩
    have hc := (hi j (by omega)).1
    have hsp : a.spot = none := by
      have := World.cell?_spot (hi 0 (by omega)).1
      simpa [Addr.add] using this
    obtain ⟨b, off, spot⟩ := a
    simp only at hsp
    subst hsp
    rw [Go.WideShapes.add_plain] at hc
    exact ⟨b, off, rfl, World.block_lt_of_cell? _ _ hc, hc⟩

/-- A slice of structs that came in, cell by cell. -/
theorem reads_structs {T E : TypeId} {fs : Array Field} {v : Value} (hT : P.underlying T = some (.slice E)) (hE : P.underlying E = some (.struct fs)) (hone : oneCellFields P fs = true) (hC : P.cellsOf E = fs.size) (h : Reads enc P W base spare held T v) :
    ∃ A n c, ∃ V : Nat → Nat → Value, v = .slice A n c ∧ (A = none → n = 0 ∧ c = 0) ∧ n ≤ c ∧ c ≤ maxLen ∧ ∀ i, i < n → ∀ (j : Nat) (f : Field), fs[j]? = some f →
      (∃ b o, A = some ⟨b, o, none⟩ ∧ b < W.heap.size ∧ W.cell? ⟨b, o + (i * fs.size + j), none⟩ = some (V i j)) ∧ Reads enc P W base spare held f.type (V i j) := by
  obtain ⟨fuel, y, hf⟩ := h
  rcases open_slice hT hf with ⟨hcs, _⟩ | ⟨a, len, cap, m, n, D, Pl, hcs, _, hl, hm, hmm, _, hi⟩
  · simp only [List.cons.injEq, and_true] at hcs
    subst hcs
    exact ⟨none, 0, 0, fun _ _ => .nilIface, rfl, fun _ => ⟨rfl, rfl⟩, Nat.le_refl _, Nat.zero_le _, fun i hi => absurd hi (by omega)⟩
  · simp only [List.cons.injEq, and_true] at hcs
    subst hcs
    have hle : len ≤ m := by rw [hmm]; split <;> omega
    have key : ∀ i, i < len → ∀ (j : Nat) (f : Field), fs[j]? = some f → ∃ u, (∃ b o, some a = some (⟨b, o, none⟩ : Addr) ∧ b < W.heap.size ∧ W.cell? ⟨b, o + (i * fs.size + j), none⟩ = some u) ∧ Reads enc P W base spare held f.type u := by
      intro i hil j f hj
      obtain ⟨cs', hc, ht⟩ := hi i (by omega)
      rw [hC] at hc
      obtain ⟨ys, n', _, _, hlen, hyl, hff⟩ := DataW.trod_struct hE ht
      obtain ⟨_, hcl, hat⟩ := World.cells?_some hc
      obtain ⟨ho, hk⟩ := hone_of hone j f hj
      have hjl : j < fs.size := (Array.getElem?_eq_some_iff.1 hj).1
      have h1 := hff j f hj
      have e1 : (cs'.drop f.offset).take (P.cellsOf f.type) = [cs'[j]'(by omega)] := by
        rw [ho, hk, List.drop_eq_getElem_cons (by omega)]
        rfl
      rw [e1] at h1
      have hcell := hat j hjl
      rw [List.getElem?_eq_getElem (by omega)] at hcell
      refine ⟨cs'[j]'(by omega), ?_, n', _, h1.trans (List.getElem?_eq_getElem (by omega))⟩
      have hsp : a.spot = none := by
        obtain ⟨cs0, hc0, _⟩ := hi 0 (by omega)
        rw [hC] at hc0
        obtain ⟨_, hcl0, hat0⟩ := World.cells?_some hc0
        have h00 := hat0 0 (by omega)
        rw [List.getElem?_eq_getElem (by omega)] at h00
        have := World.cell?_spot h00
        simpa [Addr.add] using this
      obtain ⟨b, off, spot⟩ := a
      simp only at hsp
      subst hsp
      rw [Go.WideShapes.add_plain, Go.WideShapes.add_plain, Nat.add_assoc] at hcell
      exact ⟨b, off, rfl, World.block_lt_of_cell? _ _ hcell, hcell⟩
    refine ⟨some a, len, cap, fun i j => Classical.epsilon fun u => (∃ b o, some a = some (⟨b, o, none⟩ : Addr) ∧ b < W.heap.size ∧ W.cell? ⟨b, o + (i * fs.size + j), none⟩ = some u) ∧ ∀ f, fs[j]? = some f → Reads enc P W base spare held f.type u, rfl, (fun e => by cases e), hl, hm, fun i hil j f hj => ?_⟩
    obtain ⟨u, h1, h2⟩ := key i hil j f hj
    have := Classical.epsilon_spec (p := fun u => (∃ b o, some a = some (⟨b, o, none⟩ : Addr) ∧ b < W.heap.size ∧ W.cell? ⟨b, o + (i * fs.size + j), none⟩ = some u) ∧ ∀ f, fs[j]? = some f → Reads enc P W base spare held f.type u) ⟨u, h1, fun f' hf' => by rw [hj] at hf'; injection hf' with e; subst e; exact h2⟩
    exact ⟨this.1, this.2 f hj⟩

/-- A slice that came in as an argument. -/
theorem reads_arg {T : TypeId} {r : Reach} {b0 : Nat} {v : Value} {d : DataW H} {p : List MemPlace} {E : TypeId} (hT : P.underlying T = some (.slice E)) (hv : Value.okWide P W r b0 T v) (h : DataW.Trod enc P W base spare held T v d p) : Reads enc P W base spare held T v := by
  obtain ⟨a0, n, c, rfl⟩ := okWide_slice hT hv
  obtain ⟨fuel, hf⟩ := h
  exact ⟨fuel, _, by simpa [Value.cells] using hf⟩
end

end Go.Proofs.YtaebnlmlklnbgaaGreat

namespace Go.Proofs.YtaebnlmlklnbgaaGreat.RW
open Go.ChangeShapes Go.WideShapes Go.ChangeAt Go.RowKit Go.Deep
set_option linter.unusedVariables false
set_option linter.unusedSimpArgs false

/-- It returns true; what was there is as it was. -/
def YesL (w : World) (e : Ending) (w' : World) : Prop := e = .returned (.bool true) ∧ Below w.heap.size w w'

def i64ok (x : Int) : Prop := -9223372036854775808 ≤ x ∧ x ≤ 9223372036854775807
def rowOk (x : Row) : Prop := i64ok x.k ∧ i64ok x.f ∧ i64ok x.t ∧ i64ok x.a ∧ i64ok x.b
/-- Rows that came in. -/
structure RowsIn (W : World) (A : Option Addr) (c : Nat) (L : List Row) : Prop where
  li : Li 5 encR W (fun _ => True) A L
  le : L.length ≤ c
  mx : c ≤ maxLen
  ok : ∀ x ∈ L, rowOk x
section
variable {H : Type} {enc : TypeId × Value → H} {W : World} {base : Nat} {spare : Nat → Bool} {held : Bool}
set_option maxRecDepth 100000 in
theorem arg_rows {v : Value} {r : Reach} {b0 : Nat} {d : DataW H} {p : List MemPlace} (hv : Value.okWide Tryz.prog W r b0 23 v) (h : DataW.Trod enc Tryz.prog W base spare held 23 v d p) :
    ∃ A L c, v = .slice A (L : List Row).length c ∧ RowsIn W A c L := by
  obtain ⟨A, n, c, V, rfl, h0, h1, h2, hV⟩ := reads_structs Tryz.underlying23 Tryz.underlying34 (by kernel_rfl) (by kernel_rfl) (reads_arg Tryz.underlying23 hv h)
  have key : ∀ i, i < n → ∃ x : Row, rowOk x ∧ ∃ b o, A = some ⟨b, o, none⟩ ∧ b < W.heap.size ∧ ∀ (j : Nat) (u : Value), (encR x)[j]? = some u → W.cell? ⟨b, o + (i * 5 + j), none⟩ = some u := by
    intro i hi
    have f := hV i hi
    obtain ⟨⟨b, o, e, hb, k0⟩, r0⟩ := f 0 _ rfl
    obtain ⟨⟨_, _, e1, _, k1⟩, r1⟩ := f 1 _ rfl
    obtain ⟨⟨_, _, e2, _, k2⟩, r2⟩ := f 2 _ rfl
    obtain ⟨⟨_, _, e3, _, k3⟩, r3⟩ := f 3 _ rfl
    obtain ⟨⟨_, _, e4, _, k4⟩, r4⟩ := f 4 _ rfl
    rw [e] at e1 e2 e3 e4
    simp only [Option.some.injEq, Addr.mk.injEq, and_true] at e1 e2 e3 e4
    obtain ⟨rfl, rfl⟩ := e1
    obtain ⟨rfl, rfl⟩ := e2
    obtain ⟨rfl, rfl⟩ := e3
    obtain ⟨rfl, rfl⟩ := e4
    obtain ⟨x0, y0, z0⟩ := reads_int Tryz.underlying3 r0
    obtain ⟨x1, y1, z1⟩ := reads_int Tryz.underlying3 r1
    obtain ⟨x2, y2, z2⟩ := reads_int Tryz.underlying3 r2
    obtain ⟨x3, y3, z3⟩ := reads_int Tryz.underlying3 r3
    obtain ⟨x4, y4, z4⟩ := reads_int Tryz.underlying3 r4
    rw [y0] at k0
    rw [y1] at k1
    rw [y2] at k2
    rw [y3] at k3
    rw [y4] at k4
    refine ⟨⟨x0, x1, x2, x3, x4⟩, ⟨wf_i64 z0, wf_i64 z1, wf_i64 z2, wf_i64 z3, wf_i64 z4⟩, b, o, e, hb, fun j u hu => ?_⟩
    match j, hu with
    | 0, hu => injection hu with hu; subst hu; exact k0
    | 1, hu => injection hu with hu; subst hu; exact k1
    | 2, hu => injection hu with hu; subst hu; exact k2
    | 3, hu => injection hu with hu; subst hu; exact k3
    | 4, hu => injection hu with hu; subst hu; exact k4
    | j + 5, hu => simp [encR] at hu
  haveI : Nonempty Row := ⟨⟨0, 0, 0, 0, 0⟩⟩
  let F : Nat → Row := fun i => Classical.epsilon fun x => rowOk x ∧ ∃ b o, A = some ⟨b, o, none⟩ ∧ b < W.heap.size ∧ ∀ (j : Nat) (u : Value), (encR x)[j]? = some u → W.cell? ⟨b, o + (i * 5 + j), none⟩ = some u
  have hF : ∀ i, i < n → rowOk (F i) ∧ ∃ b o, A = some ⟨b, o, none⟩ ∧ b < W.heap.size ∧ ∀ (j : Nat) (u : Value), (encR (F i))[j]? = some u → W.cell? ⟨b, o + (i * 5 + j), none⟩ = some u := fun i hi => Classical.epsilon_spec (key i hi)
  refine ⟨A, (List.range n).map F, c, by simp, ⟨?_, by simpa using h1, h2, ?_⟩⟩
  · intro j x hj
    have hjn : j < n := by have := (List.getElem?_eq_some_iff.1 hj).1; simpa using this
    simp [hjn] at hj
    subst hj
    obtain ⟨_, b, o, e, hb, hc⟩ := hF j hjn
    exact ⟨b, o, e, hb, trivial, hc⟩
  · intro x hx
    obtain ⟨i, hi, rfl⟩ := List.mem_map.1 hx
    exact (hF i (List.mem_range.1 hi)).1
end
end Go.Proofs.YtaebnlmlklnbgaaGreat.RW

namespace Go.Proofs.YtaebnlmlklnbgaaGreat
open Go.RowKit
set_option linter.unusedVariables false
set_option linter.unusedSimpArgs false

theorem wf_of {a : Int} (h : RW.i64ok a) : (Lit.int .i64 a).wf = true := by
  unfold RW.i64ok at h
  have := wf_wrap .i64 a
  rwa [IntWalk.i64_in a (by omega)] at this
set_option maxHeartbeats 8000000 in
set_option maxRecDepth 100000 in
theorem walk_UcdRows (w : World) (A0 : Option Addr) (c0 : Nat) (L0 : List RW.Row) (I0 : RW.RowsIn w A0 c0 L0) (r : Int) (wr : (Lit.int .i32 r).wf = true) :
    Calls Tryz.prog 4 #[.slice A0 L0.length c0, .int .i32 r] w (Yes w) := by
  have AW := Lib.hid (fun X => awake_yes X)
  have WR := Lib.hid (wf_i32 wr)
  clear wr
  have hle := I0.le
  have hmx := I0.mx
  unfold maxLen at hmx
  by_cases hbig : 30 < L0.length
  · obtain ⟨T, hT0⟩ : ∃ T, L0.take 30 = T := ⟨_, rfl⟩
    have HT := Lib.hid (show Li 5 RW.encR w (fun _ => True) A0 T ∧ T.length = 30 ∧ ∀ x ∈ T, (Lit.int .i64 x.a).wf = true from ⟨by rw [← hT0]; exact I0.li.take 30, by rw [← hT0]; simp; omega, fun x hx => wf_of (I0.ok x (List.mem_of_mem_take (by rw [hT0]; exact hx))).2.2.2.1⟩)
    have g1 : decide ((30 : Int) < (L0.length : Int)) = true := decide_eq_true (by omega)
    have g2 : (30 : Int) ≤ (c0 : Int) := by omega
    clear I0 hT0
    go_enter Tryz.func4, Tryz.ntmps4
    go_wp2_with fail
    go_loopw [5] (fun i wr => ∃ k : Nat, k ≤ 30 ∧ i = .int .i64 k ∧ Hid (Li 5 RW.encR wr (fun _ => True) A0 T ∧ Below w.heap.size w wr)) (fun i _ => 30 - (intOf i).toNat)
    case atStart => exact ⟨0, by omega, rfl, HT.out.1, Below.refl _ _⟩
    case round =>
      obtain ⟨k, hk, rfl, H⟩ := hrel
      by_cases h1 : k < 30
      · obtain ⟨x, b0, o0, _, rfl, hb0, _, q0, q1, q2, _, _⟩ := H.out.1.row (by rw [HT.out.2.1]; exact h1)
        have k0 : (0 : Int) ≤ (k : Int) := by omega
        have k1 : (k : Int) < ((30 : Nat) : Int) := by omega
        by_cases e1 : x.k = 2
        · have d1 : (x.k == 2) = true := by simpa using e1
          by_cases e2 : x.t = x.f
          · have d2 : (x.t != x.f) = false := by simpa using e2
            have HN := Lib.hid (And.intro H.out.1 H.out.2)
            clear e1 e2 H
            go_upto_region 6 with fail
            go_quiet (fail)
            refine at_world (fun X => Below wr.heap.size wr X) (selfDrew wr _) ?_
            intro X hX
            have HN2 := Lib.hid (And.intro (HN.out.1.later hX) (HN.out.2.trans (hX.mono HN.out.2.size)))
            clear hX HN
            go_wp2
            go_roundw
            case rel => exact ⟨k + 1, by omega, by go_num, HN2.out⟩
            case measure => simp [intOf]; omega
          · have d2 : (x.t != x.f) = true := by simpa using e2
            have HN := Lib.hid H.out.2
            clear e1 e2 H
            go_upto_region 6 with fail
            go_quiet (fail)
            refine at_world (fun X => Below wr.heap.size wr X) (selfDrew wr _) ?_
            intro X hX
            have HN2 := Lib.hid (HN.out.trans (hX.mono HN.out.size))
            have C9 := Lib.hid (AW.out X)
            clear hX HN
            go_wp2_with fail
            refine C9.out.mono ?_
            rintro e w9 ⟨rfl, hb⟩
            have HE := Lib.hid (HN2.out.trans (hb.mono HN2.out.size))
            clear hb C9 HN2
            go_wp2
            go_ret
            exact ⟨rfl, HE.out⟩
        · have d1 : (x.k == 2) = false := by simpa using e1
          have HN := Lib.hid (And.intro H.out.1 H.out.2)
          clear e1 H
          go_upto_region 6 with fail
          go_quiet (fail)
          refine at_world (fun X => Below wr.heap.size wr X) (selfDrew wr _) ?_
          intro X hX
          have HN2 := Lib.hid (And.intro (HN.out.1.later hX) (HN.out.2.trans (hX.mono HN.out.2.size)))
          clear hX HN
          go_wp2
          go_roundw
          case rel => exact ⟨k + 1, by omega, by go_num, HN2.out⟩
          case measure => simp [intOf]; omega
      · have hc : T.length ≤ c0 := by rw [HT.out.2.1]; omega
        have hT : T.length ≤ 100000 := by rw [HT.out.2.1]; omega
        have cb := ucd_any A0 c0 T wr H.out.1 hc (by rw [HT.out.2.1]; omega) HT.out.2.2
        rw [HT.out.2.1] at cb
        have C1 := Lib.hid cb
        have B1 := Lib.hid (And.intro H.out.1 H.out.2)
        clear cb H
        go_wp2_with fail
        refine C1.out.mono ?_
        rintro e w2 ⟨tp, rfl, hU, hb⟩
        have H0 := Lib.hid (show Tabs T tp w2 ∧ Li 5 RW.encR w2 (fun _ => True) A0 T from ⟨⟨_, _, Nat.le_refl _, hU⟩, B1.out.1.later hb⟩)
        have U0 := Lib.hid (And.intro (Below.refl w2.heap.size w2) (B1.out.2.trans (hb.mono B1.out.2.size)))
        clear hU hb C1 B1
        have K0 := Lib.hid (fun (X : World) (hX : Below w2.heap.size w2 X) => tclass (H0.out.1.later hX) r WR.out.1 WR.out.2)
        have Q0 := Lib.hid (fun (X : World) (hX : Below w2.heap.size w2 X) => of_any A0 c0 T 1 r X (H0.out.2.later hX) hc hT WR.out.1 WR.out.2)
        have K1 := Lib.hid (fun (X : World) (hX : Below w2.heap.size w2 X) => tbreak (H0.out.1.later hX) r WR.out.1 WR.out.2)
        have Q1 := Lib.hid (fun (X : World) (hX : Below w2.heap.size w2 X) => rbreak_any A0 c0 T r X (H0.out.2.later hX) hc hT WR.out.1 WR.out.2)
        have K2 := Lib.hid (fun (X : World) (hX : Below w2.heap.size w2 X) => tconj (H0.out.1.later hX) r WR.out.1 WR.out.2)
        have Q2 := Lib.hid (fun (X : World) (hX : Below w2.heap.size w2 X) => rconj_any A0 c0 T r X (H0.out.2.later hX) hc hT WR.out.1 WR.out.2)
        have K3 := Lib.hid (fun (X : World) (hX : Below w2.heap.size w2 X) => tpict (H0.out.1.later hX) r WR.out.1 WR.out.2)
        have Q3 := Lib.hid (fun (X : World) (hX : Below w2.heap.size w2 X) => of_any A0 c0 T 5 r X (H0.out.2.later hX) hc hT WR.out.1 WR.out.2)
        have K4 := Lib.hid (fun (X : World) (hX : Below w2.heap.size w2 X) => twide (H0.out.1.later hX) r WR.out.1 WR.out.2)
        have Q4 := Lib.hid (fun (X : World) (hX : Below w2.heap.size w2 X) => of_any A0 c0 T 7 r X (H0.out.2.later hX) hc hT WR.out.1 WR.out.2)
        have K5 := Lib.hid (fun (X : World) (hX : Below w2.heap.size w2 X) => tletter (H0.out.1.later hX) r WR.out.1 WR.out.2)
        have Q5 := Lib.hid (fun (X : World) (hX : Below w2.heap.size w2 X) => of_any A0 c0 T 8 r X (H0.out.2.later hX) hc hT WR.out.1 WR.out.2)
        obtain ⟨c1, hc1⟩ : ∃ c1, at0 0 (vget 1 T) r = c1 := ⟨_, rfl⟩
        obtain ⟨c2, hc2⟩ : ∃ c2, breakB (vget 4 T) r = c2 := ⟨_, rfl⟩
        obtain ⟨c3, hc3⟩ : ∃ c3, conjB (vget 6 T) (vget 4 T) r = c3 := ⟨_, rfl⟩
        obtain ⟨c5, hc5⟩ : ∃ c5, at0 0 (vget 5 T) r = c5 := ⟨_, rfl⟩
        obtain ⟨c7, hc7⟩ : ∃ c7, at0 0 (vget 7 T) r = c7 := ⟨_, rfl⟩
        obtain ⟨c8, hc8⟩ : ∃ c8, at0 0 (vget 8 T) r = c8 := ⟨_, rfl⟩
        simp only [hc1] at K0 Q0
        simp only [hc2] at K1 Q1
        simp only [hc3] at K2 Q2
        simp only [hc5] at K3 Q3
        simp only [hc7] at K4 Q4
        simp only [hc8] at K5 Q5
        clear hc1 hc2 hc3 hc5 hc7 hc8
        have eN := HT.out.2.1
        simp only [eN] at Q0 Q1 Q2 Q3 Q4 Q5
        clear eN
        have C := Lib.hid (K0.out w2 U0.out.1)
        go_wp2_with fail
        refine C.out.mono ?_
        rintro e w3 ⟨rfl, hb⟩
        have U3 := Lib.hid (And.intro (U0.out.1.trans (hb.mono U0.out.1.size)) (U0.out.2.trans (hb.mono U0.out.2.size)))
        clear hb C
        have C := Lib.hid (Q0.out w3 U3.out.1)
        go_wp2_with fail
        refine C.out.mono ?_
        rintro e w4 ⟨rfl, rfl⟩
        clear C
        have C := Lib.hid (K1.out w3 U3.out.1)
        go_wp2_with fail
        refine C.out.mono ?_
        rintro e w5 ⟨rfl, hb⟩
        have U5 := Lib.hid (And.intro (U3.out.1.trans (hb.mono U3.out.1.size)) (U3.out.2.trans (hb.mono U3.out.2.size)))
        clear hb C
        have C := Lib.hid (Q1.out w5 U5.out.1)
        go_wp2_with fail
        refine C.out.mono ?_
        rintro e w6 ⟨rfl, rfl⟩
        clear C
        have C := Lib.hid (K2.out w5 U5.out.1)
        go_wp2_with fail
        refine C.out.mono ?_
        rintro e w7 ⟨rfl, hb⟩
        have U7 := Lib.hid (And.intro (U5.out.1.trans (hb.mono U5.out.1.size)) (U5.out.2.trans (hb.mono U5.out.2.size)))
        clear hb C
        have C := Lib.hid (Q2.out w7 U7.out.1)
        go_wp2_with fail
        refine C.out.mono ?_
        rintro e w8 ⟨rfl, rfl⟩
        clear C
        have C := Lib.hid (K3.out w7 U7.out.1)
        go_wp2_with fail
        refine C.out.mono ?_
        rintro e w9 ⟨rfl, hb⟩
        have U9 := Lib.hid (And.intro (U7.out.1.trans (hb.mono U7.out.1.size)) (U7.out.2.trans (hb.mono U7.out.2.size)))
        clear hb C
        have C := Lib.hid (Q3.out w9 U9.out.1)
        go_wp2_with fail
        refine C.out.mono ?_
        rintro e w10 ⟨rfl, rfl⟩
        clear C
        have C := Lib.hid (K4.out w9 U9.out.1)
        go_wp2_with fail
        refine C.out.mono ?_
        rintro e w11 ⟨rfl, hb⟩
        have U11 := Lib.hid (And.intro (U9.out.1.trans (hb.mono U9.out.1.size)) (U9.out.2.trans (hb.mono U9.out.2.size)))
        clear hb C
        have C := Lib.hid (Q4.out w11 U11.out.1)
        go_wp2_with fail
        refine C.out.mono ?_
        rintro e w12 ⟨rfl, rfl⟩
        clear C
        have C := Lib.hid (K5.out w11 U11.out.1)
        go_wp2_with fail
        refine C.out.mono ?_
        rintro e w13 ⟨rfl, hb⟩
        have U13 := Lib.hid (And.intro (U11.out.1.trans (hb.mono U11.out.1.size)) (U11.out.2.trans (hb.mono U11.out.2.size)))
        clear hb C
        have C := Lib.hid (Q5.out w13 U13.out.1)
        go_wp2_with fail
        refine C.out.mono ?_
        rintro e w14 ⟨rfl, rfl⟩
        clear C
        have C9 := Lib.hid (AW.out w13)
        go_wp2_with fail
        refine C9.out.mono ?_
        rintro e w99 ⟨rfl, hb⟩
        have HE := Lib.hid (U13.out.2.trans (hb.mono U13.out.2.size))
        clear hb C9
        go_wp2
        go_ret
        exact ⟨rfl, HE.out⟩
  · obtain ⟨T, hT0⟩ : ∃ T, L0 = T := ⟨_, rfl⟩
    obtain ⟨N, hN⟩ : ∃ N, L0.length = N := ⟨_, rfl⟩
    rw [hN] at hle hbig ⊢
    have HT := Lib.hid (show Li 5 RW.encR w (fun _ => True) A0 T ∧ T.length = N ∧ ∀ x ∈ T, (Lit.int .i64 x.a).wf = true from ⟨by rw [← hT0]; exact I0.li, by rw [← hT0]; exact hN, fun x hx => wf_of (I0.ok x (by rw [hT0]; exact hx)).2.2.2.1⟩)
    have g1 : decide ((30 : Int) < (N : Int)) = false := decide_eq_false (by omega)
    clear I0 hT0 hN
    go_enter Tryz.func4, Tryz.ntmps4
    go_wp2_with fail
    go_loopw [5] (fun i wr => ∃ k : Nat, k ≤ N ∧ i = .int .i64 k ∧ Hid (Li 5 RW.encR wr (fun _ => True) A0 T ∧ Below w.heap.size w wr)) (fun i _ => N - (intOf i).toNat)
    case atStart => exact ⟨0, by omega, rfl, HT.out.1, Below.refl _ _⟩
    case round =>
      obtain ⟨k, hk, rfl, H⟩ := hrel
      by_cases h1 : k < N
      · obtain ⟨x, b0, o0, _, rfl, hb0, _, q0, q1, q2, _, _⟩ := H.out.1.row (by rw [HT.out.2.1]; exact h1)
        have k0 : (0 : Int) ≤ (k : Int) := by omega
        have k1 : (k : Int) < ((N : Nat) : Int) := by omega
        by_cases e1 : x.k = 2
        · have d1 : (x.k == 2) = true := by simpa using e1
          by_cases e2 : x.t = x.f
          · have d2 : (x.t != x.f) = false := by simpa using e2
            have HN := Lib.hid (And.intro H.out.1 H.out.2)
            clear e1 e2 H
            go_upto_region 6 with fail
            go_quiet (fail)
            refine at_world (fun X => Below wr.heap.size wr X) (selfDrew wr _) ?_
            intro X hX
            have HN2 := Lib.hid (And.intro (HN.out.1.later hX) (HN.out.2.trans (hX.mono HN.out.2.size)))
            clear hX HN
            go_wp2
            go_roundw
            case rel => exact ⟨k + 1, by omega, by go_num, HN2.out⟩
            case measure => simp [intOf]; omega
          · have d2 : (x.t != x.f) = true := by simpa using e2
            have HN := Lib.hid H.out.2
            clear e1 e2 H
            go_upto_region 6 with fail
            go_quiet (fail)
            refine at_world (fun X => Below wr.heap.size wr X) (selfDrew wr _) ?_
            intro X hX
            have HN2 := Lib.hid (HN.out.trans (hX.mono HN.out.size))
            have C9 := Lib.hid (AW.out X)
            clear hX HN
            go_wp2_with fail
            refine C9.out.mono ?_
            rintro e w9 ⟨rfl, hb⟩
            have HE := Lib.hid (HN2.out.trans (hb.mono HN2.out.size))
            clear hb C9 HN2
            go_wp2
            go_ret
            exact ⟨rfl, HE.out⟩
        · have d1 : (x.k == 2) = false := by simpa using e1
          have HN := Lib.hid (And.intro H.out.1 H.out.2)
          clear e1 H
          go_upto_region 6 with fail
          go_quiet (fail)
          refine at_world (fun X => Below wr.heap.size wr X) (selfDrew wr _) ?_
          intro X hX
          have HN2 := Lib.hid (And.intro (HN.out.1.later hX) (HN.out.2.trans (hX.mono HN.out.2.size)))
          clear hX HN
          go_wp2
          go_roundw
          case rel => exact ⟨k + 1, by omega, by go_num, HN2.out⟩
          case measure => simp [intOf]; omega
      · have hc : T.length ≤ c0 := by rw [HT.out.2.1]; omega
        have hT : T.length ≤ 100000 := by rw [HT.out.2.1]; omega
        have cb := ucd_any A0 c0 T wr H.out.1 hc (by rw [HT.out.2.1]; omega) HT.out.2.2
        rw [HT.out.2.1] at cb
        have C1 := Lib.hid cb
        have B1 := Lib.hid (And.intro H.out.1 H.out.2)
        clear cb H
        go_wp2_with fail
        refine C1.out.mono ?_
        rintro e w2 ⟨tp, rfl, hU, hb⟩
        have H0 := Lib.hid (show Tabs T tp w2 ∧ Li 5 RW.encR w2 (fun _ => True) A0 T from ⟨⟨_, _, Nat.le_refl _, hU⟩, B1.out.1.later hb⟩)
        have U0 := Lib.hid (And.intro (Below.refl w2.heap.size w2) (B1.out.2.trans (hb.mono B1.out.2.size)))
        clear hU hb C1 B1
        have K0 := Lib.hid (fun (X : World) (hX : Below w2.heap.size w2 X) => tclass (H0.out.1.later hX) r WR.out.1 WR.out.2)
        have Q0 := Lib.hid (fun (X : World) (hX : Below w2.heap.size w2 X) => of_any A0 c0 T 1 r X (H0.out.2.later hX) hc hT WR.out.1 WR.out.2)
        have K1 := Lib.hid (fun (X : World) (hX : Below w2.heap.size w2 X) => tbreak (H0.out.1.later hX) r WR.out.1 WR.out.2)
        have Q1 := Lib.hid (fun (X : World) (hX : Below w2.heap.size w2 X) => rbreak_any A0 c0 T r X (H0.out.2.later hX) hc hT WR.out.1 WR.out.2)
        have K2 := Lib.hid (fun (X : World) (hX : Below w2.heap.size w2 X) => tconj (H0.out.1.later hX) r WR.out.1 WR.out.2)
        have Q2 := Lib.hid (fun (X : World) (hX : Below w2.heap.size w2 X) => rconj_any A0 c0 T r X (H0.out.2.later hX) hc hT WR.out.1 WR.out.2)
        have K3 := Lib.hid (fun (X : World) (hX : Below w2.heap.size w2 X) => tpict (H0.out.1.later hX) r WR.out.1 WR.out.2)
        have Q3 := Lib.hid (fun (X : World) (hX : Below w2.heap.size w2 X) => of_any A0 c0 T 5 r X (H0.out.2.later hX) hc hT WR.out.1 WR.out.2)
        have K4 := Lib.hid (fun (X : World) (hX : Below w2.heap.size w2 X) => twide (H0.out.1.later hX) r WR.out.1 WR.out.2)
        have Q4 := Lib.hid (fun (X : World) (hX : Below w2.heap.size w2 X) => of_any A0 c0 T 7 r X (H0.out.2.later hX) hc hT WR.out.1 WR.out.2)
        have K5 := Lib.hid (fun (X : World) (hX : Below w2.heap.size w2 X) => tletter (H0.out.1.later hX) r WR.out.1 WR.out.2)
        have Q5 := Lib.hid (fun (X : World) (hX : Below w2.heap.size w2 X) => of_any A0 c0 T 8 r X (H0.out.2.later hX) hc hT WR.out.1 WR.out.2)
        obtain ⟨c1, hc1⟩ : ∃ c1, at0 0 (vget 1 T) r = c1 := ⟨_, rfl⟩
        obtain ⟨c2, hc2⟩ : ∃ c2, breakB (vget 4 T) r = c2 := ⟨_, rfl⟩
        obtain ⟨c3, hc3⟩ : ∃ c3, conjB (vget 6 T) (vget 4 T) r = c3 := ⟨_, rfl⟩
        obtain ⟨c5, hc5⟩ : ∃ c5, at0 0 (vget 5 T) r = c5 := ⟨_, rfl⟩
        obtain ⟨c7, hc7⟩ : ∃ c7, at0 0 (vget 7 T) r = c7 := ⟨_, rfl⟩
        obtain ⟨c8, hc8⟩ : ∃ c8, at0 0 (vget 8 T) r = c8 := ⟨_, rfl⟩
        simp only [hc1] at K0 Q0
        simp only [hc2] at K1 Q1
        simp only [hc3] at K2 Q2
        simp only [hc5] at K3 Q3
        simp only [hc7] at K4 Q4
        simp only [hc8] at K5 Q5
        clear hc1 hc2 hc3 hc5 hc7 hc8
        have eN := HT.out.2.1
        simp only [eN] at Q0 Q1 Q2 Q3 Q4 Q5
        clear eN
        have C := Lib.hid (K0.out w2 U0.out.1)
        go_wp2_with fail
        refine C.out.mono ?_
        rintro e w3 ⟨rfl, hb⟩
        have U3 := Lib.hid (And.intro (U0.out.1.trans (hb.mono U0.out.1.size)) (U0.out.2.trans (hb.mono U0.out.2.size)))
        clear hb C
        have C := Lib.hid (Q0.out w3 U3.out.1)
        go_wp2_with fail
        refine C.out.mono ?_
        rintro e w4 ⟨rfl, rfl⟩
        clear C
        have C := Lib.hid (K1.out w3 U3.out.1)
        go_wp2_with fail
        refine C.out.mono ?_
        rintro e w5 ⟨rfl, hb⟩
        have U5 := Lib.hid (And.intro (U3.out.1.trans (hb.mono U3.out.1.size)) (U3.out.2.trans (hb.mono U3.out.2.size)))
        clear hb C
        have C := Lib.hid (Q1.out w5 U5.out.1)
        go_wp2_with fail
        refine C.out.mono ?_
        rintro e w6 ⟨rfl, rfl⟩
        clear C
        have C := Lib.hid (K2.out w5 U5.out.1)
        go_wp2_with fail
        refine C.out.mono ?_
        rintro e w7 ⟨rfl, hb⟩
        have U7 := Lib.hid (And.intro (U5.out.1.trans (hb.mono U5.out.1.size)) (U5.out.2.trans (hb.mono U5.out.2.size)))
        clear hb C
        have C := Lib.hid (Q2.out w7 U7.out.1)
        go_wp2_with fail
        refine C.out.mono ?_
        rintro e w8 ⟨rfl, rfl⟩
        clear C
        have C := Lib.hid (K3.out w7 U7.out.1)
        go_wp2_with fail
        refine C.out.mono ?_
        rintro e w9 ⟨rfl, hb⟩
        have U9 := Lib.hid (And.intro (U7.out.1.trans (hb.mono U7.out.1.size)) (U7.out.2.trans (hb.mono U7.out.2.size)))
        clear hb C
        have C := Lib.hid (Q3.out w9 U9.out.1)
        go_wp2_with fail
        refine C.out.mono ?_
        rintro e w10 ⟨rfl, rfl⟩
        clear C
        have C := Lib.hid (K4.out w9 U9.out.1)
        go_wp2_with fail
        refine C.out.mono ?_
        rintro e w11 ⟨rfl, hb⟩
        have U11 := Lib.hid (And.intro (U9.out.1.trans (hb.mono U9.out.1.size)) (U9.out.2.trans (hb.mono U9.out.2.size)))
        clear hb C
        have C := Lib.hid (Q4.out w11 U11.out.1)
        go_wp2_with fail
        refine C.out.mono ?_
        rintro e w12 ⟨rfl, rfl⟩
        clear C
        have C := Lib.hid (K5.out w11 U11.out.1)
        go_wp2_with fail
        refine C.out.mono ?_
        rintro e w13 ⟨rfl, hb⟩
        have U13 := Lib.hid (And.intro (U11.out.1.trans (hb.mono U11.out.1.size)) (U11.out.2.trans (hb.mono U11.out.2.size)))
        clear hb C
        have C := Lib.hid (Q5.out w13 U13.out.1)
        go_wp2_with fail
        refine C.out.mono ?_
        rintro e w14 ⟨rfl, rfl⟩
        clear C
        have C9 := Lib.hid (AW.out w13)
        go_wp2_with fail
        refine C9.out.mono ?_
        rintro e w99 ⟨rfl, hb⟩
        have HE := Lib.hid (U13.out.2.trans (hb.mono U13.out.2.size))
        clear hb C9
        go_wp2
        go_ret
        exact ⟨rfl, HE.out⟩
end Go.Proofs.YtaebnlmlklnbgaaGreat

namespace Go.Proofs.YtaebnlmlklnbgaaGreat.ucdRows
open Go.ChangeShapes Go.WideShapes Go.ChangeAt Go.RowKit Go.WideMaps Go.WideElems
open Go.ChangeMaps (open_string)

theorem own : ownKnob Tryz.prog.godebug = none := by kernel_rfl
theorem laidOut : laidOutB Tryz.prog = true := by kernel_rfl

set_option linter.unusedVariables false in
set_option maxRecDepth 100000 in
theorem lifted (os : Os) (started : os.Started) (H : Type) (enc : TypeId × Value → H) :
    ReturnsInHanded {} Tryz.checked os 4 .any (Rows.ucdRowsSpec.pre6 enc Tryz.prog Tryz.f4 Rows.ucdRowsRow.domain false) (Rows.ucdRowsSpec.post enc Tryz.prog Tryz.f4 false true false false) := by
  refine returnsInHanded_of_change (C := Tryz.checked) own started (by kernel_rfl) Tryz.func4
    (ChangeSpec.witness6 (enc := enc) (C := Tryz.checked) false ⟨#[], #[.slice none 0 0, .int .i32 0], []⟩ 8 (by kernel_rfl) (by kernel_rfl) (by kernel_rfl) (by kernel_rfl)) ?_
  intro W base args ds gs before hval0 hW hcnd _
  have hval : ∀ (j : Nat) t v, Tryz.f4.params[j]? = some t → args[j]? = some v → Value.okWide Tryz.prog W .any base t v := hval0
  have hW' := hW
  obtain ⟨p, q, hA0, hV, rfl, hfz, hnd⟩ := hW
  have hA : DataW.TrodAll enc Tryz.prog W 0 (fun _ => true) true Tryz.f4.params.toList args.toList ds p := hA0
  rw [Tryz.params4] at hA hval
  obtain ⟨v0, vs0, d0, ds0, p0, q0, hargs, rfl, rfl, h0, r0⟩ := trodAll_cons hA
  obtain ⟨v1, vs1, d1, ds1, p1, q1, rfl, rfl, rfl, h1, r1⟩ := trodAll_cons r0
  obtain ⟨rfl, rfl, rfl⟩ := trodAll_nil r1
  obtain rfl : args = #[v0, v1] := by cases args; simp_all
  obtain ⟨rfl, rfl⟩ := trodVars_none hV
  obtain ⟨A0, L0, c0, rfl, I0⟩ := RW.arg_rows (hval 0 23 v0 rfl rfl) h0
  obtain ⟨a1, rfl, rfl, rfl, w1⟩ := open_int Tryz.underlying21 (hval 1 21 v1 rfl rfl) h1
  refine (walk_UcdRows W A0 c0 L0 I0 a1 w1).mono fun e W' ⟨he, hb⟩ => ?_
  subst he
  exact ⟨_, rfl, law_post hW' rfl rfl rfl rfl laidOut (by kernel_rfl) rfl Tryz.underlying4 hb⟩

theorem over : Rows.ucdRowsRow.holds Tryz.pinned (OpenSpec.ofChange Rows.ucdRowsSpec) :=
  OpenClaim.holds_of_wide 4 Tryz.f4 rfl rfl rfl rfl rfl rfl rfl ⟨rfl, rfl, rfl, rfl, rfl⟩ rfl rfl rfl rfl rfl (by kernel_rfl) Tryz.func4 (by kernel_rfl)
    (of_decide_eq_true (by kernel_rfl)) (by unfold Func.isWrapper; first | (rw [if_pos (by decide +kernel)]; kernel_rfl) | (rw [if_neg (by decide +kernel)]; exact ⟨rfl, rfl⟩))
    (fun os started H enc _ => lifted os started H enc)

theorem proved : Rows.UcdRowsSaid := over
#print axioms proved
end Go.Proofs.YtaebnlmlklnbgaaGreat.ucdRows
