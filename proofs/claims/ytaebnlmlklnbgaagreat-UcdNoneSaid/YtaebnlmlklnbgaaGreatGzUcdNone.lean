/- 'typebar/typebarlaw04.UcdNone' returns true for every input, and each argument reads behind the call as it read before. No condition. -/
import Derived.Test.YtaebnlmlklnbgaaGreatGz01
import Derived.Deep.Slices
import Derived.Deep.Fields
import Derived.Test.YtaebnlmlklnbgaaGreatGz25
import Derived.Test.YtaebnlmlklnbgaaGreatGz27
namespace Go.Proofs.YtaebnlmlklnbgaaGreat
open Go.ChangeShapes Go.WideShapes Go.ChangeAt Go.RowKit Go.Deep
set_option linter.unusedVariables false
set_option linter.unusedSimpArgs false

theorem wf_i32 {a : Int} (h : (Lit.int .i32 a).wf = true) : -2147483648 ≤ a ∧ a ≤ 2147483647 := by
  simp [Lit.wf, IntKind.min, IntKind.max, IntKind.bits, IntKind.signed] at h; omega
theorem wf_i64 {a : Int} (h : (Lit.int .i64 a).wf = true) : -9223372036854775808 ≤ a ∧ a ≤ 9223372036854775807 := by
  simp [Lit.wf, IntKind.min, IntKind.max, IntKind.bits, IntKind.signed] at h; omega
theorem wf_u8 {a : Int} (h : (Lit.int .u8 a).wf = true) : 0 ≤ a ∧ a ≤ 255 := by
  simp [Lit.wf, IntKind.min, IntKind.max, IntKind.bits, IntKind.signed] at h; omega

section
variable {H : Type} {enc : TypeId × Value → H} {P : Program} {W : World} {base : Nat} {spare : Nat → Bool} {held : Bool}

/-- What a value of a type reads as, in whatever fuel. -/
def Reads (enc : TypeId × Value → H) (P : Program) (W : World) (base : Nat) (spare : Nat → Bool) (held : Bool) (T : TypeId) (v : Value) : Prop :=
  ∃ fuel y, DataW.trod enc P W base spare held fuel T [v] = some y

theorem reads_int {T : TypeId} {k : IntKind} {v : Value} (hT : P.underlying T = some (.int k)) (h : Reads enc P W base spare held T v) : ∃ x, v = .int k x ∧ (Lit.int k x).wf = true := by
  obtain ⟨fuel, y, hf⟩ := h
  obtain ⟨x, h1, _, h2⟩ := DataW.trod_int hT hf
  simp only [List.cons.injEq, and_true] at h1
  exact ⟨x, h1, h2⟩

/-- A slice that came in, its cells by the place. -/
theorem reads_slice {T E : TypeId} {v : Value} (hT : P.underlying T = some (.slice E)) (hC : P.cellsOf E = 1) (h : Reads enc P W base spare held T v) :
    ∃ A n c, ∃ V : Nat → Value, v = .slice A n c ∧ Rd W A n V ∧ (A = none → n = 0 ∧ c = 0) ∧ n ≤ c ∧ c ≤ maxLen ∧ ∀ j, j < n → Reads enc P W base spare held E (V j) := by
  obtain ⟨fuel, y, hf⟩ := h
  rcases open_slice1 hT hC hf with ⟨hcs, _⟩ | ⟨a, len, cap, m, n, V, D, Pl, hcs, _, hl, hm, hmm, _, hi⟩
  · simp only [List.cons.injEq, and_true] at hcs
    subst hcs
    exact ⟨none, 0, 0, fun _ => .nilIface, rfl, Rd.empty _ _ _, fun _ => ⟨rfl, rfl⟩, Nat.le_refl _, Nat.zero_le _, fun j hj => absurd hj (by omega)⟩
  · simp only [List.cons.injEq, and_true] at hcs
    subst hcs
    have hle : len ≤ m := by rw [hmm]; split <;> omega
    refine ⟨some a, len, cap, V, rfl, fun j hj => ?_, (fun e => by cases e), hl, hm, fun j hj => ⟨n, _, (hi j (by omega)).2⟩⟩
    have hc := (hi j (by omega)).1
    have hsp : a.spot = none := by
      have := World.cell?_spot (hi 0 (by omega)).1
      simpa [Addr.add] using this
    obtain ⟨b, off, spot⟩ := a
    simp only at hsp
    subst hsp
    rw [Go.WideShapes.add_plain] at hc
    exact ⟨b, off, rfl, World.block_lt_of_cell? _ _ hc, hc⟩

/-- A slice of structs that came in, cell by cell. -/
theorem reads_structs {T E : TypeId} {fs : Array Field} {v : Value} (hT : P.underlying T = some (.slice E)) (hE : P.underlying E = some (.struct fs)) (hone : oneCellFields P fs = true) (hC : P.cellsOf E = fs.size) (h : Reads enc P W base spare held T v) :
    ∃ A n c, ∃ V : Nat → Nat → Value, v = .slice A n c ∧ (A = none → n = 0 ∧ c = 0) ∧ n ≤ c ∧ c ≤ maxLen ∧ ∀ i, i < n → ∀ (j : Nat) (f : Field), fs[j]? = some f →
      (∃ b o, A = some ⟨b, o, none⟩ ∧ b < W.heap.size ∧ W.cell? ⟨b, o + (i * fs.size + j), none⟩ = some (V i j)) ∧ Reads enc P W base spare held f.type (V i j) := by
  obtain ⟨fuel, y, hf⟩ := h
  rcases open_slice hT hf with ⟨hcs, _⟩ | ⟨a, len, cap, m, n, D, Pl, hcs, _, hl, hm, hmm, _, hi⟩
  · simp only [List.cons.injEq, and_true] at hcs
    subst hcs
    exact ⟨none, 0, 0, fun _ _ => .nilIface, rfl, fun _ => ⟨rfl, rfl⟩, Nat.le_refl _, Nat.zero_le _, fun i hi => absurd hi (by omega)⟩
  · simp only [List.cons.injEq, and_true] at hcs
    subst hcs
    have hle : len ≤ m := by rw [hmm]; split <;> omega
    have key : ∀ i, i < len → ∀ (j : Nat) (f : Field), fs[j]? = some f → ∃ u, (∃ b o, some a = some (⟨b, o, none⟩ : Addr) ∧ b < W.heap.size ∧ W.cell? ⟨b, o + (i * fs.size + j), none⟩ = some u) ∧ Reads enc P W base spare held f.type u := by
      intro i hil j f hj
      obtain ⟨cs', hc, ht⟩ := hi i (by omega)
      rw [hC] at hc
      obtain ⟨ys, n', _, _, hlen, hyl, hff⟩ := DataW.trod_struct hE ht
      obtain ⟨_, hcl, hat⟩ := World.cells?_some hc
      obtain ⟨ho, hk⟩ := hone_of hone j f hj
      have hjl : j < fs.size := (Array.getElem?_eq_some_iff.1 hj).1
      have h1 := hff j f hj
      have e1 : (cs'.drop f.offset).take (P.cellsOf f.type) = [cs'[j]'(by omega)] := by
        rw [ho, hk, List.drop_eq_getElem_cons (by omega)]
        rfl
      rw [e1] at h1
      have hcell := hat j hjl
      rw [List.getElem?_eq_getElem (by omega)] at hcell
      refine ⟨cs'[j]'(by omega), ?_, n', _, h1.trans (List.getElem?_eq_getElem (by omega))⟩
      have hsp : a.spot = none := by
        obtain ⟨cs0, hc0, _⟩ := hi 0 (by omega)
        rw [hC] at hc0
        obtain ⟨_, hcl0, hat0⟩ := World.cells?_some hc0
        have h00 := hat0 0 (by omega)
        rw [List.getElem?_eq_getElem (by omega)] at h00
        have := World.cell?_spot h00
        simpa [Addr.add] using this
      obtain ⟨b, off, spot⟩ := a
      simp only at hsp
      subst hsp
      rw [Go.WideShapes.add_plain, Go.WideShapes.add_plain, Nat.add_assoc] at hcell
      exact ⟨b, off, rfl, World.block_lt_of_cell? _ _ hcell, hcell⟩
    refine ⟨some a, len, cap, fun i j => Classical.epsilon fun u => (∃ b o, some a = some (⟨b, o, none⟩ : Addr) ∧ b < W.heap.size ∧ W.cell? ⟨b, o + (i * fs.size + j), none⟩ = some u) ∧ ∀ f, fs[j]? = some f → Reads enc P W base spare held f.type u, rfl, (fun e => by cases e), hl, hm, fun i hil j f hj => ?_⟩
    obtain ⟨u, h1, h2⟩ := key i hil j f hj
    have := Classical.epsilon_spec (p := fun u => (∃ b o, some a = some (⟨b, o, none⟩ : Addr) ∧ b < W.heap.size ∧ W.cell? ⟨b, o + (i * fs.size + j), none⟩ = some u) ∧ ∀ f, fs[j]? = some f → Reads enc P W base spare held f.type u) ⟨u, h1, fun f' hf' => by rw [hj] at hf'; injection hf' with e; subst e; exact h2⟩
    exact ⟨this.1, this.2 f hj⟩

/-- A slice that came in as an argument. -/
theorem reads_arg {T : TypeId} {r : Reach} {b0 : Nat} {v : Value} {d : DataW H} {p : List MemPlace} {E : TypeId} (hT : P.underlying T = some (.slice E)) (hv : Value.okWide P W r b0 T v) (h : DataW.Trod enc P W base spare held T v d p) : Reads enc P W base spare held T v := by
  obtain ⟨a0, n, c, rfl⟩ := okWide_slice hT hv
  obtain ⟨fuel, hf⟩ := h
  exact ⟨fuel, _, by simpa [Value.cells] using hf⟩
end

end Go.Proofs.YtaebnlmlklnbgaaGreat

namespace Go.Proofs.YtaebnlmlklnbgaaGreat
open Go.RowKit
set_option linter.unusedVariables false
set_option linter.unusedSimpArgs false

set_option maxHeartbeats 1000000 in
theorem nclass (r : Int) (w : World) : Calls Tryz.prog 8 #[.pointer none, .int .i32 r] w fun e w' => e = .returned (.int .i64 0) ∧ w = w' := by
  go_enter Tryz.func8, Tryz.ntmps8
  go_wp2
  go_ret
  exact ⟨rfl, rfl⟩
set_option maxHeartbeats 1000000 in
theorem nconj (r : Int) (w : World) : Calls Tryz.prog 12 #[.pointer none, .int .i32 r] w fun e w' => e = .returned (.int .i64 0) ∧ w = w' := by
  go_enter Tryz.func12, Tryz.ntmps12
  go_wp2
  go_ret
  exact ⟨rfl, rfl⟩
set_option maxHeartbeats 1000000 in
theorem nsecond (r : Int) (w : World) : Calls Tryz.prog 21 #[.pointer none, .int .i32 r] w fun e w' => e = .returned (.bool false) ∧ w = w' := by
  go_enter Tryz.func21, Tryz.ntmps21
  go_wp2
  go_ret
  exact ⟨rfl, rfl⟩
set_option maxHeartbeats 1000000 in
theorem npair (r : Int) (w : World) : Calls Tryz.prog 18 #[.pointer none, .int .i32 r] w fun e w' => e = .returned (.tuple #[.int .i32 0, .int .i32 0, .bool false]) ∧ w = w' := by
  go_enter Tryz.func18, Tryz.ntmps18
  go_wp2
  refine bodyPost_ret (v := .tuple #[.int .i32 0, .int .i32 0, .bool false]) (by simp [results, Tryz.results18, go_sem]) rfl ⟨rfl, rfl⟩
set_option maxHeartbeats 1000000 in
theorem ncomp (r s : Int) (w : World) : Calls Tryz.prog 19 #[.pointer none, .int .i32 r, .int .i32 s] w fun e w' => e = .returned (.tuple #[.int .i32 0, .bool false]) ∧ w = w' := by
  go_enter Tryz.func19, Tryz.ntmps19
  go_wp2
  go_ret2
  exact ⟨rfl, rfl⟩
set_option maxHeartbeats 1000000 in
theorem nout (r : Int) (w : World) : Calls Tryz.prog 20 #[.pointer none, .int .i32 r] w fun e w' => e = .returned (.bool false) ∧ w = w' := by
  have C := Lib.hid (npair r w)
  go_enter Tryz.func20, Tryz.ntmps20
  go_wp2_with fail
  refine C.out.mono ?_
  rintro e w1 ⟨rfl, rfl⟩
  go_wp2
  go_ret
  exact ⟨rfl, rfl⟩
set_option maxHeartbeats 1000000 in
theorem nhas (r k : Int) (w : World) : Calls Tryz.prog 37 #[.pointer none, .int .i32 r, .int .i64 k] w fun e w' => e = .returned (.bool false) ∧ w = w' := by
  go_enter Tryz.func37, Tryz.ntmps37
  go_wp2
  go_ret
  exact ⟨rfl, rfl⟩
set_option maxHeartbeats 1000000 in
theorem npict (r : Int) (w : World) : Calls Tryz.prog 14 #[.pointer none, .int .i32 r] w fun e w' => e = .returned (.bool false) ∧ w = w' := by
  have C := Lib.hid (nhas r 0 w)
  go_enter Tryz.func14, Tryz.ntmps14
  go_wp2_with fail
  refine C.out.mono ?_
  rintro e w1 ⟨rfl, rfl⟩
  go_wp2
  go_ret
  exact ⟨rfl, rfl⟩
set_option maxHeartbeats 1000000 in
theorem nwide (r : Int) (w : World) : Calls Tryz.prog 15 #[.pointer none, .int .i32 r] w fun e w' => e = .returned (.bool false) ∧ w = w' := by
  have C := Lib.hid (nhas r 1 w)
  go_enter Tryz.func15, Tryz.ntmps15
  go_wp2_with fail
  refine C.out.mono ?_
  rintro e w1 ⟨rfl, rfl⟩
  go_wp2
  go_ret
  exact ⟨rfl, rfl⟩
set_option maxHeartbeats 1000000 in
theorem nletter (r : Int) (w : World) : Calls Tryz.prog 16 #[.pointer none, .int .i32 r] w fun e w' => e = .returned (.bool false) ∧ w = w' := by
  have C := Lib.hid (nhas r 2 w)
  go_enter Tryz.func16, Tryz.ntmps16
  go_wp2_with fail
  refine C.out.mono ?_
  rintro e w1 ⟨rfl, rfl⟩
  go_wp2
  go_ret
  exact ⟨rfl, rfl⟩
set_option maxHeartbeats 4000000 in
theorem nbreak (r : Int) (w : World) (r0 : -2147483648 ≤ r) (r1 : r ≤ 2147483647) : Calls Tryz.prog 10 #[.pointer none, .int .i32 r] w fun e w' => e = .returned (.int .i64 (breakB (vget 4 []) r)) ∧ w = w' := by
  have hz : at0 0 (vget 4 []) r = 0 := by unfold at0; split <;> rfl
  unfold breakB
  rw [hz]
  clear hz
  by_cases a : 44032 ≤ r
  · by_cases b : r ≤ 55203
    · rw [if_pos ⟨a, b⟩]
      have m1 : (r - 44032).tmod 28 = (r - 44032) % 28 := Int.tmod_eq_emod_of_nonneg (by omega)
      have m2 : IntKind.i32.wrap (r - 44032) = r - 44032 := IntWalk.i32_in _ (by omega)
      obtain ⟨q, hq⟩ : ∃ q, (r - 44032).tmod 28 = q := ⟨_, rfl⟩
      have q0 : 0 ≤ q ∧ q < 28 := by omega
      have m3 : IntKind.i32.wrap q = q := IntWalk.i32_in _ (by omega)
      rw [hq]
      clear m1
      by_cases c : q = 0
      · subst c
        rw [if_pos rfl]
        go_enter Tryz.func10, Tryz.ntmps10
        go_wp2
        go_ret
        exact ⟨rfl, rfl⟩
      · rw [if_neg c]
        have c' : (q == 0) = false := by simpa using c
        go_enter Tryz.func10, Tryz.ntmps10
        go_wp2
        go_ret
        exact ⟨rfl, rfl⟩
    · rw [if_neg (fun h => b h.2)]
      go_enter Tryz.func10, Tryz.ntmps10
      go_wp2
      go_ret
      exact ⟨rfl, rfl⟩
  · rw [if_neg (fun h => a h.1)]
    go_enter Tryz.func10, Tryz.ntmps10
    go_wp2
    go_ret
    exact ⟨rfl, rfl⟩
set_option maxHeartbeats 8000000 in
set_option maxRecDepth 100000 in
theorem walk_UcdNone (r : Int) (wr : (Lit.int .i32 r).wf = true) (s : Int) (ws : (Lit.int .i32 s).wf = true) (w : World) : Calls Tryz.prog 5 #[.int .i32 r, .int .i32 s] w (Yes w) := by
  have AW := Lib.hid (fun X => awake_yes X)
  have WR := Lib.hid (wf_i32 wr)
  clear wr ws
  have C0 := Lib.hid (npair r w)
  have C1 := Lib.hid (ncomp r s w)
  have C2 := Lib.hid (nbreak r w WR.out.1 WR.out.2)
  have CR := Lib.hid (rbreak_any none 0 [] r w (Li.nil _ _ _) (Nat.le_refl _) (by simp) WR.out.1 WR.out.2)
  have HZ := Lib.hid (show ¬ (44032 ≤ r ∧ r ≤ 55203) → breakB (vget 4 []) r = 0 from fun h => by unfold breakB; rw [if_neg h]; unfold at0; split <;> rfl)
  obtain ⟨n, hn⟩ : ∃ n, breakB (vget 4 []) r = n := ⟨_, rfl⟩
  rw [hn] at C2 CR HZ
  clear hn
  go_enter Tryz.func5, Tryz.ntmps5
  go_wp2_with fail
  refine C0.out.mono ?_
  rintro e w1 ⟨rfl, rfl⟩
  go_wp2_with fail
  refine C1.out.mono ?_
  rintro e w1 ⟨rfl, rfl⟩
  go_wp2_with fail
  refine C2.out.mono ?_
  rintro e w1 ⟨rfl, rfl⟩
  clear C0 C1 C2
  by_cases a : r < 44032
  · obtain rfl : n = 0 := HZ.out (by omega)
    have a' : decide (r < 44032) = true := decide_eq_true a
    clear HZ CR
    have C3 := Lib.hid (nclass r w)
    have C4 := Lib.hid (nconj r w)
    have C5 := Lib.hid (npict r w)
    have C6 := Lib.hid (nwide r w)
    have C7 := Lib.hid (nletter r w)
    have C8 := Lib.hid (nout r w)
    have C9 := Lib.hid (nsecond r w)
    go_wp2_with fail
    refine C3.out.mono ?_
    rintro e w3 ⟨rfl, rfl⟩
    clear C3
    go_wp2_with fail
    refine C4.out.mono ?_
    rintro e w4 ⟨rfl, rfl⟩
    clear C4
    go_wp2_with fail
    refine C5.out.mono ?_
    rintro e w5 ⟨rfl, rfl⟩
    clear C5
    go_wp2_with fail
    refine C6.out.mono ?_
    rintro e w6 ⟨rfl, rfl⟩
    clear C6
    go_wp2_with fail
    refine C7.out.mono ?_
    rintro e w7 ⟨rfl, rfl⟩
    clear C7
    go_wp2_with fail
    refine C8.out.mono ?_
    rintro e w8 ⟨rfl, rfl⟩
    clear C8
    go_wp2_with fail
    refine C9.out.mono ?_
    rintro e w9 ⟨rfl, rfl⟩
    clear C9
    have C10 := Lib.hid (AW.out w)
    go_wp2_with fail
    refine C10.out.mono ?_
    rintro e w10 ⟨rfl, hb⟩
    have HE := Lib.hid hb
    clear hb C10
    go_wp2
    go_ret
    exact ⟨rfl, HE.out⟩
  · by_cases b : 55203 < r
    · obtain rfl : n = 0 := HZ.out (by omega)
      have b' : decide (55203 < r) = true := decide_eq_true b
      clear HZ CR
      have C3 := Lib.hid (nclass r w)
      have C4 := Lib.hid (nconj r w)
      have C5 := Lib.hid (npict r w)
      have C6 := Lib.hid (nwide r w)
      have C7 := Lib.hid (nletter r w)
      have C8 := Lib.hid (nout r w)
      have C9 := Lib.hid (nsecond r w)
      go_wp2_with fail
      refine C3.out.mono ?_
      rintro e w3 ⟨rfl, rfl⟩
      clear C3
      go_wp2_with fail
      refine C4.out.mono ?_
      rintro e w4 ⟨rfl, rfl⟩
      clear C4
      go_wp2_with fail
      refine C5.out.mono ?_
      rintro e w5 ⟨rfl, rfl⟩
      clear C5
      go_wp2_with fail
      refine C6.out.mono ?_
      rintro e w6 ⟨rfl, rfl⟩
      clear C6
      go_wp2_with fail
      refine C7.out.mono ?_
      rintro e w7 ⟨rfl, rfl⟩
      clear C7
      go_wp2_with fail
      refine C8.out.mono ?_
      rintro e w8 ⟨rfl, rfl⟩
      clear C8
      go_wp2_with fail
      refine C9.out.mono ?_
      rintro e w9 ⟨rfl, rfl⟩
      clear C9
      have C10 := Lib.hid (AW.out w)
      go_wp2_with fail
      refine C10.out.mono ?_
      rintro e w10 ⟨rfl, hb⟩
      have HE := Lib.hid hb
      clear hb C10
      go_wp2
      go_ret
      exact ⟨rfl, HE.out⟩
    · have a' : decide (r < 44032) = false := decide_eq_false a
      have b' : decide (55203 < r) = false := decide_eq_false b
      clear HZ
      go_wp2_with fail
      refine CR.out.mono ?_
      rintro e w1 ⟨rfl, rfl⟩
      clear CR
      have C3 := Lib.hid (nclass r w)
      have C4 := Lib.hid (nconj r w)
      have C5 := Lib.hid (npict r w)
      have C6 := Lib.hid (nwide r w)
      have C7 := Lib.hid (nletter r w)
      have C8 := Lib.hid (nout r w)
      have C9 := Lib.hid (nsecond r w)
      go_wp2_with fail
      refine C3.out.mono ?_
      rintro e w3 ⟨rfl, rfl⟩
      clear C3
      go_wp2_with fail
      refine C4.out.mono ?_
      rintro e w4 ⟨rfl, rfl⟩
      clear C4
      go_wp2_with fail
      refine C5.out.mono ?_
      rintro e w5 ⟨rfl, rfl⟩
      clear C5
      go_wp2_with fail
      refine C6.out.mono ?_
      rintro e w6 ⟨rfl, rfl⟩
      clear C6
      go_wp2_with fail
      refine C7.out.mono ?_
      rintro e w7 ⟨rfl, rfl⟩
      clear C7
      go_wp2_with fail
      refine C8.out.mono ?_
      rintro e w8 ⟨rfl, rfl⟩
      clear C8
      go_wp2_with fail
      refine C9.out.mono ?_
      rintro e w9 ⟨rfl, rfl⟩
      clear C9
      have C10 := Lib.hid (AW.out w)
      go_wp2_with fail
      refine C10.out.mono ?_
      rintro e w10 ⟨rfl, hb⟩
      have HE := Lib.hid hb
      clear hb C10
      go_wp2
      go_ret
      exact ⟨rfl, HE.out⟩
end Go.Proofs.YtaebnlmlklnbgaaGreat

namespace Go.Proofs.YtaebnlmlklnbgaaGreat.ucdNone
open Go.ChangeShapes Go.WideShapes Go.ChangeAt Go.RowKit Go.WideMaps Go.WideElems
open Go.ChangeMaps (open_string)

theorem own : ownKnob Tryz.prog.godebug = none := by kernel_rfl
theorem laidOut : laidOutB Tryz.prog = true := by kernel_rfl

set_option linter.unusedVariables false in
set_option maxRecDepth 100000 in
theorem lifted (os : Os) (started : os.Started) (H : Type) (enc : TypeId × Value → H) :
    ReturnsInHanded {} Tryz.checked os 5 .any (Rows.ucdNoneSpec.pre6 enc Tryz.prog Tryz.f5 Rows.ucdNoneRow.domain false) (Rows.ucdNoneSpec.post enc Tryz.prog Tryz.f5 false true false false) := by
  refine returnsInHanded_of_change (C := Tryz.checked) own started (by kernel_rfl) Tryz.func5
    (ChangeSpec.witness6 (enc := enc) (C := Tryz.checked) false ⟨#[], #[.int .i32 0, .int .i32 0], []⟩ 8 (by kernel_rfl) (by kernel_rfl) (by kernel_rfl) (by kernel_rfl)) ?_
  intro W base args ds gs before hval0 hW hcnd _
  have hval : ∀ (j : Nat) t v, Tryz.f5.params[j]? = some t → args[j]? = some v → Value.okWide Tryz.prog W .any base t v := hval0
  have hW' := hW
  obtain ⟨p, q, hA0, hV, rfl, hfz, hnd⟩ := hW
  have hA : DataW.TrodAll enc Tryz.prog W 0 (fun _ => true) true Tryz.f5.params.toList args.toList ds p := hA0
  rw [Tryz.params5] at hA hval
  obtain ⟨v0, vs0, d0, ds0, p0, q0, hargs, rfl, rfl, h0, r0⟩ := trodAll_cons hA
  obtain ⟨v1, vs1, d1, ds1, p1, q1, rfl, rfl, rfl, h1, r1⟩ := trodAll_cons r0
  obtain ⟨rfl, rfl, rfl⟩ := trodAll_nil r1
  obtain rfl : args = #[v0, v1] := by cases args; simp_all
  obtain ⟨rfl, rfl⟩ := trodVars_none hV
  obtain ⟨a0, rfl, rfl, rfl, w0⟩ := open_int Tryz.underlying21 (hval 0 21 v0 rfl rfl) h0
  obtain ⟨a1, rfl, rfl, rfl, w1⟩ := open_int Tryz.underlying21 (hval 1 21 v1 rfl rfl) h1
  refine (walk_UcdNone a0 w0 a1 w1 W).mono fun e W' ⟨he, hb⟩ => ?_
  subst he
  exact ⟨_, rfl, law_post hW' rfl rfl rfl rfl laidOut (by kernel_rfl) rfl Tryz.underlying4 hb⟩

theorem over : Rows.ucdNoneRow.holds Tryz.pinned (OpenSpec.ofChange Rows.ucdNoneSpec) :=
  OpenClaim.holds_of_wide 5 Tryz.f5 rfl rfl rfl rfl rfl rfl rfl ⟨rfl, rfl, rfl, rfl, rfl⟩ rfl rfl rfl rfl rfl (by kernel_rfl) Tryz.func5 (by kernel_rfl)
    (of_decide_eq_true (by kernel_rfl)) (by unfold Func.isWrapper; first | (rw [if_pos (by decide +kernel)]; kernel_rfl) | (rw [if_neg (by decide +kernel)]; exact ⟨rfl, rfl⟩))
    (fun os started H enc _ => lifted os started H enc)

theorem proved : Rows.UcdNoneSaid := over
#print axioms proved
end Go.Proofs.YtaebnlmlklnbgaaGreat.ucdNone
