/- 'typebar/typebarlaw04.UcdPairs' returns true for every input, and each argument reads behind the call as it read before. No condition. -/
import Derived.Test.YtaebnlmlklnbgaaGa15
import Derived.Test.YtaebnlmlklnbgaaGa21
import Derived.Test.YtaebnlmlklnbgaaGa25
import Derived.Test.YtaebnlmlklnbgaaGa08
namespace Go.Proofs.Ytaebnlmlklnbgaa
open Go.RowKit
set_option linter.unusedVariables false
set_option linter.unusedSimpArgs false

set_option maxHeartbeats 4000000 in
theorem break_any {g : Int → Int} {tp t : Nat} {W : World} (k : W.cell? ⟨tp, 1, none⟩ = some (.pointer (some ⟨t, 0, none⟩))) (h : IsT g t W) (r : Int) (h0 : -2147483648 ≤ r) (h1 : r ≤ 2147483647) :
    Calls Try.prog 34 #[.pointer (some ⟨tp, 0, none⟩), .int .i32 r] W (fun e w' => e = .returned (.int .i64 (breakB g r)) ∧ Below W.heap.size W w') := by
  have C := Lib.hid (getT_any h r)
  clear h
  unfold breakB
  obtain ⟨y, hy⟩ : ∃ y, at0 0 g r = y := ⟨_, rfl⟩
  rw [hy] at C ⊢
  clear hy
  by_cases a : 44032 ≤ r
  · by_cases b : r ≤ 55203
    · rw [if_pos ⟨a, b⟩]
      have m1 : (r - 44032).tmod 28 = (r - 44032) % 28 := Int.tmod_eq_emod_of_nonneg (by omega)
      have m2 : IntKind.i32.wrap (r - 44032) = r - 44032 := IntWalk.i32_in _ (by omega)
      obtain ⟨q, hq⟩ : ∃ q, (r - 44032).tmod 28 = q := ⟨_, rfl⟩
      have q0 : 0 ≤ q ∧ q < 28 := by omega
      have m3 : IntKind.i32.wrap q = q := IntWalk.i32_in _ (by omega)
      rw [hq]
      clear m1 C
      by_cases c : q = 0
      · subst c
        rw [if_pos rfl]
        go_enter Try.func34, Try.ntmps34
        go_wp2
        go_ret
        exact ⟨rfl, Below.refl _ _⟩
      · rw [if_neg c]
        have c' : (q == 0) = false := by simpa using c
        go_enter Try.func34, Try.ntmps34
        go_wp2
        go_ret
        exact ⟨rfl, Below.refl _ _⟩
    · rw [if_neg (fun h => b h.2)]
      go_enter Try.func34, Try.ntmps34
      go_wp2_with fail
      refine C.out.mono ?_
      rintro e w1 ⟨rfl, hb⟩
      go_wp2
      go_ret
      exact ⟨rfl, hb⟩
  · rw [if_neg (fun h => a h.1)]
    go_enter Try.func34, Try.ntmps34
    go_wp2_with fail
    refine C.out.mono ?_
    rintro e w1 ⟨rfl, hb⟩
    go_wp2
    go_ret
    exact ⟨rfl, hb⟩
end Go.Proofs.Ytaebnlmlklnbgaa

namespace Go.Proofs.Ytaebnlmlklnbgaa
open Go.RowKit
set_option linter.unusedVariables false
set_option linter.unusedSimpArgs false

theorem ubreak {lo hi : Nat} {L : List RW.Row} {tp : Nat} {W : World} (h : Ucd lo hi L tp W) (r : Int) (r0 : -2147483648 ≤ r) (r1 : r ≤ 2147483647) :
    Calls Try.prog 34 #[.pointer (some ⟨tp, 0, none⟩), .int .i32 r] W (fun e w' => e = .returned (.int .i64 (breakB (vget 4 L) r)) ∧ Below W.heap.size W w') := by
  obtain ⟨t0, t1, t2, t3, t4, t5, b6, b7, h⟩ := h
  obtain ⟨g1, e1, f1⟩ := h.h1
  have := break_any (h.blk.2.1 1) e1.is r r0 r1
  unfold breakB at this ⊢
  rwa [at0_congr f1 r] at this
end Go.Proofs.Ytaebnlmlklnbgaa

namespace Go.Proofs.Ytaebnlmlklnbgaa
open Go.RowKit
set_option linter.unusedVariables false
set_option linter.unusedSimpArgs false

theorem tbreak {T : List RW.Row} {tp : Nat} {W : World} (h : Tabs T tp W) (r : Int) (r0 : -2147483648 ≤ r) (r1 : r ≤ 2147483647) :
    Calls Try.prog 34 #[.pointer (some ⟨tp, 0, none⟩), .int .i32 r] W (fun e w' => e = .returned (.int .i64 (breakB (vget 4 T) r)) ∧ Below W.heap.size W w') := by
  obtain ⟨lo, hi, _, h⟩ := h
  exact ubreak h r r0 r1
end Go.Proofs.Ytaebnlmlklnbgaa

namespace Go.Proofs.Ytaebnlmlklnbgaa
open Go.RowKit Go.Maps
set_option linter.unusedVariables false
set_option linter.unusedSimpArgs false

set_option maxHeartbeats 2000000 in
theorem compose_any {l : TP.V2 → Option Int} {tp b n : Nat} {W : World} (k : W.cell? ⟨tp, 6, none⟩ = some (.map (some b))) (h : Mp W b n l) (x y : Int) (hx : TP.WV (x, y)) :
    Calls Try.prog 14 #[.pointer (some ⟨tp, 0, none⟩), .int .i32 x, .int .i32 y] W (fun e w' => e = .returned (.tuple #[.int .i32 ((l (x, y)).getD 0), .bool (l (x, y)).isSome]) ∧ Below W.heap.size W w') := by
  have HL : (Instr.lookup 42 (.map (some b)) (.agg #[.int .i32 x, .int .i32 y]) true).run Try.prog W = .ok (.tuple #[.int .i32 ((l (x, y)).getD 0), .bool (l (x, y)).isSome]) W := by
    have e := h.look hx
    dsimp only [TP.vV] at e
    exact e
  clear h
  go_enter Try.func14, Try.ntmps14
  go_wp2
  go_ret2
  exact ⟨rfl, Below.refl _ _⟩
end Go.Proofs.Ytaebnlmlklnbgaa

namespace Go.Proofs.Ytaebnlmlklnbgaa
open Go.RowKit
set_option linter.unusedVariables false
set_option linter.unusedSimpArgs false

theorem tcomp {T : List RW.Row} {tp : Nat} {W : World} (h : Tabs T tp W) (ho : oneB T = true) (x y : Int) (hx : TP.WV (x, y)) :
    Calls Try.prog 14 #[.pointer (some ⟨tp, 0, none⟩), .int .i32 x, .int .i32 y] W (fun e w' => e = .returned (.tuple #[.int .i32 (RW.compR T x y).1, .bool (RW.compR T x y).2]) ∧ Below W.heap.size W w') := by
  obtain ⟨l, c, b6, b7, n6, n7, hc, k6, m6, _, _⟩ := h.said
  rw [compR_eq ho hc x y]
  exact compose_any k6 m6 x y hx
/-- What is composed is decomposed into the same. -/
theorem comp_back {T : List RW.Row} {tp : Nat} {W : World} (h : Tabs T tp W) (ho : oneB T = true) (x y : Int) : ((RW.compR T x y).2 = true → at0 (0, 0) (pget2 T) (RW.compR T x y).1 = (x, y) ∧ outT T (RW.compR T x y).1 = false ∧ y ≠ 0 ∧ 0 ≤ (RW.compR T x y).1 ∧ (RW.compR T x y).1 ≤ 1114111) ∧ ((RW.compR T x y).2 = false → (RW.compR T x y).1 = 0) := by
  obtain ⟨l, c, b6, b7, n6, n7, hc, _⟩ := h.said
  rw [compR_eq ho hc x y]
  cases hl : l (x, y) with
  | none => exact ⟨fun h => (by cases h), fun _ => rfl⟩
  | some r =>
    obtain ⟨h1, ⟨r0, r1⟩, h3, h4, _⟩ := hc.yes _ _ hl
    exact ⟨fun _ => ⟨(pget2_at r0 r1).trans h3, h4, h1, r0, r1⟩, fun h => (by cases h)⟩
end Go.Proofs.Ytaebnlmlklnbgaa

namespace Go.Proofs.Ytaebnlmlklnbgaa
open Go.RowKit
set_option linter.unusedVariables false
set_option linter.unusedSimpArgs false

def Yes (w : World) (e : Ending) (w' : World) : Prop := e = .returned (.bool true) ∧ Below w.heap.size w w'
set_option maxHeartbeats 8000000 in
set_option maxRecDepth 100000 in
theorem awake_yes (w : World) : Calls Try.prog 13 #[] w (Yes w) := by
  obtain ⟨T, hG, _, C0⟩ := rows_li w
  have HG := Lib.hid hG
  have C0 := Lib.hid C0
  clear hG
  go_enter Try.func13, Try.ntmps13
  go_wp2_with fail
  refine C0.out.mono ?_
  rintro e w1 ⟨A, c, rfl, hL, hc, hm, hb1⟩
  have C1 := Lib.hid (build_tabs A c T w1 (hL.mono fun _ _ => trivial) hc HG.out)
  have B1 := Lib.hid hb1
  clear C0 hL hb1
  go_wp2_with fail
  refine C1.out.mono ?_
  rintro e w2 ⟨tp, rfl, hU, hb2⟩
  have U2 := Lib.hid (And.intro hU (B1.out.trans (hb2.mono B1.out.size)))
  clear hU hb2 C1 B1
  have c2 := tpair U2.out.1 233 (by omega) (by omega)
  rw [HG.out.pair] at c2
  have C2 := Lib.hid c2
  clear c2
  go_wp2_with fail
  refine C2.out.mono ?_
  rintro e w3 ⟨rfl, hb⟩
  have U3 := Lib.hid (And.intro (U2.out.1.later hb) (U2.out.2.trans (hb.mono U2.out.2.size)))
  clear hb C2 U2
  have c3 := tcomp U3.out.1 HG.out.one 101 769 ⟨rfl, rfl⟩
  rw [HG.out.comp] at c3
  have C3 := Lib.hid c3
  clear c3
  dsimp only
  go_wp2_with fail
  refine C3.out.mono ?_
  rintro e w4 ⟨rfl, hb⟩
  have U4 := Lib.hid (And.intro (U3.out.1.later hb) (U3.out.2.trans (hb.mono U3.out.2.size)))
  clear hb C3 U3
  have c4 := tclass U4.out.1 769 (by omega) (by omega)
  rw [HG.out.cls] at c4
  have C4 := Lib.hid c4
  clear c4
  go_wp2_with fail
  refine C4.out.mono ?_
  rintro e w5 ⟨rfl, hb⟩
  have U5 := Lib.hid (And.intro (U4.out.1.later hb) (U4.out.2.trans (hb.mono U4.out.2.size)))
  clear hb C4 U4
  have c5 := tout U5.out.1 8491 (by omega) (by omega)
  rw [HG.out.out] at c5
  have C5 := Lib.hid c5
  clear c5
  go_wp2_with fail
  refine C5.out.mono ?_
  rintro e w6 ⟨rfl, hb⟩
  have U6 := Lib.hid (And.intro (U5.out.1.later hb) (U5.out.2.trans (hb.mono U5.out.2.size)))
  clear hb C5 U5
  have c6 := tbreak U6.out.1 44032 (by omega) (by omega)
  rw [HG.out.brk] at c6
  have C6 := Lib.hid c6
  clear c6
  go_wp2_with fail
  refine C6.out.mono ?_
  rintro e w7 ⟨rfl, hb⟩
  have U7 := Lib.hid (U6.out.2.trans (hb.mono U6.out.2.size))
  clear hb C6 U6
  go_wp2
  go_ret
  exact ⟨rfl, U7.out⟩
end Go.Proofs.Ytaebnlmlklnbgaa

namespace Go.Proofs.Ytaebnlmlklnbgaa
open Go.RowKit Go.Maps
set_option linter.unusedVariables false
set_option linter.unusedSimpArgs false

set_option maxHeartbeats 2000000 in
theorem second_any {c : Int → Int} {tp b n : Nat} {W : World} (k : W.cell? ⟨tp, 7, none⟩ = some (.map (some b))) (h : Ms W b n c) (r : Int) (hr : (Lit.int .i32 r).wf = true) :
    Calls Try.prog 11 #[.pointer (some ⟨tp, 0, none⟩), .int .i32 r] W (fun e w' => e = .returned (.bool (decide (0 < c r))) ∧ Below W.heap.size W w') := by
  have HL := (h.look hr).1
  clear h hr
  go_enter Try.func11, Try.ntmps11
  go_wp2
  go_ret
  exact ⟨rfl, Below.refl _ _⟩
end Go.Proofs.Ytaebnlmlklnbgaa

namespace Go.Proofs.Ytaebnlmlklnbgaa
open Go.RowKit
set_option linter.unusedVariables false
set_option linter.unusedSimpArgs false

theorem tsecond {T : List RW.Row} {tp : Nat} {W : World} (h : Tabs T tp W) (ho : oneB T = true) (r : Int) (hr : (Lit.int .i32 r).wf = true) :
    Calls Try.prog 11 #[.pointer (some ⟨tp, 0, none⟩), .int .i32 r] W (fun e w' => e = .returned (.bool (RW.secR T r)) ∧ Below W.heap.size W w') := by
  obtain ⟨l, c, b6, b7, n6, n7, hc, _, _, k7, m7⟩ := h.said
  rw [secR_eq ho hc r]
  exact second_any k7 m7 r hr
end Go.Proofs.Ytaebnlmlklnbgaa

namespace Go.Proofs.Ytaebnlmlklnbgaa.RW
open Go.RowKit
set_option linter.unusedVariables false
set_option linter.unusedSimpArgs false

def fIdx (L : List Row) (kind r : Int) : Nat := L.findIdx (Row.has kind r)
def findV (L : List Row) (kind r : Int) : Int := if 0 ≤ r ∧ r ≤ MS ∧ fIdx L kind r < L.length then (fIdx L kind r : Int) else -1
theorem fIdx_at {L : List Row} {kind r : Int} {k : Nat} {x : Row} (hx : L[k]? = some x) (h : Row.has kind r x = true) (hn : ∀ j y, j < k → L[j]? = some y → Row.has kind r y = false) : fIdx L kind r = k := by
  obtain ⟨hk, e⟩ := List.getElem?_eq_some_iff.1 hx
  unfold fIdx
  rw [List.findIdx_eq hk]
  exact ⟨by rw [e]; exact h, fun j hj => hn j _ hj (List.getElem?_eq_getElem (by omega))⟩
theorem fIdx_no {L : List Row} {kind r : Int} (hn : ∀ j y, j < L.length → L[j]? = some y → Row.has kind r y = false) : fIdx L kind r = L.length := by
  unfold fIdx
  rw [List.findIdx_eq_length]
  intro y hy
  obtain ⟨j, hj, e⟩ := List.getElem_of_mem hy
  exact hn j y hj (by rw [List.getElem?_eq_getElem hj, e])

set_option maxHeartbeats 4000000 in
theorem find_any (A : Option Addr) (c : Nat) (L : List Row) (kind r : Int) (w : World) (hL : Li 5 encR w (fun _ => True) A L) (hc : L.length ≤ c) (hn : L.length ≤ 100000) :
    Calls Try.prog 30 #[.slice A L.length c, .int .i64 kind, .int .i64 r] w fun e w' => e = .returned (.int .i64 (findV L kind r)) ∧ w = w' := by
  by_cases hr : 0 ≤ r ∧ r ≤ 1114111
  · obtain ⟨h1, h2⟩ := hr
    have g1 : decide (r < 0) = false := decide_eq_false (by omega)
    have g2 : decide ((1114111 : Int) < r) = false := decide_eq_false (by omega)
    have HL := Lib.hid hL
    have HV := Lib.hid (show (∀ (k : Nat) (x : Row), L[k]? = some x → Row.has kind r x = true → (∀ (j : Nat) (y : Row), j < k → L[j]? = some y → Row.has kind r y = false) → findV L kind r = k) ∧ ((∀ (j : Nat) (y : Row), j < L.length → L[j]? = some y → Row.has kind r y = false) → findV L kind r = -1) from
      ⟨fun k x a b d => by rw [findV, fIdx_at a b d, if_pos ⟨h1, h2, (List.getElem?_eq_some_iff.1 a).1⟩], fun a => by rw [findV, fIdx_no a, if_neg (by omega)]⟩)
    clear hL
    go_enter Try.func30, Try.ntmps30
    go_wp2
    go_loop [7] (fun i => ∃ k : Nat, k ≤ L.length ∧ i = .int .i64 k ∧ Hid (∀ (j : Nat) (y : Row), j < k → L[j]? = some y → Row.has kind r y = false)) (fun i => L.length - (intOf i).toNat)
    case atStart => exact ⟨0, Nat.zero_le _, rfl, fun j y h => absurd h (by omega)⟩
    case round =>
      obtain ⟨k, hk, rfl, HN⟩ := hrel
      by_cases hlt : k < L.length
      · obtain ⟨x, b, o, hx, rfl, hbl, _, c0, c1, c2, c3, c4⟩ := HL.out.row hlt
        have HX := Lib.hid hx
        have step : Row.has kind r x = false → ∀ (j : Nat) (y : Row), j < k + 1 → L[j]? = some y → Row.has kind r y = false := fun h j y hj hy => by
          by_cases e : j = k
          · subst e; rw [HX.out] at hy; injection hy with hy; subst hy; exact h
          · exact HN.out j y (by omega) hy
        have HS := Lib.hid step
        clear hx step c3 c4
        by_cases e1 : x.k = kind
        · have d1 : (x.k == kind) = true := by simpa using e1
          by_cases e2 : x.f ≤ r
          · by_cases e3 : r ≤ x.t
            · have HR := Lib.hid (HV.out.1 k x HX.out (by simp [Row.has, e1, e2, e3]) HN.out)
              have d2 : decide (x.f ≤ r) = true := decide_eq_true e2
              have d3 : decide (r ≤ x.t) = true := decide_eq_true e3
              clear e1
              go_wp2
              go_ret
              exact ⟨by rw [HR.out] <;> rfl, rfl⟩
            · have HR := Lib.hid (HS.out (by simp [Row.has]; omega))
              have d2 : decide (x.f ≤ r) = true := decide_eq_true e2
              have d3 : decide (r ≤ x.t) = false := decide_eq_false e3
              clear e1
              go_wp2
              go_round
              case rel => exact ⟨k + 1, by omega, by go_num, HR.out⟩
              case measure => simp [intOf]; omega
          · have HR := Lib.hid (HS.out (by simp [Row.has]; omega))
            have d2 : decide (x.f ≤ r) = false := decide_eq_false e2
            clear e1
            go_wp2
            go_round
            case rel => exact ⟨k + 1, by omega, by go_num, HR.out⟩
            case measure => simp [intOf]; omega
        · have HR := Lib.hid (HS.out (by simp [Row.has, e1]))
          have d1 : (x.k == kind) = false := by simpa using e1
          clear e1
          go_wp2
          go_round
          case rel => exact ⟨k + 1, by omega, by go_num, HR.out⟩
          case measure => simp [intOf]; omega
      · obtain rfl : k = L.length := by omega
        have HR := Lib.hid (HV.out.2 HN.out)
        clear hlt
        go_wp2
        go_ret
        exact ⟨by rw [HR.out] <;> rfl, rfl⟩
  · have HV := Lib.hid (show findV L kind r = -1 from by rw [findV, if_neg fun h => hr ⟨h.1, h.2.1⟩])
    have hr2 : r < 0 ∨ (0 ≤ r ∧ 1114111 < r) := by omega
    clear hL hr
    rcases hr2 with h | ⟨h, h'⟩
    all_goals
      go_enter Try.func30, Try.ntmps30
      go_wp2
      go_ret
      exact ⟨by rw [HV.out] <;> rfl, rfl⟩
end Go.Proofs.Ytaebnlmlklnbgaa.RW

namespace Go.Proofs.Ytaebnlmlklnbgaa.RW
open Go.RowKit
set_option linter.unusedVariables false
set_option linter.unusedSimpArgs false

theorem find_idx {α : Type} (p : α → Bool) : ∀ L : List α, L.find? p = L[L.findIdx p]?
  | [] => rfl
  | x :: L => by
    rw [List.findIdx_cons]
    by_cases h : p x = true
    · rw [List.find?_cons_of_pos h, h]; rfl
    · have h' : p x = false := by simpa using h
      rw [List.find?_cons_of_neg h, find_idx p L, h']
      rfl
theorem findV_rin (L : List Row) (kind r : Int) : (findV L kind r = -1 ∧ rin kind L r = none) ∨ ∃ (k : Nat) (x : Row), findV L kind r = (k : Int) ∧ L[k]? = some x ∧ rin kind L r = some (x.a, x.b) := by
  unfold findV rin rval
  by_cases h : 0 ≤ r ∧ r ≤ 1114111
  · rw [if_pos h, find_idx]
    by_cases hk : fIdx L kind r < L.length
    · right
      refine ⟨fIdx L kind r, L[fIdx L kind r], ?_, List.getElem?_eq_getElem hk, ?_⟩
      · rw [if_pos ⟨h.1, h.2, hk⟩]
      · rw [show L[List.findIdx (Row.has kind r) L]? = some L[fIdx L kind r] from List.getElem?_eq_getElem hk]
        rfl
    · left
      refine ⟨if_neg fun h' => hk h'.2.2, ?_⟩
      rw [show L[List.findIdx (Row.has kind r) L]? = none from List.getElem?_eq_none (by unfold fIdx at hk; omega)]
      rfl
  · left
    exact ⟨if_neg fun h' => h ⟨h'.1, h'.2.1⟩, if_neg h⟩

set_option maxHeartbeats 4000000 in
theorem a_any (A : Option Addr) (c : Nat) (L : List Row) (kind r : Int) (w : World) (hL : Li 5 encR w (fun _ => True) A L) (hc : L.length ≤ c) (hn : L.length ≤ 100000) :
    Calls Try.prog 52 #[.slice A L.length c, .int .i64 kind, .int .i64 r] w fun e w' => e = .returned (.int .i64 (aR L kind r)) ∧ w = w' := by
  have C := Lib.hid (find_any A c L kind r w hL hc hn)
  unfold aR
  rcases findV_rin L kind r with ⟨h1, h2⟩ | ⟨k, x, h1, hx, h2⟩
  · rw [h1] at C
    rw [h2]
    clear hL h1 h2
    go_enter Try.func52, Try.ntmps52
    go_wp2_with fail
    refine C.out.mono ?_
    rintro e w1 ⟨rfl, rfl⟩
    go_wp2
    go_ret
    exact ⟨rfl, rfl⟩
  · rw [h1] at C
    rw [h2]
    have hlt : k < L.length := (List.getElem?_eq_some_iff.1 hx).1
    obtain ⟨x', b, o, hx', rfl, hbl, _, c0, c1, c2, c3, c4⟩ := hL.row hlt
    obtain rfl : x = x' := Option.some.inj (hx.symm.trans hx')
    clear hL h1 h2 hx hx' c0 c1 c2 c4
    have g0 : decide ((k : Int) < 0) = false := decide_eq_false (by omega)
    have g1 : (0 : Int) ≤ (k : Int) := by omega
    have g2 : (k : Int) < (L.length : Int) := by omega
    go_enter Try.func52, Try.ntmps52
    go_wp2_with fail
    refine C.out.mono ?_
    rintro e w1 ⟨rfl, rfl⟩
    go_wp2
    go_ret
    exact ⟨rfl, rfl⟩
set_option maxHeartbeats 1000000 in
theorem ofR_any (A : Option Addr) (c : Nat) (L : List Row) (kind r : Int) (w : World) (hL : Li 5 encR w (fun _ => True) A L) (hc : L.length ≤ c) (hn : L.length ≤ 100000) (r0 : -2147483648 ≤ r) (r1 : r ≤ 2147483647) :
    Calls Try.prog 33 #[.slice A L.length c, .int .i64 kind, .int .i32 r] w fun e w' => e = .returned (.int .i64 (aR L kind r)) ∧ w = w' := by
  have C := Lib.hid (a_any A c L kind r w hL hc hn)
  clear hL
  go_enter Try.func33, Try.ntmps33
  go_wp2_with fail
  refine C.out.mono ?_
  rintro e w1 ⟨rfl, rfl⟩
  go_wp2
  go_ret
  exact ⟨rfl, rfl⟩
end Go.Proofs.Ytaebnlmlklnbgaa.RW

namespace Go.Proofs.Ytaebnlmlklnbgaa.RW
open Go.RowKit
set_option linter.unusedVariables false
set_option linter.unusedSimpArgs false

set_option maxHeartbeats 4000000 in
theorem pairR_any (A : Option Addr) (c : Nat) (L : List Row) (r : Int) (w : World) (hL : Li 5 encR w (fun _ => True) A L) (hc : L.length ≤ c) (hn : L.length ≤ 100000) (r0 : -2147483648 ≤ r) (r1 : r ≤ 2147483647) :
    Calls Try.prog 8 #[.slice A L.length c, .int .i32 r] w fun e w' => e = .returned (.tuple #[.int .i32 (pairR L r).1, .int .i32 (pairR L r).2.1, .bool (pairR L r).2.2]) ∧ Below w.heap.size w w' := by
  have C := Lib.hid (find_any A c L 2 r w hL hc hn)
  unfold pairR
  rcases findV_rin L 2 r with ⟨h1, h2⟩ | ⟨k, x, h1, hx, h2⟩
  · rw [h1] at C
    rw [h2]
    clear hL h1 h2
    go_enter Try.func8, Try.ntmps8
    go_wp2_with fail
    refine C.out.mono ?_
    rintro e w1 ⟨rfl, rfl⟩
    go_wp2
    refine bodyPost_ret (v := .tuple #[.int .i32 0, .int .i32 0, .bool false]) (by simp [results, Try.results8, go_sem]) rfl ⟨rfl, Below.refl _ _⟩
  · rw [h1] at C
    rw [h2]
    have hlt : k < L.length := (List.getElem?_eq_some_iff.1 hx).1
    obtain ⟨x', b, o, hx', rfl, hbl, _, c0, c1, c2, c3, c4⟩ := hL.row hlt
    obtain rfl : x = x' := Option.some.inj (hx.symm.trans hx')
    clear hL h1 h2 hx hx' c0 c1 c2
    have g0 : decide ((k : Int) < 0) = false := decide_eq_false (by omega)
    have g1 : (0 : Int) ≤ (k : Int) := by omega
    have g2 : (k : Int) < (L.length : Int) := by omega
    obtain ⟨xk, xf, xt, a, b'⟩ := x
    dsimp only at c3 c4 ⊢
    by_cases ha : a = 0
    · subst ha
      by_cases hb : b' = 0
      · subst hb
        rw [if_pos ⟨rfl, rfl⟩]
        go_enter Try.func8, Try.ntmps8
        go_wp2_with fail
        refine C.out.mono ?_
        rintro e w1 ⟨rfl, rfl⟩
        go_wp2
        refine bodyPost_ret (v := .tuple #[.int .i32 0, .int .i32 0, .bool false]) (by simp [results, Try.results8, go_sem]) rfl ⟨rfl, Below.refl _ _⟩
      · rw [if_neg fun h => hb h.2]
        have d : (b' == 0) = false := by simpa using hb
        obtain ⟨q, hq⟩ : ∃ q, IntKind.i32.wrap b' = q := ⟨_, rfl⟩
        rw [hq]
        go_enter Try.func8, Try.ntmps8
        go_wp2_with fail
        refine C.out.mono ?_
        rintro e w1 ⟨rfl, rfl⟩
        go_wp2
        go_quiet (fail)
        go_wp2
        refine bodyPost_ret (v := .tuple #[.int .i32 0, .int .i32 q, .bool true]) (by simp [results, Try.results8, go_sem]) rfl ⟨rfl, selfDrew _ _⟩
    · rw [if_neg fun h => ha h.1]
      have d : (a == 0) = false := by simpa using ha
      obtain ⟨p, hp⟩ : ∃ p, IntKind.i32.wrap a = p := ⟨_, rfl⟩
      obtain ⟨q, hq⟩ : ∃ q, IntKind.i32.wrap b' = q := ⟨_, rfl⟩
      rw [hp, hq]
      go_enter Try.func8, Try.ntmps8
      go_wp2_with fail
      refine C.out.mono ?_
      rintro e w1 ⟨rfl, rfl⟩
      go_wp2
      go_quiet (fail)
      go_wp2
      refine bodyPost_ret (v := .tuple #[.int .i32 p, .int .i32 q, .bool true]) (by simp [results, Try.results8, go_sem]) rfl ⟨rfl, selfDrew _ _⟩
set_option maxHeartbeats 4000000 in
theorem outR_any (A : Option Addr) (c : Nat) (L : List Row) (r : Int) (w : World) (hL : Li 5 encR w (fun _ => True) A L) (hc : L.length ≤ c) (hn : L.length ≤ 100000) (r0 : -2147483648 ≤ r) (r1 : r ≤ 2147483647) :
    Calls Try.prog 10 #[.slice A L.length c, .int .i32 r] w fun e w' => e = .returned (.bool (outR L r)) ∧ Below w.heap.size w w' := by
  have C := Lib.hid (pairR_any A c L r w hL hc hn r0 r1)
  have CO := Lib.hid (fun (X : World) (hX : Below w.heap.size w X) (k q : Int) (q0 : -2147483648 ≤ q) (q1 : q ≤ 2147483647) => ofR_any A c L k q X (hL.later hX) hc hn q0 q1)
  have hbd := pairR_bd L r
  unfold outR
  obtain ⟨p, hp⟩ : ∃ p, pairR L r = p := ⟨_, rfl⟩
  obtain ⟨o, ho⟩ : ∃ o, aR L 3 r = o := ⟨_, rfl⟩
  obtain ⟨cl, hcl⟩ : ∃ cl, aR L 1 r = cl := ⟨_, rfl⟩
  obtain ⟨d, hd⟩ : ∃ d, aR L 1 p.1 = d := ⟨_, rfl⟩
  rw [hp] at C hbd ⊢
  rw [ho, hcl, hd]
  have HO := Lib.hid ho
  have HC := Lib.hid hcl
  have HD := Lib.hid hd
  clear hp ho hcl hd hL
  obtain ⟨p1, p2, ok⟩ := p
  dsimp only at hbd C HD ⊢
  go_enter Try.func10, Try.ntmps10
  go_wp2_with fail
  refine C.out.mono ?_
  rintro e w1 ⟨rfl, hb1⟩
  cases ok
  case false =>
    go_wp2_with fail
    go_ret
    exact ⟨rfl, hb1⟩
  case true =>
    by_cases e2 : p2 = 0
    · subst e2
      go_wp2_with fail
      go_ret
      exact ⟨by simp, hb1⟩
    · have d2 : (p2 == 0) = false := by simpa using e2
      have E2 := Lib.hid d2
      have C4 := Lib.hid (CO.out w1 hb1 3 r r0 r1)
      go_wp2_with fail
      refine C4.out.mono ?_
      rintro e w2 ⟨rfl, rfl⟩
      rw [HO.out]
      clear C4
      by_cases e3 : o = 1
      · subst e3
        go_wp2_with fail
        go_ret
        exact ⟨by simp, hb1⟩
      · have d3 : (o == 1) = false := by simpa using e3
        have E3 := Lib.hid d3
        have C5 := Lib.hid (CO.out w1 hb1 1 r r0 r1)
        go_wp2_with fail
        refine C5.out.mono ?_
        rintro e w3 ⟨rfl, rfl⟩
        rw [HC.out]
        clear C5
        by_cases e4 : cl = 0
        · subst e4
          have C6 := Lib.hid (CO.out w1 hb1 1 p1 hbd.1 hbd.2)
          go_wp2_with fail
          refine C6.out.mono ?_
          rintro e w4 ⟨rfl, rfl⟩
          rw [HD.out]
          go_wp2_with fail
          go_ret
          exact ⟨by simp [E2.out, E3.out], hb1⟩
        · have d4 : (cl != 0) = true := by simpa using e4
          go_wp2_with fail
          go_ret
          exact ⟨by simp [d4], hb1⟩
set_option maxHeartbeats 4000000 in
theorem secR_any (A : Option Addr) (c : Nat) (L : List Row) (r : Int) (w : World) (hL : Li 5 encR w (fun _ => True) A L) (hc : L.length ≤ c) (hn : L.length ≤ 100000) (r0 : -2147483648 ≤ r) (r1 : r ≤ 2147483647) :
    Calls Try.prog 12 #[.slice A L.length c, .int .i32 r] w fun e w' => e = .returned (.bool (secR L r)) ∧ Below w.heap.size w w' := by
  have CO := Lib.hid (fun (X : World) (hX : Below w.heap.size w X) (q : Int) => outR_any A c L (IntKind.i32.wrap q) X (hL.later hX) hc hn (wrap_bd q).1 (wrap_bd q).2)
  have HL := Lib.hid hL
  clear hL
  unfold secR
  obtain ⟨p, hp⟩ : ∃ p, secB L r = p := ⟨_, rfl⟩
  have HP := Lib.hid (fun x => (congrFun hp x).symm)
  rw [hp]
  clear hp
  go_enter Try.func12, Try.ntmps12
  go_wp2
  go_loopw [5] (fun v wr => ∃ k : Nat, k ≤ L.length ∧ v = .int .i64 k ∧ Hid (L.any p = (L.drop k).any p ∧ Below w.heap.size w wr)) (fun v _ => L.length - (intOf v).toNat)
  case atStart => exact ⟨0, Nat.zero_le _, rfl, rfl, Below.refl _ _⟩
  case round =>
    obtain ⟨k, hk, rfl, H⟩ := hrel
    by_cases hlt : k < L.length
    · obtain ⟨x, b, o, hx, rfl, hbl, _, c0, c1, c2, c3, c4⟩ := (HL.out.later H.out.2).row hlt
      have HN := Lib.hid (show p x = false → L.any p = (L.drop (k + 1)).any p from fun h => by rw [H.out.1, any_drop hx, h]; rfl)
      have HY := Lib.hid (show p x = true → L.any p = true from fun h => by rw [H.out.1, any_drop hx, h]; rfl)
      have HX := Lib.hid (HP.out x)
      have HB := Lib.hid H.out.2
      clear hx H c2 c3 HP
      unfold secB at HX
      by_cases e1 : x.k = 2
      · have d1 : (x.k == 2) = true := by simpa using e1
        by_cases e2 : x.b = r
        · have d2 : (x.b == r) = true := by simpa using e2
          by_cases e3 : r = 0
          · have HN' := Lib.hid (HN.out (by rw [HX.out, e3]; simp))
            have d3 : (r != 0) = false := by simpa using e3
            clear HN HY HX e1 e2 e3 CO
            go_wp2
            go_round
            case rel => exact ⟨k + 1, by omega, by go_num, HN'.out, HB.out⟩
            case measure => simp [intOf]; omega
          · have d3 : (r != 0) = true := by simpa using e3
            have C1 := Lib.hid (CO.out wr HB.out x.f)
            obtain ⟨q, hq⟩ : ∃ q, outR L (IntKind.i32.wrap x.f) = q := ⟨_, rfl⟩
            rw [hq] at C1
            obtain ⟨z, hz⟩ : ∃ z, IntKind.i32.wrap x.f = z := ⟨_, rfl⟩
            rw [hz] at C1
            have HX2 := Lib.hid (show p x = !q by rw [HX.out, d1, d2, d3, hq]; rfl)
            clear HX hq e1 e2 e3
            go_wp2_with fail
            refine C1.out.mono ?_
            rintro e w1 ⟨rfl, hb⟩
            have HB1 := Lib.hid (HB.out.trans (hb.mono HB.out.size))
            clear hb C1
            cases q
            case false =>
              have HY' := Lib.hid (HY.out (by rw [HX2.out]; rfl))
              clear HN HY HX2
              go_wp2
              go_ret
              exact ⟨by rw [HY'.out] <;> rfl, HB1.out⟩
            case true =>
              have HN' := Lib.hid (HN.out (by rw [HX2.out]; rfl))
              clear HN HY HX2
              go_wp2
              go_round
              case rel => exact ⟨k + 1, by omega, by go_num, HN'.out, HB1.out⟩
              case measure => simp [intOf]; omega
        · have d2 : (x.b == r) = false := by simpa using e2
          have HN' := Lib.hid (HN.out (by rw [HX.out, d2]; simp))
          clear HN HY HX e1 e2 CO
          go_wp2
          go_round
          case rel => exact ⟨k + 1, by omega, by go_num, HN'.out, HB.out⟩
          case measure => simp [intOf]; omega
      · have d1 : (x.k == 2) = false := by simpa using e1
        have HN' := Lib.hid (HN.out (by rw [HX.out, d1]; simp))
        clear HN HY HX e1 CO
        go_wp2
        go_round
        case rel => exact ⟨k + 1, by omega, by go_num, HN'.out, HB.out⟩
        case measure => simp [intOf]; omega
    · obtain rfl : k = L.length := by omega
      have HE := Lib.hid (show L.any p = false by rw [H.out.1, List.drop_length]; rfl)
      have HB := Lib.hid H.out.2
      clear H HP CO
      go_wp2
      go_ret
      exact ⟨by rw [HE.out] <;> rfl, HB.out⟩
end Go.Proofs.Ytaebnlmlklnbgaa.RW

namespace Go.Proofs.Ytaebnlmlklnbgaa
open Go.RowKit
set_option linter.unusedVariables false
set_option linter.unusedSimpArgs false

theorem bStep {A X Y : World} (h : Below A.heap.size A X) (h' : Below X.heap.size X Y) : Below A.heap.size A Y := h.trans (h'.mono h.size)
set_option maxHeartbeats 8000000 in
set_option maxRecDepth 100000 in
theorem walk_UcdPairs (w : World) (A0 : Option Addr) (n0 c0 : Nat) (f0 : Nat → Int) (hA : Rd w A0 n0 (fun j => .int .i32 (f0 j))) (hle : n0 ≤ c0) (hmax : c0 ≤ maxLen) (hp : ∀ j, j < n0 → (Lit.int .i32 (f0 j)).wf = true) :
    Calls Try.prog 3 #[.slice A0 n0 c0] w (Yes w) := by
  obtain ⟨T, hG, _, C0⟩ := rows_li w
  have HG := Lib.hid hG
  have C0 := Lib.hid C0
  have AW := Lib.hid (fun X => awake_yes X)
  have HA := Lib.hid hA
  have HP := Lib.hid hp
  unfold maxLen at hmax
  clear hG hA hp
  go_enter Try.func3, Try.ntmps3
  go_wp2_with fail
  refine C0.out.mono ?_
  rintro e w1 ⟨A, c, rfl, hL, hc, hm, hb1⟩
  have C1 := Lib.hid (build_tabs A c T w1 (hL.mono fun _ _ => trivial) hc HG.out)
  have L1 := Lib.hid (And.intro (hL.mono (S' := fun _ => True) fun _ _ => trivial) hb1)
  clear C0 hL hb1
  go_wp2_with fail
  refine C1.out.mono ?_
  rintro e w2 ⟨tp, rfl, hU, hb⟩
  have U2 := Lib.hid (And.intro hU (And.intro (L1.out.1.later hb) (L1.out.2.trans (hb.mono L1.out.2.size))))
  clear hU hb C1 L1
  go_wp2_with fail
  go_loopw [5, 6, 7, 8, 9, 10, 11] (fun i _ _ _ _ _ _ wr => ∃ k : Nat, k ≤ n0 ∧ k ≤ 60 ∧ i = .int .i64 k ∧ Hid (Tabs T tp wr ∧ Li 5 RW.encR wr (fun _ => True) A T ∧ Below w.heap.size w wr)) (fun i _ _ _ _ _ _ _ => 60 - (intOf i).toNat)
  case atStart => exact ⟨0, by omega, by omega, rfl, U2.out⟩
  case round =>
    obtain ⟨k, hk, hk2, rfl, H⟩ := hrel
    by_cases h1 : k < n0
    · by_cases h2 : k < 60
      · obtain ⟨b0, o0, rfl, hb0, hcell⟩ := HA.out.all (by omega)
        have hcr := (H.out.2.2.cell (p := ⟨b0, o0 + k, none⟩) hb0).trans (hcell k h1)
        obtain ⟨r, hr⟩ : ∃ r, f0 k = r := ⟨_, rfl⟩
        rw [hr] at hcr
        have wr0 := HP.out k h1
        rw [hr] at wr0
        have hbr : b0 < wr.heap.size := Nat.lt_of_lt_of_le hb0 H.out.2.2.size
        have R0 := Lib.hid (wf_i32 wr0)
        have W0 := Lib.hid wr0
        clear hcell hr wr0
        have HC := Lib.hid (fun (X : World) (hX : Below wr.heap.size wr X) => And.intro (H.out.1.later hX) (And.intro (H.out.2.1.later hX) ((hX.cell (p := ⟨b0, o0 + k, none⟩) hbr).trans hcr)))
        have hT : T.length ≤ 100000 := by have := HG.out.len; omega
        have C2 := Lib.hid (tpair H.out.1 r R0.out.1 R0.out.2)
        have CP := Lib.hid (fun (X : World) (hX : Below wr.heap.size wr X) => RW.pairR_any A c T r X (HC.out X hX).2.1 hc hT R0.out.1 R0.out.2)
        rw [pairR_eq HG.out.one] at CP
        obtain ⟨p, hpp⟩ : ∃ p, at0 (0, 0) (pget2 T) r = p := ⟨_, rfl⟩
        simp only [hpp] at C2 CP
        obtain ⟨q, hq⟩ : ∃ q, (p != (0, 0)) = q := ⟨_, rfl⟩
        simp only [hq] at C2 CP
        obtain ⟨p1, p2⟩ := p
        dsimp only at C2 CP
        clear hpp hq
        go_wp2_with fail
        refine C2.out.mono ?_
        rintro e w3 ⟨rfl, hb⟩
        have HB3 := Lib.hid hb
        have l3 := (HC.out w3 hb).2.2
        have z3 := hb.size
        have C3 := Lib.hid (CP.out w3 hb)
        clear hb C2 hcr
        go_wp2_with fail
        refine C3.out.mono ?_
        rintro e w4 ⟨rfl, hb⟩
        have HB4 := Lib.hid (bStep HB3.out hb)
        have hB4 := HB4.out
        have l4 := (HC.out w4 HB4.out).2.2
        clear hb C3 l3 CP HB3 z3
        go_upto_region 8 with fail
        go_region_held3 (fun X => X.cell? ⟨b0, o0 + k, none⟩ = some (.int .i32 r))
            (first | exact (HC.out _ (by first | assumption | exact Below.drew (by assumption))).2.2 | go_keep)
            (first
            | (go_at_call 9; refine (tout (HC.out _ (by first | assumption | exact Below.drew (by assumption))).1 r R0.out.1 R0.out.2).mono ?_; rintro e w5 ⟨rfl, hb5⟩; have hB5 := bStep (A := wr) (by first | assumption | exact Below.drew (by assumption)) hb5; clear hb5)
            | (go_at_call 10; refine (RW.outR_any A c T r _ (HC.out _ (by first | assumption | exact Below.drew (by assumption))).2.1 hc hT R0.out.1 R0.out.2).mono ?_; rw [outR_eq HG.out.one]; rintro e w6 ⟨rfl, hb6⟩; have hB6 := bStep (A := wr) (by first | assumption | exact Below.drew (by assumption)) hb6; clear hb6)
            | (go_at_call 11; refine (tsecond (HC.out _ (by first | assumption | exact Below.drew (by assumption))).1 HG.out.one r W0.out).mono ?_; rintro e w7 ⟨rfl, hb7⟩; have hB7 := bStep (A := wr) (by first | assumption | exact Below.drew (by assumption)) hb7; clear hb7)
            | (go_at_call 12; refine (RW.secR_any A c T r _ (HC.out _ (by first | assumption | exact Below.drew (by assumption))).2.1 hc hT R0.out.1 R0.out.2).mono ?_; rintro e w8 ⟨rfl, hb8⟩; have hB8 := bStep (A := wr) (by first | assumption | exact Below.drew (by assumption)) hb8; clear hb8))
        all_goals
          refine at_world (fun X => Below wr.heap.size wr X) (by first | assumption | exact Below.drew (by assumption)) ?_
          intro X hX
          have HN := Lib.hid (show Tabs T tp X ∧ Li 5 RW.encR X (fun _ => True) A T ∧ Below w.heap.size w X from ⟨(HC.out X hX).1, (HC.out X hX).2.1, H.out.2.2.trans (hX.mono H.out.2.2.size)⟩)
          clear hX HC H HB4
          go_wp2
          go_roundw
          case rel => exact ⟨k + 1, by omega, by omega, by go_num, HN.out⟩
          case measure => simp [intOf]; omega
      · have C9 := Lib.hid (AW.out wr)
        have H9 := Lib.hid H.out.2.2
        clear H AW
        go_wp2_with fail
        refine C9.out.mono ?_
        rintro e w9 ⟨rfl, hb⟩
        have HE := Lib.hid (H9.out.trans (hb.mono H9.out.size))
        clear hb C9 H9
        go_wp2
        go_ret
        exact ⟨rfl, HE.out⟩
    · have C9 := Lib.hid (AW.out wr)
      have H9 := Lib.hid H.out.2.2
      clear H AW
      go_wp2_with fail
      refine C9.out.mono ?_
      rintro e w9 ⟨rfl, hb⟩
      have HE := Lib.hid (H9.out.trans (hb.mono H9.out.size))
      clear hb C9 H9
      go_wp2
      go_ret
      exact ⟨rfl, HE.out⟩
end Go.Proofs.Ytaebnlmlklnbgaa

namespace Go.Proofs.Ytaebnlmlklnbgaa.ucdPairs
open Go.ChangeShapes Go.WideShapes Go.ChangeAt Go.RowKit Go.WideMaps Go.WideElems
open Go.ChangeMaps (open_string)

theorem own : ownKnob Try.prog.godebug = none := by kernel_rfl
theorem laidOut : laidOutB Try.prog = true := by kernel_rfl

set_option linter.unusedVariables false in
set_option maxRecDepth 100000 in
theorem lifted (os : Os) (started : os.Started) (H : Type) (enc : TypeId × Value → H) :
    ReturnsInHanded {} Try.checked os 3 .any (Rows.ucdPairsSpec.pre6 enc Try.prog Try.f3 Rows.ucdPairsRow.domain false) (Rows.ucdPairsSpec.post enc Try.prog Try.f3 false true false false) := by
  refine returnsInHanded_of_change (C := Try.checked) own started (by kernel_rfl) Try.func3
    (ChangeSpec.witness6 (enc := enc) (C := Try.checked) false ⟨#[], #[.slice none 0 0], []⟩ 8 (by kernel_rfl) (by kernel_rfl) (by kernel_rfl) (by kernel_rfl)) ?_
  intro W base args ds gs before hval0 hW hcnd _
  have hval : ∀ (j : Nat) t v, Try.f3.params[j]? = some t → args[j]? = some v → Value.okWide Try.prog W .any base t v := hval0
  have hW' := hW
  obtain ⟨p, q, hA0, hV, rfl, hfz, hnd⟩ := hW
  have hA : DataW.TrodAll enc Try.prog W 0 (fun _ => true) true Try.f3.params.toList args.toList ds p := hA0
  rw [Try.params3] at hA hval
  obtain ⟨v0, vs0, d0, ds0, p0, q0, hargs, rfl, rfl, h0, r0⟩ := trodAll_cons hA
  obtain ⟨rfl, rfl, rfl⟩ := trodAll_nil r0
  obtain rfl : args = #[v0] := by cases args; simp_all
  obtain ⟨rfl, rfl⟩ := trodVars_none hV
  obtain ⟨A0, n0, c0, f0, C0, w0⟩ := arg_ints Try.underlying22 Try.underlying21 (by kernel_rfl) (hval 0 22 v0 rfl rfl) h0
  obtain rfl := C0.eq
  refine (walk_UcdPairs W A0 n0 c0 f0 C0.rd C0.le C0.max w0).mono fun e W' ⟨he, hb⟩ => ?_
  subst he
  exact ⟨_, rfl, law_post hW' rfl rfl rfl rfl laidOut (by kernel_rfl) rfl Try.underlying4 hb⟩

theorem over : Rows.ucdPairsRow.holds Try.pinned (OpenSpec.ofChange Rows.ucdPairsSpec) :=
  OpenClaim.holds_of_wide 3 Try.f3 rfl rfl rfl rfl rfl rfl rfl ⟨rfl, rfl, rfl, rfl, rfl⟩ rfl rfl rfl rfl rfl (by kernel_rfl) Try.func3 (by kernel_rfl)
    (of_decide_eq_true (by kernel_rfl)) (by unfold Func.isWrapper; first | (rw [if_pos (by decide +kernel)]; kernel_rfl) | (rw [if_neg (by decide +kernel)]; exact ⟨rfl, rfl⟩))
    (fun os started H enc _ => lifted os started H enc)

theorem proved : Rows.UcdPairsSaid := over
#print axioms proved
end Go.Proofs.Ytaebnlmlklnbgaa.ucdPairs
