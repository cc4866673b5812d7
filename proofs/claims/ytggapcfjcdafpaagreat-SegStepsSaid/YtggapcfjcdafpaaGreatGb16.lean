/- trie: what lies in memory in flat's last loops. -/
import Derived.Test.YtggapcfjcdafpaaGreatGb02
import Derived.Deep.QuietTactic
import Derived.BigQuiet
import Derived.Test.YtggapcfjcdafpaaGreatGb03
import Derived.Sort.OwnSortedInts
import Derived.IntWalk
namespace Go.Proofs.YtggapcfjcdafpaaGreat.TK
open Go.RowKit
set_option linter.unusedVariables false
set_option linter.unusedSimpArgs false

/-- Three truths. -/
abbrev V3 := Bool × Bool × Bool
abbrev vV (x : V3) : Value := .agg #[.bool x.1, .bool x.2.1, .bool x.2.2]
def encV (x : V3) : List Value := [.bool x.1, .bool x.2.1, .bool x.2.2]
theorem encV_len (x : V3) : (encV x).length = 3 := rfl
def encP (p : Pc V3) : List Value := [.int .i64 p.f, .int .i64 p.t, .bool p.v.1, .bool p.v.2.1, .bool p.v.2.2]
theorem encP_len (p : Pc V3) : (encP p).length = 5 := rfl
theorem encP_one (p : Pc V3) : ∀ u ∈ encP p, u.oneCell' = true := by
  intro u hu
  simp only [encP, List.mem_cons, List.mem_nil_iff, or_false] at hu
  rcases hu with rfl | rfl | rfl | rfl | rfl <;> rfl
theorem piece_elt : Elt Tryz.prog 87 93 5 24 := elt_of Tryz.underlying87 (z := .agg #[.int .i64 0, .int .i64 0, .bool false, .bool false, .bool false]) (by kernel_rfl) rfl (by decide)

theorem _root_.Go.Proofs.YtggapcfjcdafpaaGreat.Li.pieceK {w : World} {S : Nat → Prop} {A : Option Addr} {L : List (Pc V3)} (h : Li 5 encP w S A L) {j : Nat} (hj : j < L.length) : ∃ x b o, L[j]? = some x ∧ A = some ⟨b, o, none⟩ ∧ b < w.heap.size ∧ S b ∧
    w.cell? ⟨b, o + j * 5, none⟩ = some (.int .i64 x.f) ∧ w.cell? ⟨b, o + j * 5 + 1, none⟩ = some (.int .i64 x.t) ∧ w.cell? ⟨b, o + j * 5 + 2, none⟩ = some (.bool x.v.1) ∧ w.cell? ⟨b, o + j * 5 + 3, none⟩ = some (.bool x.v.2.1) ∧ w.cell? ⟨b, o + j * 5 + 4, none⟩ = some (.bool x.v.2.2) := by
  obtain ⟨b, o, e, hl, hs, hc⟩ := h.at hj
  exact ⟨L[j], b, o, List.getElem?_eq_getElem hj, e, hl, hs, hc 0 _ rfl, by have := hc 1 _ rfl; rwa [← Nat.add_assoc] at this, by have := hc 2 _ rfl; rwa [← Nat.add_assoc] at this, by have := hc 3 _ rfl; rwa [← Nat.add_assoc] at this, by have := hc 4 _ rfl; rwa [← Nat.add_assoc] at this⟩
theorem eq_v3 (x y : V3) (w : World) : (Op.equalIn 10000 89 (vV x) (vV y)).run Tryz.prog w = .ok (x == y) w := by
  rw [show (10000 : Nat) = 9999 + 1 from rfl, Op.equalIn]
  have ua := Tryz.underlying89
  have ub := Tryz.underlying4
  simp only [Sem.run_bind, run_underlying ua, Result.andThen_ok]
  simp only [Std.Legacy.Range.forIn_eq_forIn_range', Std.Legacy.Range.size, Nat.sub_zero, Nat.add_sub_cancel, Nat.div_one, List.range'_succ, List.range'_zero, List.forIn_cons, List.forIn_nil]
  go_simp
  obtain ⟨a, b, c⟩ := x
  obtain ⟨d, e, f⟩ := y
  by_cases h1 : a = d <;> by_cases h2 : b = e <;> by_cases h3 : c = f <;> simp [h1, h2, h3]
theorem eql_v3 (x y : V3) (w : World) : (Go.binOp .eql 89 (vV x) (vV y)).run Tryz.prog w = .ok (.bool (x == y)) w := by
  rw [run_eql_struct, eq_v3]
  rfl
end Go.Proofs.YtggapcfjcdafpaaGreat.TK

namespace Go.Proofs.YtggapcfjcdafpaaGreat.TK
open Go.RowKit
set_option linter.unusedVariables false
set_option linter.unusedSimpArgs false

theorem flatP_get (D : List (Pc V3)) (y : Pc V3) (i : Nat) (u : Value) (h : (encP y)[i]? = some u) : (flatL encP (D ++ [y]))[D.length * 5 + i]? = some u :=
  flatL_get encP_len (D ++ [y]) D.length y i u (by simp) h
theorem flatP_set (D : List (Pc V3)) (y : Pc V3) (t : Int) : (flatL encP (D ++ [y])).set (D.length * 5 + 1) (.int .i64 t) = flatL encP (D ++ [⟨y.f, t, y.v⟩]) := by
  have hl := flatL_len encP_len D
  rw [flatL_snoc, flatL_snoc, List.set_append, if_neg (by omega), hl, show D.length * 5 + 1 - D.length * 5 = 1 by omega]
  rfl

structure JR (w : World) (g : Int → V3) (lo hi : Int) (k : Nat) (Ao : Option Addr) (no co : Nat) (D : List (Pc V3)) (X : World) : Prop where
  ji : JI g lo hi D
  len : D.length = no
  grows : Grows w 93 5 encP Ao no co D X

theorem tile_at {lo hi : Int} {L : List (Pc V3)} {k : Nat} {x : Pc V3} (h : Tile lo hi L) (hx : L[k]? = some x) : Tile lo x.f (L.take k) ∧ x.f ≤ x.t ∧ Tile lo (x.t + 1) (L.take (k + 1)) := by
  have e := take_snoc' hx
  have h1 := h
  rw [← List.take_append_drop (k + 1) L, tile_append] at h1
  obtain ⟨m, h2, _⟩ := h1
  rw [e] at h2 ⊢
  obtain ⟨a, b, c⟩ := tile_snoc.1 h2
  exact ⟨a, b, tile_snoc.2 ⟨a, b, rfl⟩⟩
theorem tile_uniq {lo a b : Int} {L : List (Pc V3)} (h : Tile lo a L) (k : Tile lo b L) : a = b := by
  induction L generalizing lo with
  | nil => exact h.symm.trans k
  | cons p L ih => exact ih h.2.2 k.2.2

set_option maxHeartbeats 4000000 in
set_option maxRecDepth 100000 in
theorem joined_any (A : Option Addr) (c : Nat) (L : List (Pc V3)) (g : Int → V3) (m : Int) (w : World) (hL : Li 5 encP w (fun _ => True) A L) (hc : L.length ≤ c) (hn : L.length ≤ 100000) (hT : Tile 0 m L) (hV : Vals g L) (hm : m ≤ 100000000) :
    Calls Tryz.prog 118 #[.slice A L.length c] w (fun e w' => ∃ P, JI g 0 m P ∧ P.length ≤ L.length ∧ TellsO 93 5 encP P w e w') := by
  have HL := Lib.hid hL
  have HT := Lib.hid hT
  have HV := Lib.hid hV
  clear hL hT hV
  go_enter Tryz.func118, Tryz.ntmps118
  go_wp2
  go_loopw [3, 5, 6, 9] (fun v _ _ i wr => ∃ k : Nat, ∃ Ao no co, k ≤ L.length ∧ i = .int .i64 k ∧ v = .slice Ao no co ∧ no ≤ k ∧ Hid (∃ D hi, JR w g 0 hi k Ao no co D wr ∧ Tile 0 hi (L.take k))) (fun _ _ _ i _ => L.length - (intOf i).toNat)
  case atStart => exact ⟨0, none, 0, 0, Nat.zero_le _, rfl, rfl, Nat.le_refl _, [], 0, ⟨⟨rfl, (fun p hp => by cases hp), trivial⟩, rfl, Grows.start _ _ _⟩, rfl⟩
  case round =>
    obtain ⟨k, Ao, no, co, hk, rfl, rfl, hno, HG⟩ := hrel
    obtain ⟨D, hi, hG, hTk⟩ := HG.out
    by_cases hlt : k < L.length
    · obtain ⟨x, b, o, hx, rfl, hbl, _, c0, c1, c2, c3, c4⟩ := (HL.out.later hG.grows.below).pieceK hlt
      have hxm : x ∈ L := List.mem_of_getElem? hx
      obtain ⟨t1, t2, t3⟩ := tile_at HT.out hx
      have hhi : hi = x.f := tile_uniq hTk t1
      subst hhi
      have xb := tile_bd HT.out hxm
      have xb1 := xb.1
      have xb3 : x.t ≤ 100000000 := by omega
      have hji := hG.ji.step t2 (HV.out x hxm)
      have HX := Lib.hid (And.intro hji t3)
      have HJ := Lib.hid hG
      clear hx hxm hji hG HG hTk t1 t3 xb
      go_wp2
      refine at_world (fun X => Below wr.heap.size wr X ∧ Blk X wr.heap.size (encP x).toArray) ⟨(Below.refl _ _).alloc (Nat.le_refl _) _, blk_new _ _ _⟩ ?_
      rintro X ⟨hX, hB⟩
      have l0 : X.cell? ⟨wr.heap.size, 0, none⟩ = some (.int .i64 x.f) := hB.2.1 0
      have l1 : X.cell? ⟨wr.heap.size, 1, none⟩ = some (.int .i64 x.t) := hB.2.1 1
      have l2 : X.cell? ⟨wr.heap.size, 2, none⟩ = some (.bool x.v.1) := hB.2.1 2
      have l3 : X.cell? ⟨wr.heap.size, 3, none⟩ = some (.bool x.v.2.1) := hB.2.1 3
      have l4 : X.cell? ⟨wr.heap.size, 4, none⟩ = some (.bool x.v.2.2) := hB.2.1 4
      have HW := Lib.hid (And.intro (HJ.out.grows.later hX) hX)
      have hz : w.heap.size ≤ X.heap.size := HW.out.1.below.size
      have HO := Lib.hid HW.out.1.own
      clear hX hB c0 c1 c2 c3 c4
      rcases Nat.eq_zero_or_pos no with h0 | hpos
      · have hD : D = [] := List.eq_nil_of_length_eq_zero (by rw [HJ.out.len, h0])
        have HD := Lib.hid (show jstep D x = D ++ [x] by rw [hD]; rfl)
        clear hD
        have z0 := Lib.hid h0
        clear h0
        have g1 : ¬ (1 ≤ (no : Int)) := by have := z0.out; omega
        have g2 : decide ((0 : Int) < (no : Int)) = false := decide_eq_false (by have := z0.out; omega)
        have g3 : decide (0 < no) = false := decide_eq_false (by have := z0.out; omega)
        go_quiet (fail)
        go_wp2_with (at_builtin; refine wpList_push piece_elt (ownDrew HO.out _) (by simpa using hz) rfl rfl rfl rfl (by simp) rfl rfl (by unfold maxLen; omega) (by omega) ?_; intro A3 c3 w3 hp; have HP := Lib.hid hp; clear hp)
        go_roundw
        case rel => exact ⟨k + 1, _, _, _, by omega, by go_num, rfl, by omega, jstep D x, _, ⟨HX.out.1, by rw [HD.out]; have := HJ.out.len; simp only [List.length_append, List.length_singleton] at this ⊢; omega, by rw [HD.out]; exact HW.out.1.push (selfDrew _ _) HP.out⟩, HX.out.2⟩
        case measure => simp [intOf]; omega
      · obtain ⟨g', cs, rfl, hgb, hBk, _, _, _, hcs⟩ := own_blk HO.out hpos
        obtain ⟨D', y, rfl⟩ : ∃ D' y, D = D' ++ [y] := by
          rcases List.eq_nil_or_concat D with h | ⟨S, y, h⟩
          · have := HJ.out.len; rw [h] at this; simp at this; omega
          · exact ⟨S, y, by rw [h, List.concat_eq_append]⟩
        have hD' : D'.length = no - 1 := by have := HJ.out.len; simp at this; omega
        have ow (i : Nat) (u : Value) (hu : (encP y)[i]? = some u) : X.cell? ⟨g', (no - 1) * 5 + i, none⟩ = some u := by
          rw [hBk.2.1]
          refine hcs _ _ ?_
          rw [← hD']
          exact flatP_get D' y i u hu
        have m1 := ow 1 _ rfl
        have m2 := ow 2 _ rfl
        have m3 := ow 3 _ rfl
        have m4 := ow 4 _ rfl
        have mf := hBk.2.2 ((no - 1) * 5 + 1)
        have ml := hBk.1
        clear hcs ow hBk
        have g1 : (1 ≤ (no : Int)) := by omega
        have g2 : decide ((0 : Int) < (no : Int)) = true := decide_eq_true (by omega)
        have g3 : decide (0 < no) = true := decide_eq_true (by omega)
        have g4 : (no : Int) - 1 < (no : Int) := by omega
        have g5 : ((no : Int) - 1).toNat = no - 1 := by omega
        have g6 : decide ((0 : Int) ≤ (no : Int) - 1) = true := decide_eq_true (by omega)
        by_cases e1 : y.v = x.v
        · have d1 : (y.v == x.v) = true := by simpa using e1
          have hq : ∀ w, (Go.binOp .eql 89 (.agg #[.bool y.v.1, .bool y.v.2.1, .bool y.v.2.2]) (.agg #[.bool x.v.1, .bool x.v.2.1, .bool x.v.2.2])).run Tryz.prog w = .ok (.bool true) w := fun w => by rw [← d1]; exact eql_v3 _ _ w
          clear d1
          have HD := Lib.hid (jstep_yes (D := D') e1)
          clear e1
          have HS := Lib.hid (show ∀ q, ((X.drewN q).setCell ⟨g', (no - 1) * 5 + 1, none⟩ (.int .i64 x.t)).ownsRow w.heap.size 93 5 (.slice (some ⟨g', 0, none⟩) no co) no (flatL encP (D' ++ [⟨y.f, x.t, y.v⟩])) ∧ Below w.heap.size w ((X.drewN q).setCell ⟨g', (no - 1) * 5 + 1, none⟩ (.int .i64 x.t)) from by
            intro q
            have h := ((ownDrew HO.out q).stored ((no - 1) * 5 + 1) (.int .i64 x.t)).1
            rw [← hD', flatP_set] at h
            rw [← hD']
            exact ⟨h, (belDrew HW.out.1.below q).setCell hgb _⟩)
          go_quiet (fail)
          go_wp2
          go_roundw
          case rel => exact ⟨k + 1, _, _, _, by omega, by go_num, rfl, by omega, jstep _ x, _, ⟨HX.out.1, by rw [HD.out]; have := HJ.out.len; simp only [List.length_append, List.length_singleton] at this ⊢; omega, by rw [HD.out]; exact ⟨(HS.out _).1, (HS.out _).2⟩⟩, HX.out.2⟩
          case measure => simp [intOf]; omega
        · have d1 : (y.v == x.v) = false := by simpa using e1
          have hq : ∀ w, (Go.binOp .eql 89 (.agg #[.bool y.v.1, .bool y.v.2.1, .bool y.v.2.2]) (.agg #[.bool x.v.1, .bool x.v.2.1, .bool x.v.2.2])).run Tryz.prog w = .ok (.bool false) w := fun w => by rw [← d1]; exact eql_v3 _ _ w
          clear d1
          have HD := Lib.hid (jstep_no (D := D') (y := y) (x := x) e1)
          clear e1
          go_quiet (fail)
          go_wp2_with (at_builtin; refine wpList_push piece_elt (ownDrew HO.out _) (by simpa using hz) rfl rfl rfl rfl (by simp) rfl rfl (by unfold maxLen; omega) (by omega) ?_; intro A3 c3 w3 hp; have HP := Lib.hid hp; clear hp)
          go_roundw
          case rel => exact ⟨k + 1, _, _, _, by omega, by go_num, rfl, by omega, jstep _ x, _, ⟨HX.out.1, by rw [HD.out]; have := HJ.out.len; simp only [List.length_append, List.length_singleton] at this ⊢; omega, by rw [HD.out]; exact HW.out.1.push (selfDrew _ _) HP.out⟩, HX.out.2⟩
          case measure => simp [intOf]; omega
    · obtain rfl : k = L.length := by omega
      have hhi : hi = m := tile_uniq hTk (by rw [List.take_length]; exact HT.out)
      subst hhi
      have HR := Lib.hid (show ∃ P, JI g 0 hi P ∧ P.length ≤ L.length ∧ TellsO 93 5 encP P w (.returned (.slice Ao no co)) wr from ⟨D, hG.ji, by rw [hG.len]; exact hno, hG.grows.tells⟩)
      clear hG HG hTk hlt
      go_wp2
      go_ret
      exact HR.out
end Go.Proofs.YtggapcfjcdafpaaGreat.TK

namespace Go.Proofs.YtggapcfjcdafpaaGreat.TK
open Go.RowKit
set_option linter.unusedVariables false
set_option linter.unusedSimpArgs false

/-- The cuts and the pieces, each in a row of the call's own. -/
structure Two (w : World) (Ac : Option Addr) (nc cc : Nat) (Cs : List Int) (Af : Option Addr) (nf cf : Nat) (F : List (Pc V3)) (X : World) : Prop where
  cu : X.ownsRow w.heap.size 3 1 (.slice Ac nc cc) nc (flatL encI Cs)
  fi : X.ownsRow w.heap.size 93 5 (.slice Af nf cf) nf (flatL encP F)
  ap : ∀ b, (Value.slice Ac nc cc).ownBlock = some b → (Value.slice Af nf cf).ownBlock ≠ some b
  be : Below w.heap.size w X
theorem keptRow {X Y : World} {base n size : Nat} {E : TypeId} {v : Value} {xs : List Value} {row : Option Nat} (h : X.ownsRow base E size v n xs) (hg : X.grownBy Y row) (hne : ∀ b, v.ownBlock = some b → row ≠ some b) : Y.ownsRow base E size v n xs :=
  h.kept hg (by
    cases hv : v.ownBlock with
    | none => exact .inl rfl
    | some k => right; exact fun e => hne k hv e.symm)
theorem Two.later {w X Y : World} {Ac Af : Option Addr} {nc cc nf cf : Nat} {Cs : List Int} {F : List (Pc V3)} (h : Two w Ac nc cc Cs Af nf cf F X) (hb : Below X.heap.size X Y) : Two w Ac nc cc Cs Af nf cf F Y :=
  ⟨own_later h.cu hb, own_later h.fi hb, h.ap, h.be.trans (hb.mono h.be.size)⟩
theorem Two.pushF {w X Y : World} {Ac Af A' : Option Addr} {nc cc nf cf c' : Nat} {Cs : List Int} {F : List (Pc V3)} {p : Pc V3} {ys : List Value} (h : Two w Ac nc cc Cs Af nf cf F X) (hp : Pushed X Y w.heap.size 93 5 (.slice Af nf cf) (nf + 1) (flatL encP F ++ ys) A' c') (hy : ys = encP p) :
    Two w Ac nc cc Cs A' (nf + 1) c' (F ++ [p]) Y := by
  subst hy
  refine ⟨keptRow h.cu hp.grown h.ap, by rw [flatL_snoc]; exact hp.own, fun b hb e => ?_, hp.below h.be h.fi (Nat.le_refl _)⟩
  rcases hp.at_ with e1 | ⟨q, e1, hq⟩
  · exact h.ap b hb (e1.symm.trans e)
  · rw [e1] at e
    injection e with e
    have := (h.cu.lt b hb).2
    omega
theorem Two.pushC {w X Y : World} {Ac Af A' : Option Addr} {nc cc nf cf c' m : Nat} {Cs M : List Int} {F : List (Pc V3)} {ys : List Value} (h : Two w Ac nc cc Cs Af nf cf F X) (hp : Pushed X Y w.heap.size 3 1 (.slice Ac nc cc) (nc + m) (flatL encI Cs ++ ys) A' c') (hy : ys = flatL encI M) :
    Two w A' (nc + m) c' (Cs ++ M) Af nf cf F Y := by
  subst hy
  refine ⟨by rw [flatL_append]; exact hp.own, keptRow h.fi hp.grown fun b hb e => h.ap b e hb, fun b hb e => ?_, hp.below h.be h.cu (Nat.le_refl _)⟩
  rcases hp.at_ with e1 | ⟨q, e1, hq⟩
  · exact h.ap b (e1.symm.trans hb) e
  · rw [e1] at hb
    injection hb with hb
    have := (h.fi.lt b e).2
    omega
/-- The box that a round lays is neither row's. -/
theorem Two.far {w X : World} {Ac Af : Option Addr} {nc cc nf cf : Nat} {Cs : List Int} {F : List (Pc V3)} (h : Two w Ac nc cc Cs Af nf cf F X) : some X.heap.size ≠ (Value.slice Af nf cf).ownBlock ∧ some X.heap.size ≠ (Value.slice Ac nc cc).ownBlock :=
  ⟨fun e => by have := (h.fi.lt _ e.symm).2; omega, fun e => by have := (h.cu.lt _ e.symm).2; omega⟩

def endsP (F : List (Pc V3)) : List Int := F.flatMap fun p => [p.f, p.t + 1]
/-- The cuts, sorted, each once. -/
def cutsP (m : Int) (F : List (Pc V3)) : List Int := sortedOnce ([0, m] ++ endsP F)
theorem cutsP_ok (m : Int) (L : List (Pc V3)) (z : V3) : Cuts (fitz m L z) (cutsP m (fits m L)) := by
  refine ⟨sortedOnce_lt _, fun c => ?_⟩
  unfold cutsP
  rw [sortedOnce_mem]
  simp only [endsP, fitz, List.mem_append, List.mem_flatMap, List.mem_cons, List.mem_nil_iff, or_false]
  constructor
  · rintro ((h | h) | ⟨p, hp, h⟩)
    · exact ⟨⟨0, m - 1, z⟩, .inr rfl, .inl h⟩
    · exact ⟨⟨0, m - 1, z⟩, .inr rfl, .inr (by dsimp only; omega)⟩
    · exact ⟨p, .inl hp, h⟩
  · rintro ⟨s, (hs | rfl), h⟩
    · exact .inr ⟨s, hs, h⟩
    · left
      dsimp only at h
      omega
theorem endsP_len (F : List (Pc V3)) : (endsP F).length = 2 * F.length := by
  induction F with
  | nil => rfl
  | cons p F ih => simp only [endsP, List.flatMap_cons, List.length_append, List.length_cons, List.length_nil] at ih ⊢; omega
theorem endsP_snoc (F : List (Pc V3)) (p : Pc V3) : endsP (F ++ [p]) = endsP F ++ [p.f, p.t + 1] := by
  simp [endsP]
/-- A row that was sorted, and cut to what differs. -/
theorem cut_calls_out {w X : World} {no co n q g : Nat} {E : TypeId} {zs : List Int} {os : Array Obj} (h : X.ownsRow w.heap.size E 1 (.slice (some ⟨g, 0, none⟩) no co) no (flatL encI zs)) (hb : Below w.heap.size w X)
    (Y : World) (hY : Y = Go.Sort.grow (Go.Sort.putRow (Value.int .i64) (Go.Sort.ahead X n) g 0 (zs.mergeSort fun x y => decide (x ≤ y)).toArray) os) (Z : World) (hZ : Z = Go.Sort.putRow (Value.int .i64) (Go.Sort.ahead Y q) g 0 (sortedOnce zs ++ List.replicate ((zs.mergeSort fun x y => decide (x ≤ y)).length - (sortedOnce zs).length) 0).toArray) :
    Z.ownsRow w.heap.size E 1 (.slice (some ⟨g, 0, none⟩) (sortedOnce zs).length co) (sortedOnce zs).length (flatL encI (sortedOnce zs)) ∧ Below w.heap.size w Z := by
  have hl := own_count encI_len (by decide) h
  have hm : (zs.mergeSort fun x y => decide (x ≤ y)).length = no := by rw [List.length_mergeSort]; exact hl
  have hk := sortedOnce_len zs
  obtain ⟨h1, h2⟩ := own_sorted (os := os) (q := n) h hb hb.size hm
  rw [← hY] at h1 h2
  have hc := own_cut (q := q) (k := (sortedOnce zs).length) h1 h2 (ys := sortedOnce zs ++ List.replicate ((zs.mergeSort fun x y => decide (x ≤ y)).length - (sortedOnce zs).length) 0) (by simp; omega) (by omega)
  rw [← hZ] at hc
  rwa [List.take_left'] at hc
  rfl

theorem Two.sorted {w X : World} {g nc cc nf cf n q : Nat} {Af : Option Addr} {Cs : List Int} {F : List (Pc V3)} {os : Array Obj} (h : Two w (some ⟨g, 0, none⟩) nc cc Cs Af nf cf F X) (hnc : 0 < nc) (Y : World) (hY : Y = Go.Sort.grow (Go.Sort.putRow (Value.int .i64) (Go.Sort.ahead X n) g 0 (Cs.mergeSort fun x y => decide (x ≤ y)).toArray) os) (Z : World) (hZ : Z = Go.Sort.putRow (Value.int .i64) (Go.Sort.ahead Y q) g 0 (sortedOnce Cs ++ List.replicate ((Cs.mergeSort fun x y => decide (x ≤ y)).length - (sortedOnce Cs).length) 0).toArray) :
    Two w (some ⟨g, 0, none⟩) (sortedOnce Cs).length cc (sortedOnce Cs) Af nf cf F Z := by
  obtain ⟨c1, c2⟩ := cut_calls_out h.cu h.be Y hY Z hZ
  have hg1 : X.grownBy Y (some g) := by rw [hY]; exact Go.grownBy_sortedI _
  have hg2 : Y.grownBy Z (some g) := by
    have := Go.grownBy_sortedI (w := Y) (g := g) (n := q) (os := #[]) (sortedOnce Cs ++ List.replicate ((Cs.mergeSort fun x y => decide (x ≤ y)).length - (sortedOnce Cs).length) 0).toArray
    rwa [Go.Sort.grow_empty, ← hZ] at this
  have hob : ∀ k, (Value.slice (some ⟨g, 0, none⟩) k cc).ownBlock = some g := fun _ => rfl
  have hne : ∀ b, (Value.slice Af nf cf).ownBlock = some b → some g ≠ some b := fun b hb e => h.ap g (hob _) (by rw [hb, e])
  exact ⟨c1, keptRow (keptRow h.fi hg1 hne) hg2 hne, fun b hb e => h.ap b hb e, c2⟩
end Go.Proofs.YtggapcfjcdafpaaGreat.TK

namespace Go.Proofs.YtggapcfjcdafpaaGreat.TK
open Go.RowKit
set_option linter.unusedVariables false
set_option linter.unusedSimpArgs false

theorem NextInv.congr {N : List Nat} {T T' : Nat → Prop} {m : Nat} (h : NextInv N T m) (e : ∀ q, T q ↔ T' q) : NextInv N T' m :=
  ⟨h.1, fun j hj => by
    obtain ⟨h1, h2, h3, h4⟩ := h.2 j hj
    exact ⟨h1, h2, by rw [h3, e], fun q a b => (e q).1 (h4 q a b)⟩⟩

/-- next, as far as it is filled. -/
def NxP (w : World) (g m k : Nat) : Prop := ∃ cs, Blk w g cs ∧ cs.size = m + 1 ∧ ∀ j, j < k → cs[j]? = some (.int .i64 ((j : Nat) : Int))
theorem NxP.cellAny {w : World} {g m k : Nat} (h : NxP w g m k) {j : Nat} (hj : j < m + 1) : ∃ u, w.cell? ⟨g, j, none⟩ = some u := by
  obtain ⟨cs, hB, hs, _⟩ := h
  exact ⟨cs[j], by rw [hB.2.1]; simp [hs, hj]⟩
theorem NxP.set {w : World} {g m k : Nat} (h : NxP w g m k) (hk : k < m + 1) : NxP (w.setCell ⟨g, k, none⟩ (.int .i64 ((k : Nat) : Int))) g m (k + 1) := by
  obtain ⟨cs, hB, hs, hc⟩ := h
  refine ⟨_, hB.set_ k (by omega) _, by simp [hs], fun j hj => ?_⟩
  by_cases e : k = j
  · subst e
    simp [hs, hk]
  · rw [Array.getElem?_setIfInBounds_ne e]
    exact hc j (by omega)
theorem NxP.done {w : World} {g m : Nat} (h : NxP w g m (m + 1)) : Nx w g (List.range (m + 1)) := by
  obtain ⟨cs, hB, hs, hc⟩ := h
  refine ⟨cs, hB, fun j hj => ?_⟩
  simp at hj
  rw [hc j (by omega)]
  simp [List.getD, show j < m + 1 by omega]
theorem nextInv_start (m : Nat) : NextInv (List.range (m + 1)) (fun _ => False) m := by
  refine ⟨by simp, fun j hj => ?_⟩
  have e : (List.range (m + 1)).getD j 0 = j := by simp [List.getD, show j < m + 1 by omega]
  rw [e]
  exact ⟨Nat.le_refl _, hj, by simp, fun q a b => by omega⟩

/-- The block of the parts: those that are taken have what they should. -/
def Outs (w : World) (g mm : Nat) (s : Nat → Pc V3) (T : Nat → Prop) : Prop := ∃ cs, Blk w g cs ∧ cs.size = mm * 5 ∧ ∀ i, T i → i < mm → ∀ (j : Nat) (u : Value), (encP (s i))[j]? = some u → cs[i * 5 + j]? = some u
theorem Outs.congr {w : World} {g mm : Nat} {s : Nat → Pc V3} {T T' : Nat → Prop} (h : Outs w g mm s T) (e : ∀ q, T' q → T q) : Outs w g mm s T' := by
  obtain ⟨cs, hB, hs, hc⟩ := h
  exact ⟨cs, hB, hs, fun i hi => hc i (e i hi)⟩
theorem Outs.later {w w' : World} {g B mm : Nat} {s : Nat → Pc V3} {T : Nat → Prop} (h : Outs w g mm s T) (hb : Below B w w') (hg : g < B) : Outs w' g mm s T := by
  obtain ⟨cs, hB, hx⟩ := h
  exact ⟨cs, hB.later hb hg, hx⟩
theorem Outs.grown {w w' : World} {g mm : Nat} {row : Option Nat} {s : Nat → Pc V3} {T : Nat → Prop} (h : Outs w g mm s T) (hg : w.grownBy w' row) (hne : some g ≠ row) : Outs w' g mm s T := by
  obtain ⟨cs, hB, hx⟩ := h
  exact ⟨cs, hB.grown hg hne, hx⟩
theorem Outs.lt {w : World} {g mm : Nat} {s : Nat → Pc V3} {T : Nat → Prop} (h : Outs w g mm s T) : g < w.heap.size := by
  obtain ⟨cs, hB, _⟩ := h
  exact hB.1
theorem Outs.cells {w : World} {g mm : Nat} {s : Nat → Pc V3} {T : Nat → Prop} (h : Outs w g mm s T) {i : Nat} (hi : i < mm) : ∃ a b c d e, w.cell? ⟨g, i * 5, none⟩ = some a ∧ w.cell? ⟨g, i * 5 + 1, none⟩ = some b ∧ w.cell? ⟨g, i * 5 + 2, none⟩ = some c ∧ w.cell? ⟨g, i * 5 + 3, none⟩ = some d ∧ w.cell? ⟨g, i * 5 + 4, none⟩ = some e ∧ w.frozen? ⟨g, i * 5, none⟩ = false ∧ w.frozen? ⟨g, i * 5 + 1, none⟩ = false ∧ w.frozen? ⟨g, i * 5 + 2, none⟩ = false ∧ w.frozen? ⟨g, i * 5 + 3, none⟩ = false ∧ w.frozen? ⟨g, i * 5 + 4, none⟩ = false := by
  obtain ⟨cs, hB, hs, _⟩ := h
  have k (j : Nat) (hj : j < 5) : w.cell? ⟨g, i * 5 + j, none⟩ = some (cs[i * 5 + j]'(by omega)) := by rw [hB.2.1]; exact Array.getElem?_eq_getElem _
  exact ⟨_, _, _, _, _, k 0 (by omega), k 1 (by omega), k 2 (by omega), k 3 (by omega), k 4 (by omega), hB.2.2 _, hB.2.2 _, hB.2.2 _, hB.2.2 _, hB.2.2 _⟩
/-- A part that is taken. -/
theorem Outs.put {w : World} {g mm : Nat} {s : Nat → Pc V3} {T : Nat → Prop} (h : Outs w g mm s T) {i : Nat} (hi : i < mm) (T' : Nat → Prop) (hT : ∀ q, T' q → T q ∨ q = i) :
    Outs (((((w.setCell ⟨g, i * 5, none⟩ (.int .i64 (s i).f)).setCell ⟨g, i * 5 + 1, none⟩ (.int .i64 (s i).t)).setCell ⟨g, i * 5 + 2, none⟩ (.bool (s i).v.1)).setCell ⟨g, i * 5 + 3, none⟩ (.bool (s i).v.2.1)).setCell ⟨g, i * 5 + 4, none⟩ (.bool (s i).v.2.2)) g mm s T' := by
  obtain ⟨cs, hB, hs, hc⟩ := h
  refine ⟨_, ((((hB.set_ (i * 5) (by omega) _).set_ (i * 5 + 1) (by simp; omega) _).set_ (i * 5 + 2) (by simp; omega) _).set_ (i * 5 + 3) (by simp; omega) _).set_ (i * 5 + 4) (by simp; omega) _, by simp [hs], fun q hq hqm j u hu => ?_⟩
  have hj : j < 5 := by
    obtain ⟨h, _⟩ := List.getElem?_eq_some_iff.1 hu
    rw [encP_len] at h
    exact h
  by_cases e : q = i
  · subst e
    match j, hj with
    | 0, _ =>
      simp only [encP, List.getElem?_cons_zero, Option.some.injEq] at hu
      subst hu
      show (_ : Array Value)[q * 5]? = _
      rw [Array.getElem?_setIfInBounds_ne (by omega), Array.getElem?_setIfInBounds_ne (by omega), Array.getElem?_setIfInBounds_ne (by omega), Array.getElem?_setIfInBounds_ne (by omega), Array.getElem?_setIfInBounds_self_of_lt (by omega)]
    | 1, _ =>
      simp only [encP, List.getElem?_cons_succ, List.getElem?_cons_zero, Option.some.injEq] at hu
      subst hu
      rw [Array.getElem?_setIfInBounds_ne (by omega), Array.getElem?_setIfInBounds_ne (by omega), Array.getElem?_setIfInBounds_ne (by omega), Array.getElem?_setIfInBounds_self_of_lt (by simp; omega)]
    | 2, _ =>
      simp only [encP, List.getElem?_cons_succ, List.getElem?_cons_zero, Option.some.injEq] at hu
      subst hu
      rw [Array.getElem?_setIfInBounds_ne (by omega), Array.getElem?_setIfInBounds_ne (by omega), Array.getElem?_setIfInBounds_self_of_lt (by simp; omega)]
    | 3, _ =>
      simp only [encP, List.getElem?_cons_succ, List.getElem?_cons_zero, Option.some.injEq] at hu
      subst hu
      rw [Array.getElem?_setIfInBounds_ne (by omega), Array.getElem?_setIfInBounds_self_of_lt (by simp; omega)]
    | 4, _ =>
      simp only [encP, List.getElem?_cons_succ, List.getElem?_cons_zero, Option.some.injEq] at hu
      subst hu
      rw [Array.getElem?_setIfInBounds_self_of_lt (by simp; omega)]
  · rcases hT q hq with h | h
    · rw [Array.getElem?_setIfInBounds_ne (by omega), Array.getElem?_setIfInBounds_ne (by omega), Array.getElem?_setIfInBounds_ne (by omega), Array.getElem?_setIfInBounds_ne (by omega), Array.getElem?_setIfInBounds_ne (by omega)]
      exact hc q h hqm j u hu
    · exact absurd h e
theorem Outs.all {w : World} {g mm : Nat} {s : Nat → Pc V3} {T : Nat → Prop} (h : Outs w g mm s T) (hT : ∀ i, i < mm → T i) : Li 5 encP w (fun _ => True) (some ⟨g, 0, none⟩) ((List.range mm).map s) := by
  obtain ⟨cs, hB, hs, hc⟩ := h
  intro j x hj
  rw [List.getElem?_map] at hj
  have hjm : j < mm := by
    rcases Nat.lt_or_ge j mm with h | h
    · exact h
    · rw [List.getElem?_eq_none (by simpa using h)] at hj; cases hj
  rw [List.getElem?_range hjm] at hj
  simp only [Option.map_some, Option.some.injEq] at hj
  subst hj
  exact ⟨g, 0, rfl, hB.1, trivial, fun i u hu => by rw [hB.2.1, Nat.zero_add]; exact hc j (hT j hjm) hjm i u hu⟩

structure FM (w : World) (S : List (Pc V3)) (z : V3) (C : List Int) (As Ac : Option Addr) (gO gN mm : Nat) (N : List Nat) (T : Nat → Prop) (X : World) : Prop where
  sp : Li 5 encP X (fun b => b < gO) As S
  cu : Li 1 encI X (fun b => b < gO) Ac C
  out : Outs X gO mm (seg S z C) T
  nx : Nx X gN N
  ni : NextInv N T mm
  be : Below w.heap.size w X
  lo : w.heap.size ≤ gO
  lt : gO < gN
  hi : gN < X.heap.size
section
variable {w : World} {S : List (Pc V3)} {z : V3} {C : List Int} {As Ac : Option Addr} {gO gN mm : Nat} {N N' : List Nat} {T T' : Nat → Prop} {X Y : World}
theorem FM.later (h : FM w S z C As Ac gO gN mm N T X) (hb : Below X.heap.size X Y) : FM w S z C As Ac gO gN mm N T Y :=
  ⟨h.sp.later hb, h.cu.later hb, h.out.later hb h.out.lt, h.nx.later hb h.nx.lt, h.ni, h.be.trans (hb.mono h.be.size), h.lo, h.lt, Nat.lt_of_lt_of_le h.hi hb.size⟩
theorem FM.congr (h : FM w S z C As Ac gO gN mm N T X) (e : ∀ q, T q ↔ T' q) : FM w S z C As Ac gO gN mm N T' X :=
  ⟨h.sp, h.cu, h.out.congr fun q hq => (e q).2 hq, h.nx, h.ni.congr e, h.be, h.lo, h.lt, h.hi⟩
/-- Behind free. -/
theorem FM.freed (h : FM w S z C As Ac gO gN mm N T X) (hn : Nx Y gN N') (hi : NextInv N' T mm) (hg : X.grownBy Y (some gN)) : FM w S z C As Ac gO gN mm N' T Y :=
  ⟨h.sp.grown hg fun b hb e => by injection e with e; have := h.lt; omega, h.cu.grown hg fun b hb e => by injection e with e; have := h.lt; omega, h.out.grown hg (fun e => by injection e with e; have := h.lt; omega), hn, hi, h.be.grown hg h.be.size fun k hk => by injection hk with hk; have := h.lo; have := h.lt; omega, h.lo, h.lt, Nat.lt_of_lt_of_le h.hi hg.size⟩
/-- A part is taken. -/
theorem FM.put (h : FM w S z C As Ac gO gN mm N T X) {i : Nat} (hi : i < mm) (hT : ∀ q, T' q ↔ T q ∨ q = i) (q : Nat) :
    FM w S z C As Ac gO gN mm (N.set i (i + 1)) T' ((((((((X.drewN q).setCell ⟨gO, i * 5, none⟩ (.int .i64 (seg S z C i).f)).setCell ⟨gO, i * 5 + 1, none⟩ (.int .i64 (seg S z C i).t)).setCell ⟨gO, i * 5 + 2, none⟩ (.bool (seg S z C i).v.1)).setCell ⟨gO, i * 5 + 3, none⟩ (.bool (seg S z C i).v.2.1)).setCell ⟨gO, i * 5 + 4, none⟩ (.bool (seg S z C i).v.2.2))).setCell ⟨gN, i, none⟩ (.int .i64 ((i + 1 : Nat) : Int))) := by
  have h1 := h.later (selfDrew X q)
  have lt := h.lt
  have lo := h.lo
  have n0 : ∀ j : Nat, (⟨gO, j, none⟩ : Addr).block = gO := fun _ => rfl
  refine ⟨(((((h1.sp.far (by simp) _).far (by simp) _).far (by simp) _).far (by simp) _).far (by simp) _).far (by simp; omega) _, (((((h1.cu.far (by simp) _).far (by simp) _).far (by simp) _).far (by simp) _).far (by simp) _).far (by simp; omega) _, ?_, ?_, h.ni.take (by omega) hT, ?_, lo, lt, by simp only [World.size_setCell]; exact h1.hi⟩
  · obtain ⟨cs, hB, hx⟩ := h1.out.put hi T' (fun q hq => (hT q).1 hq)
    exact ⟨cs, hB.far (by simp; omega) _, hx⟩
  · have hn : Nx ((((((X.drewN q).setCell ⟨gO, i * 5, none⟩ (.int .i64 (seg S z C i).f)).setCell ⟨gO, i * 5 + 1, none⟩ (.int .i64 (seg S z C i).t)).setCell ⟨gO, i * 5 + 2, none⟩ (.bool (seg S z C i).v.1)).setCell ⟨gO, i * 5 + 3, none⟩ (.bool (seg S z C i).v.2.1)).setCell ⟨gO, i * 5 + 4, none⟩ (.bool (seg S z C i).v.2.2)) gN N := by
      obtain ⟨cs, hB, hc⟩ := h1.nx
      exact ⟨cs, ((((hB.far (by simp; omega) _).far (by simp; omega) _).far (by simp; omega) _).far (by simp; omega) _).far (by simp; omega) _, hc⟩
    exact hn.set i (by rw [h.ni.1]; omega) (i + 1)
  · exact (((((h1.be.setCell (by simpa using lo) _).setCell (by simpa using lo) _).setCell (by simpa using lo) _).setCell (by simpa using lo) _).setCell (by simpa using lo) _).setCell (by simp; omega) _
end

/-- Which parts the first j pieces have. -/
def Tk (S : List (Pc V3)) (C : List Int) (mm j : Nat) (i : Nat) : Prop := i < mm ∧ (pget (S.take j) (cAt C i)).isSome
theorem tk_zero (S : List (Pc V3)) (C : List Int) (mm i : Nat) : Tk S C mm 0 i ↔ False := by simp [Tk, pget]
theorem tk_succ {S : List (Pc V3)} {C : List Int} {mm j fr tt : Nat} {x : Pc V3} (hx : S[j]? = some x) (hC : C.Pairwise (· < ·)) (hl : C.length = mm + 1) (hf : fr < C.length ∧ cAt C fr = x.f) (ht : tt < C.length ∧ cAt C tt = x.t + 1) (i : Nat) :
    Tk S C mm (j + 1) i ↔ Tk S C mm j i ∨ (fr ≤ i ∧ i < tt) := by
  unfold Tk
  rw [take_snoc' hx, pget_append, pget_cons]
  have key : i < mm → ((x.f ≤ cAt C i ∧ cAt C i ≤ x.t) ↔ (fr ≤ i ∧ i < tt)) := fun hi => by
    constructor
    · rintro ⟨h1, h2⟩
      refine ⟨?_, ?_⟩
      · rcases Nat.lt_or_ge i fr with h | h
        · have := cAt_lt hC h hf.1; omega
        · exact h
      · rcases Nat.lt_or_ge i tt with h | h
        · exact h
        · have := cAt_le hC h (by omega); omega
    · rintro ⟨h1, h2⟩
      have a := cAt_le hC h1 (show i < C.length by omega)
      have b := cAt_lt hC h2 ht.1
      omega
  constructor
  · rintro ⟨hi, h⟩
    cases hp : pget (S.take j) (cAt C i) with
    | some v => left; exact ⟨hi, rfl⟩
    | none =>
      right
      rw [hp] at h
      by_cases hc : x.f ≤ cAt C i ∧ cAt C i ≤ x.t
      · exact (key hi).1 hc
      · rw [if_neg hc] at h
        simp [pget] at h
  · rintro (⟨hi, h⟩ | h)
    · refine ⟨hi, ?_⟩
      cases hp : pget (S.take j) (cAt C i) with
      | some v => rfl
      | none => rw [hp] at h; cases h
    · have hi : i < mm := by omega
      refine ⟨hi, ?_⟩
      rw [if_pos ((key hi).2 h)]
      cases pget (S.take j) (cAt C i) <;> rfl
/-- What a part has that is taken now. -/
theorem seg_now {S : List (Pc V3)} {z : V3} {C : List Int} {mm j fr tt i : Nat} {x : Pc V3} (hx : S[j]? = some x) (hC : C.Pairwise (· < ·)) (hl : C.length = mm + 1) (hf : fr < C.length ∧ cAt C fr = x.f) (ht : tt < C.length ∧ cAt C tt = x.t + 1) (h1 : fr ≤ i) (h2 : i < tt) (hn : ¬ Tk S C mm j i) : (seg S z C i).v = x.v := by
  have hi : i < mm := by omega
  have a := cAt_le hC h1 (show i < C.length by omega)
  have b := cAt_lt hC h2 ht.1
  have e : S = S.take j ++ x :: S.drop (j + 1) := by
    have h := List.take_append_drop j S
    obtain ⟨hj, e⟩ := List.getElem?_eq_some_iff.1 hx
    rw [List.drop_eq_getElem_cons hj, e] at h
    exact h.symm
  have hp : pget (S.take j) (cAt C i) = none := by
    cases hp : pget (S.take j) (cAt C i) with
    | none => rfl
    | some v => exact absurd ⟨hi, by rw [hp]; rfl⟩ hn
  simp only [seg]
  rw [e, pget_append, hp, pget_cons, if_pos ⟨by omega, by omega⟩]
  rfl
end Go.Proofs.YtggapcfjcdafpaaGreat.TK
