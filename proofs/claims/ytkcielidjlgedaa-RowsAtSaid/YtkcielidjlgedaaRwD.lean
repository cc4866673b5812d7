/- rows: the document's add and Edges. -/
import Derived.Test.YtkcielidjlgedaaRw1
import Derived.Test.YtkcielidjlgedaaRwC
namespace Go.Proofs.Ytkcielidjlgedaa
open Go.RowKit
set_option linter.unusedVariables false
set_option linter.unusedSimpArgs false

theorem addP_out {l : List Int} {n : Int} (h : n < 0 ∨ 1114111 < n ∨ n ∈ l) : addP l n = l := by rw [addP, if_pos h]
/-- A list in memory from a number on. -/
def TellsF {α : Type} (k : Nat) (enc : α → List Value) (L : List α) (B : Nat) (w : World) (e : Ending) (w' : World) : Prop := ∃ A n c, e = .returned (.slice A n c) ∧ LiV k enc w' (fun b => B ≤ b) (.slice A n c) L ∧ Below w.heap.size w w'

set_option maxHeartbeats 4000000 in
set_option maxRecDepth 100000 in
theorem add_any (A : Option Addr) (c : Nat) (l : List Int) (n : Int) (B : Nat) (w : World) (hl : LiV 1 encI w (fun b => B ≤ b) (.slice A l.length c) l) (hB : B ≤ w.heap.size) (hn : l.length ≤ 100000) (hm : (1114112 : Int) ∈ l) :
    Calls Try.prog 25 #[.slice A l.length c, .int .i64 n] w (TellsF 1 encI (addP l n) B w) := by
  obtain ⟨_, hLi, hA, hc1, hc2⟩ := hl.parts
  by_cases hr : 0 ≤ n ∧ n ≤ 1114111
  · obtain ⟨h1, h2⟩ := hr
    have g1 : decide (n < 0) = false := decide_eq_false (by omega)
    have g2 : decide ((1114111 : Int) < n) = false := decide_eq_false (by omega)
    have HL := Lib.hid hLi
    have HV := Lib.hid hl
    have HM := Lib.hid hm
    clear hLi hA hl hm
    go_enter Try.func25, Try.ntmps25
    go_wp2
    go_loopw [5, 6, 7] (fun v dv i wr => ∃ (k : Nat) (d : Bool) (Ao : Option Addr) (no co : Nat), k ≤ l.length ∧ i = .int .i64 k ∧ dv = .bool d ∧ v = .slice Ao no co ∧ no ≤ 2 * k ∧ Hid (∃ D, AddI l n k d D ∧ Grows w 3 1 encI Ao no co D wr)) (fun _ _ i _ => l.length - (intOf i).toNat)
    case atStart => exact ⟨0, false, none, 0, 0, Nat.zero_le _, rfl, rfl, rfl, Nat.le_refl _, [], AddI.start _ _, Grows.start _ _ _⟩
    case round =>
      obtain ⟨k, d, Ao, no, co, hk, rfl, rfl, rfl, hno, HD⟩ := hrel
      obtain ⟨D, hD, hG⟩ := HD.out
      have HJ := Lib.hid (And.intro hD hG)
      clear hD hG HD
      by_cases hlt : k < l.length
      · obtain ⟨b, o, rfl, hbl, _, hcw⟩ := HL.out.int hlt
        have hci := ((HJ.out.2.below.cell (p := ⟨b, o + k, none⟩) hbl)).trans hcw
        obtain ⟨y, hy⟩ : ∃ y, l.getD k 0 = y := ⟨_, rfl⟩
        have hy2 : l[k]? = some y := by rw [← hy]; simp [List.getD, hlt]
        have HY := Lib.hid hy2
        rw [hy] at hci hcw
        have hz : w.heap.size ≤ wr.heap.size := HJ.out.2.below.size
        have HO := Lib.hid HJ.out.2.own
        clear hy hy2
        by_cases e1 : y = n
        · have d1 : (y == n) = true := by simpa using e1
          have HT := Lib.hid (show TellsF 1 encI (addP l n) B w (.returned (.slice (some ⟨b, o, none⟩) l.length c)) wr from ⟨_, _, _, rfl, by rw [addP_out (.inr (.inr (by rw [← e1]; exact List.mem_of_getElem? HY.out)))]; exact HV.out.later HJ.out.2.below, HJ.out.2.below⟩)
          clear e1
          go_wp2
          go_ret
          exact HT.out
        · have d1 : (y == n) = false := by simpa using e1
          cases d
          · by_cases e2 : n < y
            · have HQ := Lib.hid (HJ.out.1.here HY.out e2)
              have d2 : decide (n < y) = true := decide_eq_true e2
              clear e1
              go_wp2_with (first
                | (at_builtin; refine wpList_push (s := .tmp 38) (x := .tmp 40) int_elt HO.out hz rfl rfl rfl rfl rfl rfl rfl (by unfold maxLen; omega) (by omega) ?_; intro A3 c3 w3 hp; have hb3 := hp.below HJ.out.2.below HO.out (Nat.le_refl _); have hc3 := (hb3.cell (p := ⟨b, o + k, none⟩) hbl).trans hcw; have HG := Lib.hid (HJ.out.2.push (Below.refl _ _) hp); clear hp hb3)
                | (at_builtin; refine wpList_push (s := .tmp 42) (x := .tmp 47) int_elt HG.out.own HG.out.below.size rfl rfl rfl rfl rfl rfl rfl (by unfold maxLen; omega) (by omega) ?_; intro A4 c4 w4 hp; have HP := Lib.hid (HG.out.push (Below.refl _ _) hp); clear hp))
              go_roundw
              case rel => exact ⟨k + 1, true, _, _, _, by omega, by go_num, rfl, rfl, by omega, _, HQ.out, HP.out⟩
              case measure => simp [intOf]; omega
            · have HQ := Lib.hid (HJ.out.1.low HY.out (by omega))
              have d2 : decide (n < y) = false := decide_eq_false e2
              clear e1
              go_wp2_with (at_builtin; refine wpList_push int_elt HO.out hz rfl rfl rfl rfl rfl rfl rfl (by unfold maxLen; omega) (by omega) ?_; intro A3 c3 w3 hp; have HP := Lib.hid hp; clear hp)
              go_roundw
              case rel => exact ⟨k + 1, false, _, _, _, by omega, by go_num, rfl, rfl, by omega, _, HQ.out, HJ.out.2.push (Below.refl _ _) HP.out⟩
              case measure => simp [intOf]; omega
          · have HQ := Lib.hid (HJ.out.1.more HY.out e1)
            clear e1
            by_cases e2 : n < y
            · have d2 : decide (n < y) = true := decide_eq_true e2
              go_wp2_with (at_builtin; refine wpList_push int_elt HO.out hz rfl rfl rfl rfl rfl rfl rfl (by unfold maxLen; omega) (by omega) ?_; intro A3 c3 w3 hp; have HP := Lib.hid hp; clear hp)
              go_roundw
              case rel => exact ⟨k + 1, true, _, _, _, by omega, by go_num, rfl, rfl, by omega, _, HQ.out, HJ.out.2.push (Below.refl _ _) HP.out⟩
              case measure => simp [intOf]; omega
            · have d2 : decide (n < y) = false := decide_eq_false e2
              go_wp2_with (at_builtin; refine wpList_push int_elt HO.out hz rfl rfl rfl rfl rfl rfl rfl (by unfold maxLen; omega) (by omega) ?_; intro A3 c3 w3 hp; have HP := Lib.hid hp; clear hp)
              go_roundw
              case rel => exact ⟨k + 1, true, _, _, _, by omega, by go_num, rfl, rfl, by omega, _, HQ.out, HJ.out.2.push (Below.refl _ _) HP.out⟩
              case measure => simp [intOf]; omega
      · obtain rfl : k = l.length := by omega
        have HT := Lib.hid (show TellsF 1 encI (addP l n) B w (.returned (.slice Ao no co)) wr from ⟨_, _, _, rfl, by rw [← HJ.out.1.done h1 h2 HM.out]; exact (LiV.own encI_len (by decide) HJ.out.2.own).mono fun b hb => by omega, HJ.out.2.below⟩)
        clear hlt
        go_wp2
        go_ret
        exact HT.out
  · have hr2 : n < 0 ∨ (0 ≤ n ∧ 1114111 < n) := by omega
    have HT := Lib.hid (show TellsF 1 encI (addP l n) B w (.returned (.slice A l.length c)) w from ⟨_, _, _, rfl, by rw [addP_out (by omega)]; exact hl, Below.refl _ _⟩)
    clear hr hl hLi hA hm
    rcases hr2 with h | ⟨h, h'⟩
    all_goals
      go_enter Try.func25, Try.ntmps25
      go_wp2
      go_ret
      exact HT.out

/-- What holds at the head of Edges' round. -/
structure EdR (w : World) (kind : Int) (L : List Row) (k : Nat) (v : Value) (E : List Int) (X : World) : Prop where
  fold : (L.take k).foldl (edgeStep kind) [0, 1114112] = E
  inv : EdgeInv kind (L.take k) E
  li : LiV 1 encI X (fun b => w.heap.size ≤ b) v E
  below : Below w.heap.size w X
theorem foldE_snoc {kind : Int} {L : List Row} {k : Nat} {x : Row} (h : L[k]? = some x) : (L.take (k + 1)).foldl (edgeStep kind) [0, 1114112] = edgeStep kind ((L.take k).foldl (edgeStep kind) [0, 1114112]) x := by
  rw [take_snoc' h, List.foldl_append]
  rfl

set_option maxHeartbeats 4000000 in
set_option maxRecDepth 100000 in
theorem edges_any (A : Option Addr) (c : Nat) (L : List Row) (kind : Int) (w : World) (hL : Li 5 encR w (fun _ => True) A L) (hc : L.length ≤ c) (hn : L.length ≤ 10000) (hb : ∀ x ∈ L, -9223372036854775808 ≤ x.t ∧ x.t ≤ 9223372036854775807) :
    Calls Try.prog 9 #[.slice A L.length c, .int .i64 kind] w (TellsF 1 encI (edgesP kind L) w.heap.size w) := by
  have HL := Lib.hid hL
  have HB := Lib.hid hb
  clear hL hb
  go_enter Try.func9, Try.ntmps9
  go_wp2_with fail
  go_loopw [5, 6] (fun v i wr => ∃ (k : Nat) (E : List Int) (Ao : Option Addr) (co : Nat), k ≤ L.length ∧ i = .int .i64 k ∧ v = .slice Ao E.length co ∧ Hid (EdR w kind L k (.slice Ao E.length co) E wr)) (fun _ i _ => L.length - (intOf i).toNat)
  case atStart => exact ⟨0, [0, 1114112], some ⟨w.heap.size, 0, none⟩, 2, Nat.zero_le _, rfl, rfl, rfl, EdgeInv.start kind, ⟨_, _, rfl, Li.new encI_len w _ _ rfl, (fun h => by cases h), Nat.le_refl _, by unfold maxLen; simp⟩, (Below.refl _ _).alloc (Nat.le_refl _) _⟩
  case round =>
    obtain ⟨k, E, Ao, co, hk, rfl, rfl, HE⟩ := hrel
    have hEl := HE.out.inv.len
    rw [List.length_take, Nat.min_eq_left hk] at hEl
    by_cases hlt : k < L.length
    · obtain ⟨x, b, o, hx, rfl, hbl, _, k0, k1, k2, k3, k4⟩ := HL.out.row hlt
      have xb := HB.out x (List.mem_of_getElem? hx)
      have xb1 := xb.1
      have xb2 := xb.2
      have c0 := (HE.out.below.cell (p := ⟨b, o + k * 5, none⟩) hbl).trans k0
      have c1 := (HE.out.below.cell (p := ⟨b, o + k * 5 + 1, none⟩) hbl).trans k1
      have hf := foldE_snoc (kind := kind) hx
      have hi := HE.out.inv.step x
      rw [← take_snoc' hx] at hi
      rw [HE.out.fold] at hf
      have HF := Lib.hid (And.intro hf hi)
      clear hx xb hf hi k0 k1 k3 k4
      by_cases e1 : x.k = kind
      · have d1 : (x.k != kind) = false := by simpa using e1
        have A1 := Lib.hid (add_any Ao co E x.f w.heap.size wr HE.out.li HE.out.below.size (by omega) HE.out.inv.hi)
        go_wp2_with fail
        refine A1.out.mono ?_
        rintro e w1 ⟨A3, n3, c3, rfl, hl, hbb⟩
        obtain ⟨rfl, _⟩ := hl.parts
        have H1 := Lib.hid (And.intro hl (HE.out.below.trans (hbb.mono HE.out.below.size)))
        have d2 := (H1.out.2.cell (p := ⟨b, o + k * 5 + 2, none⟩) hbl).trans k2
        have hl1 := addP_len E x.f
        clear hl hbb A1 c0 c1 k2
        by_cases e2 : x.t < 1114111
        · have hes : edgeStep kind E x = addP (addP E x.f) (x.t + 1) := by rw [edgeStep, if_pos e1, if_pos e2]
          have A2 := Lib.hid (add_any A3 c3 (addP E x.f) (x.t + 1) w.heap.size w1 H1.out.1 H1.out.2.size (by omega) (addP_sub HE.out.inv.hi))
          have HS := Lib.hid hes
          clear hes e1
          go_wp2_with fail
          refine A2.out.mono ?_
          rintro e w2 ⟨A4, n4, c4, rfl, hl, hbb⟩
          obtain ⟨rfl, _⟩ := hl.parts
          have H2 := Lib.hid (And.intro hl (H1.out.2.trans (hbb.mono H1.out.2.size)))
          clear hl hbb A2
          go_wp2_with fail
          go_roundw
          case rel => exact ⟨k + 1, _, A4, c4, by omega, by go_num, rfl, by rw [HF.out.1, HS.out], by have := HF.out.2; rw [HS.out] at this; exact this, H2.out.1, H2.out.2⟩
          case measure => simp [intOf]; omega
        · have hes : edgeStep kind E x = addP E x.f := by rw [edgeStep, if_pos e1, if_neg e2]
          have HS := Lib.hid hes
          clear hes e1
          go_wp2_with fail
          go_roundw
          case rel => exact ⟨k + 1, _, A3, c3, by omega, by go_num, rfl, by rw [HF.out.1, HS.out], by have := HF.out.2; rw [HS.out] at this; exact this, H1.out.1, H1.out.2⟩
          case measure => simp [intOf]; omega
      · have d1 : (x.k != kind) = true := by simpa using e1
        have hes : edgeStep kind E x = E := by rw [edgeStep, if_neg e1]
        have HS := Lib.hid hes
        clear hes e1
        go_wp2_with fail
        go_roundw
        case rel => exact ⟨k + 1, _, Ao, co, by omega, by go_num, rfl, by rw [HF.out.1, HS.out], by have := HF.out.2; rw [HS.out] at this; exact this, HE.out.li, HE.out.below⟩
        case measure => simp [intOf]; omega
    · obtain rfl : k = L.length := by omega
      have hfo := HE.out.fold
      rw [List.take_length] at hfo
      have HT := Lib.hid (show TellsF 1 encI (edgesP kind L) w.heap.size w (.returned (.slice Ao E.length co)) wr from ⟨_, _, _, rfl, by unfold edgesP; rw [hfo]; exact HE.out.li, HE.out.below⟩)
      clear hlt hfo
      go_wp2_with fail
      go_ret
      exact HT.out
end Go.Proofs.Ytkcielidjlgedaa
