/- rows: cutsOf. -/
import Derived.Test.YtkcielidjlgedaaRw1
import Derived.Test.YtkcielidjlgedaaCmp
import Derived.Test.YtkcielidjlgedaaLayI
namespace Go.Proofs.Ytkcielidjlgedaa
open Go.RowKit
set_option linter.unusedVariables false
set_option linter.unusedSimpArgs false

def ends (S : List Span) : List Int := S.flatMap fun s => [s.f, s.t + 1]
def cutsP (S : List Span) : List Int := sortedOnce (ends S)
theorem cuts_ok (S : List Span) : Cuts S (cutsP S) := by
  refine ⟨sortedOnce_lt _, fun c => ?_⟩
  unfold cutsP
  rw [sortedOnce_mem, ends, List.mem_flatMap]
  simp
theorem ends_snoc {S : List Span} {k : Nat} {x : Span} (h : S[k]? = some x) : ends (S.take (k + 1)) = ends (S.take k) ++ [x.f, x.t + 1] := by
  rw [take_snoc' h, ends, List.flatMap_append]
  rfl
theorem ends_len (S : List Span) : (ends S).length = 2 * S.length := by
  induction S with
  | nil => rfl
  | cons s S ih => simp only [ends, List.flatMap_cons, List.length_append, List.length_cons, List.length_nil] at ih ⊢; omega

/-- A row that was sorted, and cut to what differs. -/
theorem cut_calls_out {w X : World} {no co n q g : Nat} {E : TypeId} {zs : List Int} {os : Array Obj} (h : X.ownsRow w.heap.size E 1 (.slice (some ⟨g, 0, none⟩) no co) no (flatL encI zs)) (hb : Below w.heap.size w X)
    (Y : World) (hY : Y = Go.Sort.grow (Go.Sort.putRow (Value.int .i64) (Go.Sort.ahead X n) g 0 (zs.mergeSort fun x y => decide (x ≤ y)).toArray) os) (Z : World) (hZ : Z = Go.Sort.putRow (Value.int .i64) (Go.Sort.ahead Y q) g 0 (sortedOnce zs ++ List.replicate ((zs.mergeSort fun x y => decide (x ≤ y)).length - (sortedOnce zs).length) 0).toArray) :
    Z.ownsRow w.heap.size E 1 (.slice (some ⟨g, 0, none⟩) (sortedOnce zs).length co) (sortedOnce zs).length (flatL encI (sortedOnce zs)) ∧ Below w.heap.size w Z := by
  have hl := own_count encI_len (by decide) h
  have hm : (zs.mergeSort fun x y => decide (x ≤ y)).length = no := by rw [List.length_mergeSort]; exact hl
  have hk := sortedOnce_len zs
  obtain ⟨h1, h2⟩ := own_sorted (os := os) (q := n) h hb hb.size hm
  rw [← hY] at h1 h2
  have hc := own_cut (q := q) (k := (sortedOnce zs).length) h1 h2 (ys := sortedOnce zs ++ List.replicate ((zs.mergeSort fun x y => decide (x ≤ y)).length - (sortedOnce zs).length) 0) (by simp; omega) (by omega)
  rw [← hZ] at hc
  rwa [List.take_left'] at hc
  rfl

set_option maxHeartbeats 4000000 in
set_option maxRecDepth 100000 in
theorem cutsOf_any (A : Option Addr) (c : Nat) (L : List Span) (w : World) (hL : Li 4 encS w (fun _ => True) A L) (hc : L.length ≤ c) (hn : L.length ≤ 100000) (hb : ∀ s ∈ L, 0 ≤ s.f ∧ s.f ≤ s.t ∧ s.t ≤ MS) :
    Calls Try.prog 18 #[.slice A L.length c] w (TellsO 3 1 encI (cutsP L) w) := by
  have HL := Lib.hid hL
  have HB := Lib.hid hb
  clear hL hb
  go_enter Try.func18, Try.ntmps18
  go_wp2
  go_loopw [3, 5, 8] (fun v _ i wr => ∃ k : Nat, ∃ Ao co, k ≤ L.length ∧ i = .int .i64 k ∧ v = .slice Ao (2 * k) co ∧ Hid (Grows w 3 1 encI Ao (2 * k) co (ends (L.take k)) wr)) (fun _ _ i _ => L.length - (intOf i).toNat)
  case atStart => exact ⟨0, none, 0, Nat.zero_le _, rfl, rfl, Grows.start _ _ _⟩
  case round =>
    obtain ⟨k, Ao, co, hk, rfl, rfl, HG⟩ := hrel
    by_cases hlt : k < L.length
    · obtain ⟨x, b, o, hx, rfl, hbl, _, c0, c1, c2, c3⟩ := (HL.out.later HG.out.below).span hlt
      have hxm : x ∈ L := List.mem_of_getElem? hx
      have xb1 := (HB.out x hxm).1
      have xb2 := (HB.out x hxm).2.1
      have xb3 : x.t ≤ 1114111 := (HB.out x hxm).2.2
      have HX := Lib.hid (ends_snoc hx)
      clear hx hxm
      have hz := HG.out.below.size
      go_wp2_with (at_builtin; refine wpList_pushM int_elt (HG.out.own.alloc _) (by simp; omega) rfl rfl rfl rfl (by simp) rfl rfl (by unfold maxLen; omega) (by omega) ?_; intro A3 c3 w3 hp; have HP := Lib.hid hp; clear hp)
      go_roundw
      case rel => exact ⟨k + 1, _, _, by omega, by go_num, rfl, by rw [HX.out]; exact HG.out.pushM ((Below.refl _ _).alloc (Nat.le_refl _) _) rfl HP.out⟩
      case measure => simp [intOf]; omega
    · obtain rfl : k = L.length := by omega
      rw [List.take_length] at HG
      rcases Nat.eq_zero_or_pos L.length with h0 | hpos
      · have e1 : ends L = [] := List.eq_nil_of_length_eq_zero (by rw [ends_len]; omega)
        have e2 : cutsP L = [] := List.eq_nil_of_length_eq_zero (by have := sortedOnce_len (ends L); rw [e1] at this; simpa [cutsP, e1] using this)
        obtain ⟨N, hN⟩ : ∃ N, 2 * L.length = N := ⟨_, rfl⟩
        rw [hN] at HG
        obtain rfl : N = 0 := by omega
        have HT := Lib.hid (show TellsO 3 1 encI (cutsP L) w (.returned (.slice Ao 0 co)) wr from ⟨Ao, 0, co, rfl, by rw [e2]; have := HG.out.own; rw [e1] at this; exact this, HG.out.below⟩)
        clear HG e1 e2
        go_wp2_with fail
        rw [hN]
        go_wp2_with (first | (go_at_call 36; refine (sort_none _ _ _).mono ?_; rintro e w' ⟨rfl, rfl⟩) | (go_at_call 37; refine (compact_none _ _ _).mono ?_; rintro e w' ⟨rfl, rfl⟩))
        go_ret
        exact HT.out
      · obtain ⟨g, rfl, hgb, hgs, hnc, hcm, hH⟩ := holds_own HG.out.own (by omega)
        have c1 := sort_ints g 0 co (ends L) wr hH hgs (by rw [ends_len]; omega)
        rw [ends_len] at c1
        have C1 := Lib.hid c1
        clear c1
        have hml : ((ends L).mergeSort fun x y => decide (x ≤ y)).length = 2 * L.length := by rw [List.length_mergeSort, ends_len]
        have hb := HG.out.below.size
        have c2 : ∀ Y n os, Y = Go.Sort.grow (Go.Sort.putRow (Value.int .i64) (Go.Sort.ahead wr n) g 0 ((ends L).mergeSort fun x y => decide (x ≤ y)).toArray) os → Calls Try.prog 37 #[.slice (some ⟨g, 0, none⟩) (2 * L.length) co] Y fun e w' => e = .returned (.slice (some ⟨g, 0, none⟩) (cutsP L).length co) ∧ TellsO 3 1 encI (cutsP L) w (.returned (.slice (some ⟨g, 0, none⟩) (cutsP L).length co)) w' := by
          intro Y n os hY
          have hs := own_sorted (os := os) (q := n) HG.out.own HG.out.below hb hml
          rw [← hY] at hs
          obtain ⟨g', e, _, h2, h3, h4, h5⟩ := holds_own hs.1 (by omega)
          injection e with e
          injection e with e
          subst e
          have := compact_ints g 0 co _ Y h5 (by omega) (by omega)
          rw [hml] at this
          refine this.mono ?_
          rintro e w' ⟨rfl, q, rfl⟩
          have hc := cut_calls_out (q := q) HG.out.own HG.out.below Y hY _ (by rw [hml])
          exact ⟨rfl, _, _, _, rfl, hc.1, hc.2⟩
        have C2 := Lib.hid c2
        clear c2
        clear HG hH hml
        go_wp2_with fail
        refine C1.out.mono ?_
        rintro e w1 ⟨rfl, n, os, hY⟩
        have C3 := Lib.hid (C2.out w1 n os hY)
        clear hY C2 C1
        go_wp2_with fail
        refine C3.out.mono ?_
        rintro e w2 ⟨rfl, hT⟩
        have HT := Lib.hid hT
        clear hT
        go_wp2_with fail
        go_ret
        exact HT.out
end Go.Proofs.Ytkcielidjlgedaa
