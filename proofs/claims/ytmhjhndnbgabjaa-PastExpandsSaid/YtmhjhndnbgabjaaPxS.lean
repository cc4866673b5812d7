/- past: the document's named. -/
import Derived.Test.YtmhjhndnbgabjaaPxR
namespace Go.Proofs.Ytmhjhndnbgabjaa
open Go.RowKit
set_option linter.unusedVariables false
set_option linter.unusedSimpArgs false

def fitQ (q : Bool) (l w : List Int) : Bool := if q = true then hasP l w else begP l w
def foundAt (q : Bool) (l w : List Int) (k : Nat) : Prop := if q = true then hasAt l w k else (k ≠ 0 → begP l w = false)
section
variable {q : Bool} {l w : List Int} {k : Nat}
theorem foundAt_zero (q : Bool) (l w : List Int) : foundAt q l w 0 := by
  unfold foundAt
  split
  · exact hasAt_zero l w
  · intro h; exact absurd rfl h
theorem foundAt_yes (h : foundAt q l w k) (hk : k ≤ l.length) (hq : k = 0 ∨ q = true) (hb : begP (l.drop k) w = true) : fitQ q l w = true := by
  unfold foundAt at h
  unfold fitQ
  by_cases e : q = true
  · rw [if_pos e] at h ⊢
    exact hasAt_yes h hk hb
  · rw [if_neg e]
    rcases hq with h0 | h0
    · subst h0; exact hb
    · exact absurd h0 e
theorem foundAt_no (h : foundAt q l w k) (hk : k ≤ l.length) (hb : (k = 0 ∨ q = true) → begP (l.drop k) w = false) : foundAt q l w (k + 1) := by
  unfold foundAt at *
  by_cases e : q = true
  · rw [if_pos e] at h ⊢
    exact hasAt_no h hk (hb (.inr e))
  · rw [if_neg e] at h ⊢
    intro _
    by_cases h0 : k = 0
    · subst h0; exact hb (.inl rfl)
    · exact h h0
theorem foundAt_end (h : foundAt q l w (l.length + 1)) : fitQ q l w = false := by
  unfold foundAt at h
  unfold fitQ
  by_cases e : q = true
  · rw [if_pos e] at h ⊢
    rw [h]
    simp
  · rw [if_neg e] at h ⊢
    exact h (by omega)
end
/-- From a place on. -/
theorem find_no {L : List (List Int)} {f : List Int → Bool} {i : Nat} (hi : i < L.length) (h : f (L.getD i []) = false) : (L.drop i).find? f = (L.drop (i + 1)).find? f := by
  rw [List.drop_eq_getElem_cons hi]
  have e : L.getD i [] = L[i] := by simp [List.getD, hi]
  rw [e] at h
  rw [List.find?_cons_of_neg (by rw [h]; exact Bool.false_ne_true)]
theorem find_yes {L : List (List Int)} {f : List Int → Bool} {i : Nat} (hi : i < L.length) (h : f (L.getD i []) = true) : (L.drop i).find? f = some (L.getD i []) := by
  rw [List.drop_eq_getElem_cons hi]
  have e : L.getD i [] = L[i] := by simp [List.getD, hi]
  rw [e] at h ⊢
  rw [List.find?_cons_of_pos h]
set_option maxHeartbeats 8000000 in
set_option maxRecDepth 100000 in
theorem rnamed_any (Al : Option Addr) (cl : Nat) (k0 : Int) (lv : Value) (M : List (List Int)) (v : Value) (m : List Int) (q : Bool) (w : World) (hL : Txts w (.slice Al M.length cl) M.reverse) (hn : M.length ≤ 1000) (hm : ∀ l ∈ M, l.length ≤ 100000) (hv : Txt w v m) (hml : m.length ≤ 100000) :
    Calls Try.prog 43 #[.agg #[.slice Al M.length cl, .int .i64 k0, lv], v, .bool q] w fun e w' => ∃ A n c, e = .returned (.tuple #[.slice A n c, .bool (newestP M fun l => fitQ q l m).isSome]) ∧ Txt w' (.slice A n c) ((newestP M fun l => fitQ q l m).getD []) ∧ Below w.heap.size w w' := by
  obtain ⟨A', c', rfl, _, _⟩ := Sl.is hv
  have HL := Lib.hid hL
  have HV := Lib.hid hv
  obtain ⟨L, hLM⟩ : ∃ L, M.reverse = L := ⟨_, rfl⟩
  have hLl : L.length = M.length := by rw [← hLM]; simp
  have HML := Lib.hid (show ∀ l ∈ L, l.length ≤ 100000 from fun l h => hm l (by rw [← hLM] at h; exact List.mem_reverse.1 h))
  obtain ⟨R, hR⟩ : ∃ R, newestP M (fun l => fitQ q l m) = R := ⟨_, rfl⟩
  have HR := Lib.hid (show (L.drop 0).find? (fun l => fitQ q l m) = R by rw [← hR, ← hLM]; rfl)
  rw [hR]
  rw [hLM] at HL
  obtain ⟨N, hN⟩ : ∃ N, M.length = N := ⟨_, rfl⟩
  rw [hN] at HL hLl hn ⊢
  have HLL := Lib.hid hLl
  clear hL hv hm hR hLM hN hLl
  go_enter Try.func43, Try.ntmps43
  go_upto_region 1 with fail
  refine at_world (fun X => Blk X w.heap.size #[.slice Al N cl, .int .i64 k0, lv] ∧ Below w.heap.size w X) ⟨blk_new _ _ _, (Below.refl _ _).alloc (Nat.le_refl _) _⟩ ?_
  intro X hX
  have HX := Lib.hid hX
  clear hX
  go_wp2
  go_loopw [8, 9] (fun i _ wr => ∃ j : Nat, j ≤ N ∧ i = .int .i64 j ∧ Hid ((L.drop j).find? (fun l => fitQ q l m) = R ∧ Below X.heap.size X wr)) (fun i _ _ => N - (intOf i).toNat)
  case atStart => exact ⟨0, Nat.zero_le _, rfl, Lib.hid ⟨HR.out, Below.refl _ _⟩⟩
  case round =>
    obtain ⟨j, hj, rfl, H⟩ := hrel
    have hB := HX.out.1.later H.out.2 HX.out.1.1
    have z0 : wr.cell? ⟨w.heap.size, 0, none⟩ = some (.slice Al N cl) := hB.2.1 0
    clear hB
    by_cases hlt : j < N
    · have hjL : j < L.length := by rw [HLL.out]; exact hlt
      obtain ⟨b, o, Aj, nj, cj, rfl, hbl, hcell, ht⟩ := HL.out.at_ hjL
      obtain rfl := Txt.len ht
      have hcc : cj ≤ 9223372036854775807 ∧ (L.getD j []).length ≤ cj := ⟨(Sl.parts ht).2.2.2.2, (Sl.parts ht).2.2.2.1⟩
      obtain ⟨x, hx⟩ : ∃ x, L.getD j [] = x := ⟨_, rfl⟩
      rw [hx] at ht hcell hcc
      have hxl : x.length ≤ 100000 := HML.out x (by rw [← hx]; simp only [List.getD, List.getElem?_eq_getElem hjL, Option.getD_some]; exact List.getElem_mem _)
      have HC := Lib.hid (fun Z (hZ : Below X.heap.size X Z) => (show Z.cell? ⟨w.heap.size, 0, none⟩ = some (.slice (some ⟨b, o, none⟩) N cl) ∧ Z.cell? ⟨b, o + j, none⟩ = some (.slice Aj x.length cj) ∧ Txt Z (.slice Aj x.length cj) x ∧ Txt Z (.slice A' m.length c') m from
        ⟨(HX.out.1.later hZ HX.out.1.1).2.1 0, ((HX.out.2.trans (hZ.mono HX.out.2.size)).cell (p := ⟨b, o + j, none⟩) hbl).trans hcell, ht.any.later (HX.out.2.trans (hZ.mono HX.out.2.size)), HV.out.later (HX.out.2.trans (hZ.mono HX.out.2.size))⟩))
      have hd0 : (j : Int) < (N : Int) := by omega
      have hd1 : (0 : Int) ≤ (j : Int) := by omega
      have HXJ := Lib.hid hx
      obtain ⟨wo, hwo⟩ : ∃ wo : World, wo = wr := ⟨_, rfl⟩
      subst hwo
      clear z0 hcell ht hx
      have z0 := (HC.out wo H.out.2).1
      have z1 := (HC.out wo H.out.2).2.1
      go_wp2
      go_loopw [9] (fun i wr => ∃ kk : Nat, kk ≤ x.length + 1 ∧ i = .int .i64 kk ∧ Hid (foundAt q x m kk ∧ Below X.heap.size X wr)) (fun i _ => x.length + 1 - (intOf i).toNat)
      case atStart => exact ⟨0, Nat.zero_le _, rfl, Lib.hid ⟨foundAt_zero q x m, H.out.2⟩⟩
      case round =>
        obtain ⟨kk, hkk, rfl, HI⟩ := hrel
        clear z0 z1
        have z0 := (HC.out wr HI.out.2).1
        have z1 := (HC.out wr HI.out.2).2.1
        by_cases hk : kk ≤ x.length
        · have hk0 : (kk : Int) ≤ (x.length : Int) := by omega
          have hkc : (kk : Int) ≤ (cj : Int) := by omega
          obtain ⟨AK, hAK⟩ : ∃ AK, (if cj = kk then Aj else Option.map (fun x => x.add kk) Aj) = AK := ⟨_, rfl⟩
          have ht := txt_sub (HC.out wr HI.out.2).2.2.1 (i := kk) (n := x.length - kk) (by omega)
          rw [hAK, List.take_of_length_le (by simp)] at ht
          have C := begins_any _ _ _ _ wr ht (HC.out wr HI.out.2).2.2.2
          obtain ⟨p, hp⟩ : ∃ p, begP (x.drop kk) m = p := ⟨_, rfl⟩
          rw [hp] at C
          have C := Lib.hid C
          have HP := Lib.hid hp
          clear ht hp
          by_cases hT : kk = 0 ∨ q = true
          · have hgo : (kk = 0) ∨ (kk ≠ 0 ∧ q = true) := by
              by_cases h : kk = 0
              · exact .inl h
              · exact .inr ⟨h, hT.resolve_left h⟩
            have HTT := Lib.hid hT
            clear hT
            go_upto_region 7 with fail
            go_cut [42] from 17 to 47 (fun s wx => s = .bool p ∧ ∃ r, wx = wr.drewN r)
            case first =>
              rcases hgo with h0 | ⟨h0, rfl⟩
              · have d0 : ((kk : Int) == 0) = true := by simp; omega
                clear h0
                go_wp2_with fail
                refine C.out.mono ?_
                rintro e w5 ⟨rfl, r5, rfl⟩
                go_wp2_with fail
                go_meet
                exact ⟨rfl, _, rfl⟩
              · have d0 : ((kk : Int) == 0) = false := by simp; omega
                clear h0
                go_wp2_with fail
                refine C.out.mono ?_
                rintro e w5 ⟨rfl, r5, rfl⟩
                go_wp2_with fail
                go_meet
                exact ⟨rfl, _, rfl⟩
            case rest =>
              obtain ⟨rfl, r5, hwc⟩ := hcut
              have HW := Lib.hid (show Below X.heap.size X wc by rw [hwc]; exact below_drewN HI.out.2 r5)
              clear hwc C z0 z1
              have z0 := (HC.out wc HW.out).1
              have z1 := (HC.out wc HW.out).2.1
              cases p
              case false =>
                have HN2 := Lib.hid (foundAt_no HI.out.1 hk fun _ => HP.out)
                go_wp2
                go_roundw
                case rel => exact ⟨kk + 1, by omega, by go_num, Lib.hid ⟨HN2.out, HW.out⟩⟩
                case measure => simp [intOf]; omega
              case true =>
                obtain rfl : R = some x := by rw [← H.out.1, find_yes hjL (by rw [HXJ.out]; exact foundAt_yes HI.out.1 hk HTT.out HP.out), HXJ.out]
                have HZ := Lib.hid (And.intro (HC.out wc HW.out).2.2.1 (HX.out.2.trans (HW.out.mono HX.out.2.size)))
                go_wp2
                go_ret2
                exact ⟨_, _, _, rfl, HZ.out.1, HZ.out.2⟩
          · have hk1 : kk ≠ 0 := fun h => hT (.inl h)
            obtain rfl : q = false := by
              cases q with
              | false => rfl
              | true => exact absurd (.inr rfl) hT
            have d0 : ((kk : Int) == 0) = false := by simp; omega
            have HN2 := Lib.hid (foundAt_no HI.out.1 hk fun h => absurd h hT)
            clear hT C
            go_wp2
            go_roundw
            case rel => exact ⟨kk + 1, by omega, by go_num, Lib.hid ⟨HN2.out, HI.out.2⟩⟩
            case measure => simp [intOf]; omega
        · obtain rfl : kk = x.length + 1 := by omega
          have d0 : decide ((x.length : Int) + 1 ≤ (x.length : Int)) = false := decide_eq_false (by omega)
          have HN2 := Lib.hid (show (L.drop (j + 1)).find? (fun l => fitQ q l m) = R by rw [← find_no hjL (by rw [HXJ.out]; exact foundAt_end HI.out.1)]; exact H.out.1)
          go_wp2
          go_roundw
          case rel => exact ⟨j + 1, by omega, by go_num, Lib.hid ⟨HN2.out, HI.out.2⟩⟩
          case measure => simp [intOf]; omega
    · obtain rfl : j = N := by omega
      obtain rfl : R = none := by rw [← H.out.1, List.drop_eq_nil_of_le (by rw [HLL.out]; exact Nat.le_refl _)]; rfl
      have d0 : decide ((j : Int) < (j : Int)) = false := decide_eq_false (by omega)
      have HZ := Lib.hid (HX.out.2.trans (H.out.2.mono HX.out.2.size))
      clear H
      go_wp2
      go_ret2
      exact ⟨none, 0, 0, rfl, Txt.nil _, HZ.out⟩
end Go.Proofs.Ytmhjhndnbgabjaa
