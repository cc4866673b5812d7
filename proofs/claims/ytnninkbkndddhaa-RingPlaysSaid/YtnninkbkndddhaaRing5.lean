/- ring: All. -/
import Derived.Test.YtnninkbkndddhaaRing4
namespace Go.Proofs.Ytnninkbkndddhaa
open Go.RowKit
set_option linter.unusedVariables false
set_option linter.unusedSimpArgs false

/-- Texts, and the place of the one on top. -/
def TellsAll (L : List (List Int)) (k : Int) (w : World) (e : Ending) (w' : World) : Prop := ∃ A n c, e = .returned (.tuple #[.slice A n c, .int .i64 k]) ∧ TxtsS w' (fun b => w.heap.size ≤ b) (.slice A n c) L ∧ Below w.heap.size w w'

set_option maxHeartbeats 2000000 in
theorem all_any (u : Value) (k : Int) (L : List (List Int)) (w : World) (hL : Txts w u L) (hn : L.length ≤ 1000) (hm : ∀ l ∈ L, l.length ≤ 1000000) : Calls Try.prog 7 #[.agg #[u, .int .i64 k]] w (TellsAll L k w) := by
  obtain ⟨A, c, rfl, hc, hc2⟩ := hL.is
  have HL := Lib.hid hL
  have HM := Lib.hid hm
  clear hL hm
  go_enter Try.func7, Try.ntmps7
  go_wp2
  go_loopw [4, 6, 10] (fun v _ i wr => ∃ q : Nat, q ≤ L.length ∧ i = .int .i64 q ∧ Hid (∃ xs, wr.ownsRow (w.heap.size + 1) 26 1 v q xs ∧ OwnTs (w.heap.size + 1) wr v xs q L ∧ Below w.heap.size w wr ∧ Blk wr w.heap.size #[.slice A L.length c, .int .i64 k])) (fun _ _ i _ => L.length - (intOf i).toNat)
  case atStart => exact ⟨0, Nat.zero_le _, rfl, ⟨[], World.ownsRow_nil _ _ _ _, (fun j hj => absurd hj (by omega)), (Below.refl _ _).alloc (Nat.le_refl _) _, blk_new w _ _⟩⟩
  case round =>
    obtain ⟨q, hq, rfl, HR⟩ := hrel
    obtain ⟨xs, hown, hts, hbw, hB⟩ := HR.out
    by_cases hlt : q < L.length
    · obtain ⟨b, o, Aj, nj, cj, rfl, hbl, hcell, ht⟩ := HL.out.at_ hlt
      have hcell' : wr.cell? ⟨b, o + q, none⟩ = some (.slice Aj nj cj) := (hbw.cell (p := ⟨b, o + q, none⟩) hbl).trans hcell
      have hlen : (L.getD q []).length ≤ 1000000 := HM.out _ (by rw [show L.getD q [] = L[q] by simp [List.getD, hlt]]; exact List.getElem_mem hlt)
      have HT := Lib.hid (Txt.later ht hbw)
      have HO := Lib.hid (And.intro hown (And.intro hts (And.intro hbw hB)))
      have hz := hB.1
      clear hown hts hbw hB ht hcell HR
      go_wp2_with (first
        | (go_at_call 17; refine (clone_any _ _ _ HT.out (by omega)).mono ?_; rintro e w1 ⟨A1, n1, c1, rfl, ht1, hb1⟩; have H1 := Lib.hid (And.intro ht1 hb1); clear ht1 hb1)
        | (at_builtin; refine wpList_push slT_elt (own_later HO.out.1 H1.out.2) (by have := H1.out.2.size; omega) rfl rfl rfl rfl (by simp) rfl rfl (by unfold maxLen; omega) (by omega) ?_; intro A3 v3 w3 hp; have HP := Lib.hid hp; clear hp))
      have hbw1 := HO.out.2.2.1.trans (H1.out.2.mono HO.out.2.2.1.size)
      have hb3 : Below w.heap.size w w3 := HP.out.below hbw1 (own_later HO.out.1 H1.out.2) (Nat.le_succ _)
      have hne : some w.heap.size ≠ Value.ownBlock (_) := fun e => by have := (HO.out.1.lt _ e.symm).1; omega
      have hB3 := ((HO.out.2.2.2.later H1.out.2 hz)).grown HP.out.grown hne
      have hts3 := OwnTs.push HO.out.2.1 HO.out.1 H1.out.2 (by omega) H1.out.1 HP.out
      have HF := Lib.hid (And.intro HP.out.own (And.intro hts3 (And.intro hb3 hB3)))
      clear hbw1 hb3 hne hB3 hts3
      go_roundw
      case rel => exact ⟨q + 1, by omega, by go_num, ⟨_, HF.out⟩⟩
      case measure => simp [intOf]; omega
    · obtain rfl : q = L.length := by omega
      obtain ⟨A5, c5, rfl⟩ := own_slice hown
      have HO := Lib.hid (And.intro hown (And.intro hts (And.intro hbw hB)))
      obtain ⟨y0, k0, j0⟩ := (show _ from hB)
      clear hown hts hbw hB HR
      go_wp2
      go_quiet (fail)
      go_wp2
      go_ret2
      refine ⟨_, _, _, rfl, ?_, below_drewN HO.out.2.2.1 _⟩
      exact (txts_own (S := fun b => w.heap.size ≤ b) rfl HO.out.1 (fun b hb => by omega) (fun j hj => by
        obtain ⟨u, h1, h2⟩ := HO.out.2.1 j hj
        exact ⟨u, h1, Sl.mono h2 fun b hb => by omega⟩)).later (below_drewN (Below.refl _ _) _)

end Go.Proofs.Ytnninkbkndddhaa
