/- wrap: few. -/
import Derived.Test.YtmckoabhgjfiiaaWrD
namespace Go.Proofs.Ytmckoabhgjfiiaa
open Go.RowKit
set_option linter.unusedVariables false
set_option linter.unusedSimpArgs false

def low1 (z : Int) : Nat := (BitVec.ofInt 64 z &&& BitVec.ofInt 64 1).toNat
theorem low1_le (z : Int) : low1 z ≤ 1 := by
  unfold low1
  rw [BitVec.toNat_and]
  exact Nat.le_trans Nat.and_le_right (by decide)
theorem low1_bits (z : Int) : bits .and .i64 z 1 = (low1 z : Int) := by
  have h := low1_le z
  show IntKind.i64.wrap ((BitVec.ofInt 64 z &&& BitVec.ofInt 64 1).toNat : Int) = _
  exact IntWalk.i64_in _ (by unfold low1 at h; omega)
def low15 (z : Int) : Nat := (BitVec.ofInt 64 z &&& BitVec.ofInt 64 15).toNat
theorem low15_le (z : Int) : low15 z ≤ 15 := by
  unfold low15
  rw [BitVec.toNat_and]
  exact Nat.le_trans Nat.and_le_right (by decide)
theorem low15_bits (z : Int) : bits .and .i64 z 15 = (low15 z : Int) := by
  have h := low15_le z
  show IntKind.i64.wrap ((BitVec.ofInt 64 z &&& BitVec.ofInt 64 15).toNat : Int) = _
  exact IntWalk.i64_in _ (by unfold low15 at h; omega)

def thin (g : Gl) : Gl := ⟨g.t, 1 + (low1 g.w : Int)⟩
def fewP (L : List Gl) : List Gl := (L.take 100).map thin
theorem fewP_thin (L : List Gl) : Thin (fewP L) := by
  intro g hg
  obtain ⟨x, _, rfl⟩ := List.mem_map.1 hg
  have := low1_le x.w
  simp only [thin]
  omega
theorem fewP_len (L : List Gl) : (fewP L).length ≤ 100 := by simp [fewP]; omega

theorem own_ne {w : World} {b1 b2 s1 s2 n1 n2 : Nat} {E1 E2 : TypeId} {v1 v2 : Value} {xs1 xs2 : List Value} (h1 : w.ownsRow b1 E1 s1 v1 n1 xs1) (h2 : w.ownsRow b2 E2 s2 v2 n2 xs2) (hE : E1 ≠ E2) : v1.ownBlock = none ∨ v1.ownBlock ≠ v2.ownBlock := by
  rcases h1.2 with ⟨rfl, _⟩ | ⟨g, cap, cur, rfl, _, hg, _⟩
  · exact .inl rfl
  · rcases h2.2 with ⟨rfl, _⟩ | ⟨g', cap', cur', rfl, _, hg', _⟩
    · exact .inr (by simp [Value.ownBlock])
    · refine .inr fun e => ?_
      simp [Value.ownBlock] at e
      subst e
      rw [hg] at hg'
      injection hg' with e
      injection e with _ e
      exact hE e

/-- Two rows that grow side by side. -/
structure Twin (w : World) (A B : Option Addr) (n ca cb : Nat) (D : List Gl) (X : World) : Prop where
  a : X.ownsRow w.heap.size 42 2 (.slice A n ca) n (flatL encG D)
  b : X.ownsRow w.heap.size 45 2 (.slice B n cb) n (flatL encG D)
  below : Below w.heap.size w X
theorem take_map_snoc {L : List Gl} {k : Nat} {g : Gl} (h : L[k]? = some g) : (L.take (k + 1)).map thin = (L.take k).map thin ++ [thin g] := by
  obtain ⟨hk, e⟩ := List.getElem?_eq_some_iff.1 h
  rw [List.take_succ_eq_append_getElem hk, List.map_append, e]
  rfl

def FewT (M : List Gl) (w : World) (e : Ending) (w' : World) : Prop :=
  ∃ A1 c1 A2 c2, e = .returned (.tuple #[.slice A1 M.length c1, .slice A2 M.length c2]) ∧ LiV 2 encG w' (fun _ => True) (.slice A1 M.length c1) M ∧ LiV 2 encG w' (fun _ => True) (.slice A2 M.length c2) M ∧ Below w.heap.size w w'
theorem Twin.few {w X : World} {A B : Option Addr} {n ca cb : Nat} {D : List Gl} (h : Twin w A B n ca cb D X) : FewT D w (.returned (.tuple #[.slice A n ca, .slice B n cb])) X := by
  obtain rfl : D.length = n := own_count encG_len (by decide) h.a
  exact ⟨A, ca, B, cb, rfl, (LiV.own encG_len (by decide) h.a).mono fun _ _ => trivial, (LiV.own encG_len (by decide) h.b).mono fun _ _ => trivial, h.below⟩

set_option maxHeartbeats 4000000 in
set_option maxRecDepth 100000 in
theorem few_any (A : Option Addr) (c : Nat) (L : List Gl) (w : World) (hLi : Li 2 encG w (fun _ => True) A L) (hc : L.length ≤ 9223372036854775807) :
    Calls Try.prog 7 #[.slice A L.length c] w (FewT (fewP L) w) := by
  have HL := Lib.hid hLi
  clear hLi
  go_enter Try.func7, Try.ntmps7
  go_wp2
  go_loopw [4, 5, 6] (fun a b i wr => ∃ (k : Nat) (Ao Bo : Option Addr) (ca cb : Nat), k ≤ L.length ∧ k ≤ 100 ∧ i = .int .i64 k ∧ a = .slice Ao k ca ∧ b = .slice Bo k cb ∧ Hid (Twin w Ao Bo k ca cb ((L.take k).map thin) wr)) (fun _ _ i _ => L.length - (intOf i).toNat)
  case atStart => exact ⟨0, none, none, 0, 0, Nat.zero_le _, by omega, rfl, rfl, rfl, ⟨World.ownsRow_nil _ _ _ _, World.ownsRow_nil _ _ _ _, Below.refl _ _⟩⟩
  case round =>
    obtain ⟨k, Ao, Bo, ca, cb, hk, hk2, rfl, rfl, rfl, HG⟩ := hrel
    have hz : w.heap.size ≤ wr.heap.size := HG.out.below.size
    by_cases hlt : k < L.length
    · have i1 : (k : Int) < (L.length : Int) := by omega
      have i2 : (0 : Int) ≤ (k : Int) := by omega
      by_cases h100 : k < 100
      · obtain ⟨g, b, o, hg, rfl, hbl, _, c0, c1⟩ := HL.out.glyph hlt
        have d1 : (k : Int) < 100 := by omega
        have q0 := (HG.out.below.cell (p := ⟨b, o + k * 2, none⟩) hbl).trans c0
        have q1 := (HG.out.below.cell (p := ⟨b, o + k * 2 + 1, none⟩) hbl).trans c1
        have hb := low1_bits g.w
        have hl := low1_le g.w
        obtain ⟨m, hm⟩ : ∃ m, low1 g.w = m := ⟨_, rfl⟩
        rw [hm] at hb hl
        have v1 : IntKind.i64.wrap (1 + (m : Int)) = 1 + (m : Int) := IntWalk.i64_in _ (by omega)
        have C0 := Lib.hid c0
        have HM := Lib.hid (show thin g = ⟨g.t, 1 + (m : Int)⟩ from by rw [thin, hm])
        have HX := Lib.hid (take_map_snoc hg)
        clear hg hm c0 c1
        go_wp2_with (first
          | (at_builtin; refine wpList_push glyph_elt HG.out.a hz rfl rfl rfl rfl rfl rfl rfl (by unfold maxLen; omega) (by omega) ?_; intro A3 c3 w3 hp; have hb3 := hp.below HG.out.below HG.out.a (Nat.le_refl _); have r0 := (hb3.cell (p := ⟨b, o + k * 2, none⟩) hbl).trans C0.out; have HP := Lib.hid (And.intro hp hb3); clear hp hb3)
          | (at_builtin; refine wpList_push glyph2_elt (HG.out.b.kept HP.out.1.grown ((own_ne HG.out.b HG.out.a (by decide)))) HP.out.2.size rfl rfl rfl rfl rfl rfl rfl (by unfold maxLen; omega) (by omega) ?_; intro A4 c4 w4 hp; have HR := Lib.hid hp; clear hp))
        go_roundw
        case rel =>
          refine ⟨k + 1, A3, A4, c3, c4, by omega, by omega, by go_num, rfl, rfl, ?_⟩
          have b3 := HG.out.b.kept HP.out.1.grown (own_ne HG.out.b HG.out.a (by decide))
          rw [HX.out, HM.out]
          exact ⟨by rw [flatL_snoc]; exact HP.out.1.own.kept HR.out.grown (own_ne HP.out.1.own b3 (by decide)), by rw [flatL_snoc]; exact HR.out.own, HR.out.below HP.out.2 b3 (Nat.le_refl _)⟩
        case measure => simp [intOf]; omega
      · obtain rfl : k = 100 := by omega
        have HT := Lib.hid HG.out.few
        have hmm : fewP L = (L.take 100).map thin := rfl
        go_wp2
        go_ret2
        exact HT.out
    · obtain rfl : k = L.length := by omega
      have hmm : (L.take L.length).map thin = fewP L := by unfold fewP; rw [List.take_of_length_le (Nat.le_refl _), List.take_of_length_le hk2]
      rw [hmm] at HG
      have HT := Lib.hid HG.out.few
      clear hmm hlt
      go_wp2
      go_ret2
      exact HT.out
end Go.Proofs.Ytmckoabhgjfiiaa
