/- macro: MacroGrows. -/
import Derived.Test.YtgdfcojgifgjcaaMcL
namespace Go.Proofs.Ytgdfcojgifgjcaa
open Go.RowKit Go.Maps
set_option linter.unusedVariables false
set_option linter.unusedSimpArgs false
set_option maxRecDepth 100000

def low31 (z : Int) : Nat := (BitVec.ofInt 64 z &&& BitVec.ofInt 64 31).toNat
theorem low31_le (z : Int) : low31 z ≤ 31 := by
  unfold low31
  rw [BitVec.toNat_and]
  exact Nat.le_trans Nat.and_le_right (by decide)
theorem low31_bits (z : Int) : bits .and .i64 z 31 = (low31 z : Int) := by
  have h := low31_le z
  show IntKind.i64.wrap ((BitVec.ofInt 64 z &&& BitVec.ofInt 64 31).toNat : Int) = _
  exact IntWalk.i64_in _ (by unfold low31 at h; omega)
/-- What a law's walk ends in. -/
def Yes (w : World) (e : Ending) (w' : World) : Prop := e = .returned (.bool true) ∧ Below w.heap.size w w'
/-- What the law keeps: its book. -/
structure Mg (w : World) (F : Int → Option (List MSt)) (i : Nat) (q : Option Nat) (X : World) : Prop where
  below : Below w.heap.size w X
  b : Blk X w.heap.size #[.map q]
  book : ∃ n L, n ≤ i ∧ L.length = i ∧ BookS X (fun b => w.heap.size + 1 ≤ b) (.map q) n L F
theorem Mg.later {w X Y : World} {F : Int → Option (List MSt)} {i : Nat} {q : Option Nat} (h : Mg w F i q X) (hb : Below X.heap.size X Y) : Mg w F i q Y := by
  obtain ⟨n, L, h1, h2, h3⟩ := h.book
  exact ⟨belowStep h.below hb, h.b.later hb h.b.1, n, L, h1, h2, h3.later hb⟩
theorem mg_start (w : World) (t : TypeId) : Mg w (fun _ => none) 0 none (w.alloc (.cells #[.map none] t)) := ⟨belAlloc _ _, blk_new _ _ _, 0, [], Nat.le_refl _, rfl, bookS_nil _ _⟩
/-- What Set tells, for the law. -/
def SetTells (w : World) (F : Int → Option (List MSt)) (i : Nat) (q0 : Option Nat) (X : World) (e : Ending) (Y : World) : Prop := ∃ q, e = .returned (.tuple #[.agg #[.map q], .int .i64 0]) ∧ Mg w F i q (Y.setCell ⟨w.heap.size, 0, none⟩ (.map q)) ∧ Blk Y w.heap.size #[.map q0] ∧ Below X.heap.size X Y ∧ ∃ n L, n ≤ i ∧ L.length = i ∧ BookS Y (fun b => w.heap.size + 1 ≤ b) (.map q) n L F
theorem mg_set {w X Y : World} {F : Int → Option (List MSt)} {i : Nat} {q : Option Nat} (h : Mg w F i q X) (hY : Below X.heap.size X Y) (hi : i < 100) {name : Int} (hw : (Lit.int .i32 name).wf = true) {A : Option Addr} {N c : Nat} {M : List MSt} (hM : StM Y (.slice A N c) M) (hl : M.length ≤ 1000) :
    Calls Try.prog 7 #[.agg #[.map q], .int .i32 name, .slice A N c] Y (SetTells w (setF F name M) (i + 1) q X) := by
  obtain ⟨n, L, h1, h2, h3⟩ := h.book
  refine (set_F (h3.later hY) hw hM hl (by omega) (by omega)).mono ?_
  rintro e Z ⟨q', x, rfl, hb, hbel⟩
  have hXZ : Below X.heap.size X Z := hY.trans (hbel.mono hY.size)
  have hbk : ∃ n L, n ≤ i + 1 ∧ L.length = i + 1 ∧ BookS Z (fun b => w.heap.size + 1 ≤ b) (.map q') n L (setF F name M) := ⟨_, _, by have := cntB_le n L name; omega, by simp [h2], hb.mono fun b hb => by
    have := h.b.1
    have := hY.size
    rcases hb with hb | hb <;> omega⟩
  have hB := h.b.later hXZ h.b.1
  refine ⟨q', rfl, ⟨(belowStep h.below hXZ).setCell (p := ⟨w.heap.size, 0, none⟩) (Nat.le_refl _) _, hB.set_ 0 (by simp) _, ?_⟩, hB, hXZ, hbk⟩
  obtain ⟨n', L', k1, k2, k3⟩ := hbk
  exact ⟨n', L', k1, k2, k3.far (p := ⟨w.heap.size, 0, none⟩) (by show ¬ (_ ≤ w.heap.size); omega) _⟩

theorem txt_new1 (w : World) (t : TypeId) (r : Int) : Txt (w.alloc (.cells #[.int .i32 r] t)) (.slice (some ⟨w.heap.size, 0, none⟩) 1 1) [r] :=
  ⟨_, 1, rfl, rd_new w _ t 1 _ fun j hj => (by obtain rfl : j = 0 := (by omega); rfl), (fun h => by cases h), Nat.le_refl _, by decide, fun _ _ _ => trivial⟩
theorem txt_new1' (w : World) (t u : TypeId) (r : Int) : Txt ((w.alloc (.cells #[.int .i32 r] t)).alloc (.cells #[.int .i32 r] u)) (.slice (some ⟨w.heap.size + 1, 0, none⟩) 1 1) [r] := by
  have h := txt_new1 (w.alloc (.cells #[.int .i32 r] t)) u r
  simpa using h
theorem grows_first {w : World} {A : Option Addr} {n c k : Nat} (h : KyV w (.slice A n c) (keysOf [⟨1, 120, false, []⟩] k)) : ∃ b o, A = some ⟨b, o, none⟩ ∧ w.cell? ⟨b, o + 1, none⟩ = some (.int .i32 120) := by
  obtain ⟨hs, h1, h2, h3⟩ := h
  have hlen := keysOf_len [⟨1, 120, false, []⟩] k
  have hk := Nat.two_pow_pos k
  have h0 : 0 < hs.length := by rw [h2, hlen]; simpa using hk
  obtain ⟨b, o, e, _, _, hc⟩ := h1.parts.2.1 0 hs[0] (List.getElem?_eq_getElem h0)
  obtain ⟨y, k1, k2, k3, _⟩ := h3 0 hs[0] (List.getElem?_eq_getElem h0)
  have hy : ∀ k y, (keysOf [⟨1, 120, false, []⟩] k)[0]? = some y → y = ⟨1, 120, false, []⟩ := by
    intro k
    induction k with
    | zero => intro y hy; exact (Option.some.inj hy).symm
    | succ k ih =>
      intro y hy
      simp only [keysOf] at hy
      rw [List.getElem?_append_left (by rw [keysOf_len]; have := Nat.two_pow_pos k; simpa using this)] at hy
      exact ih y hy
  obtain rfl := hy k y k1
  refine ⟨b, o, e, ?_⟩
  have := hc 1 (.int .i32 hs[0].r) rfl
  rw [k3] at this
  simpa using this

set_option maxHeartbeats 8000000 in
theorem walk_MacroGrows (a : Int) (_wa : (Lit.int .i64 a).wf = true) (w : World) : Calls Try.prog 3 #[.int .i64 a] w (Yes w) := by
  have hb := low31_bits a
  have hN := low31_le a
  obtain ⟨N, hNe⟩ : ∃ N, low31 a = N := ⟨_, rfl⟩
  rw [hNe] at hb hN
  clear hNe
  have V0 := Lib.hid (mg_start w 24)
  have w0 : (Lit.int .i32 0).wf = true := wf_of (by omega) (by omega)
  go_enter Try.func3, Try.ntmps3
  go_upto_region 3 with fail
  refine at_world (Mg w (fun _ => none) 0 none) V0.out ?_
  intro X hX
  have V1 := Lib.hid hX
  clear hX V0
  obtain ⟨y1, k1, j1⟩ := (show _ from V1.out.b)
  have C1 := Lib.hid (fun t => mg_set (Y := X.alloc (.cells (stA 1 120 false 0) t)) V1.out (belAlloc _ _) (by omega) w0 (stM_new1 X t 1 120 false 0 w0) (by decide))
  go_wp2_with fail
  refine (C1.out _).mono ?_
  rintro e w5 ⟨q5, rfl, h5, hb5, bel5, _⟩
  have V5 := Lib.hid h5
  clear h5 C1 V1 y1 k1 j1 bel5
  obtain ⟨y1, k1, j1⟩ := hb5
  go_upto_region 4 with fail
  refine at_world (Mg w (chainF 0) 1 q5) V5.out ?_
  intro Y hY
  have VY := Lib.hid hY
  clear hY V5 y1 k1 j1
  go_wp2_with fail
  go_loopw [4, 5] (fun e v wr => ∃ (k j : Nat) (q : Option Nat), k ≤ N ∧ j = k + 1 ∧ e = .int .i64 0 ∧ v = .int .i64 (j : Nat) ∧ Hid (Mg w (chainF k) j q wr)) (fun _ v _ => N + 1 - (intOf v).toNat)
  case atStart => exact ⟨0, 1, q5, Nat.zero_le _, rfl, rfl, rfl, VY.out⟩
  case round =>
    obtain ⟨k, j, q, hk, hj, rfl, rfl, HV⟩ := hrel
    clear VY
    obtain ⟨y1, k1, j1⟩ := (show _ from HV.out.b)
    have e1 : (j : Int) - 1 = (k : Int) := by omega
    by_cases hlt : j ≤ N
    · have d1 : decide ((j : Int) ≤ (N : Int)) = true := decide_eq_true (by omega)
      have C2 := Lib.hid (fun t => mg_set (Y := wr.alloc (.cells (stA 0 0 true k ++ stA 0 0 true k) t)) (name := (k : Int) + 1) HV.out (belAlloc _ _) (by omega) (wf_of (by omega) (by omega)) (stM_new2 wr t 0 0 true k 0 0 true k (wf_of (by omega) (by omega)) (wf_of (by omega) (by omega))) (by simp))
      go_wp2_with fail
      refine (C2.out _).mono ?_
      rintro e w6 ⟨q6, rfl, h6, hb6, bel6, -⟩
      have V6 := Lib.hid h6
      clear h6 C2 HV y1 k1 j1 bel6
      obtain ⟨y1, k1, j1⟩ := hb6
      go_wp2_with fail
      go_roundw
      case rel => exact ⟨k + 1, j + 1, q6, by omega, by omega, rfl, by rw [hj]; go_num, V6.out⟩
      case measure => simp [intOf]; omega
    · have d1 : decide ((j : Int) ≤ (N : Int)) = false := decide_eq_false (by omega)
      obtain rfl : k = N := by omega
      subst hj
      obtain ⟨n7, L7, h7n, h7L, h7⟩ := HV.out.book
      have C3 := Lib.hid (Expand_any h7.any (nm := (k : Int)) (wf_of (by omega) (by omega)))
      have hr := Lib.hid (chain_first h7L)
      obtain ⟨r, hrr⟩ : ∃ r, exX (chainF k) L7.length [] k 0 [] = r := ⟨_, rfl⟩
      rw [hrr] at C3 hr
      clear h7 hrr
      go_wp2_with fail
      refine C3.out.mono ?_
      rintro e w8 ⟨⟨A8, n8, c8, rfl, h8, h8n⟩, bel8⟩
      have V8 := Lib.hid (And.intro (HV.out.later bel8) (And.intro h8 h8n))
      clear h8 h8n bel8 C3 HV y1 k1 j1
      obtain ⟨y1, k1, j1⟩ := (show _ from V8.out.1.b)
      have C4 := Lib.hid (mg_set V8.out.1 (Below.refl _ _) (by omega) w0 (stM_nil w8) (by decide))
      go_wp2_with fail
      refine C4.out.mono ?_
      rintro e w9 ⟨q9, rfl, -, hb9, bel9, hk9⟩
      obtain ⟨n9, L9, h9n, h9L, h9⟩ := hk9
      have V9 := Lib.hid (And.intro (belowStep V8.out.1.below bel9) (And.intro (fun h => (V8.out.2.1 h).1.later bel9) h9.any))
      clear h9 hb9 bel9 C4 y1 k1 j1
      have hlast := Lib.hid (fun (h : k = 31) => chain_last (L := L9) (by omega))
      go_upto_region 12 with fail
      refine at_world (fun Y => Below w.heap.size w Y ∧ Blk Y w9.heap.size #[.map q9] ∧ (r.1 = 0 → KyV Y (.slice A8 n8 c8) r.2.2) ∧ BookF Y (.map q9) n9 L9 (setF (chainF k) 0 [])) ⟨belowStep V9.out.1 (belAlloc _ _), blk_new _ _ _, fun h => (V9.out.2.1 h).later (belAlloc _ _), V9.out.2.2.later (belAlloc _ _)⟩ ?_
      obtain ⟨g9, hg9⟩ : ∃ g9, w9.heap.size = g9 := ⟨_, rfl⟩
      rw [hg9]
      clear hg9
      intro U hU
      have VU := Lib.hid hU
      have H8n := Lib.hid (And.intro (fun h => (V8.out.2.1 h).2) V8.out.2.2)
      clear hU V9 V8
      obtain ⟨y1, k1, j1⟩ := (show _ from VU.out.2.1)
      have C5 := Lib.hid (Expand_any VU.out.2.2.2 (nm := 31) (wf_of (by omega) (by omega)))
      obtain ⟨r2, hr2⟩ : ∃ r2, exX (setF (chainF k) 0 []) L9.length [] 31 0 [] = r2 := ⟨_, rfl⟩
      have HL := Lib.hid (show k = 31 → r2.1 = 7 from fun h => by
        have := hlast.out h
        subst h
        rw [← hr2]
        exact this)
      rw [hr2] at C5
      clear hr2 hlast
      go_wp2_with fail
      refine C5.out.mono ?_
      rintro e w10 ⟨⟨A10, n10, c10, rfl, -, h10n⟩, bel10⟩
      have V10 := Lib.hid (And.intro (belowStep VU.out.1 bel10) (fun h => (VU.out.2.2.1 h).later bel10))
      clear bel10 C5 VU y1 k1 j1
      have CA := Lib.hid (fun X => awake_yes X)
      by_cases h12 : 12 < k
      · have e1 : r.1 = 7 := hr.out.2 h12
        have e2 : n8 = 0 := H8n.out.2 (by omega)
        have dA : (((r.1 : Nat) : Int) == 7) = true := by rw [e1]; rfl
        have dB : ((n8 : Int) == 0) = true := by rw [e2]; rfl
        have dC : decide ((12 : Int) < (k : Int)) = true := decide_eq_true (by omega)
        clear e1 e2
        by_cases h31 : k = 31
        · have e3 : r2.1 = 7 := HL.out h31
          have e4 : n10 = 0 := h10n (by omega)
          have dD : ((k : Int) == 31) = true := by rw [h31]; rfl
          have dE : ((n10 : Int) != 0) = false := by rw [e4]; rfl
          have dF : (((r2.1 : Nat) : Int) != 7) = false := by rw [e3]; rfl
          clear e3 e4 h31 h10n
          go_wp2_with (go_at_call 9; refine (CA.out _).mono ?_; rintro e w11 ⟨rfl, bel11⟩)
          go_ret
          exact ⟨rfl, belowStep V10.out.1 bel11⟩
        · have dD : ((k : Int) == 31) = false := by simp; omega
          clear h31 h10n
          go_wp2_with (go_at_call 9; refine (CA.out _).mono ?_; rintro e w11 ⟨rfl, bel11⟩)
          go_ret
          exact ⟨rfl, belowStep V10.out.1 bel11⟩
      · have e1 := hr.out.1 (by omega)
        have hK := V10.out.2 (by rw [e1])
        have e2 : n8 = 2 ^ k := by
          have := H8n.out.1 (by rw [e1])
          rw [this, e1]
          show (keysOf _ k).length = _
          rw [keysOf_len]
          simp
        have dA : (((r.1 : Nat) : Int) == 0) = true := by rw [e1]; rfl
        have dC : decide ((12 : Int) < (k : Int)) = false := decide_eq_false (by omega)
        have dD : ((k : Int) == 31) = false := by simp; omega
        rw [e1] at hK
        clear e1
        have E2 := Lib.hid e2
        clear e2
        have hS : wrap64 (2 ^ k) = (n8 : Int) := by
          rw [E2.out]
          have hc : k = 0 ∨ k = 1 ∨ k = 2 ∨ k = 3 ∨ k = 4 ∨ k = 5 ∨ k = 6 ∨ k = 7 ∨ k = 8 ∨ k = 9 ∨ k = 10 ∨ k = 11 ∨ k = 12 := by omega
          rcases hc with rfl | rfl | rfl | rfl | rfl | rfl | rfl | rfl | rfl | rfl | rfl | rfl | rfl <;> decide +kernel
        have hpos : (0 : Int) < (n8 : Int) := by
          have := Nat.pos_of_ne_zero (n := 2 ^ k) (by have := Nat.two_pow_pos k; omega)
          rw [E2.out]
          omega
        obtain ⟨b, o, rfl, l1⟩ := grows_first hK
        have CS := Lib.hid (fun t u => same_txt (w := (w10.alloc (.cells #[.int .i32 120] t)).alloc (.cells #[.int .i32 120] u)) ((txt_new1 w10 t 120).later (belAlloc _ _)) (txt_new1' w10 t u 120) (by simp))
        have V11 := Lib.hid V10.out.1
        clear hK V10 E2 HL H8n h10n hr
        go_wp2_with (first | (go_at_call 9; refine (CA.out _).mono ?_; rintro e w11 ⟨rfl, bel11⟩) | (go_at_call 10; refine (CS.out _ _).mono ?_; rintro e w12 ⟨rfl, q12, rfl⟩))
        go_ret
        exact ⟨rfl, belowStep (below_drewN (belPush (belPush V11.out _) _) _) bel11⟩
end Go.Proofs.Ytgdfcojgifgjcaa
