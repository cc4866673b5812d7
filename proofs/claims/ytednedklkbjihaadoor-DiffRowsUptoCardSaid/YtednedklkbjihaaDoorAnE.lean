/- ansi: lists of what is sent; All. -/
import Derived.Test.YtednedklkbjihaaDoorAnD
import Derived.Test.YtednedklkbjihaaDoorBldI
import Derived.Test.YtednedklkbjihaaDoorTel
namespace Go.Proofs.YtednedklkbjihaaDoor
open Go.RowKit
set_option linter.unusedVariables false
set_option linter.unusedSimpArgs false

/-- One that is sent. -/
structure Ob where
  k : Int
  a : Int
  b : Int
  t : ByteArray
def encO (x : Ob) : List Value := [.int .i64 x.k, .int .i64 x.a, .int .i64 x.b, .string x.t]
theorem encO_len (x : Ob) : (encO x).length = 4 := rfl
theorem op_elt : Elt Tryd.prog 37 51 4 40 := elt_of Tryd.underlying37 (z := .agg #[.int .i64 0, .int .i64 0, .int .i64 0, .string ⟨#[]⟩]) (by kernel_rfl) rfl (by decide)
theorem opR_elt : Elt Tryd.prog 40 49 4 40 := elt_of Tryd.underlying40 (z := .agg #[.int .i64 0, .int .i64 0, .int .i64 0, .string ⟨#[]⟩]) (by kernel_rfl) rfl (by decide)
/-- Its numbers are int's, its text is not too long. -/
structure Fit (M : Nat) (x : Ob) : Prop where
  a0 : -9223372036854775808 ≤ x.a
  a1 : x.a < 9223372036854775808
  b0 : -9223372036854775808 ≤ x.b
  b1 : x.b < 9223372036854775808
  t1 : x.t.size ≤ M
def putO (x : Ob) : ByteArray := putS x.k x.a x.b x.t
def allB (L : List Ob) : List UInt8 := L.flatMap fun x => (putO x).data.toList
theorem allB_snoc {L : List Ob} {k : Nat} {x : Ob} (h : L[k]? = some x) : allB (L.take (k + 1)) = allB (L.take k) ++ (putO x).data.toList := by
  rw [take_snoc' h]
  simp [allB]
theorem allB_len {M : Nat} : ∀ {L : List Ob}, (∀ x ∈ L, Fit M x) → (allB L).length ≤ L.length * (M + 50)
  | [], _ => by simp [allB]
  | x :: L, h => by
    have ih := allB_len (L := L) fun y hy => h y (List.mem_cons_of_mem _ hy)
    have h1 := putS_size x.k x.a x.b x.t
    have h2 := (h x (by simp)).t1
    have e : allB (x :: L) = (putO x).data.toList ++ allB L := by simp [allB]
    have e2 : (putO x).data.toList.length = (putS x.k x.a x.b x.t).size := by unfold putO; rw [Array.length_toList]; rfl
    rw [e, List.length_append, e2, List.length_cons, Nat.succ_mul]
    omega
theorem allB_take {M : Nat} {L : List Ob} (h : ∀ x ∈ L, Fit M x) (k : Nat) : (allB (L.take k)).length ≤ L.length * (M + 50) := by
  refine Nat.le_trans (allB_len fun x hx => h x (List.mem_of_mem_take hx)) (Nat.mul_le_mul_right _ ?_)
  rw [List.length_take]; omega
theorem Li.ob {w : World} {S : Nat → Prop} {A : Option Addr} {L : List Ob} (h : Li 4 encO w S A L) {j : Nat} (hj : j < L.length) : ∃ x b o, L[j]? = some x ∧ A = some ⟨b, o, none⟩ ∧ b < w.heap.size ∧
    w.cell? ⟨b, o + j * 4, none⟩ = some (.int .i64 x.k) ∧ w.cell? ⟨b, o + j * 4 + 1, none⟩ = some (.int .i64 x.a) ∧ w.cell? ⟨b, o + j * 4 + 2, none⟩ = some (.int .i64 x.b) ∧ w.cell? ⟨b, o + j * 4 + 3, none⟩ = some (.string x.t) := by
  obtain ⟨b, o, e, hl, hs, hc⟩ := h.at hj
  exact ⟨L[j], b, o, List.getElem?_eq_getElem hj, e, hl, hc 0 _ rfl, by have := hc 1 _ rfl; rwa [← Nat.add_assoc] at this, by have := hc 2 _ rfl; rwa [← Nat.add_assoc] at this, by have := hc 3 _ rfl; rwa [← Nat.add_assoc] at this⟩
theorem tabW_at {B : Nat} {w : World} (h : TabW B w) (hB : B ≤ w.heap.size) : TabW w.heap.size w := fun w' hb => h w' (hb.mono hB)
theorem tabW_next {B : Nat} {w w' : World} (h : TabW B w) (hB : B ≤ w.heap.size) (hb : Below B w w') : TabW w'.heap.size w' := tabW_at (h.on hb) (Nat.le_trans hB hb.size)
def allS (L : List Ob) : ByteArray := ⟨(allB L).toArray⟩
theorem ba_app (x : List UInt8) (s : ByteArray) : (⟨x.toArray⟩ : ByteArray) ++ s = ⟨(x ++ s.data.toList).toArray⟩ := by
  apply ByteArray.ext
  simp

set_option maxRecDepth 100000 in
set_option maxHeartbeats 2000000 in
theorem all_any (A : Option Addr) (c : Nat) (L : List Ob) (w : World) (hL : Li 4 encO w (fun _ => True) A L) (M : Nat) (hF : ∀ x ∈ L, Fit M x) (hM : L.length * (M + 50) ≤ 100000000) (hT : TabW w.heap.size w) :
    Calls Tryd.prog 19 #[.slice A L.length c] w fun e w' => e = .returned (.string (allS L)) ∧ Below w.heap.size w w' := by
  have HL := Lib.hid (And.intro hL (And.intro hF (And.intro hT hM)))
  have hn : L.length ≤ 100000000 := Nat.le_trans (Nat.le_mul_of_pos_right _ (by omega)) hM
  obtain ⟨T, hTT⟩ : ∃ T, allS L = T := ⟨_, rfl⟩
  rw [hTT]
  have HTT := Lib.hid hTT
  clear hL hF hT hM hTT
  go_enter Tryd.func19, Tryd.ntmps19
  go_wp2_with fail
  go_loopw [8] (fun v wr => ∃ k : Nat, k ≤ L.length ∧ v = .int .i64 k ∧ Hid (BldIs w.heap.size (allB (L.take k)) wr ∧ Below w.heap.size w wr)) (fun v _ => L.length - (intOf v).toNat)
  case atStart => exact ⟨0, Nat.zero_le _, rfl, bldIs_new _, (Below.refl _ _).alloc (Nat.le_refl _) _⟩
  case round =>
    obtain ⟨k, hk, rfl, HK⟩ := hrel
    by_cases hlt : k < L.length
    · obtain ⟨x, b, o, hx, rfl, hb, c0, c1, c2, c3⟩ := (HL.out.1.later HK.out.2).ob hlt
      have hf := HL.out.2.1 x (List.mem_of_getElem? hx)
      have hlen := allB_take HL.out.2.1 (k + 1)
      rw [allB_snoc hx, List.length_append] at hlen
      have hlen2 : (allB (L.take k)).length + (putO x).size ≤ 140737488355328 := by
        have := HL.out.2.2.2
        have e2 : (putO x).data.toList.length = (putO x).size := by rw [Array.length_toList]; rfl
        omega
      have HX := Lib.hid (allB_snoc hx)
      have g1 : (0 : Int) ≤ (k : Int) := by omega
      have g2 : (k : Int) < (L.length : Int) := by omega
      have P1 := Lib.hid (fun X (hX : Below w.heap.size w X) => put_any (w := X) x.k x.a x.b x.t (tabW_next HL.out.2.2.1 (Nat.le_refl _) hX) hf.a0 hf.b0)
      have W1 := Lib.hid (fun X (hX : Below w.heap.size w X) (hbl : BldIs w.heap.size (allB (L.take k)) X) => bldIs_write (w0 := w) hX hbl (putO x) hlen2)
      have hp : putS x.k x.a x.b x.t = putO x := rfl
      rw [hp] at P1
      obtain ⟨S, hS⟩ : ∃ S, putO x = S := ⟨_, rfl⟩
      rw [hS] at P1 W1 HX
      clear hx hf hlen hlen2 hp hS
      go_wp2_with fail
      refine at_callsA (fun X => Below w.heap.size w X ∧ BldIs w.heap.size (allB (L.take k)) X) ⟨HK.out.2.alloc HK.out.2.size _, HK.out.1.alloc _⟩ ?_
      rintro X ⟨hX, hBX⟩
      have HX2 := Lib.hid (And.intro hX hBX)
      clear hX hBX c0 c1 c2 c3
      refine (P1.out X HX2.out.1).mono ?_
      rintro e w1 ⟨rfl, b1⟩
      have H1 := Lib.hid (show Below w.heap.size w w1 ∧ BldIs w.heap.size (allB (L.take k)) w1 from ⟨HX2.out.1.trans (b1.mono HX2.out.1.size), HX2.out.2.later b1⟩)
      clear b1 HX2
      go_wp2_with fail
      refine (W1.out w1 H1.out.1 H1.out.2).mono ?_
      rintro e w2 ⟨rfl, h2, b2⟩
      have H2 := Lib.hid (And.intro h2 b2)
      clear h2 b2
      go_wp2_with fail
      go_roundw
      case rel => exact ⟨k + 1, by omega, by go_num, by rw [HX.out]; exact H2.out.1, H2.out.2⟩
      case measure => simp [intOf]; omega
    · obtain rfl : k = L.length := by omega
      have T1 := Lib.hid (bldIs_text (w0 := w) HK.out.2 HK.out.1)
      rw [List.take_length] at T1
      have hS : (⟨(allB L).toArray⟩ : ByteArray) = T := HTT.out
      rw [hS] at T1
      clear hS
      go_wp2_with fail
      refine T1.out.mono ?_
      rintro e w3 ⟨rfl, b3⟩
      have H3 := Lib.hid b3
      clear b3
      go_wp2_with fail
      go_ret
      exact ⟨rfl, H3.out⟩

set_option maxRecDepth 100000 in
set_option maxHeartbeats 2000000 in
theorem rall_any (A : Option Addr) (c : Nat) (L : List Ob) (w : World) (hL : Li 4 encO w (fun _ => True) A L) (M : Nat) (hF : ∀ x ∈ L, Fit M x) (hM : L.length * (M + 50) ≤ 100000000) :
    Calls Tryd.prog 20 #[.slice A L.length c] w fun e w' => e = .returned (.string (allS L)) ∧ Below w.heap.size w w' := by
  have HL := Lib.hid (And.intro hL (And.intro hF hM))
  have hn : L.length ≤ 100000000 := Nat.le_trans (Nat.le_mul_of_pos_right _ (by omega)) hM
  obtain ⟨T, hTT⟩ : ∃ T, allS L = T := ⟨_, rfl⟩
  rw [hTT]
  have HTT := Lib.hid hTT
  clear hL hF hM hTT
  go_enter Tryd.func20, Tryd.ntmps20
  go_wp2_with fail
  go_loopw [3, 4] (fun u v wr => ∃ (k : Nat) (s : ByteArray), k ≤ L.length ∧ v = .int .i64 k ∧ u = .string s ∧ Hid (s = ⟨(allB (L.take k)).toArray⟩ ∧ Below w.heap.size w wr)) (fun _ v _ => L.length - (intOf v).toNat)
  case atStart => exact ⟨0, _, Nat.zero_le _, rfl, rfl, rfl, Below.refl _ _⟩
  case round =>
    obtain ⟨k, s, hk, rfl, rfl, HK⟩ := hrel
    by_cases hlt : k < L.length
    · obtain ⟨x, b, o, hx, rfl, hb, c0, c1, c2, c3⟩ := (HL.out.1.later HK.out.2).ob hlt
      have hf := HL.out.2.1 x (List.mem_of_getElem? hx)
      have hlen := allB_take HL.out.2.1 (k + 1)
      rw [allB_snoc hx, List.length_append] at hlen
      have hss : s.size = (allB (L.take k)).length := by rw [HK.out.1]; simp [ByteArray.size]
      have hlen2 : s.size + (putO x).size ≤ 100000000 := by
        have := HL.out.2.2
        have e2 : (putO x).data.toList.length = (putO x).size := by rw [Array.length_toList]; rfl
        omega
      have HX := Lib.hid (show s ++ putO x = ⟨(allB (L.take (k + 1))).toArray⟩ by rw [allB_snoc hx, HK.out.1]; exact ba_app _ _)
      have g1 : (0 : Int) ≤ (k : Int) := by omega
      have g2 : (k : Int) < (L.length : Int) := by omega
      have P1 := Lib.hid (rput_any (w := wr) x.k x.a x.b x.t hf.a0 hf.b0 hf.a1 hf.b1)
      have hp : putS x.k x.a x.b x.t = putO x := rfl
      rw [hp] at P1
      obtain ⟨S, hS⟩ : ∃ S, putO x = S := ⟨_, rfl⟩
      rw [hS] at P1 HX hlen2
      have hs1 : s.size ≤ 100000000 := by omega
      have hs2 : S.size ≤ 100000000 := by omega
      clear hx hf hlen hp hS hss
      go_wp2_with fail
      refine P1.out.mono ?_
      rintro e w1 ⟨rfl, b1⟩
      have H1 := Lib.hid (HK.out.2.trans (b1.mono HK.out.2.size))
      clear b1 c0 c1 c2 c3
      go_wp2_with fail
      go_roundw
      case rel => exact ⟨k + 1, s ++ S, by omega, by go_num, rfl, HX.out, H1.out⟩
      case measure => simp [intOf]; omega
    · obtain rfl : k = L.length := by omega
      have HE := Lib.hid (show s = T by rw [HK.out.1, List.take_length, ← HTT.out]; rfl)
      go_wp2_with fail
      go_ret
      exact ⟨by rw [HE.out]; rfl, HK.out.2⟩
end Go.Proofs.YtednedklkbjihaaDoor
