/- utf: the chapter's examples. -/
import Derived.Test.YtpfldppoebgfgaaUtfG
import Derived.Test.YtpfldppoebgfgaaUtfH
namespace Go.Proofs.Ytpfldppoebgfgaa
open Go.RowKit
set_option linter.unusedVariables false
set_option linter.unusedSimpArgs false

theorem decode_is (s : ByteArray) (n : Nat) (p : Nat → Int) (w : World) (hsz : s.size ≤ 1000000000) (hn : (decD (bts s)).length = n) (hp : ∀ j, j < n → (decD (bts s)).getD j 0 = p j) :
    Calls Try.prog 10 #[.string s] w (TellsI n p w) := by
  refine (decode_any s w hsz).mono fun e w' hh => ?_
  obtain ⟨A, c, rfl, hr, hb⟩ := hh
  rw [hn] at hr ⊢
  exact ⟨A, c, rfl, hr.congr fun j hj => by show Value.int .i32 _ = Value.int .i32 _; rw [hp j hj], hb⟩

def s1 : ByteArray := ⟨#[226, 130, 172]⟩
def s2 : ByteArray := ⟨#[226, 130, 65]⟩
def s3 : ByteArray := ⟨#[240, 128]⟩
def p1 (j : Nat) : Int := [(8364 : Int)].getD j 0
def p2 (j : Nat) : Int := [(65533 : Int), 65].getD j 0
def p3 (j : Nat) : Int := [(65533 : Int), 65533].getD j 0
theorem d1 : decD (bts s1) = [8364] := by decide +kernel
theorem d2 : decD (bts s2) = [65533, 65] := by decide +kernel
theorem d3 : decD (bts s3) = [65533, 65533] := by decide +kernel
theorem x1 (w : World) : Calls Try.prog 10 #[.string ⟨#[226, 130, 172]⟩] w (TellsI 1 p1 w) := decode_is s1 1 p1 w (by decide) (by rw [d1]; rfl) (fun j hj => by rw [d1]; rfl)
theorem x2 (w : World) : Calls Try.prog 10 #[.string ⟨#[226, 130, 65]⟩] w (TellsI 2 p2 w) := decode_is s2 2 p2 w (by decide) (by rw [d2]; rfl) (fun j hj => by rw [d2]; rfl)
theorem x3 (w : World) : Calls Try.prog 10 #[.string ⟨#[240, 128]⟩] w (TellsI 2 p3 w) := decode_is s3 2 p3 w (by decide) (by rw [d3]; rfl) (fun j hj => by rw [d3]; rfl)
theorem c1 : ∀ j, j < 1 → #[Value.int .i32 8364][j]? = some (iv p1 j) := by
  intro j hj
  match j, hj with
  | 0, _ => rfl
theorem c2 : ∀ j, j < 2 → #[Value.int .i32 65533, Value.int .i32 65][j]? = some (iv p2 j) := by
  intro j hj
  match j, hj with
  | 0, _ => rfl
  | 1, _ => rfl
theorem c3 : ∀ j, j < 2 → #[Value.int .i32 65533, Value.int .i32 65533][j]? = some (iv p3 j) := by
  intro j hj
  match j, hj with
  | 0, _ => rfl
  | 1, _ => rfl

theorem rd_built {w1 : World} {A : Option Addr} {n : Nat} {f : Nat → Value} (h : Rd w1 A n f) (o : Obj) : Rd (w1.alloc o) A n f := h.later ((Below.refl _ _).alloc (Nat.le_refl _) o)

set_option maxHeartbeats 2000000 in
theorem awake_yes (w : World) : Calls Try.prog 12 #[] w (Yes w) := by
  go_enter Try.func12, Try.ntmps12
  go_wp2_with fail
  refine (x1 _).mono ?_
  rintro e w1 ⟨A1, e1, rfl, r1, b1⟩
  go_wp2_with fail
  refine (same_yes A1 _ 1 e1 _ p1 _ (by omega) (rd_built r1 _) (rd_new _ _ _ _ _ c1)).mono ?_
  rintro e w2 ⟨rfl, k1, rfl⟩
  go_wp2_with fail
  refine (x2 _).mono ?_
  rintro e w3 ⟨A2, e2, rfl, r2, b2⟩
  go_wp2_with fail
  refine (same_yes A2 _ 2 e2 _ p2 _ (by omega) (rd_built r2 _) (rd_new _ _ _ _ _ c2)).mono ?_
  rintro e w4 ⟨rfl, k2, rfl⟩
  go_wp2_with fail
  refine (x3 _).mono ?_
  rintro e w5 ⟨A3, e3, rfl, r3, b3⟩
  go_wp2_with fail
  refine (same_yes A3 _ 2 e3 _ p3 _ (by omega) (rd_built r3 _) (rd_new _ _ _ _ _ c3)).mono ?_
  rintro e w6 ⟨rfl, k3, rfl⟩
  go_wp2
  go_ret
  have hb1 := below_drewN (b1.alloc b1.size (.cells #[.int .i32 8364] 21)) k1
  have hb3 := hb1.trans (b2.mono hb1.size)
  have hb4 := below_drewN (hb3.alloc hb3.size (.cells #[.int .i32 65533, .int .i32 65] 21)) k2
  have hb5 := hb4.trans (b3.mono hb4.size)
  exact ⟨rfl, below_drewN (hb5.alloc hb5.size _) k3⟩

end Go.Proofs.Ytpfldppoebgfgaa
