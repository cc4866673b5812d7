/- macro: Same at keys that are the same. -/
import Derived.Test.YtgdfcojgifgjcaaMcI
namespace Go.Proofs.Ytgdfcojgifgjcaa
open Go.RowKit Go.Maps
set_option linter.unusedVariables false
set_option linter.unusedSimpArgs false
set_option maxRecDepth 100000

theorem same_txt {w : World} {u v : Value} {l : List Int} (hu : Txt w u l) (hv : Txt w v l) (hl : l.length ≤ 1000000000) : Calls Try.prog 10 #[u, v] w fun e w' => e = .returned (.bool true) ∧ ∃ k, w' = w.drewN k := by
  obtain ⟨A, c, rfl, hA, _, h1, h2, _⟩ := hu
  obtain ⟨B, d, rfl, hB, _, h3, h4, _⟩ := hv
  exact same_yes A B l.length c d (fun j => l.getD j 0) w (by omega) hA hB

set_option maxHeartbeats 4000000 in
theorem samek_yes {w : World} {u v : Value} {ks : List Ky} (hu : KyV w u ks) (hv : KyV w v ks) (hk : ks.length ≤ 1000000) (hl : ∀ k ∈ ks, k.t.length ≤ 1000000000) :
    Calls Try.prog 15 #[u, v] w fun e w' => e = .returned (.bool true) ∧ ∃ k, w' = w.drewN k := by
  obtain ⟨hs, l1, s1⟩ := hu
  obtain ⟨ht, l2, s2⟩ := hv
  obtain ⟨A, c, rfl, hc1, hc2⟩ := l1.is
  obtain ⟨B, d, rfl, hd1, hd2⟩ := l2.is
  obtain ⟨N, hN⟩ : ∃ N, ks.length = N := ⟨_, rfl⟩
  have e1 : hs.length = N := s1.1.trans hN
  have e2 : ht.length = N := s2.1.trans hN
  rw [e1] at hc1 l1 ⊢
  rw [e2] at hd1 l2 ⊢
  rw [hN] at hk
  have HS := Lib.hid (And.intro l1 (And.intro l2 (And.intro s1 (And.intro s2 (And.intro e1 (And.intro e2 hl))))))
  clear l1 l2 s1 s2 e1 e2 hl hN
  go_enter Try.func15, Try.ntmps15
  have d1 : ((N : Int) != (N : Int)) = false := by simp
  go_wp2_with fail
  go_loopw [5] (fun i wr => ∃ k : Nat, k ≤ N ∧ i = .int .i64 (k : Nat) ∧ Hid (∃ q, wr = w.drewN q)) (fun i _ => N - (intOf i).toNat)
  case atStart => exact ⟨0, Nat.zero_le _, rfl, 0, rfl⟩
  case round =>
    obtain ⟨k, hk2, rfl, HW⟩ := hrel
    by_cases hlt : k < N
    · obtain ⟨b, o, x, rfl, hx⟩ : ∃ b o x, A = some ⟨b, o, none⟩ ∧ hs[k]? = some x := by
        have hx := List.getElem?_eq_getElem (by rw [HS.out.2.2.2.2.1]; exact hlt : k < hs.length)
        obtain ⟨b, o, e, _⟩ := HS.out.1.parts.2.1 k _ hx
        exact ⟨b, o, _, e, hx⟩
      obtain ⟨b', o', y, rfl, hy⟩ : ∃ b o x, B = some ⟨b, o, none⟩ ∧ ht[k]? = some x := by
        have hx := List.getElem?_eq_getElem (by rw [HS.out.2.2.2.2.2.1]; exact hlt : k < ht.length)
        obtain ⟨b, o, e, _⟩ := HS.out.2.1.parts.2.1 k _ hx
        exact ⟨b, o, _, e, hx⟩
      obtain ⟨z, hz, p1, p2, p3, p4⟩ := HS.out.2.2.1.2 k x hx
      obtain ⟨z', hz', q1, q2, q3, q4⟩ := HS.out.2.2.2.1.2 k y hy
      obtain rfl : z = z' := Option.some.inj (hz.symm.trans hz')
      obtain ⟨xk, xr, xm, xA, xn, xc⟩ := x
      obtain ⟨yk, yr, ym, yA, yn, yc⟩ := y
      dsimp only at p1 p2 p3 p4 q1 q2 q3 q4
      subst p1 p2 p3 q1 q2 q3
      have hlz := HS.out.2.2.2.2.2.2 z (List.mem_of_getElem? hz)
      have C1 := Lib.hid (fun m => Calls.quiet_of (same_txt (w := wr.drewN m) (by obtain ⟨q, e⟩ := HW.out; rw [e]; exact p4) (by obtain ⟨q, e⟩ := HW.out; rw [e]; exact q4) hlz))
      obtain ⟨_, _, ea, _, _, ca⟩ := HS.out.1.parts.2.1 k _ hx
      obtain ⟨_, _, eb, _, _, cb⟩ := HS.out.2.1.parts.2.1 k _ hy
      obtain ⟨rfl, rfl⟩ : b = _ ∧ o = _ := by injection ea with ea; injection ea with h1 h2; exact ⟨h1, h2⟩
      obtain ⟨rfl, rfl⟩ : b' = _ ∧ o' = _ := by injection eb with ea; injection ea with h1 h2; exact ⟨h1, h2⟩
      have l0 : wr.cell? ⟨b, o + k * 4, none⟩ = some (.int .i64 z.k) := by obtain ⟨q, e⟩ := HW.out; rw [e]; exact ca 0 _ rfl
      have l1 : wr.cell? ⟨b, o + k * 4 + 1, none⟩ = some (.int .i32 z.r) := by obtain ⟨q, e⟩ := HW.out; rw [e]; exact ca 1 _ rfl
      have l2 : wr.cell? ⟨b, o + k * 4 + 2, none⟩ = some (.bool z.m) := by obtain ⟨q, e⟩ := HW.out; rw [e]; exact ca 2 _ rfl
      have l3 : wr.cell? ⟨b, o + k * 4 + 3, none⟩ = some (.slice xA xn xc) := by obtain ⟨q, e⟩ := HW.out; rw [e]; exact ca 3 _ rfl
      have r0 : wr.cell? ⟨b', o' + k * 4, none⟩ = some (.int .i64 z.k) := by obtain ⟨q, e⟩ := HW.out; rw [e]; exact cb 0 _ rfl
      have r1 : wr.cell? ⟨b', o' + k * 4 + 1, none⟩ = some (.int .i32 z.r) := by obtain ⟨q, e⟩ := HW.out; rw [e]; exact cb 1 _ rfl
      have r2 : wr.cell? ⟨b', o' + k * 4 + 2, none⟩ = some (.bool z.m) := by obtain ⟨q, e⟩ := HW.out; rw [e]; exact cb 2 _ rfl
      have r3 : wr.cell? ⟨b', o' + k * 4 + 3, none⟩ = some (.slice yA yn yc) := by obtain ⟨q, e⟩ := HW.out; rw [e]; exact cb 3 _ rfl
      have g1 : (k : Int) < (N : Int) := by omega
      have g2 : (0 : Int) ≤ (k : Int) := by omega
      obtain ⟨zk, zr, zm, zt⟩ := z
      dsimp only at l0 l1 l2 r0 r1 r2
      have f0 : (zk != zk) = false := by simp
      have f1 : (zr != zr) = false := by simp
      have f2 : (zm != zm) = false := by simp
      clear hx hy hz hz' p4 q4 hlz ea eb ca cb
      go_wp2_with fail
      go_quiet ((go_at_call 10; exact C1.out _))
      go_wp2_with fail
      go_roundw
      case rel => exact ⟨k + 1, by omega, by go_num, by obtain ⟨q, e⟩ := HW.out; exact ⟨_, by rw [e]; exact World.drewN_drewN _ _ _⟩⟩
      case measure => simp [intOf]; omega
    · obtain rfl : k = N := by omega
      go_wp2_with fail
      go_ret
      exact ⟨rfl, HW.out⟩
end Go.Proofs.Ytgdfcojgifgjcaa
