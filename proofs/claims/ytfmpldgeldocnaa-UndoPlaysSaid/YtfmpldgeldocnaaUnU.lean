/- undo: the document's Add. -/
import Derived.Test.YtfmpldgeldocnaaUnT
import Derived.Test.YtfmpldgeldocnaaStepL
import Derived.Test.YtfmpldgeldocnaaUnK
namespace Go.Proofs.Ytfmpldgeldocnaa
open Go.RowKit
set_option linter.unusedVariables false
set_option linter.unusedSimpArgs false

theorem rgroup_elt : Elt Try.prog 26 47 2 32 := elt_of Try.underlying26 (z := .agg #[.slice none 0 0, .int .i64 0]) (by kernel_rfl) rfl (by decide)
theorem redit_elt : Elt Try.prog 45 29 3 56 := elt_of Try.underlying45 (z := .agg #[.int .i64 0, .slice none 0 0, .slice none 0 0]) (by kernel_rfl) rfl (by decide)

theorem liv_new {α : Type} {k : Nat} {enc : α → List Value} (hk : ∀ x, (enc x).length = k) (Y : World) (cs : Array Value) (x : α) (t : TypeId) (hcs : cs.toList = enc x) (b : Nat) (hb : b = Y.heap.size) : LiV k enc (Y.alloc (.cells cs t)) (fun b => Y.heap.size ≤ b) (.slice (some ⟨b, 0, none⟩) 1 1) [x] := by
  subst hb
  exact ⟨_, 1, rfl, Li.new hk Y cs t (by rw [hcs]; simp [flatL]), (fun e => by cases e), Nat.le_refl _, by unfold maxLen; omega⟩

/-- Groups that are told. -/
def TellsR (S : List AG) (w : World) (e : Ending) (w' : World) : Prop := ∃ A n c, e = .returned (.slice A n c) ∧ Stk w' (.slice A n c) S ∧ Below w.heap.size w w'

theorem radd_fin {w w2 w3 : World} {H : List GrH} {S : List AG} {N c2 c3 : Nat} {A2 A3 : Option Addr} {e : AE} {cur : Int} {o o2 : Obj} {Q : Nat → Prop} (hR : Both (GrIs w) H S) (hB2 : Below w.heap.size w w2) (ho : w2.ownsRow (w.heap.size + 1) 47 2 (.slice A2 N c2) N (flatL encG H))
    (hE : EdsS (w2.alloc o) (fun b => Q b ∨ w2.heap.size ≤ b) (.slice (some ⟨w2.heap.size, 0, none⟩) 1 1) [e]) (hp : Pushed ((w2.alloc o).alloc o2) w3 (w.heap.size + 1) 47 2 (.slice A2 N c2) (N + 1) (flatL encG H ++ flatL encG [⟨some ⟨w2.heap.size, 0, none⟩, 1, 1, cur⟩]) A3 c3) (_ : Nat → Prop) (hQ : ∀ b, Q b → b < w.heap.size) :
    Stk w3 (.slice A3 (N + 1) c3) (S ++ [⟨[e], cur⟩]) ∧ Below w.heap.size w w3 := by
  have hB3 := hp.below (belPush (belPush hB2 _) _) (own_later ho (belPush (belAlloc _ _) _)) (Nat.le_succ _)
  have hx := EdsS.grown (EdsS.old (hE.later (belAlloc _ o2))) hp.grown fun b h e => by
    obtain ⟨h1, h2⟩ := ho.lt b e.symm
    rcases h.2 with h3 | h3
    · have := hQ b h3
      omega
    · omega
  refine ⟨⟨H ++ [⟨some ⟨w2.heap.size, 0, none⟩, 1, 1, cur⟩], ?_, (hR.imp fun x y k => k.later hB3).append (Both.one ⟨rfl, hx.any⟩)⟩, hB3⟩
  have := hp.own
  rw [← flatL_append] at this
  exact (LiV.own encG_len (by omega) this).mono fun _ _ => trivial

set_option maxHeartbeats 2000000 in
set_option maxRecDepth 20000 in
theorem radd_own (A : Option Addr) (n c : Nat) (at_ : Int) (O : Option Addr) (on oc : Nat) (I : Option Addr) (im ic : Nat) (cur : Int) (j : Bool) (S : List AG) (e : AE) (w : World)
    (hS : Stk w (.slice A n c) S) (he : EdIs w ⟨at_, O, on, oc, I, im, ic⟩ e) (hn : S.length ≤ 900) (hj : j = false ∨ S = []) :
    Calls Try.prog 10 #[.slice A n c, .agg #[.int .i64 at_, .slice O on oc, .slice I im ic], .int .i64 cur, .bool j] w (TellsR (S ++ [⟨[e], cur⟩]) w) := by
  obtain ⟨A', c', e1, h1, h2⟩ := hS.is
  injection e1 with ea en ec
  subst ea; subst en; subst ec
  obtain ⟨H, hH, hR⟩ := hS
  obtain ⟨N, hN⟩ : ∃ N, S.length = N := ⟨_, rfl⟩
  have hHN : H.length = N := by rw [hR.1, hN]
  rw [hN] at hH
  have HS := Lib.hid (And.intro hH (And.intro hR (And.intro he (And.intro hN hHN))))
  have hj0 : j = false ∨ j = true ∧ N = 0 := by
    rcases hj with h | h
    · exact .inl h
    · cases j with
      | false => exact .inl rfl
      | true => exact .inr ⟨rfl, by rw [← hN, h]; rfl⟩
  rw [hN] at hn h1
  have hown0 : (w.alloc (.cells #[.int .i64 at_, .slice O on oc, .slice I im ic] 29)).ownsRow (w.heap.size + 1) 47 2 (.slice none 0 0) 0 [] := World.ownsRow_nil _ _ _ _
  have k0 := blk_new w #[.int .i64 at_, .slice O on oc, .slice I im ic] 29
  have HK := Lib.hid (And.intro k0 (belAlloc w (.cells #[.int .i64 at_, .slice O on oc, .slice I im ic] 29)))
  rw [hN]
  clear hH hR he hN hHN k0
  have key : ∀ jj : Bool, (jj = false ∨ jj = true ∧ N = 0) → Calls Try.prog 10 #[.slice A N c, .agg #[.int .i64 at_, .slice O on oc, .slice I im ic], .int .i64 cur, .bool jj] w (TellsR (S ++ [⟨[e], cur⟩]) w) := by
    intro jj hjj
    rcases hjj with rfl | ⟨rfl, rfl⟩
    all_goals
      go_enter Try.func10, Try.ntmps10
      go_wp2_with (at_builtin; first
        | (refine wpList_li encG_len encG_one rgroup_elt hown0 (by simp) rfl rfl rfl rfl (HS.out.1.later HK.out.2) (by unfold maxLen; omega) (by omega) ?_; intro A2 c2 w2 hp; simp only [Nat.zero_add, List.nil_append] at hp; have HP := Lib.hid hp; obtain ⟨y0, k0, j0⟩ := (show _ from HK.out.1.grown hp.grown (fun h => by cases h)); have hz2 := hp.grown.size; simp only [World.size_alloc] at hz2; clear hp; try simp only [Nat.zero_add, Int.ofNat_zero, Int.zero_add])
        | (refine wpList_li (M := [⟨some ⟨w2.heap.size, 0, none⟩, 1, 1, cur⟩]) encG_len encG_one rgroup_elt (own_later HP.out.own (belPush (belAlloc _ _) _)) (by simp; omega) rfl rfl rfl rfl (liv_new encG_len _ _ ⟨some ⟨w2.heap.size, 0, none⟩, 1, 1, cur⟩ 47 rfl _ (by simp)) (by unfold maxLen; omega) (by omega) ?_; intro A3 c3 w3 hp; have HP3 := Lib.hid hp; clear hp))
      have hB2 := HP.out.below HK.out.2 hown0 (Nat.le_succ _)
      have hE : EdsS (w2.alloc (.cells #[.int .i64 at_, .slice O on oc, .slice I im ic] 29)) (fun b => (b < w.heap.size ∧ True) ∨ w2.heap.size ≤ b) (.slice (some ⟨w2.heap.size, 0, none⟩) 1 1) [e] := edsS_new w2 _ at_ O on oc I im ic e _ ((show EdIsS w Any _ _ from HS.out.2.2.1).old.later hB2) _ rfl
      have hfin := radd_fin HS.out.2.1 hB2 HP.out.own hE HP3.out (fun b => (b < w.heap.size ∧ True)) (fun b h => by omega)
      clear y0 k0 j0
      go_ret
      exact ⟨_, _, _, rfl, hfin⟩
  exact key j hj0
end Go.Proofs.Ytfmpldgeldocnaa
