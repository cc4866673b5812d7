/- macro: Start, Stop. -/
import Derived.Test.YtgdfcojgifgjcaaMcS
namespace Go.Proofs.Ytgdfcojgifgjcaa
open Go.RowKit Go.Maps
set_option linter.unusedVariables false
set_option linter.unusedSimpArgs false
set_option maxRecDepth 100000

def StsS (X : World) (S : Nat → Prop) (hs : List Sp) (ms : List MSt) : Prop := hs.length = ms.length ∧ ∀ (j : Nat) (x : Sp), hs[j]? = some x → ∃ s : MSt, ms[j]? = some s ∧ x.k = s.key.k ∧ x.r = s.key.r ∧ x.m = s.key.m ∧ x.call = s.call ∧ x.nm = s.nm ∧ (Lit.int .i32 s.nm).wf = true ∧ TxtS X S (.slice x.A x.n x.c) s.key.t ∧ s.key.t.length ≤ 1000000
section
variable {X Y Z : World} {S S' : Nat → Prop} {hs : List Sp} {ms : List MSt}
theorem StsS.later (h : StsS X S hs ms) (hb : Below X.heap.size X Y) : StsS Y S hs ms := by
  refine ⟨h.1, fun j x hx => ?_⟩
  obtain ⟨s, k1, k2, k3, k4, k5, k6, k7, k8, k9⟩ := h.2 j x hx
  exact ⟨s, k1, k2, k3, k4, k5, k6, k7, k8.later hb, k9⟩
theorem StsS.mono (h : StsS X S hs ms) (hS : ∀ b, S b → S' b) : StsS X S' hs ms := by
  refine ⟨h.1, fun j x hx => ?_⟩
  obtain ⟨s, k1, k2, k3, k4, k5, k6, k7, k8, k9⟩ := h.2 j x hx
  exact ⟨s, k1, k2, k3, k4, k5, k6, k7, Sl.mono k8 hS, k9⟩
theorem StsS.far (h : StsS X S hs ms) {p : Addr} (hp : ¬ S p.block) (u : Value) : StsS (X.setCell p u) S hs ms := by
  refine ⟨h.1, fun j x hx => ?_⟩
  obtain ⟨s, k1, k2, k3, k4, k5, k6, k7, k8, k9⟩ := h.2 j x hx
  exact ⟨s, k1, k2, k3, k4, k5, k6, k7, Sl.far k8 hp u, k9⟩
theorem StsS.sts {v : Value} (h : StsS X S hs ms) (hl : LiV 6 encS X S v hs) : StS X S v ms := ⟨hs, hl, h.1, h.2⟩
theorem StsS.push {B n c n2 c2 c' : Nat} {A A2 A' : Option Addr} {E : TypeId} {xs zs : List Value} {k r : Int} {m : Bool} {call : Bool} {nm : Int} {t : List Int} (h : StsS X (fun b => B ≤ b ∧ some b ≠ (Value.slice A n c).ownBlock) hs ms) (hrow : X.ownsRow B E 6 (.slice A n c) n xs) (hb : Below X.heap.size X Y) (hB : B ≤ X.heap.size)
    (ht : TxtS Y (fun b => X.heap.size ≤ b) (.slice A2 n2 c2) t) (hw : (Lit.int .i32 nm).wf = true) (htl : t.length ≤ 1000000) (hp : Pushed Y Z B E 6 (.slice A n c) (n + 1) zs A' c') :
    StsS Z (fun b => B ≤ b ∧ some b ≠ (Value.slice A' (n + 1) c').ownBlock) (hs ++ [⟨k, r, m, A2, n2, c2, call, nm⟩]) (ms ++ [⟨⟨k, r, m, t⟩, call, nm⟩]) := by
  have keep : ∀ {S : Nat → Prop} {v : Value} {l : List Int}, (∀ b, S b → B ≤ b ∧ some b ≠ (Value.slice A n c).ownBlock) → TxtS Y S v l → TxtS Z (fun b => B ≤ b ∧ some b ≠ (Value.slice A' (n + 1) c').ownBlock) v l := fun {S v l} hS ht => by
    refine Sl.mono (Sl.grown (Sl.old ht) hp.grown fun b hb => (hS b hb.2).2) fun b hb => ⟨(hS b hb.2).1, fun e => ?_⟩
    rcases hp.at_ with e1 | ⟨k, e1, hk⟩
    · exact (hS b hb.2).2 (e.trans e1)
    · rw [e1] at e
      injection e with e
      have := hb.1
      omega
  refine ⟨by simp [h.1], fun j z hz => ?_⟩
  rcases Nat.lt_or_ge j hs.length with hj | hj
  · rw [List.getElem?_append_left hj] at hz
    obtain ⟨y, k1, k2, k3, k4, k5, k6, k7, k8, k9⟩ := h.2 j z hz
    exact ⟨y, by rw [List.getElem?_append_left (by rw [← h.1]; exact hj)]; exact k1, k2, k3, k4, k5, k6, k7, keep (fun b hb => hb) (k8.later hb), k9⟩
  · rw [List.getElem?_append_right hj] at hz
    have hj0 : j - hs.length = 0 := by have := (List.getElem?_eq_some_iff.1 hz).1; simp at this; omega
    rw [hj0] at hz
    obtain rfl := Option.some.inj hz
    refine ⟨_, by rw [List.getElem?_append_right (by rw [← h.1]; exact hj), ← h.1, hj0]; rfl, rfl, rfl, rfl, rfl, rfl, hw, keep (S := fun b => X.heap.size ≤ b) (fun b hbX => ⟨by omega, fun e => ?_⟩) ht, htl⟩
    have := (hrow.lt b e.symm).2
    omega
end
def mst (k : Ky) : MSt := ⟨k, false, 0⟩
theorem start_any (w : World) : Calls Try.prog 13 #[] w fun e w' => e = .returned (.agg #[.bool true, .slice none 0 0]) ∧ Below w.heap.size w w' := by
  have V0 := Lib.hid (And.intro (blk_new w #[.bool true, .slice none 0 0] 42) (belAlloc w (.cells #[.bool true, .slice none 0 0] 42)))
  go_enter Try.func13, Try.ntmps13
  go_wp2_with fail
  refine at_world (fun Z => Blk Z w.heap.size #[.bool true, .slice none 0 0] ∧ Below w.heap.size w Z) V0.out ?_
  rintro Z ⟨⟨y1, k1, j1⟩, hb⟩
  have x0 : Z.cell? ⟨w.heap.size, 0, none⟩ = some (.bool true) := k1 0
  have x1 : Z.cell? ⟨w.heap.size, 1, none⟩ = some (.slice none 0 0) := k1 1
  have HZ := Lib.hid hb
  clear hb k1 j1 y1
  refine bodyPost_ret (v := .agg #[.bool true, .slice none 0 0]) (by simp [results, Try.results13, go_sem, x0, x1]) rfl ⟨rfl, HZ.out⟩
/-- What Stop keeps. -/
structure Sq (w : World) (on : Bool) (A : Option Addr) (n c : Nat) (S : Nat → Prop) (ks : List Ky) (Ao : Option Addr) (k co : Nat) (hs : List Sp) (X : World) : Prop where
  below : Below w.heap.size w X
  b : Blk X w.heap.size #[.bool on, .slice A n c]
  rs : Blk X (w.heap.size + 1) #[.bool false, .slice none 0 0]
  row : X.ownsRow (w.heap.size + 2) 32 6 (.slice Ao k co) k (flatL encS hs)
  sts : StsS X (fun b => w.heap.size + 2 ≤ b ∧ some b ≠ (Value.slice Ao k co).ownBlock) hs ((ks.take k).map mst)
theorem Sq.later {w X Y : World} {on : Bool} {A Ao : Option Addr} {n c k co : Nat} {S : Nat → Prop} {ks : List Ky} {hs : List Sp} (h : Sq w on A n c S ks Ao k co hs X) (hb : Below X.heap.size X Y) : Sq w on A n c S ks Ao k co hs Y := ⟨belowStep h.below hb, h.b.later hb h.b.1, h.rs.later hb h.rs.1, own_later h.row hb, h.sts.later hb⟩
theorem sq_start (w : World) (on : Bool) (A : Option Addr) (n c : Nat) (S : Nat → Prop) (ks : List Ky) : Sq w on A n c S ks none 0 0 [] ((w.alloc (.cells #[.bool on, .slice A n c] 42)).alloc (.cells #[.bool false, .slice none 0 0] 42)) := by
  refine ⟨belPush (belAlloc _ _) _, (blk_new w _ _).alloc _, ?_, World.ownsRow_nil _ _ _ _, rfl, fun j x hx => by simp at hx⟩
  have := blk_new (w.alloc (.cells #[.bool on, .slice A n c] 42)) #[.bool false, .slice none 0 0] 42
  simpa using this
theorem Sq.push {w X Y Z : World} {on : Bool} {A Ao A2 A' : Option Addr} {n c k co n2 c2 c' : Nat} {S : Nat → Prop} {ks : List Ky} {hs : List Sp} {yk yr : Int} {ym : Bool} {yt : List Int} (h : Sq w on A n c S ks Ao k co hs X) (hb : Below X.heap.size X Y) (ht : TxtS Y (fun b => X.heap.size ≤ b) (.slice A2 n2 c2) yt) (htl : yt.length ≤ 1000000) (hk : ks[k]? = some ⟨yk, yr, ym, yt⟩)
    (hp : Pushed Y Z (w.heap.size + 2) 32 6 (.slice Ao k co) (k + 1) (flatL encS hs ++ [.int .i64 yk, .int .i32 yr, .bool ym, .slice A2 n2 c2, .bool false, .int .i32 0]) A' c') : Sq w on A n c S ks A' (k + 1) c' (hs ++ [⟨yk, yr, ym, A2, n2, c2, false, 0⟩]) Z := by
  have hX : w.heap.size + 2 ≤ X.heap.size := by have := h.rs.1; omega
  have hrow := own_later h.row hb
  have hne : ∀ b, b < w.heap.size + 2 → some b ≠ (Value.slice Ao k co).ownBlock := fun b hb => row_new h.row hb
  refine ⟨(belowStep h.below hb).grown hp.grown (by have := h.below.size; have := hb.size; omega) (fun q hq => by have := (h.row.lt q hq).1; omega), (h.b.later hb h.b.1).grown hp.grown (hne _ (by omega)), (h.rs.later hb h.rs.1).grown hp.grown (hne _ (by omega)), by rw [flatL_snoc]; exact hp.own, ?_⟩
  rw [take_snoc' hk, List.map_append]
  exact h.sts.push h.row hb hX ht (wf_of (by omega) (by omega)) htl hp

set_option maxHeartbeats 4000000 in
theorem stop_any {w : World} {S : Nat → Prop} {on : Bool} {A : Option Addr} {n c : Nat} {ks : List Ky} (h : KyS w S (.slice A n c) ks) (hn : n = ks.length) (hl : ks.length ≤ 1000) (ht : ∀ y ∈ ks, y.t.length ≤ 1000000) :
    Calls Try.prog 14 #[.agg #[.bool on, .slice A n c]] w fun e w' => ∃ A' c', e = .returned (.tuple #[.agg #[.bool false, .slice none 0 0], .slice A' n c']) ∧ StS w' (fun b => w.heap.size ≤ b) (.slice A' n c') (ks.map mst) ∧ Below w.heap.size w w' := by
  have V0 := Lib.hid (sq_start w on A n c S ks)
  have HK := Lib.hid (And.intro h (And.intro hn ht))
  have hn1 : n ≤ 1000 := by omega
  clear h ht hl hn
  go_enter Try.func14, Try.ntmps14
  go_upto_region 1 with fail
  refine at_world (Sq w on A n c S ks none 0 0 []) V0.out ?_
  intro X hX
  have V1 := Lib.hid hX
  clear hX V0
  obtain ⟨y1, k1, j1⟩ := (show _ from V1.out.b)
  go_wp2_with fail
  clear y1 k1 j1
  go_loopw [4, 10] (fun u i wr => ∃ (k : Nat) (Ao : Option Addr) (co : Nat) (hs : List Sp), k ≤ n ∧ i = .int .i64 (k : Nat) ∧ u = .slice Ao k co ∧ Hid (Sq w on A n c S ks Ao k co hs wr)) (fun _ i _ => n - (intOf i).toNat)
  case atStart => exact ⟨0, none, 0, [], Nat.zero_le _, rfl, rfl, V1.out⟩
  case round =>
    obtain ⟨k, Ao, co, hs, hk, rfl, rfl, HV⟩ := hrel
    clear V1
    by_cases hlt : k < n
    · have hkk : k < ks.length := by rw [← HK.out.2.1]; exact hlt
      obtain ⟨b, o, Ak, nk, ck, rfl, hb, l0, l1, l2, l3, lt⟩ := (HK.out.1.later HV.out.below).at_ hkk
      have hy0 := List.getElem?_eq_getElem hkk
      have hy1 := HK.out.2.2 _ (List.getElem_mem hkk)
      obtain ⟨y, hy⟩ : ∃ y, ks[k] = y := ⟨_, rfl⟩
      rw [hy] at l0 l1 l2 lt hy0 hy1
      obtain ⟨yk, yr, ym, yt⟩ := y
      dsimp only at l0 l1 l2 lt hy1
      have HY := Lib.hid (And.intro hy0 (And.intro hy1 lt.any))
      have g1 : (k : Int) < (n : Int) := by omega
      have g2 : (0 : Int) ≤ (k : Int) := by omega
      clear hy lt hkk hy0 hy1
      go_upto_region 5 with fail
      refine at_world (fun Y => Sq w on (some ⟨b, o, none⟩) n c S ks Ao k co hs Y ∧ Blk Y wr.heap.size #[.int .i64 yk, .int .i32 yr, .bool ym, .slice Ak nk ck] ∧ Txt Y (.slice Ak nk ck) yt) ⟨HV.out.later (belAlloc _ _), blk_new wr _ _, HY.out.2.2.later (belAlloc _ _)⟩ ?_
      obtain ⟨g, hg⟩ : ∃ g, wr.heap.size = g := ⟨_, rfl⟩
      rw [hg]
      intro Y hYY
      have VY := Lib.hid hYY
      clear hYY HV l0 l1 l2 l3 hg
      obtain ⟨y1, k1, j1⟩ := (show _ from VY.out.2.1)
      have C1 := Lib.hid (keycopy_any yk yr ym Ak nk ck yt Y VY.out.2.2 (by have := HY.out.2.1; omega))
      go_wp2_with fail
      refine C1.out.mono ?_
      rintro e w5 ⟨A5, n5, c5, rfl, t5, b5⟩
      have B5 := Lib.hid (And.intro (VY.out.1.later b5) (And.intro t5 b5))
      have hz5 : w.heap.size + 2 ≤ w5.heap.size := by have := (VY.out.1.later b5).rs.1; omega
      clear t5 b5 C1 y1 k1 j1
      go_wp2_with (at_builtin; refine wpList_push (cs := #[.int .i64 yk, .int .i32 yr, .bool ym, .slice A5 n5 c5, .bool false, .int .i32 0]) stp_elt B5.out.1.row hz5 rfl rfl rfl rfl rfl rfl rfl (by unfold maxLen; omega) (by omega) ?_; intro A6 c6 w6 hp; have V6 := Lib.hid (VY.out.1.push B5.out.2.2 B5.out.2.1 HY.out.2.1 HY.out.1 hp); clear hp)
      go_roundw
      case rel => exact ⟨k + 1, A6, c6, _, by omega, by go_num, rfl, V6.out⟩
      case measure => simp [intOf]; omega
    · obtain rfl : k = n := by omega
      obtain ⟨y2, k2, j2⟩ := (show _ from HV.out.rs)
      have h1 := LiV.own encS_len (by omega) HV.out.row
      have hrs := HV.out.rs
      go_wp2_with fail
      refine at_world (fun Z => Z.cell? ⟨w.heap.size + 1, 0, none⟩ = some (.bool false) ∧ Z.cell? ⟨w.heap.size + 1, 1, none⟩ = some (.slice none 0 0) ∧ StS Z (fun b => w.heap.size ≤ b) (.slice Ao k co) (ks.map mst) ∧ Below w.heap.size w Z) ?_ ?_
      · have b := (hrs.set_ 0 (by simp) (.bool false)).set_ 1 (by simp) (.slice none 0 0)
        refine ⟨b.2.1 0, b.2.1 1, ?_, (HV.out.below.setCell (p := ⟨w.heap.size + 1, 0, none⟩) (by show _ ≤ w.heap.size + 1; omega) _).setCell (p := ⟨w.heap.size + 1, 1, none⟩) (by show _ ≤ w.heap.size + 1; omega) _⟩
        have h2 := HV.out.sts.mono (S' := fun b => w.heap.size + 2 ≤ b) fun b hb => hb.1
        have h3 := h2.sts h1
        rw [HK.out.2.1, List.take_length] at h3
        rw [HK.out.2.1]
        exact ((h3.far (p := ⟨w.heap.size + 1, 0, none⟩) (by show ¬ (_ ≤ w.heap.size + 1); omega) _).far (p := ⟨w.heap.size + 1, 1, none⟩) (by show ¬ (_ ≤ w.heap.size + 1); omega) _).mono fun b hb => by omega
      rintro Z ⟨x0, x1, hst, hb⟩
      have HZ := Lib.hid (And.intro hst hb)
      clear hst hb y2 k2 j2 h1 hrs
      refine bodyPost_ret (v := .tuple #[.agg #[.bool false, .slice none 0 0], .slice Ao k co]) (by simp [results, Try.results14, go_sem, x0, x1]) rfl ⟨Ao, co, rfl, HZ.out⟩
end Go.Proofs.Ytgdfcojgifgjcaa
