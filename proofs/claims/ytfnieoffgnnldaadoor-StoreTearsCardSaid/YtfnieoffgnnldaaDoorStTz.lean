/- StTz: StTa, StTb, StTc, StTd, StTe, StTf laid together. -/
import Derived.Test.YtfnieoffgnnldaaDoorStN
import Derived.Test.YtfnieoffgnnldaaDoorTxtA
import Derived.Test.YtfnieoffgnnldaaDoorFewT
namespace Go.Proofs.YtfnieoffgnnldaaDoor
open Go.RowKit
theorem below_one (w : World) (o : Obj) : Below w.heap.size w (w.alloc o) := (Below.refl _ _).alloc (Nat.le_refl _) _
theorem take_succ_at {L : List (List Int)} {k : Nat} (h : k < L.length) : L.take (k + 1) = L.take k ++ [L.getD k []] := by
  rw [List.take_add_one]
  simp [List.getD, h]
section
open Go.ChangeShapes Go.WideShapes Go.ChangeAt Go.RowKit Go.Deep
variable {H : Type} {enc : TypeId × Value → H} {W : World} {base : Nat} {spare : Nat → Bool} {held : Bool}
theorem reads_txts {v : Value} (h : Reads enc Tryd.prog W base spare held 30 v) : ∃ L : List (List Int), Txts W v L ∧ ∀ l ∈ L, ∀ x ∈ l, -2147483648 ≤ x ∧ x ≤ 2147483647 := by
  obtain ⟨A, n, c, V, rfl, hr, h0, h1, h2, hR⟩ := reads_slice Tryd.underlying30 (by kernel_rfl) h
  obtain ⟨f, hf⟩ := choose_lt (p := fun i (l : List Int) => Txt W (V i) l ∧ ∀ x ∈ l, -2147483648 ≤ x ∧ x ≤ 2147483647) fun i hi => reads_txt (hR i hi)
  have hl : ((List.range n).map f).length = n := by simp
  refine ⟨(List.range n).map f, ⟨V, ?_, fun j hj => ?_⟩, fun l hl => ?_⟩
  · rw [hl]
    exact ⟨A, c, rfl, hr, h0, h1, h2, fun _ _ _ => trivial⟩
  · rw [hl] at hj
    have : ((List.range n).map f).getD j [] = f j := by simp [List.getD, hj]
    rw [this]
    exact (hf j hj).1
  · obtain ⟨j, hj, rfl⟩ := List.mem_map.1 hl
    exact (hf j (List.mem_range.1 hj)).2
end
end Go.Proofs.YtfnieoffgnnldaaDoor
/- store: what is torn off: pure. -/
namespace Go.Proofs.YtfnieoffgnnldaaDoor
open Go.RowKit
set_option linter.unusedVariables false
set_option linter.unusedSimpArgs false

/-- The store of lines. -/
def allI (L : List (List Int)) : List Int := L.flatMap entI
theorem allI_cons (l : List Int) (L : List (List Int)) : allI (l :: L) = entI l ++ allI L := by simp [allI]
theorem allI_snoc (L : List (List Int)) (l : List Int) : allI (L ++ [l]) = allI L ++ entI l := by simp [allI]
/-- What is read of a store torn at cut: whole entries alone. -/
def torn : Nat → List (List Int) → Nat → List (List Int × Nat)
  | _, [], _ => []
  | i, l :: L, cut => if (entI l).length ≤ cut then (l.map scal, i + (entI l).length) :: torn (i + (entI l).length) L (cut - (entI l).length) else []
theorem dig_lf : ∀ n : Fin 16, digI (n.val : Int) ≠ 10 := by decide +kernel
theorem dig_lf' (n : Int) (h : 0 ≤ n ∧ n < 16) : digI n ≠ 10 := by
  have := dig_lf ⟨n.toNat, by omega⟩
  rwa [show ((⟨n.toNat, by omega⟩ : Fin 16).val : Int) = n by show (n.toNat : Int) = n; omega] at this
theorem chT_lf (r : Int) : (10 : Int) ∉ chT r := by
  unfold chT
  split
  · decide
  · split
    · decide
    · rename_i h1 h2
      intro h
      by_cases hl : 0 ≤ r ∧ r < 128
      · rw [putS_low hl.1 hl.2] at h
        simp at h
        omega
      · have := putS_hi hl 10 h
        omega
theorem txt_lf (l : List Int) : (10 : Int) ∉ txtI l := by
  intro h
  unfold txtI at h
  obtain ⟨r, _, hr⟩ := List.mem_flatMap.1 h
  exact chT_lf r hr
theorem ent_body (l : List Int) : ∃ bs, entI l = bs ++ [10] ∧ (10 : Int) ∉ bs := by
  refine ⟨_, rfl, ?_⟩
  intro h
  have hc := chk_range (txtI l)
  simp only [List.mem_append, List.mem_singleton] at h
  rcases h with (h | h) | h
  · unfold hx2 at h
    simp only [List.mem_cons, List.not_mem_nil, or_false] at h
    rcases h with h | h
    · exact dig_lf' _ (by omega) h.symm
    · exact dig_lf' _ (by omega) h.symm
  · omega
  · exact txt_lf l h
theorem rdL_skip : ∀ (xs cur t : List Int) (i : Nat), (10 : Int) ∉ xs → rdL cur i (xs ++ t) = rdL (cur ++ xs) (i + xs.length) t
  | [], cur, t, i, _ => by simp
  | b :: xs, cur, t, i, h => by
    have hb : ¬ b = 10 := fun e => h (by simp [e])
    show (if b = 10 then _ else rdL (cur ++ [b]) (i + 1) (xs ++ t)) = _
    rw [if_neg hb, rdL_skip xs _ t _ (fun e => h (by simp [e])), List.append_assoc, List.length_cons]
    congr 1
    omega
theorem rdL_ent (l t : List Int) (i : Nat) : rdL [] i (entI l ++ t) = (l.map scal, i + (entI l).length) :: rdL [] (i + (entI l).length) t := by
  obtain ⟨bs, hb, hn⟩ := ent_body l
  have hl := (ent_lin hb).1
  rw [hb, List.append_assoc, rdL_skip bs [] _ i hn]
  show (if (10 : Int) = 10 then (match linP ([] ++ bs) with | none => [] | some l => (l, i + bs.length + 1) :: rdL [] (i + bs.length + 1) t) else _) = _
  rw [if_pos rfl, List.nil_append, hl, List.length_append, List.length_singleton]
  rfl
theorem rdL_none (xs cur : List Int) (i : Nat) (h : (10 : Int) ∉ xs) : rdL cur i xs = [] := by
  have := rdL_skip xs cur [] i h
  rw [List.append_nil] at this
  rw [this]
  rfl
theorem rdL_torn : ∀ (L : List (List Int)) (i cut : Nat), rdL [] i ((allI L).take cut) = torn i L cut
  | [], i, cut => by simp [allI, torn]; rfl
  | l :: L, i, cut => by
    unfold torn
    rw [allI_cons]
    split
    · rename_i h
      rw [show (entI l ++ allI L).take cut = entI l ++ (allI L).take (cut - (entI l).length) by rw [List.take_append, List.take_of_length_le h], rdL_ent, rdL_torn L]
    · rename_i h
      obtain ⟨bs, hb, hn⟩ := ent_body l
      rw [List.take_append_of_le_length (by omega)]
      apply rdL_none
      rw [hb] at h ⊢
      rw [List.length_append, List.length_singleton] at h
      rw [List.take_append_of_le_length (by omega)]
      exact fun e => hn (List.mem_of_mem_take e)
end Go.Proofs.YtfnieoffgnnldaaDoor

/- store: the document's Right. -/
namespace Go.Proofs.YtfnieoffgnnldaaDoor
open Go.RowKit
set_option linter.unusedVariables false
set_option linter.unusedSimpArgs false

set_option maxRecDepth 100000 in
set_option maxHeartbeats 4000000 in
theorem right_any (v : Value) (l : List Int) (w : World) (h : Txt w v l) (hl : l.length ≤ 100000) : Calls Tryd.prog 19 #[v] w fun e w' => ∃ A c, e = .returned (.slice A l.length c) ∧ w'.ownsRow w.heap.size 21 1 (.slice A l.length c) l.length ((l.map scal).map (Value.int .i32)) ∧ Below w.heap.size w w' := by
  obtain ⟨A0, c0, rfl, _, _⟩ := Sl.is h
  have HR := Lib.hid (Sl.parts h).2.1
  obtain ⟨n, hn⟩ : ∃ n, l.length = n := ⟨_, rfl⟩
  have HN := Lib.hid hn
  rw [hn] at hl HR ⊢
  clear h hn
  go_enter Tryd.func19, Tryd.ntmps19
  go_wp2_with fail
  go_loopw [3, 4] (fun out i wr => ∃ (k : Nat) (A : Option Addr) (c : Nat), k ≤ n ∧ i = .int .i64 (k : Nat) ∧ out = .slice A k c ∧ Hid (wr.ownsRow w.heap.size 21 1 (.slice A k c) k (((l.take k).map scal).map (Value.int .i32)) ∧ Below w.heap.size w wr)) (fun _ i _ => n - (intOf i).toNat)
  case atStart => exact ⟨0, none, 0, Nat.zero_le _, rfl, rfl, Lib.hid ⟨World.ownsRow_nil _ _ _ _, Below.refl _ _⟩⟩
  case round =>
    obtain ⟨k, A, c, hk, rfl, rfl, HI⟩ := hrel
    have hz := HI.out.2.size
    by_cases hlt : k < n
    · have hki : (k : Int) < (n : Int) := by omega
      have hk0 : (0 : Int) ≤ (k : Int) := by omega
      have hkl : k < l.length := by rw [HN.out]; exact hlt
      obtain ⟨b, o, rfl, hbl, hc⟩ := (HR.out.later HI.out.2) k hlt
      unfold liR at hc
      obtain ⟨r, hr⟩ : ∃ r, l.getD k 0 = r := ⟨_, rfl⟩
      rw [hr] at hc
      have HT := Lib.hid (show ((l.take (k + 1)).map scal).map (Value.int .i32) = ((l.take k).map scal).map (Value.int .i32) ++ [.int .i32 (scal r)] by
        rw [List.take_add_one, show l[k]? = some r by rw [List.getElem?_eq_getElem hkl, ← hr]; simp [List.getD, hkl]]
        simp)
      clear hr hkl
      by_cases hv : okS r = true
      · have HS := Lib.hid (show scal r = r by unfold scal; rw [if_pos hv])
        have C1 := Lib.hid (fun X => rvalid_any r X)
        rw [hv] at C1
        clear hv
        go_wp2_with fail
        refine (C1.out _).mono ?_
        rintro e w1 ⟨rfl, rfl⟩
        go_wp2_with (at_builtin; refine wpList_push eltI HI.out.1 hz rfl rfl rfl rfl (by simp) rfl rfl (by unfold maxLen; omega) (by omega) ?_; intro A3 v3 w3 hp; have HP := Lib.hid hp; have hb3 : Below w.heap.size w w3 := hp.below HI.out.2 HI.out.1 (Nat.le_refl _); clear hp)
        go_roundw
        case rel => exact ⟨k + 1, A3, v3, by omega, by go_num, rfl, Lib.hid ⟨by rw [HT.out, HS.out]; exact HP.out.own, hb3⟩⟩
        case measure => simp [intOf]; omega
      · have hv' : okS r = false := by simpa using hv
        have HS := Lib.hid (show scal r = 65533 by unfold scal; rw [if_neg hv])
        have C1 := Lib.hid (fun X => rvalid_any r X)
        rw [hv'] at C1
        clear hv hv'
        go_wp2_with fail
        refine (C1.out _).mono ?_
        rintro e w1 ⟨rfl, rfl⟩
        go_wp2_with (at_builtin; refine wpList_push eltI HI.out.1 hz rfl rfl rfl rfl (by simp) rfl rfl (by unfold maxLen; omega) (by omega) ?_; intro A3 v3 w3 hp; have HP := Lib.hid hp; have hb3 : Below w.heap.size w w3 := hp.below HI.out.2 HI.out.1 (Nat.le_refl _); clear hp)
        go_roundw
        case rel => exact ⟨k + 1, A3, v3, by omega, by go_num, rfl, Lib.hid ⟨by rw [HT.out, HS.out]; exact HP.out.own, hb3⟩⟩
        case measure => simp [intOf]; omega
    · obtain rfl : k = n := by omega
      have HT := Lib.hid (show l.take k = l by rw [← HN.out, List.take_length])
      go_wp2_with fail
      go_ret
      exact ⟨A, c, rfl, by have := HI.out.1; rw [HT.out] at this; exact this, HI.out.2⟩
end Go.Proofs.YtfnieoffgnnldaaDoor

/- store: not too many lines, nor too long. -/
namespace Go.Proofs.YtfnieoffgnnldaaDoor
open Go.RowKit
set_option linter.unusedVariables false
set_option linter.unusedSimpArgs false

def fewM (L : List (List Int)) : List (List Int) := (L.take 12).map (·.take 20)
theorem fewM_at {L : List (List Int)} {j : Nat} (h : j < L.length) (h2 : j < 12) : (fewM L).getD j [] = (L.getD j []).take 20 := by
  unfold fewM
  simp [List.getD, List.getElem?_take, h2, h]
theorem fewM_len (L : List (List Int)) : (fewM L).length = min 12 L.length := by simp [fewM]
set_option maxRecDepth 100000 in
set_option maxHeartbeats 4000000 in
theorem few47_any (v : Value) (L : List (List Int)) (w : World) (h : Txts w v L) : Calls Tryd.prog 17 #[v] w fun e w' => ∃ A c, e = .returned (.slice A (fewM L).length c) ∧ Txts w' (.slice A (fewM L).length c) (fewM L) ∧ Below w.heap.size w w' := by
  obtain ⟨A0, c0, rfl, _, _⟩ := h.is
  have HL := Lib.hid h
  clear h
  go_enter Tryd.func17, Tryd.ntmps17
  go_wp2_with fail
  go_loopw [3, 4] (fun out i wr => ∃ (k : Nat) (A : Option Addr) (c : Nat), k ≤ L.length ∧ k ≤ 12 ∧ i = .int .i64 (k : Nat) ∧ out = .slice A k c ∧ Hid (∃ vs, wr.ownsRow w.heap.size 22 1 (.slice A k c) k vs ∧ (∀ j, j < k → ∃ u, vs[j]? = some u ∧ Txt w u ((fewM L).getD j [])) ∧ Below w.heap.size w wr)) (fun _ i _ => 12 - (intOf i).toNat)
  case atStart => exact ⟨0, none, 0, Nat.zero_le _, Nat.zero_le _, rfl, rfl, Lib.hid ⟨[], World.ownsRow_nil _ _ _ _, (fun j hj => by omega), Below.refl _ _⟩⟩
  case round =>
    obtain ⟨k, A, c, hk, hk12, rfl, rfl, HI⟩ := hrel
    obtain ⟨vs, i1, i2, i3⟩ := HI.out
    have H1 := Lib.hid i1
    have H2 := Lib.hid i2
    have H3 := Lib.hid i3
    have hz := i3.size
    have hvl : Hid (vs.length = k) := Lib.hid (by have := i1.1; omega)
    clear HI i1 i2 i3
    by_cases hlt : k < L.length ∧ k < 12
    · have hki : (k : Int) < (L.length : Int) := by omega
      have hk0 : (0 : Int) ≤ (k : Int) := by omega
      have hd : decide ((k : Int) < 12) = true := decide_eq_true (by omega)
      obtain ⟨b, o, As, ns, cs, rfl, hbl, hce, htx⟩ := (HL.out.later H3.out).at_ hlt.1
      obtain ⟨b', o', As', ns', cs', e', _, hce', htx'⟩ := HL.out.at_ hlt.1
      have htw : Txt w (.slice As ns cs) (L.getD k []) := by
        have e1 : (⟨b', o', none⟩ : Addr) = ⟨b, o, none⟩ := by injection e' with e'; exact e'.symm
        injection e1 with e2 e3
        subst e2; subst e3
        have := (H3.out.cell (p := ⟨b', o' + k, none⟩) (by assumption)).symm.trans hce
        rw [hce'] at this
        injection this with this
        rw [← this]
        exact htx'
      have HF := Lib.hid (fewM_at hlt.1 hlt.2)
      have HT := Lib.hid htw
      have C1 := Lib.hid (few_any (.slice As ns cs) (L.getD k []) 20 wr htx.any (by omega))
      obtain ⟨l, hl⟩ : ∃ l, L.getD k [] = l := ⟨_, rfl⟩
      rw [hl] at HF HT C1
      obtain ⟨m, hm⟩ : ∃ m, l.take 20 = m := ⟨_, rfl⟩
      rw [hm] at HF C1
      clear hm
      have hlt2 := hlt
      clear hlt htw e' hce' htx' htx hl
      go_wp2_with fail
      refine C1.out.mono ?_
      rintro e w1 ⟨A3, c3, rfl, h3, rfl⟩
      have HG := Lib.hid (h3 w _ HT.out)
      clear h3 C1
      go_wp2_with (at_builtin; refine wpList_push eltT H1.out hz rfl rfl rfl rfl (by simp) rfl rfl (by unfold maxLen; omega) (by omega) ?_; intro A5 c5 w5 hp; have H5 := Lib.hid hp; have hb5 : Below w.heap.size w w5 := hp.below H3.out H1.out (Nat.le_refl _); clear hp)
      go_roundw
      case rel =>
        refine ⟨k + 1, A5, c5, by omega, by omega, by go_num, rfl, Lib.hid ⟨_, H5.out.own, fun j hj => ?_, hb5⟩⟩
        rcases Nat.lt_or_ge j k with hjk | hjk
        · obtain ⟨u, hu, ht⟩ := H2.out j hjk
          exact ⟨u, by rw [List.getElem?_append_left (by rw [hvl.out]; exact hjk)]; exact hu, ht⟩
        · obtain rfl : j = k := by omega
          exact ⟨_, by rw [List.getElem?_append_right (by rw [hvl.out]; exact Nat.le_refl _), hvl.out, Nat.sub_self]; rfl, by rw [HF.out]; exact HG.out⟩
      case measure => simp [intOf]; omega
    · have hn : k = (fewM L).length := by rw [fewM_len]; omega
      have HX := Lib.hid (show Txts wr (.slice A k c) (fewM L) from txts_own hn.symm H1.out (fun _ _ => trivial) fun j hj => by
        obtain ⟨u, hu, ht⟩ := H2.out j hj
        exact ⟨u, hu, (Sl.later ht H3.out).mono fun _ _ => trivial⟩)
      have HN := Lib.hid hn
      by_cases hkl : k < L.length
      · obtain rfl : k = 12 := by omega
        have hki : (12 : Int) < (L.length : Int) := by omega
        clear hlt hn hkl
        go_wp2_with fail
        go_ret
        exact ⟨A, c, by first | (rw [← HN.out]; done) | (rw [← HN.out]; rfl), by rw [← HN.out]; exact HX.out, H3.out⟩
      · obtain rfl : k = L.length := by omega
        have hd : decide ((L.length : Int) < (L.length : Int)) = false := by simp
        clear hlt hn hkl
        go_wp2_with fail
        go_ret
        exact ⟨A, c, by first | (rw [← HN.out]; done) | (rw [← HN.out]; rfl), by rw [← HN.out]; exact HX.out, H3.out⟩
end Go.Proofs.YtfnieoffgnnldaaDoor

/- store: the store of lines. -/
namespace Go.Proofs.YtfnieoffgnnldaaDoor
open Go.RowKit
set_option linter.unusedVariables false
set_option linter.unusedSimpArgs false

/-- A builder of the call's own, fresh or used. -/
def Bis (g : Nat) (l : List Int) (w : World) : Prop := Lib.IsBuilderF 62 5 g g (cellsI l) w
theorem bis_new (w : World) : Bis w.heap.size [] (w.alloc (.cells #[.pointer none, .slice none 0 0] 62)) :=
  Lib.IsBuilderF.of (.inl ⟨Nat.le_refl _, .slice none 0 0, heap_alloc_new w _, World.ownsRow_nil _ _ _ _, by simp [Value.ownBlock]⟩)
theorem Bis.later {g : Nat} {l : List Int} {w w' : World} (h : Bis g l w) (hb : Below w.heap.size w w') : Bis g l w' := by
  rcases h with h | h
  · obtain ⟨hB, v, hbk, hown, hne⟩ := h
    have hlt : g < w.heap.size := Lib.BuilderAtF.lt ⟨hB, v, hbk, hown, hne⟩
    exact .inl ⟨hB, v, (hb.block g hlt).trans hbk, hown.kept (grown_of_below hb) (by cases hv : v.ownBlock with
      | none => exact .inl rfl
      | some k => exact .inr (by simp)), hne⟩
  · exact .inr (Bat.later h hb)
theorem bis_len (g : Nat) (l : List Int) (w : World) (h : Bis g l w) : Calls Tryd.prog 35 #[.pointer (some ⟨g, 0, none⟩)] w fun e w' => e = .returned (.int .i64 (l.length : Nat)) ∧ w = w' := by
  have hx : ∃ A c, w.cell? ⟨g, 1, none⟩ = some (.slice A l.length c) := by
    rcases h with ⟨_, v, hbk, hown, _⟩ | ⟨_, v, hbk, hown, _⟩
    all_goals
      have hc : w.cell? ⟨g, 1, none⟩ = some v := by simp [World.cell?, hbk]
      have h1 := hown.1
      rw [cellsI_length] at hown
      rcases hown.2 with ⟨hv, hx⟩ | ⟨k, cap, cur, fr, hv, _⟩
      · refine ⟨none, 0, ?_⟩
        rw [hc, hv, hx]
      · exact ⟨_, _, by rw [hc, hv]⟩
  obtain ⟨A, c, hc⟩ := hx
  obtain ⟨n, hn⟩ : ∃ n, l.length = n := ⟨_, rfl⟩
  rw [hn] at hc ⊢
  clear h hn
  go_enter Tryd.func35, Tryd.ntmps35
  go_wp2_with fail
  go_ret
  exact ⟨rfl, rfl⟩
theorem allI_len : ∀ (L : List (List Int)), (∀ l ∈ L, l.length ≤ 20) → (allI L).length ≤ 324 * L.length
  | [], _ => by simp [allI]
  | l :: L, h => by
    rw [allI_cons, List.length_append, List.length_cons]
    have h1 := allI_len L fun x hx => h x (by simp [hx])
    have h2 := entI_len l
    have h3 := txtI_len l
    have h4 := h l (by simp)
    omega
theorem allI_rng (L : List (List Int)) : ∀ b ∈ allI L, 0 ≤ b ∧ b ≤ 255 := by
  intro b hb
  unfold allI at hb
  obtain ⟨l, _, h⟩ := List.mem_flatMap.1 hb
  exact entI_rng l b h
theorem bis_write (w wr : World) (l m : List Int) (hb : Below w.heap.size w wr) (h : Bis w.heap.size l wr) (hl : l.length ≤ 10000000) (hm : m.length ≤ 1000) (hr : ∀ b ∈ m, 0 ≤ b ∧ b ≤ 255) : Calls Tryd.prog 36 #[.pointer (some ⟨w.heap.size, 0, none⟩), .string (strOfNums m)] wr
    fun e w' => (∃ k, e = .returned (.tuple #[.int .i64 k, .nilIface])) ∧ Bis w.heap.size (l ++ m) w' ∧ Below w.heap.size w w' := by
  refine (bld_string w.heap.size w.heap.size (cellsI l) (strOfNums m) wr h (by rw [cellsI_length, strOfNums_size]; omega) hb.size).mono fun e w' h => ?_
  refine ⟨⟨_, h.1⟩, .inr ?_, hb.trans h.2.2.1⟩
  have := h.2.1
  rwa [strCells_nums m hr, cellsI_append] at this
theorem bis_text (w wr : World) (l : List Int) (hb : Below w.heap.size w wr) (h : Bis w.heap.size l wr) (hr : ∀ b ∈ l, 0 ≤ b ∧ b ≤ 255) : Calls Tryd.prog 37 #[.pointer (some ⟨w.heap.size, 0, none⟩)] wr
    fun e w' => e = .returned (.string (strOfNums l)) ∧ Below w.heap.size w w' := by
  have h' : Lib.IsBuilderF 62 5 w.heap.size w.heap.size (Lib.byteCells (l.map fun n => UInt8.ofNat n.toNat)) wr := by
    rw [byteCells_nums l hr]; exact h
  refine (bld_text w.heap.size w.heap.size _ wr h' hb.size).mono fun e w' h => ?_
  exact ⟨h.1, hb.trans h.2.2.1⟩
theorem allI_take {L : List (List Int)} {k : Nat} (h : k < L.length) : allI (L.take (k + 1)) = allI (L.take k) ++ entI (L.getD k []) := by
  rw [take_succ_at h, allI_snoc]
set_option maxRecDepth 100000 in
set_option maxHeartbeats 8000000 in
theorem all_st (v : Value) (L : List (List Int)) (w : World) (hM : MaxW w) (h : Txts w v L) (hn : L.length ≤ 12) (hl : ∀ l ∈ L, l.length ≤ 20) (hr : ∀ l ∈ L, ∀ x ∈ l, -2147483648 ≤ x ∧ x ≤ 2147483647) : Calls Tryd.prog 18 #[v] w fun e w' => e = .returned (.tuple #[.string (strOfNums (allI L)), .int .i64 0]) ∧ Below w.heap.size w w' := by
  obtain ⟨A0, c0, rfl, _, _⟩ := h.is
  have HL := Lib.hid h
  have HM := Lib.hid hM
  have HH := Lib.hid (And.intro hl hr)
  clear h hM hl hr
  have V0 := Lib.hid (bis_new w)
  go_enter Tryd.func18, Tryd.ntmps18
  go_wp2_with fail
  go_loopw [10] (fun i wr => ∃ k : Nat, k ≤ L.length ∧ i = .int .i64 (k : Nat) ∧ Hid (Bis w.heap.size (allI (L.take k)) wr ∧ Below w.heap.size w wr)) (fun i _ => L.length - (intOf i).toNat)
  case atStart => exact ⟨0, Nat.zero_le _, rfl, Lib.hid ⟨V0.out, below_one _ _⟩⟩
  case round =>
    obtain ⟨k, hk, rfl, HI⟩ := hrel
    have H1 := Lib.hid HI.out.1
    have H2 := Lib.hid HI.out.2
    clear HI
    by_cases hlt : k < L.length
    · have hki : (k : Int) < (L.length : Int) := by omega
      have hk0 : (0 : Int) ≤ (k : Int) := by omega
      have hmem : L.getD k [] ∈ L := by
        rw [show L.getD k [] = L[k] by simp [List.getD, hlt]]
        exact List.getElem_mem hlt
      have hal : (allI (L.take k)).length ≤ 5000 := by
        have := allI_len (L.take k) (fun l hl => HH.out.1 l (List.mem_of_mem_take hl))
        rw [List.length_take] at this
        omega
      have HA := Lib.hid (allI_take hlt)
      obtain ⟨b, o, As, ns, cs, rfl, hbl, hce, htx⟩ := (HL.out.later H2.out).at_ hlt
      have hl20 := HH.out.1 _ hmem
      have hrng := HH.out.2 _ hmem
      obtain ⟨l, hl⟩ : ∃ l, L.getD k [] = l := ⟨_, rfl⟩
      rw [hl] at htx hl20 hrng HA
      obtain ⟨As2, cs2, e2, _⟩ := Sl.is htx
      injection e2 with e3 e4 e5
      subst e3; subst e4; subst e5
      have hrd : Rd wr As l.length (iv fun j => l.getD j 0) := (Sl.parts htx).2.1
      have C1 := Lib.hid (entry_any As l.length cs (fun j => l.getD j 0) wr (HM.out.later H2.out) (by omega) hrd (fun j hj => by
        have := hrng (l[j]) (List.getElem_mem hj)
        simpa [List.getD, hj] using this))
      rw [upTo_all] at C1
      unfold TellsS at C1
      have hel : (entI l).length ≤ 324 := by have := entI_len l; have := txtI_len l; omega
      have HR := Lib.hid (entI_rng l)
      obtain ⟨E, hE⟩ : ∃ E, entI l = E := ⟨_, rfl⟩
      rw [hE] at C1 hel HR HA
      obtain ⟨F, hF⟩ : ∃ F, allI (L.take k) = F := ⟨_, rfl⟩
      rw [hF] at H1 HA hal
      have hsz : (strOfNums E).size = E.length := strOfNums_size E
      obtain ⟨n, hn2⟩ : ∃ n, l.length = n := ⟨_, rfl⟩
      rw [hn2] at C1 hce
      clear hl hmem hl20 hrng htx hrd hE hF hbl hn2
      go_wp2_with fail
      refine C1.out.mono ?_
      rintro e w1 ⟨rfl, b1⟩
      have H3 := Lib.hid (H1.out.later b1)
      have H4 := Lib.hid (below_next H2.out b1)
      clear b1 C1
      have C2 := Lib.hid (bis_len w.heap.size F w1 H3.out)
      have v1 : IntKind.i64.wrap ((F.length : Int) + (E.length : Int)) = (F.length : Int) + (E.length : Int) := IntWalk.i64_in _ (by omega)
      have d1 : ¬ (1048576 : Int) < (F.length : Int) + (E.length : Int) := by omega
      have C3 := Lib.hid (bis_write w w1 F E H4.out H3.out (by omega) (by omega) HR.out)
      obtain ⟨S, hS⟩ : ∃ S, strOfNums E = S := ⟨_, rfl⟩
      rw [hS] at C3 hsz ⊢
      clear hS
      go_wp2_with fail
      refine C2.out.mono ?_
      rintro e w2 ⟨rfl, rfl⟩
      go_wp2_with fail
      refine C3.out.mono ?_
      rintro e w3 ⟨⟨q, rfl⟩, h5, b5⟩
      have H5 := Lib.hid (And.intro h5 b5)
      clear h5 b5 C3 C2
      go_wp2_with fail
      go_roundw
      case rel => exact ⟨k + 1, by omega, by go_num, Lib.hid ⟨by rw [HA.out]; exact H5.out.1, H5.out.2⟩⟩
      case measure => simp [intOf]; omega
    · obtain rfl : k = L.length := by omega
      have h1 := H1.out
      rw [List.take_length] at h1
      have C1 := Lib.hid (bis_text w wr (allI L) H2.out h1 (allI_rng L))
      have hd : decide ((L.length : Int) < (L.length : Int)) = false := by simp
      clear h1 hk hlt
      go_wp2_with fail
      refine C1.out.mono ?_
      rintro e w1 ⟨rfl, b1⟩
      have H3 := Lib.hid b1
      clear b1 C1
      go_wp2_with fail
      go_ret2
      exact ⟨rfl, H3.out⟩
end Go.Proofs.YtfnieoffgnnldaaDoor

/- store: what is torn off, by the loop's count: pure. -/
namespace Go.Proofs.YtfnieoffgnnldaaDoor
open Go.RowKit
set_option linter.unusedVariables false
set_option linter.unusedSimpArgs false

theorem torn_is : ∀ (L : List (List Int)) (i cut n : Nat), n ≤ L.length → (allI (L.take n)).length ≤ cut → (n < L.length → cut < (allI (L.take (n + 1))).length) →
    (torn i L cut).map (·.1) = (L.take n).map (·.map scal) ∧ (0 < n → (torn i L cut).getLast? = some ((L.getD (n - 1) []).map scal, i + (allI (L.take n)).length))
  | [], i, cut, n, hn, _, _ => by
    obtain rfl : n = 0 := by simpa using hn
    exact ⟨rfl, fun h => absurd h (by omega)⟩
  | l :: L, i, cut, 0, hn, hc, hs => by
    have h := hs (by simp)
    rw [List.take_succ_cons, List.take_zero, allI_cons, List.length_append] at h
    simp [allI] at h
    unfold torn
    rw [if_neg (by omega)]
    exact ⟨rfl, fun h => absurd h (by omega)⟩
  | l :: L, i, cut, n + 1, hn, hc, hs => by
    rw [List.take_succ_cons, allI_cons, List.length_append] at hc
    have hL : n ≤ L.length := by simpa using hn
    have ih := torn_is L (i + (entI l).length) (cut - (entI l).length) n hL (by omega) (fun h => by
      have := hs (by simp; omega)
      rw [List.take_succ_cons, allI_cons, List.length_append] at this
      omega)
    unfold torn
    rw [if_pos (by omega)]
    refine ⟨by rw [List.map_cons, ih.1, List.take_succ_cons, List.map_cons], fun _ => ?_⟩
    rw [List.take_succ_cons, allI_cons, List.length_append]
    rcases Nat.eq_zero_or_pos n with rfl | hp
    · have h0 : torn (i + (entI l).length) L (cut - (entI l).length) = [] := by
        have := ih.1
        rw [List.take_zero] at this
        exact List.map_eq_nil_iff.1 this
      rw [h0]
      simp [allI]
    · have h1 := ih.2 hp
      have hne : torn (i + (entI l).length) L (cut - (entI l).length) ≠ [] := fun e => by rw [e] at h1; cases h1
      rw [List.getLast?_cons, h1]
      simp only [Option.getD_some, Nat.add_sub_cancel]
      congr 2
      · cases n with
        | zero => omega
        | succ m => rfl
      · omega
theorem lastE_last (R : List (List Int × Nat)) {x : List Int × Nat} (h : R.getLast? = some x) : lastE R = x.2 := by
  obtain ⟨ys, rfl⟩ := List.getLast?_eq_some_iff.1 h
  exact lastE_snoc ys x
/-- What Read tells of a store torn at cut. -/
theorem torn_read (L : List (List Int)) (cut n : Nat) (hn : n ≤ L.length) (h1 : (allI (L.take n)).length ≤ cut) (h2 : n < L.length → cut < (allI (L.take (n + 1))).length) :
    (rdL [] 0 ((allI L).take cut)).map (·.1) = (L.take n).map (·.map scal) ∧ lastE (rdL [] 0 ((allI L).take cut)) = (allI (L.take n)).length := by
  have h := torn_is L 0 cut n hn h1 h2
  rw [rdL_torn]
  refine ⟨h.1, ?_⟩
  rcases Nat.eq_zero_or_pos n with rfl | hp
  · have h0 : torn 0 L cut = [] := by
      have := h.1
      rw [List.take_zero] at this
      exact List.map_eq_nil_iff.1 this
    rw [h0]
    rfl
  · rw [lastE_last _ (h.2 hp)]
    simp
theorem whole_read (L : List (List Int)) : (rdL [] 0 (allI L)).map (·.1) = L.map (·.map scal) ∧ lastE (rdL [] 0 (allI L)) = (allI L).length := by
  have h := torn_read L (allI L).length L.length (Nat.le_refl _) (by rw [List.take_length]; exact Nat.le_refl _) (fun h => absurd h (Nat.lt_irrefl _))
  rw [List.take_length, List.take_length] at h
  exact h
end Go.Proofs.YtfnieoffgnnldaaDoor

/- store: StoreTears' walk. -/
namespace Go.Proofs.YtfnieoffgnnldaaDoor
open Go.RowKit
set_option linter.unusedVariables false
set_option linter.unusedSimpArgs false

theorem rem_cut (x : Int) (N : Nat) : ∃ (a : Int) (r : Nat), Int.tmod x ((N : Int) + 1) = a ∧ Int.tmod (a + N + 1) ((N : Int) + 1) = r ∧ r ≤ N ∧ -((N : Int) + 1) < a ∧ a < (N : Int) + 1 := by
  have h1 := Int.tmod_lt_of_pos x (show (0 : Int) < (N : Int) + 1 by omega)
  have h2 : -((N : Int) + 1) < Int.tmod x ((N : Int) + 1) := by
    rcases Int.le_total 0 x with h | h
    · have := Int.tmod_nonneg ((N : Int) + 1) h; omega
    · have h3 := Int.tmod_lt_of_pos (-x) (show (0 : Int) < (N : Int) + 1 by omega)
      rw [Int.neg_tmod] at h3
      omega
  have h4 := Int.tmod_nonneg ((N : Int) + 1) (show 0 ≤ Int.tmod x ((N : Int) + 1) + N + 1 by omega)
  have h5 := Int.tmod_lt_of_pos (Int.tmod x ((N : Int) + 1) + N + 1) (show (0 : Int) < (N : Int) + 1 by omega)
  exact ⟨_, (Int.tmod (Int.tmod x ((N : Int) + 1) + N + 1) ((N : Int) + 1)).toNat, rfl, by omega, by omega, h2, h1⟩
theorem fewM_mem {L : List (List Int)} (hr : ∀ l ∈ L, ∀ x ∈ l, -2147483648 ≤ x ∧ x ≤ 2147483647) : ∀ l ∈ fewM L, l.length ≤ 20 ∧ ∀ x ∈ l, -2147483648 ≤ x ∧ x ≤ 2147483647 := by
  intro l hl
  unfold fewM at hl
  obtain ⟨m, hm, rfl⟩ := List.mem_map.1 hl
  exact ⟨by rw [List.length_take]; omega, fun x hx => hr m (List.mem_of_mem_take hm) x (List.mem_of_mem_take hx)⟩
set_option maxRecDepth 100000 in
set_option maxHeartbeats 8000000 in
theorem walk_StoreTears (W : World) (hM : MaxW W) (v : Value) (L : List (List Int)) (hL : Txts W v L) (hr : ∀ l ∈ L, ∀ x ∈ l, -2147483648 ≤ x ∧ x ≤ 2147483647) (z : Int) (w0 : (Lit.int .i64 z).wf = true) : Calls Tryd.prog 5 #[v, .int .i64 z] W (YesO W) := by
  have HM := Lib.hid hM
  obtain ⟨A0, c0, rfl, _, _⟩ := hL.is
  have C1 := Lib.hid (few47_any _ L W hL)
  have hMl : (fewM L).length ≤ 12 := by rw [fewM_len]; omega
  have HF := Lib.hid (fewM_mem hr)
  obtain ⟨M, hMe⟩ : ∃ M, fewM L = M := ⟨_, rfl⟩
  rw [hMe] at C1 hMl HF
  have hNl := allI_len M (fun l hl => (HF.out l hl).1)
  have HW := Lib.hid (whole_read M)
  obtain ⟨S, hS⟩ : ∃ S, strOfNums (allI M) = S := ⟨_, rfl⟩
  have HB := Lib.hid (show bts S = allI M by rw [← hS]; exact bts_str _ (allI_rng M))
  have hsz : S.size = (allI M).length := by rw [← hS, strOfNums_size]
  have C2 := Lib.hid (fun (v : Value) X (hX : Below W.heap.size W X) (h : Txts X v M) => all_st v M X (HM.out.later hX) h hMl (fun l hl => (HF.out l hl).1) (fun l hl => (HF.out l hl).2))
  rw [hS] at C2
  obtain ⟨N, hN⟩ : ∃ N, (allI M).length = N := ⟨_, rfl⟩
  have HN := Lib.hid hN
  rw [hN] at hsz hNl HW
  have hN9 : N ≤ 4000 := by omega
  clear hM hL hr hMe hS hN hNl
  go_enter Tryd.func5, Tryd.ntmps5
  go_wp2_with fail
  refine C1.out.mono ?_
  rintro e w1 ⟨A1, c1, rfl, h1, b1⟩
  have H1 := Lib.hid (And.intro h1 b1)
  clear h1 b1 C1
  have C3 := Lib.hid (C2.out (.slice A1 M.length c1) w1 H1.out.2 H1.out.1)
  go_wp2_with fail
  refine C3.out.mono ?_
  rintro e w2 ⟨rfl, b2⟩
  have H2 := Lib.hid (And.intro (H1.out.1.later b2) (below_next H1.out.2 b2))
  clear b2 C3 C2 H1
  dsimp only
  go_wp2_with fail
  go_loopw [7, 8] (fun out i wr => ∃ (k : Nat) (A : Option Addr) (c : Nat), k ≤ M.length ∧ i = .int .i64 (k : Nat) ∧ out = .slice A k c ∧ Hid (RdI w2 wr A k c ((M.take k).map (·.map scal)) none 0 0 [])) (fun _ i _ => M.length - (intOf i).toNat)
  case atStart => exact ⟨0, none, 0, Nat.zero_le _, rfl, rfl, Lib.hid (by rw [List.take_zero]; exact RdI.start w2)⟩
  case round =>
    obtain ⟨k, A2, c2, hk, rfl, rfl, HI⟩ := hrel
    have hz := HI.out.below.size
    by_cases hlt : k < M.length
    · have hki : (k : Int) < (M.length : Int) := by omega
      have hk0 : (0 : Int) ≤ (k : Int) := by omega
      obtain ⟨b, o, As, ns, cs, rfl, hbl, hce, htx⟩ := (H2.out.1.later HI.out.below).at_ hlt
      have hl20 : (M.getD k []).length ≤ 20 := by
        rw [show M.getD k [] = M[k] by simp [List.getD, hlt]]
        exact (HF.out _ (List.getElem_mem hlt)).1
      have HT := Lib.hid (show (M.take (k + 1)).map (·.map scal) = (M.take k).map (·.map scal) ++ [(M.getD k []).map scal] by rw [take_succ_at hlt]; simp)
      obtain ⟨l, hl⟩ : ∃ l, M.getD k [] = l := ⟨_, rfl⟩
      rw [hl] at htx hl20 HT
      have C1 := Lib.hid (right_any _ l wr htx.any (by omega))
      obtain ⟨n, hn⟩ : ∃ n, l.length = n := ⟨_, rfl⟩
      have HNl := Lib.hid (show n = (l.map scal).length by rw [List.length_map, hn])
      rw [hn] at C1 hl20
      clear hl htx hbl hn
      go_wp2_with fail
      refine C1.out.mono ?_
      rintro e w3 ⟨A3, c3, rfl, how, b3⟩
      have H3 := Lib.hid (And.intro (HI.out.later b3) (own_base how hz))
      have hz3 := H3.out.1.below.size
      obtain ⟨vs, hvs⟩ := H3.out.1.vs
      have HV := Lib.hid hvs
      clear hvs how b3 C1
      go_wp2_with (at_builtin; refine wpList_push eltT HV.out.1 hz3 rfl rfl rfl rfl rfl rfl rfl (by unfold maxLen; omega) (by omega) ?_; intro A5 c5 w5 hp; have H5 := Lib.hid hp; clear hp)
      go_roundw
      case rel =>
        refine ⟨k + 1, A5, c5, by omega, by go_num, rfl, Lib.hid ?_⟩
        rw [HT.out]
        have h3 := H3.out.2
        have h5 := H5.out
        rw [HNl.out] at h3 h5
        exact H3.out.1.pushA HV.out h3 h5
      case measure => simp [intOf]; omega
    · obtain rfl : k = M.length := by omega
      have hq := HI.out
      rw [List.take_length] at hq
      have TR := Lib.hid (show Txts wr (.slice A2 M.length c2) (M.map (·.map scal)) from hq.txts)
      have BR := Lib.hid (H2.out.2.trans (hq.below.mono H2.out.2.size))
      have TM := Lib.hid (H2.out.1.later hq.below)
      have hc2 : (M.length : Int) ≤ (c2 : Int) := by
        obtain ⟨A9, c9, e9, h9, _⟩ := TR.out.is
        injection e9 with e1 e2 e3
        rw [List.length_map] at h9
        omega
      have C4 := Lib.hid (Read_any S (by omega) wr (HM.out.later BR.out))
      rw [HB.out] at C4
      have hrl : (rdL [] 0 (allI M)).length = M.length := by
        have := congrArg List.length HW.out.1
        rwa [List.length_map, List.length_map] at this
      rw [HW.out.1, HW.out.2, hrl] at C4
      have hd : decide ((M.length : Int) < (M.length : Int)) = false := by simp
      have hb9 : ((N : Int) != (S.size : Int)) = false := by rw [hsz]; simp
      clear hq HI H2 hlt hk hz hrl
      go_wp2_with fail
      refine C4.out.mono ?_
      rintro e w4 ⟨A4, c4, rfl, h4, b4⟩
      have TR4 := Lib.hid (TR.out.later b4)
      have TM4 := Lib.hid (TM.out.later b4)
      have B4 := Lib.hid (below_next BR.out b4)
      have C5 := Lib.hid (sametexts_yes _ _ _ w4 h4 TR4.out (by rw [List.length_map]; omega))
      clear h4 b4 C4 TR TM BR
      dsimp only
      go_wp2_with fail
      refine C5.out.mono ?_
      rintro e w5 ⟨rfl, b5⟩
      have TR5 := Lib.hid (TR4.out.later b5)
      have TM5 := Lib.hid (TM4.out.later b5)
      have B5 := Lib.hid (below_next B4.out b5)
      clear b5 C5 TR4 TM4 B4 hd
      obtain ⟨a, r, ha, hr, hrN, ha1, ha2⟩ := rem_cut z N
      have v1 : IntKind.i64.wrap ((N : Int) + 1) = (N : Int) + 1 := IntWalk.i64_in _ (by omega)
      have v2 : IntKind.i64.wrap (a + (N : Int)) = a + (N : Int) := IntWalk.i64_in _ (by omega)
      have v3 : IntKind.i64.wrap (a + (N : Int) + 1) = a + (N : Int) + 1 := IntWalk.i64_in _ (by omega)
      have v4 : ¬ ((N : Int) + 1 = 0) := by omega
      have v5 : ¬ ((N : Int) + 1 = -1) := by omega
      have v6 : IntKind.i64.wrap a = a := IntWalk.i64_in _ (by omega)
      have v7 : IntKind.i64.wrap (r : Int) = (r : Int) := IntWalk.i64_in _ (by omega)
      have hrS : (r : Int) ≤ (N : Int) := by omega
      go_wp2_with fail
      clear v1 v2 v3 v4 v5 v6 v7 ha hr hb9
      go_loopw [11, 12] (fun av i wq => ∃ (k t : Nat), k ≤ M.length ∧ t ≤ r ∧ av = .int .i64 (t : Nat) ∧ i = .int .i64 (k : Nat) ∧ Hid ((allI (M.take k)).length = t ∧ Below w5.heap.size w5 wq)) (fun _ i _ => M.length - (intOf i).toNat)
      case atStart => exact ⟨0, 0, Nat.zero_le _, Nat.zero_le _, rfl, rfl, Lib.hid ⟨rfl, Below.refl _ _⟩⟩
      case round =>
        obtain ⟨k, t, hk, htr, rfl, rfl, HI⟩ := hrel
        rename World => wq
        have BQ := Lib.hid HI.out.2
        have HT := Lib.hid HI.out.1
        clear HI
        by_cases hlt : k < M.length
        · have hki : (k : Int) < (M.length : Int) := by omega
          have hk0 : (0 : Int) ≤ (k : Int) := by omega
          obtain ⟨b, o, As, ns, cs, e0, hbl, hce, htx⟩ := (TM5.out.later BQ.out).at_ hlt
          subst e0
          have hmem : M.getD k [] ∈ M := by
            rw [show M.getD k [] = M[k] by simp [List.getD, hlt]]
            exact List.getElem_mem hlt
          have hl20 := (HF.out _ hmem).1
          have hrng := (HF.out _ hmem).2
          have HA := Lib.hid (show (allI (M.take (k + 1))).length = t + (entI (M.getD k [])).length by rw [allI_take hlt, List.length_append, HT.out])
          obtain ⟨l, hl⟩ : ∃ l, M.getD k [] = l := ⟨_, rfl⟩
          rw [hl] at htx hl20 hrng HA
          obtain ⟨As2, cs2, e2, _⟩ := Sl.is htx
          injection e2 with e3 e4 e5
          subst e3; subst e4; subst e5
          have C6 := Lib.hid (fun X (hX : Below wq.heap.size wq X) => rentry_any As l.length cs (fun j => l.getD j 0) X (by omega) ((Sl.parts (htx.later hX)).2.1) (fun j hj => by
            have := hrng (l[j]) (List.getElem_mem hj)
            simpa [List.getD, hj] using this))
          rw [upTo_all] at C6
          unfold TellsS at C6
          have hsE : (strOfNums (entI l)).size = (entI l).length := strOfNums_size _
          have hel : (entI l).length ≤ 324 := by have := entI_len l; have := txtI_len l; omega
          obtain ⟨E, hE⟩ : ∃ E, strOfNums (entI l) = E := ⟨_, rfl⟩
          rw [hE] at C6 hsE
          obtain ⟨m, hm⟩ : ∃ m, (entI l).length = m := ⟨_, rfl⟩
          rw [hm] at hsE HA hel
          obtain ⟨n, hn2⟩ : ∃ n, l.length = n := ⟨_, rfl⟩
          rw [hn2] at C6 hce
          have v1 : IntKind.i64.wrap ((t : Int) + (m : Int)) = ((t + m : Nat) : Int) := (IntWalk.i64_in _ (by omega)).trans (by omega)
          clear hl hmem hl20 hrng htx hE hm hn2
          by_cases hfit : t + m ≤ r
          · have d1 : ((t + m : Nat) : Int) ≤ (r : Int) := by omega
            have HC : Hid (∀ X, Below wq.heap.size wq X → X.cell? ⟨b, o + k, none⟩ = some (.slice As n cs)) := Lib.hid (fun X hX => (hX.cell (p := ⟨b, o + k, none⟩) hbl).trans hce)
            go_wp2_with fail
            refine (C6.out wq (Below.refl _ _)).mono ?_
            rintro e w6 ⟨rfl, b6⟩
            have hce6 := HC.out w6 b6
            have H6 := Lib.hid b6
            clear b6
            go_wp2_with fail
            refine (C6.out w6 H6.out).mono ?_
            rintro e w7 ⟨rfl, b7⟩
            have H7 := Lib.hid (below_next H6.out b7)
            clear b7 hce6
            go_wp2_with fail
            go_roundw
            case rel => exact ⟨k + 1, t + m, by omega, by omega, by go_num, by go_num, Lib.hid ⟨HA.out, BQ.out.trans (H7.out.mono BQ.out.size)⟩⟩
            case measure => simp [intOf]; omega
          · have d1 : ¬ ((t + m : Nat) : Int) ≤ (r : Int) := by omega
            have HQ := Lib.hid (torn_read M r k hk (by rw [HT.out]; exact htr) (fun _ => by rw [HA.out]; omega))
            go_wp2_with fail
            refine (C6.out wq (Below.refl _ _)).mono ?_
            rintro e w6 ⟨rfl, b6⟩
            have B6 := Lib.hid (BQ.out.trans (b6.mono BQ.out.size))
            clear b6 C6 hbl hce hfit hel
            have T6 := Lib.hid (TR5.out.later B6.out)
            obtain ⟨T, hT⟩ : ∃ T, S.extract 0 r = T := ⟨_, rfl⟩
            have hTs : T.size ≤ 4000 := by rw [← hT, ByteArray.size_extract]; omega
            have C7 := Lib.hid (Read_any T (by omega) w6 (HM.out.later (below_next B5.out B6.out)))
            have hTb : bts T = (allI M).take r := by rw [← hT, bts_first S r (by omega), HB.out]
            rw [hTb] at C7
            have hrl : (rdL [] 0 ((allI M).take r)).length = k := by
              have := congrArg List.length HQ.out.1
              rw [List.length_map, List.length_map, List.length_take] at this
              omega
            rw [HQ.out.1, HQ.out.2, hrl, HT.out] at C7
            have hkc : (k : Int) ≤ (c2 : Int) := by omega
            have hrS2 : (r : Int) ≤ (S.size : Int) := by omega
            have e9 : ((t : Int) == (t : Int)) = true := by simp
            clear hTb hrl hTs
            go_wp2_with fail
            refine C7.out.mono ?_
            rintro e w8 ⟨A8, c8, rfl, h8, b8⟩
            have H8 := Lib.hid (And.intro h8 (And.intro (T6.out.later b8) (below_next (below_next B5.out B6.out) b8)))
            clear h8 b8 C7
            have hk8 : (M.take k).length = k := by rw [List.length_take]; omega
            have T8 := Lib.hid (show Txts w8 (.slice A2 k c2) ((M.take k).map (·.map scal)) by
              have := H8.out.2.1.take k (by rw [List.length_map]; omega)
              rw [← List.map_take] at this
              exact this)
            have C8 := Lib.hid (sametexts_yes _ _ _ w8 H8.out.1 T8.out (by rw [List.length_map]; omega))
            clear hk8
            dsimp only
            go_wp2_with fail
            refine C8.out.mono ?_
            rintro e w9 ⟨rfl, b9⟩
            have H9 := Lib.hid (below_next H8.out.2.2 b9)
            clear b9 C8
            have C9 := Lib.hid (awake_yes w9 (HM.out.later H9.out))
            go_wp2_with fail
            refine C9.out.mono ?_
            rintro e wX ⟨rfl, bX⟩
            have HX := Lib.hid (below_next H9.out bX)
            clear bX C9
            go_wp2_with fail
            go_ret
            exact ⟨rfl, HX.out⟩
        · obtain rfl : k = M.length := by omega
          have HQ := Lib.hid (torn_read M r M.length hk (by rw [HT.out]; exact htr) (fun h => absurd h (Nat.lt_irrefl _)))
          have hd : decide ((M.length : Int) < (M.length : Int)) = false := by simp
          have B6 := Lib.hid BQ.out
          have T6 := Lib.hid (TR5.out.later B6.out)
          obtain ⟨T, hT⟩ : ∃ T, S.extract 0 r = T := ⟨_, rfl⟩
          have hTs : T.size ≤ 4000 := by rw [← hT, ByteArray.size_extract]; omega
          have C7 := Lib.hid (Read_any T (by omega) wq (HM.out.later (below_next B5.out B6.out)))
          have hTb : bts T = (allI M).take r := by rw [← hT, bts_first S r (by omega), HB.out]
          rw [hTb] at C7
          have hrl : (rdL [] 0 ((allI M).take r)).length = M.length := by
            have := congrArg List.length HQ.out.1
            rw [List.length_map, List.length_map, List.length_take] at this
            omega
          rw [HQ.out.1, HQ.out.2, hrl, HT.out] at C7
          have hkc : (M.length : Int) ≤ (c2 : Int) := by omega
          have hrS2 : (r : Int) ≤ (S.size : Int) := by omega
          have e9 : ((t : Int) == (t : Int)) = true := by simp
          clear hTb hrl hTs
          go_wp2_with fail
          refine C7.out.mono ?_
          rintro e w8 ⟨A8, c8, rfl, h8, b8⟩
          have H8 := Lib.hid (And.intro h8 (And.intro (T6.out.later b8) (below_next (below_next B5.out B6.out) b8)))
          clear h8 b8 C7
          have hk8 : (M.take M.length).length = M.length := by rw [List.length_take]; omega
          have T8 := Lib.hid (show Txts w8 (.slice A2 M.length c2) ((M.take M.length).map (·.map scal)) by
            have := H8.out.2.1.take M.length (by rw [List.length_map]; omega)
            rw [← List.map_take] at this
            exact this)
          have C8 := Lib.hid (sametexts_yes _ _ _ w8 H8.out.1 T8.out (by rw [List.length_map]; omega))
          clear hk8
          dsimp only
          go_wp2_with fail
          refine C8.out.mono ?_
          rintro e w9 ⟨rfl, b9⟩
          have H9 := Lib.hid (below_next H8.out.2.2 b9)
          clear b9 C8
          have C9 := Lib.hid (awake_yes w9 (HM.out.later H9.out))
          go_wp2_with fail
          refine C9.out.mono ?_
          rintro e wX ⟨rfl, bX⟩
          have HX := Lib.hid (below_next H9.out bX)
          clear bX C9
          go_wp2_with fail
          go_ret
          exact ⟨rfl, HX.out⟩
end Go.Proofs.YtfnieoffgnnldaaDoor
