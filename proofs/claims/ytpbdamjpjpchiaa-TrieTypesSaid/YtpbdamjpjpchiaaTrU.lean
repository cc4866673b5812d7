/- trie: Build, what it says; intern as a whole; regions that draw under a fence. -/
import Derived.Test.YtpbdamjpjpchiaaTrT
namespace Go.Proofs.Ytpbdamjpjpchiaa
open Go.RowKit Go.Maps
set_option linter.unusedVariables false
set_option linter.unusedSimpArgs false

/-! ### intern as a whole -/
/-- What a trie's blocks are in memory. -/
structure Hd where
  A : Option Addr
  n : Nat
  c : Nat
  A2 : Option Addr
  n2 : Nat
  c2 : Nat
/-- A trie under way, its handles in one. -/
abbrev TrH (base tb mb : Nat) (m : Int) (h : Hd) (Bs : List (List Int)) (Ix : List Nat) (l : List Int → Option Nat) (W : World) : Prop := Tr base tb mb m h.A h.n h.c Bs h.A2 h.n2 h.c2 Ix l W
abbrev OwH (tb mb : Nat) (h : Hd) (k : Nat) : Prop := Ow tb mb h.A h.n h.c h.A2 h.n2 h.c2 k
/-- From W to w' only blocks of O have turned. -/
structure Turn (O : Nat → Prop) (W w' : World) : Prop where
  os : w'.os = W.os
  tape : w'.tape = W.tape
  output : w'.output = W.output
  size : W.heap.size ≤ w'.heap.size
  old : ∀ k, k < W.heap.size → ¬ O k → w'.heap[k]? = W.heap[k]?
theorem Turn.later {O : Nat → Prop} {W w1 w2 : World} (hO : ∀ k, O k → k < W.heap.size) (hb : Below W.heap.size W w1) (h : Turn O w1 w2) : Turn O W w2 :=
  ⟨h.os.trans hb.os, h.tape.trans hb.tape, h.output.trans hb.output, Nat.le_trans hb.size h.size, fun k hk ho => (h.old k (Nat.lt_of_lt_of_le hk hb.size) ho).trans (hb.block k hk)⟩
/-- What intern tells. -/
def Interned (base tb mb : Nat) (m : Int) (h : Hd) (Bs : List (List Int)) (Ix : List Nat) (B : List Int) (W : World) (e : Ending) (w' : World) : Prop :=
  ∃ (i : Nat) (h' : Hd) (Bs' : List (List Int)) (l' : List Int → Option Nat), e = .returned (.int .i32 i) ∧ TrH base tb mb m h' Bs' Ix l' w' ∧ Bs'[i]? = some B ∧ (Bs' = Bs ∨ Bs' = Bs ++ [B]) ∧ Turn (OwH tb mb h) W w' ∧ (∀ k, OwH tb mb h' k → OwH tb mb h k ∨ W.heap.size ≤ k) ∧ h'.A2 = h.A2 ∧ h'.n2 = h.n2 ∧ h'.c2 = h.c2
theorem intern_any {base tb mb : Nat} {m : Int} {hd : Hd} {Bs : List (List Int)} {Ix : List Nat} {l : List Int → Option Nat} {W : World} (h : TrH base tb mb m hd Bs Ix l W) (B : List Int) (hB : WfB B) (hn : Bs.length ≤ 1000000) :
    Calls Try.prog 24 #[.pointer (some ⟨tb, 0, none⟩), .map (some mb), bv B] W (Interned base tb mb m hd Bs Ix B W) := by
  cases hl : l B with
  | some e0 =>
    refine (intern_old h B hB hn e0 hl).mono ?_
    rintro e w' ⟨rfl, hb⟩
    exact ⟨e0, hd, Bs, l, rfl, h.later hb, h.ok.yes _ _ hl, .inl rfl, ⟨hb.os, hb.tape, hb.output, hb.size, fun k hk _ => hb.block k hk⟩, fun k hk => .inl hk, rfl, rfl, rfl⟩
  | none =>
    have hbs : base ≤ W.heap.size := Nat.le_trans h.t0 (Nat.le_of_lt h.cel.1)
    refine (intern_new h B hB hn hbs hl).mono ?_
    rintro e w' ⟨rfl, hf, A', c', ht, hA⟩
    refine ⟨hd.n, ⟨A', hd.n + 1, c', hd.A2, hd.n2, hd.c2⟩, Bs ++ [B], _, rfl, ht, ?_, .inr rfl, ⟨hf.os, hf.tape, hf.output, hf.size, hf.old⟩, ?_, rfl, rfl, rfl⟩
    · rw [h.len]; simp
    · rintro k (hk | hk | hk | hk)
      · exact .inl (.inl hk)
      · exact .inl (.inr (.inl hk))
      · rcases hA k hk with h' | h'
        · exact .inl (.inr (.inr (.inl h')))
        · exact .inr h'
      · exact .inl (.inr (.inr (.inr hk)))

/-! ### regions -/
section
variable {P : Program} {md : Region.Mode} {ops : Array Oper} {Q : Exit → Act → World → Prop}
theorem wpOp_some {K : Act → World → Prop} {i : Nat} {o : Oper} {a : Act} {w : World} (hi : ops[i]? = some o) (hw : Region.wanted o (yielded ops a.tmps) = true) (h : ∀ J : Act → World → Prop, (∀ a w, K a w → J a w) → o.wp P a w J Q) : wpOp P ops Q i K a w := by
  unfold wpOp
  simp only [hi, hw, if_true]
  exact .inl (h K fun _ _ h => h)
theorem rowsIn_of {n : Nat} {row : String} {args : Array Value} {w : World} {R : Value → World → Prop} (h : Rows P row args w R) : RowsIn Fence.wide n P row args w R := fun c cs _ =>
  let ⟨v, w', r, s⟩ := h c cs
  ⟨v, w', r, stepsIn_wide.2 s⟩
theorem operIn_of {n : Nat} {o : Oper} {a : Act} {w : World} {K : Act → World → Prop} (h : o.wp P a w K Q) : o.wpIn Fence.wide n P a w K Q := by
  refine ⟨fun _ _ => trivial, ?_⟩
  have e : Oper.semAt Fence.wide.round a.eval o = execOp a.eval o := rfl
  rw [e]
  unfold Oper.wp at h
  revert h
  generalize (execOp a.eval o).run P w = r
  intro h
  unfold Oper.upon at h
  unfold Oper.uponIn
  split at h
  · exact h
  · exact h
  · exact h
  · exact ⟨fun h => by simp [Fence.wide] at h, callsIn_wide.2 h⟩
  · exact ⟨fun h => by simp [Fence.wide] at h, rowsIn_of h⟩
  · exact h
  · exact h.elim
theorem anyIn_of {n : Nat} (hno : ¬ LetsOut Q) : ∀ (fuel : Nat) (listed : Array Bool) (a : Act) (w : World), wpAny P md ops Q fuel listed a w → wpAnyIn Fence.wide n P md ops Q fuel listed a w
  | 0, _, _, _, h => h
  | fuel + 1, listed, a, w, h => by
    refine ⟨h.1, fun i hi => ?_⟩
    have hx := h.2 i hi
    unfold wpOp at hx
    unfold wpOpIn
    cases ho : ops[i]? with
    | none =>
      rw [ho] at hx
      exact anyIn_of hno fuel _ _ _ hx
    | some o =>
      rw [ho] at hx
      dsimp only at hx ⊢
      by_cases hw : Region.wanted o (yielded ops a.tmps) = true
      · rw [if_pos hw] at hx ⊢
        rcases hx with hx | hx
        · exact Oper.wpIn_mono (fun a w h => anyIn_of hno fuel _ a w h) (operIn_of hx)
        · exact absurd hx.2 hno
      · rw [if_neg hw] at hx ⊢
        exact ⟨fun _ _ => trivial, anyIn_of hno fuel _ _ _ hx⟩
end
end Go.Proofs.Ytpbdamjpjpchiaa
