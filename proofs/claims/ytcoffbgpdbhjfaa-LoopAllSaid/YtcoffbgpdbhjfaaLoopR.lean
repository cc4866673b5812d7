/- loop: the document's box: count, first. -/
import Derived.Test.YtcoffbgpdbhjfaaLoopH
namespace Go.Proofs.Ytcoffbgpdbhjfaa
open Go.Conc Go.RowKit
set_option linter.unusedVariables false
set_option linter.unusedSimpArgs false

/-- Those of a kind. -/
def ofK (k : Int) (L : List Evt) : List Evt := L.filter fun x => decide (x.kind = k)
theorem ofK_append (k : Int) (L M : List Evt) : ofK k (L ++ M) = ofK k L ++ ofK k M := by simp [ofK]

/-- The document's box, in the block rb; what waits lies in a row of the call's own. -/
structure Rb (X : World) (B0 rb room : Nat) (A : Option Addr) (n c : Nat) (L : List Evt) : Prop where
  blk : Blk X rb #[.int .i64 room, .slice A n c]
  own : X.ownsRow B0 23 4 (.slice A n c) n (flat L)
  len : L.length = n
  ne : (Value.slice A n c).ownBlock ≠ some rb

theorem Rb.later {X Y : World} {B0 rb room n c : Nat} {A : Option Addr} {L : List Evt} (h : Rb X B0 rb room A n c L) (hb : Below X.heap.size X Y) : Rb Y B0 rb room A n c L :=
  ⟨h.blk.later hb h.blk.1, own_later h.own hb, h.len, h.ne⟩
theorem Rb.rd {X : World} {B0 rb room n c : Nat} {A : Option Addr} {L : List Evt} (h : Rb X B0 rb room A n c L) : EvRd X A L := ev_rd h.own h.len

theorem ofK_take {k : Int} {L : List Evt} {i : Nat} (hi : i < L.length) : ofK k (L.take (i + 1)) = ofK k (L.take i) ++ (if (L.getD i zeroE).kind = k then [L.getD i zeroE] else []) := by
  have e : L.take (i + 1) = L.take i ++ [L.getD i zeroE] := by
    rw [List.take_add_one]
    simp [List.getD, hi]
  rw [e, ofK_append]
  congr 1
  by_cases h : (L.getD i zeroE).kind = k
  · rw [if_pos h]; simp only [ofK, List.filter_cons, h, decide_true, if_true, List.filter_nil]
  · rw [if_neg h]; simp only [ofK, List.filter_cons, h, decide_false, List.filter_nil]; rfl

set_option maxHeartbeats 1000000 in
set_option maxRecDepth 100000 in
theorem count_any {w : World} {B0 rb room n c : Nat} {A : Option Addr} {L : List Evt} (h : Rb w B0 rb room A n c L) (k : Int) (hn : n ≤ 1000000) :
    Calls Try.prog 19 #[ptr rb, .int .i64 k] w fun e w' => e = .returned (.int .i64 ((ofK k L).length : Int)) ∧ w = w' := by
  have H := Lib.hid h
  have hlen := h.len
  subst hlen
  clear h
  go_enter Try.func19, Try.ntmps19
  go_wp2
  go_loopw [5, 6] (fun m i wr => ∃ j : Nat, j ≤ L.length ∧ i = .int .i64 j ∧ (∃ d : Nat, d ≤ j ∧ m = .int .i64 d ∧ Hid ((ofK k (L.take j)).length = d)) ∧ w = wr) (fun _ i _ => L.length - (intOf i).toNat)
  case atStart => exact ⟨0, Nat.zero_le _, rfl, ⟨0, Nat.le_refl _, rfl, Lib.hid (by simp [ofK])⟩, by first | trivial | rfl⟩
  case round =>
    obtain ⟨j, hj, rfl, ⟨d, hd, rfl, HD⟩, rfl⟩ := hrel
    obtain ⟨y0, k0, j0⟩ := (show Blk _ _ _ from H.out.blk)
    by_cases hlt : j < L.length
    · obtain ⟨b, o, rfl, _, a0, a1, a2, a3⟩ := H.out.rd j hlt
      obtain ⟨x, hx⟩ : ∃ x, L.getD j zeroE = x := ⟨_, rfl⟩
      rw [hx] at a0
      have hs := ofK_take (k := k) hlt
      rw [hx] at hs
      clear a1 a2 a3 hx
      by_cases he : x.kind = k
      · rw [if_pos he] at hs
        have HS := Lib.hid hs
        have q : (x.kind == k) = true := by simpa using he
        clear hs he
        go_wp2
        go_roundw
        case rel => exact ⟨j + 1, by omega, by go_num, ⟨d + 1, by omega, by go_num, Lib.hid (by rw [HS.out, List.length_append, HD.out]; rfl)⟩, by first | trivial | rfl⟩
        case measure => simp [intOf]; omega
      · rw [if_neg he] at hs
        have HS := Lib.hid hs
        have q : (x.kind == k) = false := by simpa using he
        clear hs he
        go_wp2
        go_roundw
        case rel => exact ⟨j + 1, by omega, by go_num, ⟨d, by omega, by go_num, Lib.hid (by rw [HS.out, List.append_nil, HD.out])⟩, by first | trivial | rfl⟩
        case measure => simp [intOf]; omega
    · obtain rfl : j = L.length := by omega
      have hd2 := HD.out
      rw [List.take_length] at hd2
      have HD2 := Lib.hid hd2
      clear hd2
      go_wp2
      go_ret
      rw [HD2.out]
      exact ⟨rfl, rfl⟩

/-- Where the first one of a kind stands. -/
def FirstIs (k : Int) (L : List Evt) (z : Int) : Prop := (z = -1 ∧ ofK k L = []) ∨ ∃ i : Nat, z = i ∧ i < L.length ∧ (L.getD i zeroE).kind = k ∧ ofK k (L.take i) = []

set_option maxHeartbeats 1000000 in
set_option maxRecDepth 100000 in
theorem first_any {w : World} {B0 rb room n c : Nat} {A : Option Addr} {L : List Evt} (h : Rb w B0 rb room A n c L) (k : Int) (hn : n ≤ 1000000) :
    Calls Try.prog 18 #[ptr rb, .int .i64 k] w fun e w' => (∃ z, e = .returned (.int .i64 z) ∧ FirstIs k L z) ∧ w = w' := by
  have H := Lib.hid h
  have hlen := h.len
  subst hlen
  clear h
  go_enter Try.func18, Try.ntmps18
  go_wp2
  go_loopw [5] (fun i wr => ∃ j : Nat, j ≤ L.length ∧ i = .int .i64 j ∧ Hid (ofK k (L.take j) = []) ∧ w = wr) (fun i _ => L.length - (intOf i).toNat)
  case atStart => exact ⟨0, Nat.zero_le _, rfl, Lib.hid (by simp [ofK]), by first | trivial | rfl⟩
  case round =>
    obtain ⟨j, hj, rfl, HD, rfl⟩ := hrel
    obtain ⟨y0, k0, j0⟩ := (show Blk _ _ _ from H.out.blk)
    by_cases hlt : j < L.length
    · obtain ⟨b, o, rfl, _, a0, a1, a2, a3⟩ := H.out.rd j hlt
      obtain ⟨x, hx⟩ : ∃ x, L.getD j zeroE = x := ⟨_, rfl⟩
      rw [hx] at a0
      have hs := ofK_take (k := k) hlt
      rw [hx] at hs
      have HX := Lib.hid hx
      clear a1 a2 a3 hx
      by_cases he : x.kind = k
      · have HE := Lib.hid he
        have q : (x.kind == k) = true := by simpa using he
        clear hs he
        go_wp2
        go_ret
        exact ⟨⟨_, rfl, .inr ⟨j, rfl, hlt, by rw [HX.out]; exact HE.out, HD.out⟩⟩, rfl⟩
      · rw [if_neg he] at hs
        have HS := Lib.hid hs
        have q : (x.kind == k) = false := by simpa using he
        clear hs he
        go_wp2
        go_roundw
        case rel => exact ⟨j + 1, by omega, by go_num, Lib.hid (by rw [HS.out, List.append_nil, HD.out]), by first | trivial | rfl⟩
        case measure => simp [intOf]; omega
    · obtain rfl : j = L.length := by omega
      have hd2 := HD.out
      rw [List.take_length] at hd2
      have HD2 := Lib.hid hd2
      clear hd2
      go_wp2
      go_ret
      exact ⟨⟨_, rfl, .inl ⟨rfl, HD2.out⟩⟩, rfl⟩
end Go.Proofs.Ytcoffbgpdbhjfaa
