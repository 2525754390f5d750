/- Rows of what was seen, and told, as cells; contracts of SameTrace, SameTold: of rows that are the same. -/
import Derived.Test.YtcckgfablfgknaaGreatDoorRc
namespace Go.Proofs.YtcckgfablfgknaaGreatDoor.m4
open Go.ChangeShapes Go.WideShapes Go.ChangeAt Go.RowKit
set_option linter.unusedVariables false
def Sn0 : Sn := ⟨0, 0, 0, 0, false⟩
def sng (l : List Sn) (i : Nat) : Sn := l.getD i Sn0
def tlg (l : List (Nat × Bool)) (i : Nat) : Nat × Bool := l.getD i (0, false)
def snAt (w : World) (g o : Nat) (n : Sn) : Prop := w.cell? ⟨g, o, none⟩ = some (.int .u64 (n.pc : Nat)) ∧ w.cell? ⟨g, o + 1, none⟩ = some (.int .u8 (n.k : Nat)) ∧ w.cell? ⟨g, o + 2, none⟩ = some (.int .u64 (n.a : Nat)) ∧ w.cell? ⟨g, o + 3, none⟩ = some (.int .u64 (n.b : Nat)) ∧ w.cell? ⟨g, o + 4, none⟩ = some (.bool n.t)
def tlAt (w : World) (g o : Nat) (p : Nat × Bool) : Prop := w.cell? ⟨g, o, none⟩ = some (.int .u64 (p.1 : Nat)) ∧ w.cell? ⟨g, o + 1, none⟩ = some (.bool p.2)
theorem snAt.of {w w' : World} {g o : Nat} {n : Sn} (h : snAt w g o n) (hb : Below w.heap.size w w') : snAt w' g o n := ⟨stay hb h.1, stay hb h.2.1, stay hb h.2.2.1, stay hb h.2.2.2.1, stay hb h.2.2.2.2⟩
theorem tlAt.of {w w' : World} {g o : Nat} {p : Nat × Bool} (h : tlAt w g o p) (hb : Below w.heap.size w w') : tlAt w' g o p := ⟨stay hb h.1, stay hb h.2⟩
/-- A row, as a slice has it: where it lies matters where there is one. -/
def SnOf (w : World) (a : Option Addr) (l : List Sn) : Prop := ∀ i < l.length, ∃ g o, a = some ⟨g, o, none⟩ ∧ snAt w g (o + i * 5) (sng l i)
def TlOf (w : World) (a : Option Addr) (l : List (Nat × Bool)) : Prop := ∀ i < l.length, ∃ g o, a = some ⟨g, o, none⟩ ∧ tlAt w g (o + i * 2) (tlg l i)
theorem SnOf.of {w w' : World} {a : Option Addr} {l : List Sn} (h : SnOf w a l) (hb : Below w.heap.size w w') : SnOf w' a l := fun i hi => by
  obtain ⟨g, o, e, hc⟩ := h i hi
  exact ⟨g, o, e, hc.of hb⟩
theorem TlOf.of {w w' : World} {a : Option Addr} {l : List (Nat × Bool)} (h : TlOf w a l) (hb : Below w.heap.size w w') : TlOf w' a l := fun i hi => by
  obtain ⟨g, o, e, hc⟩ := h i hi
  exact ⟨g, o, e, hc.of hb⟩
theorem snL_at : ∀ (l : List Sn) (i t : Nat), i < l.length → t < 5 → (snL l)[i * 5 + t]? = (snC (sng l i))[t]?
  | [], i, t, hi, ht => absurd hi (Nat.not_lt_zero _)
  | x :: r, 0, t, hi, ht => by
    show (snC x ++ snL r)[0 * 5 + t]? = (snC x)[t]?
    rw [Nat.zero_mul, Nat.zero_add, List.getElem?_append_left (by show t < 5; exact ht)]
  | x :: r, i + 1, t, hi, ht => by
    have ih := snL_at r i t (by simpa using hi) ht
    show (snC x ++ snL r)[(i + 1) * 5 + t]? = (snC (sng r i))[t]?
    rw [← ih, List.getElem?_append_right (by show 5 ≤ (i + 1) * 5 + t; omega)]
    congr 1
    show (i + 1) * 5 + t - 5 = i * 5 + t
    omega
theorem tlL_at : ∀ (l : List (Nat × Bool)) (i t : Nat), i < l.length → t < 2 → (tlL l)[i * 2 + t]? = (tlC (tlg l i))[t]?
  | [], i, t, hi, ht => absurd hi (Nat.not_lt_zero _)
  | x :: r, 0, t, hi, ht => by
    show (tlC x ++ tlL r)[0 * 2 + t]? = (tlC x)[t]?
    rw [Nat.zero_mul, Nat.zero_add, List.getElem?_append_left (by show t < 2; exact ht)]
  | x :: r, i + 1, t, hi, ht => by
    have ih := tlL_at r i t (by simpa using hi) ht
    show (tlC x ++ tlL r)[(i + 1) * 2 + t]? = (tlC (tlg r i))[t]?
    rw [← ih, List.getElem?_append_right (by show 2 ≤ (i + 1) * 2 + t; omega)]
    congr 1
    show (i + 1) * 2 + t - 2 = i * 2 + t
    omega
theorem sn_of {w : World} {b : Nat} {v : Value} {l : List Sn} (h : w.ownsRow b 63 5 v l.length (snL l)) : ∃ a c, v = .slice a l.length c ∧ SnOf w a l := by
  rcases h.2 with ⟨hv, hn⟩ | ⟨g, cap, cur, hv, hb, hg, hr⟩
  · refine ⟨none, 0, by rw [hv, hn], fun i hi => by omega⟩
  · refine ⟨some ⟨g, 0, none⟩, cap, hv, fun i hi => ⟨g, 0, rfl, ?_⟩⟩
    have key : ∀ t, t < 5 → w.cell? ⟨g, 0 + i * 5 + t, none⟩ = (snC (sng l i))[t]? := fun t ht => by
      have e := snL_at l i t hi ht
      obtain ⟨u, hu⟩ : ∃ u, (snC (sng l i))[t]? = some u := ⟨_, List.getElem?_eq_getElem (by show t < 5; exact ht)⟩
      rw [hu] at e ⊢
      have := h.cells (g := g) (by rw [hv]; rfl) _ u e
      rw [addp] at this
      rw [Nat.zero_add] at this ⊢
      exact this
    exact ⟨key 0 (by omega), key 1 (by omega), key 2 (by omega), key 3 (by omega), key 4 (by omega)⟩
theorem tl_of {w : World} {b : Nat} {v : Value} {l : List (Nat × Bool)} (h : w.ownsRow b 84 2 v l.length (tlL l)) : ∃ a c, v = .slice a l.length c ∧ TlOf w a l := by
  rcases h.2 with ⟨hv, hn⟩ | ⟨g, cap, cur, hv, hb, hg, hr⟩
  · refine ⟨none, 0, by rw [hv, hn], fun i hi => by omega⟩
  · refine ⟨some ⟨g, 0, none⟩, cap, hv, fun i hi => ⟨g, 0, rfl, ?_⟩⟩
    have key : ∀ t, t < 2 → w.cell? ⟨g, 0 + i * 2 + t, none⟩ = (tlC (tlg l i))[t]? := fun t ht => by
      have e := tlL_at l i t hi ht
      obtain ⟨u, hu⟩ : ∃ u, (tlC (tlg l i))[t]? = some u := ⟨_, List.getElem?_eq_getElem (by show t < 2; exact ht)⟩
      rw [hu] at e ⊢
      have := h.cells (g := g) (by rw [hv]; rfl) _ u e
      rw [addp] at this
      rw [Nat.zero_add] at this ⊢
      exact this
    exact ⟨key 0 (by omega), key 1 (by omega)⟩
set_option maxRecDepth 100000 in
set_option maxHeartbeats 1000000 in
theorem same_trace (l : List Sn) (a b : Option Addr) (c d : Nat) (hn : l.length ≤ 1048577) (w : World) (h1 : SnOf w a l) (h2 : SnOf w b l) : Calls Tryz.prog 19 #[.slice a l.length c, .slice b l.length d] w fun e w' => e = .returned (.bool true) ∧ Below w.heap.size w w' := by
  go_enter Tryz.func19, Tryz.ntmps19
  go_wp2
  go_loopw [5] (fun i wr => ∃ k : Nat, i = .int .i64 k ∧ k ≤ l.length ∧ Below w.heap.size w wr) (fun i _ => l.length - (intOf i).toNat)
  case atStart => exact ⟨0, rfl, Nat.zero_le _, Below.refl _ _⟩
  case round =>
    obtain ⟨k, rfl, hk, hB⟩ := hrel
    by_cases hlt : k < l.length
    · obtain ⟨g1, o1, rfl, a0, a1, a2, a3, a4⟩ := h1 k hlt
      obtain ⟨g2, o2, rfl, b0, b1, b2, b3, b4⟩ := h2 k hlt
      have a0 := stay hB a0
      have a1 := stay hB a1
      have a2 := stay hB a2
      have a3 := stay hB a3
      have a4 := stay hB a4
      have b0 := stay hB b0
      have b1 := stay hB b1
      have b2 := stay hB b2
      have b3 := stay hB b3
      have b4 := stay hB b4
      have i0 : (0 : Int) ≤ (k : Int) := by omega
      have i1 : (k : Int) < (l.length : Int) := by omega
      generalize sng l k = n at *
      go_wp2
      go_quiet (fail)
      go_wp2
      go_roundw
      case rel => exact ⟨k + 1, by go_num, by omega, bdN hB _⟩
      case measure => first | (simp [intOf]; done) | (simp [intOf]; omega)
    · obtain rfl : k = l.length := by omega
      go_wp2
      go_ret
      exact ⟨rfl, hB⟩
set_option maxRecDepth 100000 in
set_option maxHeartbeats 1000000 in
theorem same_told (l : List (Nat × Bool)) (a b : Option Addr) (c d : Nat) (hn : l.length ≤ 1048577) (w : World) (h1 : TlOf w a l) (h2 : TlOf w b l) : Calls Tryz.prog 21 #[.slice a l.length c, .slice b l.length d] w fun e w' => e = .returned (.bool true) ∧ Below w.heap.size w w' := by
  go_enter Tryz.func21, Tryz.ntmps21
  go_wp2
  go_loopw [5] (fun i wr => ∃ k : Nat, i = .int .i64 k ∧ k ≤ l.length ∧ Below w.heap.size w wr) (fun i _ => l.length - (intOf i).toNat)
  case atStart => exact ⟨0, rfl, Nat.zero_le _, Below.refl _ _⟩
  case round =>
    obtain ⟨k, rfl, hk, hB⟩ := hrel
    by_cases hlt : k < l.length
    · obtain ⟨g1, o1, rfl, a0, a1⟩ := h1 k hlt
      obtain ⟨g2, o2, rfl, b0, b1⟩ := h2 k hlt
      have a0 := stay hB a0
      have a1 := stay hB a1
      have b0 := stay hB b0
      have b1 := stay hB b1
      have i0 : (0 : Int) ≤ (k : Int) := by omega
      have i1 : (k : Int) < (l.length : Int) := by omega
      generalize tlg l k = n at *
      go_wp2
      go_quiet (fail)
      go_wp2
      go_roundw
      case rel => exact ⟨k + 1, by go_num, by omega, bdN hB _⟩
      case measure => first | (simp [intOf]; done) | (simp [intOf]; omega)
    · obtain rfl : k = l.length := by omega
      go_wp2
      go_ret
      exact ⟨rfl, hB⟩
/-- Two machines, that share no block; of what a call has made. -/
structure Tm (W w : World) (M D : Mc) (s t : Ms) : Prop where
  a : Cx W w M s
  b : Cx W w D t
  dj : ∀ j, M.all j → ¬ D.all j
theorem Tm.of {W w w' : World} {M D : Mc} {s t : Ms} (h : Tm W w M D s t) (hb : Below w.heap.size w w') : Tm W w' M D s t := ⟨h.a.of hb, h.b.of hb, h.dj⟩
theorem Cx.base {W W' w : World} {M : Mc} {s : Ms} (h : Cx W' w M s) (hb : Below W.heap.size W W') : Cx W w M s := ⟨h.c, below_trans' hb (Nat.le_refl _) h.b, fun j hj => Nat.le_trans hb.size (h.o j hj), h.k⟩
theorem nxt_all {w : World} {M M' : Mc} (h : Mc.nxt w M M') {j : Nat} (hj : M'.all j) : M.all j ∨ w.heap.size ≤ j := by
  rcases hj with hj | hj | hj
  · rcases h.2.2 j hj with h1 | h1
    · exact .inl (.inl h1)
    · exact .inr h1
  · rw [h.2.1] at hj; exact .inl (.inr (.inl hj))
  · rw [h.2.1] at hj; exact .inl (.inr (.inr hj))
theorem Tm.left {W w w' : World} {M M' D : Mc} {s s' t : Ms} (h : Tm W w M D s t) (hn : Mc.nxt w M M') (hc : Cx W w' M' s') (ho : Only M.own w w') : Tm W w' M' D s' t :=
  ⟨hc, h.b.only ho (fun j hj hm => h.dj j (.inl hm) hj) h.a.o, fun j hj hd => by
    rcases nxt_all hn hj with h1 | h1
    · exact h.dj j h1 hd
    · have := h.b.c.all_lt hd; omega⟩
theorem Tm.right {W w w' : World} {M D D' : Mc} {s t t' : Ms} (h : Tm W w M D s t) (hn : Mc.nxt w D D') (hc : Cx W w' D' t') (ho : Only D.own w w') : Tm W w' M D' s t' :=
  ⟨h.a.only ho (fun j hj hm => h.dj j hj (.inl hm)) h.b.o, hc, fun j hj hd => by
    rcases nxt_all hn hd with h1 | h1
    · exact h.dj j hj h1
    · have := h.a.c.all_lt hj; omega⟩
theorem trace_row {W w : World} {M : Mc} {s : Ms} (h : Cx W w M s) : Calls Tryz.prog 20 #[.pointer (some ⟨M.cb, 0, none⟩)] w fun e w' => (∃ a c, e = .returned (.slice a s.tr.length c) ∧ SnOf w' a s.tr) ∧ Below w.heap.size w w' :=
  (trace_any h.c).mono fun e w' ⟨⟨v, he, hv⟩, hb⟩ => by
    obtain ⟨a, c, rfl, hr⟩ := sn_of hv
    exact ⟨⟨a, c, he, hr⟩, hb⟩
theorem told_row {W w : World} {M : Mc} {s : Ms} (h : Cx W w M s) : Calls Tryz.prog 22 #[.pointer (some ⟨M.cb, 0, none⟩)] w fun e w' => (∃ a c, e = .returned (.slice a s.told.length c) ∧ TlOf w' a s.told) ∧ Below w.heap.size w w' :=
  (told_any h.c h.k).mono fun e w' ⟨⟨v, he, hv⟩, hb⟩ => by
    obtain ⟨a, c, rfl, hr⟩ := tl_of hv
    exact ⟨⟨a, c, he, hr⟩, hb⟩
end Go.Proofs.YtcckgfablfgknaaGreatDoor.m4
